/- Layer 13: package uses' spread: one more block is reached. -/
import Derived.Test.YtdchhfdmingnaaaDoorFT6

namespace Go.Proofs.YtdchhfdmingnaaaDoor
open Go.RowKit (wrap64 intOf Below)
set_option linter.unusedVariables false
set_option linter.unusedSimpArgs false
def nextM (f : FuncD) (v b : Nat) (M : Nat → Bool) : Nat → Bool := if MakesU f b (v : Int) then M else putB M b
def nextR (f : FuncD) (v b : Nat) (M : Nat → Bool) (R : List Int) : List Int := if MakesU f b (v : Int) ∨ M b = true then R else R ++ [(b : Int)]
def ReachPost (f : FuncD) (W0 W : World) (n Bn bn gn Bl bl gl bv br v b : Nat) (p : Nat → Nat → Bool) (M : Nat → Bool) (vsL : List Value) (ZL : List (List Int)) (R : List Int) (e : Ending) (w' : World) : Prop :=
  (∃ x, e = .returned x) ∧ ∃ vsN rv, Duo W0 w' n Bn bn gn Bl bl gl vsN (rowsU p v (nextM f v b M) n) vsL ZL ∧ Rch W0 w' bv br v rv (nextR f v b M R) vsN vsL
set_option maxRecDepth 100000 in
set_option maxHeartbeats 4000000 in
theorem reach_any (f : FuncD) (W0 W : World) (n Bn bn gn Bl bl gl bv br v b bf b4 : Nat) (p : Nat → Nat → Bool) (M : Nat → Bool) (vsN : List Value) (vsL : List Value) (ZL : List (List Int)) (rv : Value) (R : List Int) (va : Option Addr) (vc : Nat)
    (hd : Duo W0 W n Bn bn gn Bl bl gl vsN (rowsU p v M n) vsL ZL) (hr : Rch W0 W bv br v rv R vsN vsL) (hb : b < n) (hn : n = f.blocks.length) (hsm : SmU f) (hv : v < valU f) (hR : R.length ≤ 200000)
    (hcf : W.cell? ⟨bf, 0, none⟩ = some (.slice va (n + 1) vc)) (hfl : NumsAt W va (n + 1) (firstUL f)) (hc4 : W.cell? ⟨b4, 0, none⟩ = some (.func (.func 61) #[] #[.pointer (some ⟨bn, 0, none⟩)])) :
    Calls Tryd.prog 46 #[.int .i64 (b : Int), .pointer (some ⟨bf, 0, none⟩), .pointer (some ⟨bv, 0, none⟩), .pointer (some ⟨b4, 0, none⟩), .pointer (some ⟨br, 0, none⟩)] W (ReachPost f W0 W n Bn bn gn Bl bl gl bv br v b p M vsL ZL R) := by
  have hlen : (firstUL f).length = n + 1 := by simp [firstUL, hn]
  obtain ⟨g0, off0, had, hg0, hcel⟩ := hfl.2 (by omega)
  subst had
  have c0 : W.cell? ⟨g0, off0 + b, none⟩ = some (.int .i64 (fstU f b : Int)) := by
    have h1 := hcel b (by omega)
    rw [h1]
    simp [firstUL, numV]
  have c1 : W.cell? ⟨g0, off0 + (b + 1), none⟩ = some (.int .i64 (fstU f (b + 1) : Int)) := by
    have h1 := hcel (b + 1) (by omega)
    rw [h1]
    simp [firstUL, numV]
  have cv : W.cell? ⟨bv, 0, none⟩ = some (.int .i64 (v : Int)) := hr.val.cell
  have HF0 : RowKit.Hid (fstU f b ≤ 100000 ∧ fstU f (b + 1) ≤ 100000 ∧ v ≤ 100000 ∧ n ≤ 100000) := Lib.hid ⟨Nat.le_trans (fstU_le f _) hsm.vals, Nat.le_trans (fstU_le f _) hsm.vals, by have := hsm.vals; omega, by rw [hn]; exact hsm.blocks⟩
  have HMK : RowKit.Hid (MakesU f b (v : Int) ↔ (fstU f b : Int) ≤ (v : Int) ∧ (v : Int) < (fstU f (b + 1) : Int)) := Lib.hid Iff.rfl
  have HD := Lib.hid hd
  have HR := Lib.hid hr
  have HRL := Lib.hid hR
  have hb1 : (b : Int) < ((n + 1 : Nat) : Int) := by omega
  have hb2 : (b : Int) < (n : Int) + 1 := by omega
  have hb3 : (0 : Int) ≤ (b : Int) := by omega
  have hb4 : (b : Int) + 1 < ((n + 1 : Nat) : Int) := by omega
  have hb5 : (0 : Int) ≤ (b : Int) + 1 := by omega
  have hw1 : wrap64 ((b : Int) + 1) = (b : Int) + 1 := wrap_id (by omega) (by have := HF0.out; omega)
  have hw2 : IntKind.i64.wrap ((b : Int) + 1) = (b : Int) + 1 := wrap_small _ (by omega) (by have := HF0.out; omega)
  have hb6 : (b : Int) < (n : Int) := by omega
  have hb7 : ((b : Int) + 1).toNat = b + 1 := by omega
  have hb8 : ¬ ((b : Int) + 1 < 0) := by omega
  have HDQ : RowKit.Hid (∀ q, Duo W0 (W.drewN q) n Bn bn gn Bl bl gl vsN (rowsU p v M n) vsL ZL ∧ Rch W0 (W.drewN q) bv br v rv R vsN vsL) := Lib.hid fun q => ⟨hd.since (below_drewN q (Below.refl _ _)), hr.since (below_drewN q (Below.refl _ _))⟩
  have HBN := Lib.hid hb
  have CG : RowKit.Hid (∀ u, Duo W0 u n Bn bn gn Bl bl gl vsN (rowsU p v M n) vsL ZL → Calls Tryd.prog 61 #[.int .i64 (b : Int), .int .i64 (v : Int), .pointer (some ⟨bn, 0, none⟩)] u (GrowPost Bn bn gn n u vsN (rowsU p v M n) b (v : Int))) := Lib.hid fun u hu =>
    grow_any Bn bn gn n u vsN (rowsU p v M n) b (v : Int) hu.nd hb (by have := HF0.out; omega) (fun Z hZ => by have := rowsU_len_le Z hZ; have := HF0.out; omega) (Nat.le_trans hu.low.2.2.2.2.2.1 hu.off.size)
  have hmix : Tryd.prog.follows .mixedOrders = true := by kernel_rfl
  clear hd hr hfl hcel hsm hlen hn hR
  obtain ⟨q0, hq0⟩ : ∃ q, q = fstU f b := ⟨_, rfl⟩
  obtain ⟨q1, hq1⟩ : ∃ q, q = fstU f (b + 1) := ⟨_, rfl⟩
  rw [← hq0] at c0 HF0 HMK
  rw [← hq1] at c1 HF0 HMK
  clear hq0 hq1
  by_cases h0 : (q0 : Int) ≤ (v : Int)
  · by_cases h1 : (v : Int) < (q1 : Int)
    · have HM : RowKit.Hid (MakesU f b (v : Int)) := Lib.hid (HMK.out.2 ⟨h0, h1⟩)
      go_enter Tryd.func46, Tryd.ntmps46
      go_wp2_with fail
      go_quiet (fail)
      go_wp2_with fail
      go_end0
      refine ⟨⟨_, rfl⟩, vsN, rv, by unfold nextM; rw [if_pos HM.out]; exact (HDQ.out _).1, ?_⟩
      unfold nextR
      rw [if_pos (.inl HM.out)]
      exact (HDQ.out _).2
    · have h1d : decide (v < q1) = false := by simp; omega
      have HM : RowKit.Hid (¬ MakesU f b (v : Int)) := Lib.hid (fun e => by have := HMK.out.1 e; omega)
      cases hmb : M b with
      | true =>
        have HMB := Lib.hid hmb
        clear hmb
        go_enter Tryd.func46, Tryd.ntmps46
        go_wp2_with fail
        go_quiet (fail)
        go_wp2_with (go_at_call 61; refine (CG.out _ (HDQ.out _).1).mono ?_; rintro e w3 ⟨v', Z, hz, rfl, hset, hoff, hw⟩; rw [rowsU_at HBN.out] at hz; cases hz; rw [rowU_fresh, HMB.out]; rw [rowsU_grow HBN.out] at hset; have HD3 := Lib.hid ((HDQ.out _).1.grow hset hoff hw); have HR3 := Lib.hid ((HDQ.out _).2.grow (HDQ.out _).1 hoff hw); have k0 := HR3.out.box.cell; have k1 := HR3.out.box.frozen; clear hset hoff hw)
        go_end0
        refine ⟨⟨_, rfl⟩, vsN.set b v', rv, by unfold nextM; rw [if_neg HM.out]; exact HD3.out, ?_⟩
        unfold nextR
        rw [if_pos (.inr HMB.out)]
        exact HR3.out
      | false =>
        have HMB := Lib.hid hmb
        clear hmb
        obtain ⟨ra, rn, rc, rfl, _⟩ := HR.out.own.nums
        go_enter Tryd.func46, Tryd.ntmps46
        go_wp2_with fail
        go_quiet (fail)
        go_wp2_with (first
          | (go_at_call 61; refine (CG.out _ (HDQ.out _).1).mono ?_; rintro e w3 ⟨v', Z, hz, rfl, hset, hoff, hw⟩; rw [rowsU_at HBN.out] at hz; cases hz; rw [rowU_fresh, HMB.out]; rw [rowsU_grow HBN.out] at hset; have HD3 := Lib.hid ((HDQ.out _).1.grow hset hoff hw); have HR3 := Lib.hid ((HDQ.out _).2.grow (HDQ.out _).1 hoff hw); have k0 := HR3.out.box.cell; have k1 := HR3.out.box.frozen; clear hset hoff hw)
          | ((with_reducible refine wpList_append_numA _ rfl _ _ 34 rfl 3 Tryd.underlying34 info_int W0.heap.size (.slice ra rn rc) R ?_ ?_ ?_ _ 1 w3.heap.size (b : Int) ?_ ?_ ?_ ?_ ?_); (next => rfl); (next => exact HR3.out.own); (next => exact HD3.out.off.size); (next => rfl); (next => rfl); (next => rfl); (next => have := HRL.out; omega); intro xa xn xc w5 ho5 hg5 hw5; have HP := Lib.hid (HR3.out.push HD3.out ((Below.refl _ w3).alloc (Nat.le_refl _) _) hg5 ho5 hw5); have k2 := HP.out.1; have k3 := HP.out.2.1; clear ho5 hg5 hw5))
        go_end0
        refine ⟨⟨_, rfl⟩, vsN.set b v', .slice xa xn xc, by unfold nextM; rw [if_neg HM.out]; exact HP.out.2.2.1, ?_⟩
        unfold nextR
        rw [if_neg (fun e => e.elim HM.out (fun e => by rw [HMB.out] at e; cases e))]
        exact HP.out.2.2.2
  · have h0' : (v : Int) < (q0 : Int) := by omega
    have h0n : v < q0 := by omega
    have h0d : decide (q0 ≤ v) = false := by simp; omega
    have HM : RowKit.Hid (¬ MakesU f b (v : Int)) := Lib.hid (fun e => by have := HMK.out.1 e; omega)
    cases hmb : M b with
    | true =>
      have HMB := Lib.hid hmb
      clear hmb
      go_enter Tryd.func46, Tryd.ntmps46
      go_wp2_with fail
      go_quiet (fail)
      go_wp2_with (go_at_call 61; refine (CG.out _ (HDQ.out _).1).mono ?_; rintro e w3 ⟨v', Z, hz, rfl, hset, hoff, hw⟩; rw [rowsU_at HBN.out] at hz; cases hz; rw [rowU_fresh, HMB.out]; rw [rowsU_grow HBN.out] at hset; have HD3 := Lib.hid ((HDQ.out _).1.grow hset hoff hw); have HR3 := Lib.hid ((HDQ.out _).2.grow (HDQ.out _).1 hoff hw); have k0 := HR3.out.box.cell; have k1 := HR3.out.box.frozen; clear hset hoff hw)
      go_end0
      refine ⟨⟨_, rfl⟩, vsN.set b v', rv, by unfold nextM; rw [if_neg HM.out]; exact HD3.out, ?_⟩
      unfold nextR
      rw [if_pos (.inr HMB.out)]
      exact HR3.out
    | false =>
      have HMB := Lib.hid hmb
      clear hmb
      obtain ⟨ra, rn, rc, rfl, _⟩ := HR.out.own.nums
      go_enter Tryd.func46, Tryd.ntmps46
      go_wp2_with fail
      go_quiet (fail)
      go_wp2_with (first
        | (go_at_call 61; refine (CG.out _ (HDQ.out _).1).mono ?_; rintro e w3 ⟨v', Z, hz, rfl, hset, hoff, hw⟩; rw [rowsU_at HBN.out] at hz; cases hz; rw [rowU_fresh, HMB.out]; rw [rowsU_grow HBN.out] at hset; have HD3 := Lib.hid ((HDQ.out _).1.grow hset hoff hw); have HR3 := Lib.hid ((HDQ.out _).2.grow (HDQ.out _).1 hoff hw); have k0 := HR3.out.box.cell; have k1 := HR3.out.box.frozen; clear hset hoff hw)
        | ((with_reducible refine wpList_append_numA _ rfl _ _ 34 rfl 3 Tryd.underlying34 info_int W0.heap.size (.slice ra rn rc) R ?_ ?_ ?_ _ 1 w3.heap.size (b : Int) ?_ ?_ ?_ ?_ ?_); (next => rfl); (next => exact HR3.out.own); (next => exact HD3.out.off.size); (next => rfl); (next => rfl); (next => rfl); (next => have := HRL.out; omega); intro xa xn xc w5 ho5 hg5 hw5; have HP := Lib.hid (HR3.out.push HD3.out ((Below.refl _ w3).alloc (Nat.le_refl _) _) hg5 ho5 hw5); have k2 := HP.out.1; have k3 := HP.out.2.1; clear ho5 hg5 hw5))
      go_end0
      refine ⟨⟨_, rfl⟩, vsN.set b v', .slice xa xn xc, by unfold nextM; rw [if_neg HM.out]; exact HP.out.2.2.1, ?_⟩
      unfold nextR
      rw [if_neg (fun e => e.elim HM.out (fun e => by rw [HMB.out] at e; cases e))]
      exact HP.out.2.2.2
end Go.Proofs.YtdchhfdmingnaaaDoor
