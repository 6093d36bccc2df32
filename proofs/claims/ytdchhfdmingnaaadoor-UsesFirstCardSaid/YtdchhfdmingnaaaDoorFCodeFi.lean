/- Layer 5, P5.3: how many values a function has, and which are a block's first ones: the document's First and Values, and package code's. -/
import Derived.Test.YtdchhfdmingnaaaDoorFT0
import Derived.Test.YtdchhfdmingnaaaDoorRows
import Derived.Lib.Hide
import Derived.BigQuiet
namespace Go.Proofs.YtdchhfdmingnaaaDoor
open Go.RowKit (wrap64 intOf Below)
set_option linter.unusedVariables false
set_option linter.unusedSimpArgs false
def valsOf : List BlockD → Int
  | bs => bs.foldl (fun n b => wrap64 (n + ((b.params.length : Int) + (b.ops.length : Int)))) 0
theorem valsOf_more (xs : List BlockD) (i : Nat) (h : i < xs.length) : valsOf (xs.take (i + 1)) = wrap64 (valsOf (xs.take i) + ((xs[i].params.length : Int) + (xs[i].ops.length : Int))) := by
  unfold valsOf
  rw [List.take_succ_eq_append_getElem h, List.foldl_append]
  rfl
theorem wrap_in (n a b : Int) : wrap64 (wrap64 (n + a) + b) = wrap64 (n + (a + b)) := by
  unfold wrap64; omega
theorem rowV_len' {α : Type} {Q : World → List Value → α → Prop} {k : Nat} {W : World} {a : Option Addr} {n c : Nat} {xs : List α} (h : RowV Q k W (.slice a n c) xs) : xs.length = n ∧ n ≤ 140737488351232 := by
  obtain ⟨_, _, _, e, h1, _, h2, _⟩ := h
  cases e
  exact ⟨h1, h2⟩
def firstOf (x : FuncD) (block : Int) : Int := valsOf (x.blocks.take block.toNat)
def NumPost (v : Int) (w : World) (e : Ending) (w' : World) : Prop := e = .returned (.int .i64 v) ∧ Below w.heap.size w w'
set_option maxRecDepth 100000 in
set_option maxHeartbeats 2000000 in
theorem ref_first (r : Int) (ba : Option Addr) (bn bc : Nat) (block : Int) (x : FuncD) (w : World) (hx : FuncQ w [.int .i64 r, .slice ba bn bc] x) :
    Calls Tryd.prog 21 #[.agg #[.int .i64 r, .slice ba bn bc], .int .i64 block] w (NumPost (firstOf x block) w) := by
  obtain ⟨b1, he1, hr1, hb1⟩ := hx
  simp only [List.cons.injEq, Value.int.injEq, true_and, and_true] at he1
  obtain ⟨rfl, rfl⟩ := he1
  have hl1 : x.blocks.length = bn := by obtain ⟨_, _, _, e, h, _⟩ := hb1; cases e; exact h
  have hm1 : bn ≤ 140737488351232 := by obtain ⟨_, _, _, e, _, _, h, _⟩ := hb1; cases e; exact h
  have hb0 : Below w.heap.size w (w.alloc (.cells #[.int .i64 x.ret, .slice ba bn bc] 30)) := (Below.refl _ _).alloc (Nat.le_refl _) _
  have hblk := heap_alloc_new w (.cells #[.int .i64 x.ret, .slice ba bn bc] 30)
  have H1 := Lib.hid (hb1.since BlockQ.lasts hb0)
  have HL1 := Lib.hid hl1
  have HB0 := Lib.hid hb0
  clear hb1 hb0 hl1 hr1
  go_enter Tryd.func21, Tryd.ntmps21
  go_wp2_with fail
  generalize hW : (w.alloc (.cells #[.int .i64 x.ret, .slice ba bn bc] 30)) = W at hblk H1 HB0 ⊢
  clear hW
  have hc1 : W.cell? ⟨w.heap.size, 1, none⟩ = some (.slice ba bn bc) := by simp [World.cell?, hblk]
  clear hblk
  go_loopw [5, 6] (fun nv iv wr => ∃ i : Nat, i ≤ bn ∧ (i : Int) ≤ max 0 block ∧ iv = .int .i64 (i : Int) ∧ nv = .int .i64 (valsOf (x.blocks.take i)) ∧ ∃ q, wr = W.drewN q) (fun _ iv _ => bn - (intOf iv).toNat)
  case atStart => exact ⟨0, Nat.zero_le _, by omega, rfl, rfl, 0, rfl⟩
  case round =>
    obtain ⟨i, hi, hib, rfl, rfl, q, rfl⟩ := hrel
    by_cases hlb : (i : Int) < block
    · by_cases hlt : i < bn
      · obtain ⟨g1, o1, rfl, hg1, hcs1⟩ := rowV_at H1.out (by omega)
        have hi1 : i < x.blocks.length := by rw [HL1.out]; exact hlt
        obtain ⟨cs1, hc81, hcell1, hbq1⟩ := hcs1 i hi1
        obtain ⟨X, hX⟩ : ∃ X, X = x.blocks[i] := ⟨_, rfl⟩
        rw [← hX] at hbq1
        obtain ⟨pa1, pn1, pc1, oa1, on1, oc1, la1, ln1, lc1, ma1, mn1, mc1, rfl, hon1⟩ := hbq1.form
        have hpn := hbq1.params.1.1
        have hd0 := hcell1 0 (by simp)
        have hd1 := hcell1 1 (by simp)
        simp only [Nat.add_zero, List.getElem_cons_zero, List.getElem_cons_succ] at hd0 hd1
        have HV : RowKit.Hid (valsOf (x.blocks.take (i + 1)) = wrap64 (wrap64 (valsOf (x.blocks.take i) + (pn1 : Int)) + (on1 : Int))) := Lib.hid (by
          rw [valsOf_more _ _ hi1, wrap_in, ← hX, hpn, hon1])
        clear hcell1 hcs1 hbq1 hX hon1 hc81 hpn
        obtain ⟨acc, hacc⟩ : ∃ acc, acc = valsOf (x.blocks.take i) := ⟨_, rfl⟩
        rw [← hacc] at HV ⊢
        clear hacc
        go_wp2_with fail
        go_quiet (fail)
        go_wp2_with fail
        go_roundw
        case rel => exact ⟨i + 1, by omega, by omega, by go_num, by rw [HV.out], _, rfl⟩
        case measure => simp [intOf]; omega
      · obtain rfl : i = bn := by omega
        have HE : RowKit.Hid (firstOf x block = valsOf (x.blocks.take i)) := Lib.hid (by
          unfold firstOf
          rw [List.take_of_length_le (by rw [HL1.out]; omega), List.take_of_length_le (by rw [HL1.out]; exact Nat.le_refl _)])
        go_wp2_with fail
        go_ret
        exact ⟨by rw [HE.out]; rfl, below_drewN _ HB0.out⟩
    · have HE : RowKit.Hid (firstOf x block = valsOf (x.blocks.take i)) := Lib.hid (by
        unfold firstOf
        rw [show block.toNat = i by omega])
      go_wp2_with fail
      go_ret
      exact ⟨by rw [HE.out]; rfl, below_drewN _ HB0.out⟩
set_option maxRecDepth 100000 in
set_option maxHeartbeats 2000000 in
theorem code_first (r : Int) (ba : Option Addr) (bn bc : Nat) (block : Int) (x : FuncD) (w : World) (hx : FuncQ w [.int .i64 r, .slice ba bn bc] x) :
    Calls Tryd.prog 35 #[.agg #[.int .i64 r, .slice ba bn bc], .int .i64 block] w (NumPost (firstOf x block) w) := by
  obtain ⟨b1, he1, hr1, hb1⟩ := hx
  simp only [List.cons.injEq, Value.int.injEq, true_and, and_true] at he1
  obtain ⟨rfl, rfl⟩ := he1
  have hl1 : x.blocks.length = bn := by obtain ⟨_, _, _, e, h, _⟩ := hb1; cases e; exact h
  have hm1 : bn ≤ 140737488351232 := by obtain ⟨_, _, _, e, _, _, h, _⟩ := hb1; cases e; exact h
  have hb0 : Below w.heap.size w (w.alloc (.cells #[.int .i64 x.ret, .slice ba bn bc] 30)) := (Below.refl _ _).alloc (Nat.le_refl _) _
  have hblk := heap_alloc_new w (.cells #[.int .i64 x.ret, .slice ba bn bc] 30)
  have H1 := Lib.hid (hb1.since BlockQ.lasts hb0)
  have HL1 := Lib.hid hl1
  have HB0 := Lib.hid hb0
  clear hb1 hb0 hl1 hr1
  go_enter Tryd.func35, Tryd.ntmps35
  go_wp2_with fail
  generalize hW : (w.alloc (.cells #[.int .i64 x.ret, .slice ba bn bc] 30)) = W at hblk H1 HB0 ⊢
  clear hW
  have hc1 : W.cell? ⟨w.heap.size, 1, none⟩ = some (.slice ba bn bc) := by simp [World.cell?, hblk]
  clear hblk
  go_loopw [5, 11] (fun nv iv wr => ∃ i : Nat, i ≤ bn ∧ (i : Int) ≤ max 0 block ∧ iv = .int .i64 (i : Int) ∧ nv = .int .i64 (valsOf (x.blocks.take i)) ∧ RowKit.Hid (Below W.heap.size W wr)) (fun _ iv _ => bn - (intOf iv).toNat)
  case atStart => exact ⟨0, Nat.zero_le _, by omega, rfl, rfl, Lib.hid (Below.refl _ _)⟩
  case round =>
    obtain ⟨i, hi, hib, rfl, rfl, HI⟩ := hrel
    by_cases hlt : i < bn
    · obtain ⟨g1, o1, rfl, hg1, hcs1⟩ := rowV_at (H1.out.since BlockQ.lasts HI.out) (by omega)
      have hi1 : i < x.blocks.length := by rw [HL1.out]; exact hlt
      obtain ⟨cs1, hc81, hcell1, hbq1⟩ := hcs1 i hi1
      obtain ⟨X, hX⟩ : ∃ X, X = x.blocks[i] := ⟨_, rfl⟩
      rw [← hX] at hbq1
      obtain ⟨pa1, pn1, pc1, oa1, on1, oc1, la1, ln1, lc1, ma1, mn1, mc1, rfl, hon1⟩ := hbq1.form
      have hpn := hbq1.params.1.1
      have hpm := hbq1.params.2
      have hom : on1 ≤ 140737488351232 := (rowV_len' hbq1.ops).2
      have hd0 := hcell1 0 (by simp)
      have hd1 := hcell1 1 (by simp)
      have hd2 := hcell1 2 (by simp)
      have hd3 := hcell1 3 (by simp)
      have hd4 := hcell1 4 (by simp)
      have hd5 := hcell1 5 (by simp)
      have hd6 := hcell1 6 (by simp)
      have hd7 := hcell1 7 (by simp)
      simp only [Nat.add_zero, List.getElem_cons_zero, List.getElem_cons_succ] at hd0 hd1 hd2 hd3 hd4 hd5 hd6 hd7
      have HV : RowKit.Hid (valsOf (x.blocks.take (i + 1)) = wrap64 (valsOf (x.blocks.take i) + ((pn1 : Int) + (on1 : Int)))) := Lib.hid (by
        rw [valsOf_more _ _ hi1, ← hX, hpn, hon1])
      clear hcell1 hcs1 hbq1 hX hon1 hc81 hpn
      by_cases hlb : block ≤ (i : Int)
      · have HE : RowKit.Hid (firstOf x block = valsOf (x.blocks.take i)) := Lib.hid (by
          unfold firstOf
          rw [show block.toNat = i by omega])
        obtain ⟨acc, hacc⟩ : ∃ acc, acc = valsOf (x.blocks.take i) := ⟨_, rfl⟩
        rw [← hacc] at HE ⊢
        clear hacc HV
        go_wp2_with fail
        go_ret
        exact ⟨by rw [HE.out]; rfl, (HB0.out.trans (HI.out.mono HB0.out.size)).alloc (Nat.le_trans HB0.out.size HI.out.size) _⟩
      · obtain ⟨acc, hacc⟩ : ∃ acc, acc = valsOf (x.blocks.take i) := ⟨_, rfl⟩
        rw [← hacc] at HV ⊢
        clear hacc
        go_wp2_with fail
        go_roundw
        case rel => exact ⟨i + 1, by omega, by omega, by go_num, by rw [HV.out], Lib.hid (HI.out.alloc HI.out.size _)⟩
        case measure => simp [intOf]; omega
    · obtain rfl : i = bn := by omega
      have HE : RowKit.Hid (firstOf x block = valsOf (x.blocks.take i)) := Lib.hid (by
        unfold firstOf
        rw [List.take_of_length_le (by rw [HL1.out]; omega), List.take_of_length_le (by rw [HL1.out]; exact Nat.le_refl _)])
      go_wp2_with fail
      go_ret
      exact ⟨by rw [HE.out]; rfl, HB0.out.trans (HI.out.mono HB0.out.size)⟩
def valuesOf (x : FuncD) : Int := firstOf x (x.blocks.length : Int)
set_option maxRecDepth 100000 in
theorem ref_values (r : Int) (ba : Option Addr) (bn bc : Nat) (x : FuncD) (w : World) (hx : FuncQ w [.int .i64 r, .slice ba bn bc] x) :
    Calls Tryd.prog 10 #[.agg #[.int .i64 r, .slice ba bn bc]] w (NumPost (valuesOf x) w) := by
  have hb0 : Below w.heap.size w (w.alloc (.cells #[.int .i64 r, .slice ba bn bc] 30)) := (Below.refl _ _).alloc (Nat.le_refl _) _
  have HL : RowKit.Hid (x.blocks.length = bn) := Lib.hid (by obtain ⟨_, he, _, _, _, _, e, h, _⟩ := hx; simp only [List.cons.injEq, and_true] at he; obtain ⟨_, rfl⟩ := he; cases e; exact h)
  have HQ := Lib.hid (FuncQ.lasts _ _ _ _ hb0 hx)
  have HB := Lib.hid hb0
  clear hx hb0
  go_enter Tryd.func10, Tryd.ntmps10
  go_wp2_with fail
  refine (ref_first r ba bn bc (bn : Int) x _ HQ.out).mono ?_
  rintro e w1 ⟨rfl, hb⟩
  have HB1 := Lib.hid (HB.out.trans (hb.mono HB.out.size))
  have HV : RowKit.Hid (firstOf x (bn : Int) = valuesOf x) := Lib.hid (by unfold valuesOf; rw [HL.out])
  rw [HV.out]
  clear hb
  go_wp2_with fail
  go_ret
  exact ⟨rfl, HB1.out⟩
set_option maxRecDepth 100000 in
theorem code_values (r : Int) (ba : Option Addr) (bn bc : Nat) (x : FuncD) (w : World) (hx : FuncQ w [.int .i64 r, .slice ba bn bc] x) :
    Calls Tryd.prog 24 #[.agg #[.int .i64 r, .slice ba bn bc]] w (NumPost (valuesOf x) w) := by
  have hb0 : Below w.heap.size w (w.alloc (.cells #[.int .i64 r, .slice ba bn bc] 30)) := (Below.refl _ _).alloc (Nat.le_refl _) _
  have HL : RowKit.Hid (x.blocks.length = bn) := Lib.hid (by obtain ⟨_, he, _, _, _, _, e, h, _⟩ := hx; simp only [List.cons.injEq, and_true] at he; obtain ⟨_, rfl⟩ := he; cases e; exact h)
  have HQ := Lib.hid (FuncQ.lasts _ _ _ _ hb0 hx)
  have HB := Lib.hid hb0
  clear hx hb0
  go_enter Tryd.func24, Tryd.ntmps24
  go_wp2_with fail
  refine (code_first r ba bn bc (bn : Int) x _ HQ.out).mono ?_
  rintro e w1 ⟨rfl, hb⟩
  have HB1 := Lib.hid (HB.out.trans (hb.mono HB.out.size))
  have HV : RowKit.Hid (firstOf x (bn : Int) = valuesOf x) := Lib.hid (by unfold valuesOf; rw [HL.out])
  rw [HV.out]
  clear hb
  go_wp2_with fail
  go_ret
  exact ⟨rfl, HB1.out⟩
end Go.Proofs.YtdchhfdmingnaaaDoor
