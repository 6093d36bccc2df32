/- Layer 13: package uses: what an end is of. -/
import Derived.Test.YtdchhfdmingnaaaDoorFCfgI
import Derived.Test.YtdchhfdmingnaaaDoorFT0
import Derived.Test.YtdchhfdmingnaaaDoorFT1
import Derived.Test.YtdchhfdmingnaaaDoorFT3

namespace Go.Proofs.YtdchhfdmingnaaaDoor
open Go.RowKit (wrap64 intOf Below)
set_option linter.unusedVariables false
set_option linter.unusedSimpArgs false
def ListPostU (Z : List Int) (w : World) (e : Ending) (w' : World) : Prop := ∃ va vn vc, e = .returned (.slice va vn vc) ∧ OwnsI w' w.heap.size 3 (.slice va vn vc) Z ∧ Below w.heap.size w w'
theorem uuses_any (r : Int) (ba : Option Addr) (bn bc : Nat) (w : World) :
    Calls Tryd.prog 25 #[.agg #[.int .i64 r, .slice ba bn bc]] w fun e w' => e = .returned (.func (.func 36) #[] #[.pointer (some ⟨w.heap.size, 0, none⟩)]) ∧ w' = w.alloc (.cells #[.int .i64 r, .slice ba bn bc] 30) := by
  go_enter Tryd.func25, Tryd.ntmps25
  go_wp2_with fail
  go_ret
  exact ⟨rfl, rfl⟩
structure EnSt (w w8 : World) (s7 : Nat) (v : Value) (Z : List Int) (u : World) : Prop where
  own : OwnsI u w.heap.size 3 v Z
  bel : Below w.heap.size w u
  off : Off (fun k => k < s7) w8 u
  wh : ∀ k, v.ownBlock = some k → k < s7 ∨ w8.heap.size ≤ k
  low : w.heap.size ≤ w8.heap.size
theorem EnSt.alloc {w w8 u : World} {s7 : Nat} {v : Value} {Z : List Int} (h : EnSt w w8 s7 v Z u) (o : Obj) : EnSt w w8 s7 v Z (u.alloc o) :=
  ⟨h.own.below ((Below.refl _ u).alloc (Nat.le_refl _) o), h.bel.alloc h.bel.size o, h.off.alloc o, h.wh, h.low⟩
theorem EnSt.more {w w8 u u' : World} {s7 : Nat} {v v' : Value} {Z Z' : List Int} (h : EnSt w w8 s7 v Z u) (ho : OwnsI u' w.heap.size 3 v' Z') (hg : u.grownBy u' v.ownBlock) (hw : ∀ k, v'.ownBlock = some k → v.ownBlock = some k ∨ u.heap.size ≤ k) : EnSt w w8 s7 v' Z' u' :=
  ⟨ho, Below.grown h.bel hg h.bel.size (fun k hk => (h.own.lt k hk).1), h.off.grown hg (fun k hk => h.wh k hk), fun k hk => by
    rcases hw k hk with h' | h'
    · exact h.wh k h'
    · exact .inr (Nat.le_trans h.off.size h'), h.low⟩
theorem flatMap_take_more (l : List (Int × List Int)) (i : Nat) (h : i < l.length) : (l.take (i + 1)).flatMap (·.2) = (l.take i).flatMap (·.2) ++ l[i].2 := by
  rw [List.take_succ_eq_append_getElem h, List.flatMap_append]
  simp
theorem flatMap_len (l : List (Int × List Int)) (h : ∀ t ∈ l, t.2.length ≤ 100000) (h2 : l.length ≤ 2) (i : Nat) : ((l.take i).flatMap (·.2)).length ≤ 200000 := by
  rw [List.length_flatMap]
  have : ∀ m : List (Int × List Int), (∀ t ∈ m, t.2.length ≤ 100000) → (m.map fun t => t.2.length).sum ≤ 100000 * m.length := by
    intro m
    induction m with
    | nil => intro _; simp
    | cons a m ih =>
      intro hm
      have h1 := hm a (by simp)
      have h3 := ih (fun t ht => hm t (by simp [ht]))
      simp only [List.map_cons, List.sum_cons, List.length_cons]
      omega
  have h4 := this (l.take i) (fun t ht => h t (List.mem_of_mem_take ht))
  have h5 : (l.take i).length ≤ 2 := by rw [List.length_take]; omega
  refine Nat.le_trans h4 ?_
  omega
theorem tgts_two (e : EndD) : (tgts e).length ≤ 2 := by
  unfold tgts
  repeat' split
  all_goals simp
theorem tgts_lists {e : EndD} (hl : e.L.length ≤ 100000) (hm : e.M.length ≤ 100000) : ∀ t ∈ tgts e, t.2.length ≤ 100000 := by
  unfold tgts
  repeat' split
  all_goals simp [hl, hm]
set_option maxRecDepth 100000 in
set_option maxHeartbeats 4000000 in
theorem ended_any (r : Int) (ba : Option Addr) (bn bc : Nat) (la : Option Addr) (ln lc : Nat) (ma : Option Addr) (mn mc : Nat) (e : EndD) (w : World) (hL : ListAt w la ln lc e.L) (hM : ListAt w ma mn mc e.M) (hl : e.L.length ≤ 100000) (hm : e.M.length ≤ 100000) :
    Calls Tryd.prog 39 #[.agg #[.int .i64 r, .slice ba bn bc], .agg #[.int .i64 e.K, .int .i64 e.A, .int .i64 e.To, .int .i64 e.Else, .slice la ln lc, .slice ma mn mc]] w (ListPostU (endU r e) w) := by
  have CT : RowKit.Hid (∀ u, Below w.heap.size w u → Calls Tryd.prog 59 #[.agg #[.int .i64 e.K, .int .i64 e.A, .int .i64 e.To, .int .i64 e.Else, .slice la ln lc, .slice ma mn mc]] u fun e' w' => ∃ va vn vc l, e' = .returned (.slice va vn vc) ∧ OwnsT w' u.heap.size (.slice va vn vc) l ∧ Cops w' u.heap.size l (tgts e) ∧ Below u.heap.size u w') :=
    Lib.hid fun u hb => ctargets_any e.A la ln lc ma mn mc e u (hL.1.since hb) hL.2.1 hL.2.2 (hM.1.since hb) hM.2.1 hM.2.2
  have HEU : RowKit.Hid (endU r e = endA r e ++ (tgts e).flatMap (·.2)) := Lib.hid rfl
  have HT2 := Lib.hid (tgts_two e)
  have HTB := Lib.hid (tgts_lists hl hm)
  have HEA : RowKit.Hid (endA r e = if e.K = 1 ∨ e.K = 3 ∨ (e.K = 2 ∧ r ≠ -1) then [e.A] else []) := Lib.hid rfl
  generalize endU r e = EU at *
  generalize endA r e = AU at *
  generalize tgts e = TS at *
  clear hL hM hl hm
  generalize e.K = K at *
  generalize e.A = A at *
  generalize e.To = T at *
  generalize e.Else = E at *
  clear e
  have hcase : K = 1 ∨ (K ≠ 1 ∧ K = 3) ∨ (K ≠ 1 ∧ K ≠ 3 ∧ K = 2 ∧ r ≠ -1) ∨ (K ≠ 1 ∧ K ≠ 3 ∧ K = 2 ∧ r = -1) ∨ (K ≠ 1 ∧ K ≠ 3 ∧ K ≠ 2) := by omega
  have HCASE := Lib.hid hcase
  clear hcase
  go_enter Tryd.func39, Tryd.ntmps39
  go_upto_region 2 with fail
  obtain ⟨Y, hY⟩ : ∃ Y, (w.alloc (.cells #[.int .i64 r, .slice ba bn bc] 30)).alloc (.cells #[.int .i64 K, .int .i64 A, .int .i64 T, .int .i64 E, .slice la ln lc, .slice ma mn mc] 55) = Y := ⟨_, rfl⟩
  have HBY : RowKit.Hid (Below w.heap.size w Y) := Lib.hid (by rw [← hY]; exact ((Below.refl _ w).alloc (Nat.le_refl _) _).alloc (by simp) _)
  have HZY : RowKit.Hid (w.heap.size + 2 ≤ Y.heap.size) := Lib.hid (by rw [← hY]; simp)
  have HCY : RowKit.Hid (∀ j, Y.cell? ⟨w.heap.size + 1, j, none⟩ = (#[.int .i64 K, .int .i64 A, .int .i64 T, .int .i64 E, .slice la ln lc, .slice ma mn mc] : Array Value)[j]?) := Lib.hid fun j => by
    rw [← hY, show w.heap.size + 1 = (w.alloc (.cells #[.int .i64 r, .slice ba bn bc] 30)).heap.size by simp]
    exact World.cell?_alloc_mark _ _ _ _ _
  have HCF : RowKit.Hid (Y.cell? ⟨w.heap.size, 0, none⟩ = some (.int .i64 r)) := Lib.hid (by
    rw [← hY]
    exact (((Below.refl _ _).alloc (Nat.le_refl _) _).cell (p := ⟨w.heap.size, 0, none⟩) (by simp)).trans (World.cell?_alloc_mark _ _ _ _ _))
  rw [hY]
  clear hY
  have y0 := HCY.out 0
  have y1 := HCY.out 1
  have y2 := HCY.out 2
  have y3 := HCY.out 3
  have y4 := HCY.out 4
  have y5 := HCY.out 5
  have yf := HCF.out
  have hlits : w.heap.size ≤ Y.heap.size := by have := HZY.out; omega
  have HLIT := Lib.hid hlits
  clear hlits
  rcases HCASE.out with h1 | ⟨h1, h3⟩ | ⟨h1, h3, h2, hr⟩ | ⟨h1, h3, h2, hr⟩ | ⟨h1, h3, h2⟩
  focus
    have HAU : RowKit.Hid (AU = [A]) := Lib.hid (by rw [HEA.out, if_pos (.inl h1)])
    have k1 : (K == 1) = true := by rw [h1]; rfl
    clear h1 HCASE
    go_upto_region 4 with (at_builtin; (with_reducible refine wpList_append_num _ rfl _ _ 34 rfl 3 Tryd.underlying34 info_int Y.heap.size (.slice none 0 0) [] ?_ ?_ ?_ _ 1 Y.heap.size A ?_ ?_ ?_ ?_ ?_); (next => rfl); (next => exact World.ownsRow_nil _ _ _ 1); (next => exact Nat.le_refl _); (next => rfl); (next => rfl); (next => rfl); (next => simp); intro v3 w3 ho3 hb3; obtain ⟨va, vn, vc, rfl, _⟩ := ho3.nums; have HO3 : RowKit.Hid (OwnsI w3 Y.heap.size 3 (.slice va vn vc) AU) := Lib.hid (by rw [HAU.out]; exact ho3); have HB3 := Lib.hid hb3; clear ho3 hb3)
    clear y0 y1 y2 y3 y4 y5 yf HAU
  rotate_left
  focus
    have HAU : RowKit.Hid (AU = [A]) := Lib.hid (by rw [HEA.out, if_pos (.inr (.inl h3))])
    have k1 : (K == 1) = false := by simpa using h1
    have k3 : (K == 3) = true := by rw [h3]; rfl
    clear h1 h3 HCASE
    go_upto_region 4 with (at_builtin; (with_reducible refine wpList_append_num _ rfl _ _ 34 rfl 3 Tryd.underlying34 info_int Y.heap.size (.slice none 0 0) [] ?_ ?_ ?_ _ 1 Y.heap.size A ?_ ?_ ?_ ?_ ?_); (next => rfl); (next => exact World.ownsRow_nil _ _ _ 1); (next => exact Nat.le_refl _); (next => rfl); (next => rfl); (next => rfl); (next => simp); intro v3 w3 ho3 hb3; obtain ⟨va, vn, vc, rfl, _⟩ := ho3.nums; have HO3 : RowKit.Hid (OwnsI w3 Y.heap.size 3 (.slice va vn vc) AU) := Lib.hid (by rw [HAU.out]; exact ho3); have HB3 := Lib.hid hb3; clear ho3 hb3)
    clear y0 y1 y2 y3 y4 y5 yf HAU
  rotate_left
  focus
    have HAU : RowKit.Hid (AU = [A]) := Lib.hid (by rw [HEA.out, if_pos (.inr (.inr ⟨h2, hr⟩))])
    have k1 : (K == 1) = false := by simpa using h1
    have k3 : (K == 3) = false := by simpa using h3
    have k2 : (K == 2) = true := by rw [h2]; rfl
    have kr : (r != -1) = true := by rw [bne_iff_ne]; exact hr
    have kre : (r == -1) = false := by simpa using hr
    clear h1 h3 h2 hr HCASE
    go_upto_region 4 with (at_builtin; (with_reducible refine wpList_append_num _ rfl _ _ 34 rfl 3 Tryd.underlying34 info_int Y.heap.size (.slice none 0 0) [] ?_ ?_ ?_ _ 1 Y.heap.size A ?_ ?_ ?_ ?_ ?_); (next => rfl); (next => exact World.ownsRow_nil _ _ _ 1); (next => exact Nat.le_refl _); (next => rfl); (next => rfl); (next => rfl); (next => simp); intro v3 w3 ho3 hb3; obtain ⟨va, vn, vc, rfl, _⟩ := ho3.nums; have HO3 : RowKit.Hid (OwnsI w3 Y.heap.size 3 (.slice va vn vc) AU) := Lib.hid (by rw [HAU.out]; exact ho3); have HB3 := Lib.hid hb3; clear ho3 hb3)
    clear y0 y1 y2 y3 y4 y5 yf HAU
  rotate_left
  focus
    have HAU : RowKit.Hid (AU = []) := Lib.hid (by rw [HEA.out, if_neg]; rintro (h | h | h); exact h1 h; exact h3 h; exact h.2 hr)
    have k1 : (K == 1) = false := by simpa using h1
    have k3 : (K == 3) = false := by simpa using h3
    have k2 : (K == 2) = true := by rw [h2]; rfl
    have kr : (r != -1) = false := by rw [hr]; rfl
    have kre : (r == -1) = true := by rw [hr]; rfl
    clear h1 h3 h2 hr HCASE
    go_upto_region 4 with fail
    obtain ⟨w3, hw3⟩ : ∃ u, u = Y := ⟨_, rfl⟩
    obtain ⟨va, hva⟩ : ∃ va : Option Addr, va = none := ⟨_, rfl⟩
    obtain ⟨vn, hvn⟩ : ∃ vn : Nat, vn = 0 := ⟨_, rfl⟩
    obtain ⟨vc, hvc⟩ : ∃ vc : Nat, vc = 0 := ⟨_, rfl⟩
    have HO3 : RowKit.Hid (OwnsI w3 Y.heap.size 3 (.slice va vn vc) AU) := Lib.hid (by rw [HAU.out, hva, hvn, hvc]; exact World.ownsRow_nil _ _ _ 1)
    have HB3 : RowKit.Hid (Below Y.heap.size Y w3) := Lib.hid (by rw [hw3]; exact Below.refl _ _)
    rw [← hw3, ← hva]
    have HV0 : RowKit.Hid (vn = 0 ∧ vc = 0) := Lib.hid ⟨hvn, hvc⟩
    clear hw3 hva hvn hvc y0 y1 y2 y3 y4 y5 yf HAU
  rotate_left
  focus
    have HAU : RowKit.Hid (AU = []) := Lib.hid (by rw [HEA.out, if_neg]; rintro (h | h | h); exact h1 h; exact h3 h; exact h2 h.1)
    have k1 : (K == 1) = false := by simpa using h1
    have k3 : (K == 3) = false := by simpa using h3
    have k2 : (K == 2) = false := by simpa using h2
    clear h1 h3 h2 HCASE
    go_upto_region 4 with fail
    obtain ⟨w3, hw3⟩ : ∃ u, u = Y := ⟨_, rfl⟩
    obtain ⟨va, hva⟩ : ∃ va : Option Addr, va = none := ⟨_, rfl⟩
    obtain ⟨vn, hvn⟩ : ∃ vn : Nat, vn = 0 := ⟨_, rfl⟩
    obtain ⟨vc, hvc⟩ : ∃ vc : Nat, vc = 0 := ⟨_, rfl⟩
    have HO3 : RowKit.Hid (OwnsI w3 Y.heap.size 3 (.slice va vn vc) AU) := Lib.hid (by rw [HAU.out, hva, hvn, hvc]; exact World.ownsRow_nil _ _ _ 1)
    have HB3 : RowKit.Hid (Below Y.heap.size Y w3) := Lib.hid (by rw [hw3]; exact Below.refl _ _)
    rw [← hw3, ← hva]
    have HV0 : RowKit.Hid (vn = 0 ∧ vc = 0) := Lib.hid ⟨hvn, hvc⟩
    clear hw3 hva hvn hvc y0 y1 y2 y3 y4 y5 yf HAU
  rotate_left
  all_goals
    have HBW : RowKit.Hid (Below w.heap.size w w3) := Lib.hid (HBY.out.trans (HB3.out.mono HLIT.out))
    have HC3 : RowKit.Hid (∀ j, w3.cell? ⟨w.heap.size + 1, j, none⟩ = (#[.int .i64 K, .int .i64 A, .int .i64 T, .int .i64 E, .slice la ln lc, .slice ma mn mc] : Array Value)[j]?) := Lib.hid fun j => (HB3.out.cell (p := ⟨w.heap.size + 1, j, none⟩) (show w.heap.size + 1 < Y.heap.size by have := HZY.out; omega)).trans (HCY.out j)
    have y0 := HC3.out 0
    have y1 := HC3.out 1
    have y2 := HC3.out 2
    have y3 := HC3.out 3
    have y4 := HC3.out 4
    have y5 := HC3.out 5
    have HOW : RowKit.Hid (OwnsI w3 w.heap.size 3 (.slice va vn vc) AU) := Lib.hid (OwnsI.mono HO3.out HLIT.out)
    have HAL : RowKit.Hid (AU.length ≤ 1) := Lib.hid (by rw [HEA.out]; split <;> simp)
    clear HEA HB3 HC3 HO3 HCY HCF HBY HZY HLIT
    go_upto_region 5 with (go_at_call 59; (with_reducible refine (CT.out _ HBW.out).mono ?_); rintro e w8 ⟨ta, tn, tc, l, rfl, ho, hcp, hb⟩; have HO8 := Lib.hid ho; have HCP := Lib.hid hcp; have HB8 := Lib.hid hb; clear ho hcp hb)
    clear y0 y1 y2 y3 y4 y5 CT
    have hvn : tn = l.length := HO8.out.read.1
    have hll : l.length = TS.length := HCP.out.len
    have hvb : tn ≤ 2 := by rw [hvn, hll]; exact HT2.out
    have HVL : RowKit.Hid (tn = l.length ∧ l.length = TS.length) := Lib.hid ⟨hvn, hll⟩
    have HE0 : RowKit.Hid (EnSt w w8 w3.heap.size (.slice va vn vc) AU w8) := Lib.hid ⟨HOW.out.below HB8.out, HBW.out.trans (HB8.out.mono HBW.out.size), Off.refl _ _, fun k hk => .inl (HOW.out.lt k hk).2, Nat.le_trans HBW.out.size HB8.out.size⟩
    clear hvn hll HOW HBW HB8
    obtain ⟨s7, hs7⟩ : ∃ s, s = w3.heap.size := ⟨_, rfl⟩
    rw [← hs7] at HO8 HCP HE0
    clear hs7
    go_loopw [34, 5] (fun v34 v5 wr => ∃ i : Nat, i ≤ tn ∧ v34 = .int .i64 (i : Int) ∧ ∃ xa xn xc, v5 = .slice xa xn xc ∧ RowKit.Hid (EnSt w w8 s7 (.slice xa xn xc) (AU ++ (TS.take i).flatMap (·.2)) wr)) (fun iv _ _ => tn - (intOf iv).toNat)
    case atStart =>
      first
        | exact ⟨0, Nat.zero_le _, rfl, _, _, _, rfl, Lib.hid (by simpa using HE0.out)⟩
        | exact ⟨0, Nat.zero_le _, rfl, _, _, _, rfl, Lib.hid (by have h := HE0.out; rw [HV0.out.1, HV0.out.2] at h; simpa using h)⟩
    case round =>
      obtain ⟨i, hi, rfl, xa, xn, xc, rfl, HI⟩ := hrel
      clear HE0
      by_cases hlt : i < tn
      · have hltz : (i : Int) < (tn : Int) := by omega
        have hi0 : (0 : Int) ≤ (i : Int) := by omega
        have hil : i < l.length := by have := HVL.out.1; omega
        have hit : i < TS.length := by have := HVL.out.2; omega
        obtain ⟨hcpt, hown⟩ := HCP.out.at i hil hit
        have hrd := HO8.out.read.2
        obtain ⟨gt, rfl, hgB, hgl, hcel⟩ := hrd (by omega)
        obtain ⟨d0, d1⟩ := hcel i hil
        have hoff : ∀ j, wr.cell? ⟨gt, j, none⟩ = w8.cell? ⟨gt, j, none⟩ := fun j => HI.out.off.cell (p := ⟨gt, j, none⟩) hgl (by show ¬ gt < s7; omega)
        have c0 := (hoff _).trans d0
        have c1 := (hoff _).trans d1
        have HMORE : RowKit.Hid ((TS.take (i + 1)).flatMap (·.2) = (TS.take i).flatMap (·.2) ++ TS[i].2) := Lib.hid (flatMap_take_more TS i hit)
        have HLEN : RowKit.Hid (((TS.take i).flatMap (·.2)).length ≤ 200000) := Lib.hid (flatMap_len TS HTB.out HT2.out i)
        obtain ⟨Z, hZ⟩ : ∃ Z, Z = l[i] := ⟨_, rfl⟩
        rw [← hZ] at hcpt hown c0 c1
        obtain ⟨z1, ka, kn, kc⟩ := Z
        simp only [] at hcpt hown c0 c1
        obtain ⟨L, hL⟩ : ∃ L, L = TS[i].2 := ⟨_, rfl⟩
        have hLl : L.length ≤ 100000 := by rw [hL]; exact HTB.out _ (List.getElem_mem hit)
        rw [← hL] at hown HMORE
        have HNUM : RowKit.Hid (∀ o : Obj, NumsAt (wr.alloc o) ka kn L) := Lib.hid fun o => by
          refine hown.read.off (HI.out.off.alloc o) fun g off e h0 => ?_
          have hbk : (Value.slice ka kn kc).ownBlock = some g := by rw [e]; rfl
          have := (hown.lt g hbk).1
          show ¬ g < s7
          omega
        have HKC := Lib.hid hown.nilcap
        have HKN : RowKit.Hid (((AU ++ (TS.take i).flatMap (·.2)).length + kn) * 8 ≤ 140737488355328) := Lib.hid (by
          have h1 := HLEN.out
          have h2 := HAL.out
          have h3 : L.length = kn := hown.read.1
          rw [List.length_append]
          omega)
        clear hcpt hown hcel hgl hgB hrd hZ hL hLl hit hil d0 d1 hoff
        go_wp2_with (at_builtin; (with_reducible refine wpList_append_numsA _ rfl _ _ 34 rfl 3 Tryd.underlying34 info_int w.heap.size (.slice xa xn xc) (AU ++ (TS.take i).flatMap (·.2)) ?_ ?_ ?_ ka kn kc L ?_ ?_ ?_ ?_ ?_); (next => rfl); (next => exact (HI.out.alloc _).own); (next => exact (HI.out.alloc _).bel.size); (next => rfl); (next => exact HKC.out); (next => exact HNUM.out _); (next => exact HKN.out); intro ea en ec w5 ho hg hwh; have HE5 := Lib.hid ((HI.out.alloc _).more ho hg hwh); clear ho hg hwh)
        go_roundw
        case rel => exact ⟨i + 1, by omega, by go_num, _, _, _, rfl, Lib.hid (by rw [HMORE.out, ← List.append_assoc]; exact HE5.out)⟩
        case measure => simp [intOf]; omega
      · obtain rfl : i = tn := by omega
        have hge : ¬ ((i : Int) < (i : Int)) := by omega
        have HR : RowKit.Hid (EU = AU ++ (TS.take i).flatMap (·.2)) := Lib.hid (by rw [HEU.out, List.take_of_length_le (by have := HVL.out; omega)])
        go_wp2_with fail
        go_ret
        exact ⟨_, _, _, rfl, by rw [HR.out]; exact HI.out.own, HI.out.bel⟩
end Go.Proofs.YtdchhfdmingnaaaDoor
