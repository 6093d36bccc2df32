/- Layer 13: package uses' iterator: each value that stands in a step or an end, with its place. -/
import Derived.Test.YtdchhfdmingnaaaDoorWKindUsesK
import Derived.Test.YtdchhfdmingnaaaDoorWT0
import Derived.Test.YtdchhfdmingnaaaDoorWUsesA
import Derived.Stop.RegionWithIn
namespace Go.Proofs.YtdchhfdmingnaaaDoor
open Go.RowKit
set_option linter.unusedVariables false
set_option linter.unusedSimpArgs false
attribute [local go_sem] Oper.semAt_some
theorem KeepO.cell {O : World → Nat → Prop} {W W' : World} (h : KeepO O W W') {p : Addr} (hp : p.block < W.heap.size) (hn : ¬ O W p.block) : W'.cell? p = W.cell? p := World.cell?_of_block (h.same _ hp hn)
theorem KeepO.free {O : World → Nat → Prop} {W W' : World} (h : KeepO O W W') {i : Nat} (hi : i < W.heap.size) (hn : ¬ O W i) : ¬ O W' i := fun e => hn (h.new i e hi)
theorem KeepO.grown {O : World → Nat → Prop} (hO : SteadyO O) {W W' : World} {row : Option Nat} (hg : W.grownBy W' row) (hL : LiesO O W) (hr : ∀ r, row = some r → W.heap.size ≤ r ∧ ¬ O W r) : KeepO O W W' :=
  ⟨hg.size, fun i hi _ => hg.block i hi (fun e => by have := (hr i e.symm).1; omega), fun i h hi => (hO W W' row hg hL (fun r e => (hr r e).2) i).1 h, hg.os, hg.tape, hg.output⟩
theorem KeepO.alloc {O : World → Nat → Prop} (hO : SteadyO O) {W : World} (hL : LiesO O W) (o : Obj) : KeepO O W (W.alloc o) := KeepO.grown hO (World.grownBy_alloc W o none) hL (fun r e => by cases e)
theorem LiesO.alloc {O : World → Nat → Prop} (hO : SteadyO O) {W : World} (hL : LiesO O W) (o : Obj) : LiesO O (W.alloc o) := hL.step hO (World.grownBy_alloc W o none) (fun r e => by cases e)
theorem grownBy_of_below {W W' : World} (h : Below W.heap.size W W') : W.grownBy W' none := ⟨h.os, h.tape, h.output, h.size, fun k hk _ => h.block k hk⟩
theorem LiesO.free {O : World → Nat → Prop} {W : World} (hL : LiesO O W) {k : Nat} (hk : W.heap.size ≤ k) : ¬ O W k := fun e => by have := hL.lt e; omega
theorem KeepO.nums {O : World → Nat → Prop} {W W' : World} (h : KeepO O W W') {a : Option Addr} {n : Nat} {Z : List Int} (ha : NumsAt W a n Z) (hf : ∀ g off, a = some ⟨g, off, none⟩ → 0 < n → ¬ O W g) : NumsAt W' a n Z := by
  refine ⟨ha.1, fun h0 => ?_⟩
  obtain ⟨g, off, rfl, hg, hc⟩ := ha.2 h0
  exact ⟨g, off, rfl, Nat.lt_of_lt_of_le hg h.size, fun j hj => (h.cell (p := ⟨g, off + j, none⟩) hg (hf g off rfl h0)).trans (hc j hj)⟩
theorem pairsU_take (s : SiteU) (V : Nat) (Z : List Int) (k : Nat) : (pairsU s V (Z.take k)).length ≤ (pairsU s V Z).length := by
  unfold pairsU
  rw [List.length_map, List.length_map]
  conv => rhs; rw [← List.take_append_drop k Z, List.filter_append, List.length_append]
  exact Nat.le_add_right _ _
abbrev siteV (s : SiteU) : Value := .agg #[.int .i64 0, .int .i64 (s.1 : Int), .int .i64 (s.2 : Int)]
abbrev encU (x : UseU) : Array Value := #[siteV x.1, .int .i64 x.2]
set_option maxRecDepth 100000 in
set_option maxHeartbeats 2000000 in
theorem eachU_in {O : World → Nat → Prop} {J : List UseU → World → Prop} {Vp : UseU → Prop} {N m l bs b2 n0 : Nat} (hO : SteadyO O) (hab : AbidesO n0 O J)
    (hY : ∀ pre x W1, J pre W1 → Vp x → pre.length < N → YieldAt Fence.wide (m - 1) Tryd.prog l (encU x) W1 fun e W' => e = .returned (.bool true) ∧ J (pre ++ [x]) W' ∧ KeepO O W1 W' ∧ LiesO O W')
    (s : SiteU) (V : Nat) (va : Option Addr) (vn vc : Nat) (Z : List Int) (pre : List UseU) (W : World)
    (hz : W.cell? ⟨bs, 0, none⟩ = some (.int .i64 (V : Int))) (hbs : ¬ O W bs) (hy : W.cell? ⟨b2, 0, none⟩ = some (.func (.yield l) #[] #[])) (hb2 : ¬ O W b2) (hat : NumsAt W va vn Z) (hvn : vn ≤ 140737488355328)
    (hfree : ∀ g off, va = some ⟨g, off, none⟩ → 0 < vn → ¬ O W g) (hL : LiesO O W) (hJ : J pre W) (hV : ∀ x ∈ pairsU s V Z, Vp x) (hN : pre.length + (pairsU s V Z).length ≤ N) :
    CallsIn Fence.wide m Tryd.prog 37 #[siteV s, .slice va vn vc, .pointer (some ⟨bs, 0, none⟩), .pointer (some ⟨b2, 0, none⟩)] W fun e W' => e = .returned (.bool true) ∧ J (pre ++ pairsU s V Z) W' ∧ KeepO O W W' ∧ LiesO O W' := by
  have hlen : Z.length = vn := hat.1
  have hsl : bs < W.heap.size := World.block_lt_of_cell? (a := ⟨bs, 0, none⟩) _ hz
  have hyl : b2 < W.heap.size := World.block_lt_of_cell? (a := ⟨b2, 0, none⟩) _ hy
  obtain ⟨st, hst⟩ : ∃ q : Obj, q = .cells #[.int .i64 0, .int .i64 (s.1 : Int), .int .i64 (s.2 : Int)] 41 := ⟨_, rfl⟩
  obtain ⟨W1, hW1⟩ : ∃ u, u = W.alloc st := ⟨_, rfl⟩
  have HK1 : RowKit.Hid (KeepO O W W1) := Lib.hid (by rw [hW1]; exact KeepO.alloc hO hL _)
  have HL1 : RowKit.Hid (LiesO O W1) := Lib.hid (by rw [hW1]; exact hL.alloc hO _)
  have HJ1 : RowKit.Hid (J pre W1) := Lib.hid (by rw [hW1]; exact hab.alloc _ hJ)
  have HS1 : RowKit.Hid (W1.heap.size = W.heap.size + 1) := Lib.hid (by rw [hW1]; simp)
  have HC1 : RowKit.Hid (∀ j, W1.cell? ⟨W.heap.size, j, none⟩ = (#[.int .i64 0, .int .i64 (s.1 : Int), .int .i64 (s.2 : Int)] : Array Value)[j]?) := Lib.hid fun j => by rw [hW1, hst]; exact World.cell?_alloc_mark _ _ _ _ _
  have HF1 : RowKit.Hid (¬ O W1 W.heap.size) := Lib.hid fun e => by
    rw [hW1] at e
    exact hL.free (Nat.le_refl _) ((hO _ _ none (World.grownBy_alloc W st none) hL (fun r e => by cases e) _).1 e)
  have HBS : RowKit.Hid (∀ u, KeepO O W1 u → u.cell? ⟨bs, 0, none⟩ = some (.int .i64 (V : Int)) ∧ u.cell? ⟨b2, 0, none⟩ = some (.func (.yield l) #[] #[]) ∧ NumsAt u va vn Z ∧ ∀ j, u.cell? ⟨W.heap.size, j, none⟩ = (#[.int .i64 0, .int .i64 (s.1 : Int), .int .i64 (s.2 : Int)] : Array Value)[j]?) := Lib.hid fun u hu => by
    have hk := HK1.out.trans hu
    exact ⟨(hk.cell (p := ⟨bs, 0, none⟩) hsl hbs).trans hz, (hk.cell (p := ⟨b2, 0, none⟩) hyl hb2).trans hy, hk.nums hat hfree, fun j => (hu.cell (p := ⟨W.heap.size, j, none⟩) (by show W.heap.size < _; rw [HS1.out]; omega) HF1.out).trans (HC1.out j)⟩
  have HY := Lib.hid hY
  have HV := Lib.hid hV
  have HN := Lib.hid hN
  have HLEN := Lib.hid hlen
  clear hat hfree hz hy hbs hb2 hsl hyl hY hV hN hJ hL hlen HC1 HF1 HS1 hab
  refine callsIn_of_wp Tryd.func37 rfl trivial ?_ rfl
  simp only [Tryd.ntmps37, List.size_toArray, List.length_cons, List.length_nil, Nat.reduceAdd, Nat.reduceSub, Array.replicate_succ, Array.replicate_zero, List.push_toArray, List.append_toArray, List.nil_append, List.cons_append]
  gi_wp2
  rw [← hst, ← hW1]
  clear hst
  gi_loopw [11] (fun iv wr => ∃ k : Nat, k ≤ vn ∧ iv = .int .i64 (k : Int) ∧ RowKit.Hid (J (pre ++ pairsU s V (Z.take k)) wr ∧ KeepO O W1 wr ∧ LiesO O wr)) (fun iv _ => vn - (intOf iv).toNat)
  case atStart => exact ⟨0, Nat.zero_le _, rfl, Lib.hid ⟨by simpa [pairsU] using HJ1.out, KeepO.refl _ _, HL1.out⟩⟩
  case round =>
    obtain ⟨k, hk, rfl, HI⟩ := hrel
    clear HJ1 HL1
    obtain ⟨z0, y0, na, s0⟩ := HBS.out wr HI.out.2.1
    have t0 := s0 0
    have t1 := s0 1
    have t2 := s0 2
    by_cases hlt : k < vn
    · have hkl : k < Z.length := by rw [HLEN.out]; exact hlt
      obtain ⟨ad, hne, hcel⟩ := na.at (by omega)
      subst hne
      have c0 := hcel k hkl
      obtain ⟨z, hzz⟩ : ∃ z, z = Z[k] := ⟨_, rfl⟩
      rw [← hzz] at c0
      unfold numV at c0
      have HMORE : RowKit.Hid (pairsU s V (Z.take (k + 1)) = pairsU s V (Z.take k) ++ (if inU V z then [(s, z)] else [])) := Lib.hid (by rw [List.take_succ_eq_append_getElem hkl, pairsU_more, ← hzz])
      have HVX : RowKit.Hid (inU V z = true → Vp (s, z) ∧ (pre ++ pairsU s V (Z.take k)).length < N) := Lib.hid fun hi => by
        refine ⟨HV.out _ ?_, ?_⟩
        · unfold pairsU
          exact List.mem_map.2 ⟨z, List.mem_filter.2 ⟨by rw [hzz]; exact List.getElem_mem hkl, hi⟩, rfl⟩
        · have h1 := pairsU_take s V Z (k + 1)
          rw [HMORE.out, hi, if_pos rfl, List.length_append] at h1
          have := HN.out
          rw [List.length_append]
          simp at h1
          omega
      have HKLT := Lib.hid hlt
      clear hcel na s0 hzz hkl
      by_cases h0 : 0 ≤ z
      · by_cases h1 : z < (V : Int)
        · have HIN : RowKit.Hid (inU V z = true) := Lib.hid (by unfold inU; simp [h0, h1])
          have hy0 := HY.out (pre ++ pairsU s V (Z.take k)) (s, z) wr HI.out.1 (HVX.out HIN.out).1 (HVX.out HIN.out).2
          unfold encU siteV at hy0
          obtain ⟨fn, tmps, assign, body, hy, hR⟩ := hy0
          gi_wp2
          refine ⟨(fun h => (nomatch h)), hR.mono ?_⟩
          rintro e W3 ⟨rfl, hJ3, hk3, hl3⟩
          gi_wp2
          go_roundw
          case rel => exact ⟨k + 1, by omega, by go_num, Lib.hid ⟨by rw [HMORE.out, HIN.out, if_pos rfl, ← List.append_assoc]; exact hJ3, HI.out.2.1.trans hk3, hl3⟩⟩
          case measure => simp [intOf]; omega
        · have HIN : RowKit.Hid (inU V z = false) := Lib.hid (by unfold inU; simp [h1])
          gi_wp2
          refine ⟨fun f h => (nomatch h), ?_⟩
          gi_wp2
          go_roundw
          case rel => exact ⟨k + 1, by omega, by go_num, Lib.hid ⟨by rw [HMORE.out, HIN.out, if_neg (by simp), List.append_nil]; exact HI.out.1, HI.out.2⟩⟩
          case measure => simp [intOf]; omega
      · have h0' : z < 0 := by omega
        have HIN : RowKit.Hid (inU V z = false) := Lib.hid (by unfold inU; simp [h0])
        gi_wp2
        refine ⟨fun f h => (nomatch h), ?_⟩
        gi_wp2
        go_roundw
        case rel => exact ⟨k + 1, by omega, by go_num, Lib.hid ⟨by rw [HMORE.out, HIN.out, if_neg (by simp), List.append_nil]; exact HI.out.1, HI.out.2⟩⟩
        case measure => simp [intOf]; omega
    · obtain rfl : k = vn := by omega
      have HZ : RowKit.Hid (Z.take k = Z) := Lib.hid (List.take_of_length_le (by rw [HLEN.out]; exact Nat.le_refl _))
      gi_wp2
      go_ret
      exact ⟨rfl, by have h := HI.out.1; rw [HZ.out] at h; exact h, HK1.out.trans HI.out.2.1, HI.out.2.2⟩
end Go.Proofs.YtdchhfdmingnaaaDoor
