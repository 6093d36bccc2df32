/- Layer 7: package cfg's Reached: which blocks the walk leaves. -/
import Derived.Test.YtccajbgdlicbnaaCfgE
namespace Go.Proofs.Ytccajbgdlicbnaa
open Go.RowKit
set_option linter.unusedVariables false
set_option linter.unusedSimpArgs false
attribute [local go_sem] Oper.semAt_some

/-- Where Reached stands. -/
structure ReaSt (w : World) (n : Nat) (W : World) (Z : List Int) : Prop where
  box : Boxed W (w.heap.size + 2) 44 (.slice (some ⟨w.heap.size + 1, 0, none⟩) n n)
  row : W.ownsRow (w.heap.size + 1) 4 1 (.slice (some ⟨w.heap.size + 1, 0, none⟩) n n) n (metVals n Z)
  bel : Below w.heap.size w W
  siz : w.heap.size + 4 ≤ W.heap.size
theorem ReaSt.owns {w W : World} {n : Nat} {Z : List Int} (h : ReaSt w n W Z) (i : Nat) : Owns (w.heap.size + 2) 44 W i ↔ i = w.heap.size + 2 ∨ i = w.heap.size + 1 := by
  constructor
  · rintro (hi | ⟨v, hb, hv⟩)
    · exact .inl hi
    · have h1 := hb; have h2 := h.box
      unfold Boxed at h1 h2
      rw [h1] at h2
      cases h2
      cases hv
      exact .inr rfl
  · rintro (hi | hi)
    · exact .inl hi
    · exact .inr ⟨_, h.box, by rw [hi]; rfl⟩
theorem ReaSt.blk {w W : World} {n : Nat} {Z : List Int} (h : ReaSt w n W Z) : ∃ cur, W.heap[w.heap.size + 1]? = some (.cells cur 4 (0, 0)) := by
  rcases h.row.2 with ⟨e, _⟩ | ⟨g, cap, cur, e, _, hh, _⟩
  · cases e
  · cases e; exact ⟨cur, hh⟩
theorem ReaSt.lies {w W : World} {n : Nat} {Z : List Int} (h : ReaSt w n W Z) : Lies (w.heap.size + 2) 44 W := by
  intro i hi
  rcases (h.owns i).1 hi with rfl | rfl
  · exact ⟨_, h.box, rfl⟩
  · obtain ⟨cur, hc⟩ := h.blk
    exact ⟨_, hc, rfl⟩
theorem ReaSt.grown {w W W' : World} {n : Nat} {Z : List Int} {row : Option Nat} (h : ReaSt w n W Z) (hg : W.grownBy W' row) (hr : ∀ r, row = some r → w.heap.size ≤ r ∧ ¬ Owns (w.heap.size + 2) 44 W r) : ReaSt w n W' Z :=
  ⟨h.box.kept hg (fun e => (hr _ e.symm).2 ((h.owns _).2 (.inl rfl))), World.ownsRow.kept h.row hg (.inr fun e => (hr _ e.symm).2 ((h.owns _).2 (.inr rfl))), h.bel.trans (Below.grown (Below.refl w.heap.size W) hg (by have := h.siz; omega) (fun k e => (hr k e).1)), Nat.le_trans h.siz hg.size⟩
set_option maxRecDepth 100000 in
set_option maxHeartbeats 2000000 in
theorem reached_any (r : Int) (a : Option Addr) (n c : Nat) (f : FuncD) (w : World) (hrow : RowV BlockQ 8 w (.slice a n c) f.blocks) (hn : n ≤ 1099511627776) :
    Calls Try.prog 23 #[.agg #[.int .i64 r, .slice a n c]] w fun e w' => ∃ g, e = .returned (.slice (some ⟨g, 0, none⟩) n n) ∧ w'.ownsRow w.heap.size 4 1 (.slice (some ⟨g, 0, none⟩) n n) n (metVals n (orderL f)) ∧ Below w.heap.size w w' := by
  have hgl : ∀ g off, a = some ⟨g, off, none⟩ → 0 < n → g < w.heap.size := fun g off e h0 => by
    obtain ⟨_, _, _, e', _, _, _, h'⟩ := hrow; cases e'; obtain ⟨g', off', e2, hl, _⟩ := h' h0; rw [e] at e2; cases e2; exact hl
  refine (callsIn_wide (n := 9)).1 ?_
  refine callsIn_of_wp_marks Try.func23 rfl trivial ?_ rfl
  simp only [Try.ntmps23, List.size_toArray, List.length_cons, List.length_nil, Nat.reduceAdd, Nat.reduceSub, Array.replicate_succ, Array.replicate_zero, List.push_toArray, List.append_toArray, List.nil_append, List.cons_append]
  have HROW := Lib.hid hrow
  have HGL := Lib.hid hgl
  have hmk := make_bools n n rfl hn
  clear hrow hgl
  gi_wp2_with (refine ⟨trivial, ?_⟩; gi_at_call 43; refine (callsIn_wide.2 (left_any r a n c _)).mono ?_; rintro e w' ⟨rfl, rfl⟩)
  obtain ⟨W0, hW0⟩ : ∃ W0, ((((w.alloc (.cells #[.int .i64 r, .slice a n c] 24)).alloc (.cells (madeCells #[.bool false] n) 4)).alloc (.cells #[.slice (some ⟨w.heap.size + 1, 0, none⟩) n n] 44)).alloc (.cells #[.int .i64 r, .slice a n c] 24)) = W0 := ⟨_, rfl⟩
  have hz0 : W0.heap.size = w.heap.size + 4 := by rw [← hW0]; simp
  have hbw : Below w.heap.size w W0 := by rw [← hW0]; exact ((((Below.refl w.heap.size w).alloc (Nat.le_refl _) _).alloc (by simp) _).alloc (by simp <;> omega) _).alloc (by simp <;> omega) _
  have hbx : Boxed W0 (w.heap.size + 2) 44 (.slice (some ⟨w.heap.size + 1, 0, none⟩) n n) := by
    rw [← hW0]
    have h := (Boxed.new ((w.alloc (.cells #[.int .i64 r, .slice a n c] 24)).alloc (.cells (madeCells #[.bool false] n) 4)) 44 (.slice (some ⟨w.heap.size + 1, 0, none⟩) n n)).alloc (.cells #[.int .i64 r, .slice a n c] 24)
    rw [show ((w.alloc (.cells #[.int .i64 r, .slice a n c] 24)).alloc (.cells (madeCells #[.bool false] n) 4)).heap.size = w.heap.size + 2 by simp] at h
    exact h
  have hrw : W0.ownsRow (w.heap.size + 1) 4 1 (.slice (some ⟨w.heap.size + 1, 0, none⟩) n n) n (metVals n []) := by
    rw [← hW0]
    have h := World.ownsRow_lit (base := w.heap.size + 1) (e := 4) (size := 1) (w.alloc (.cells #[.int .i64 r, .slice a n c] 24)) (madeCells #[Value.bool false] n) n (by simp) (by unfold maxLen; omega) (by simp [size_madeCells])
    rw [metVals_none, show (w.alloc (.cells #[.int .i64 r, .slice a n c] 24)).heap.size = w.heap.size + 1 by simp] at h
    exact (h.alloc _).alloc _
  have hcb : ∀ j, W0.cell? ⟨w.heap.size + 1 + 1 + 1, j, none⟩ = (#[.int .i64 r, .slice a n c] : Array Value)[j]? := by
    intro j
    rw [← hW0, show w.heap.size + 1 + 1 + 1 = (((w.alloc (.cells #[.int .i64 r, .slice a n c] 24)).alloc (.cells (madeCells #[.bool false] n) 4)).alloc (.cells #[.slice (some ⟨w.heap.size + 1, 0, none⟩) n n] 44)).heap.size by simp]
    exact World.cell?_alloc_mark _ _ _ _ _
  have HS0 : RowKit.Hid (ReaSt w n W0 []) := Lib.hid ⟨hbx, hrw, hbw, by omega⟩
  rw [hW0]
  clear hW0
  have hseq := left_seq r a n c f (w.heap.size + 1 + 1 + 1) (w.heap.size + 2) 44 W0 (HROW.out.since BlockQ.lasts hbw) hn hcb (fun W hb hl => by
    have h1 : W.heap[w.heap.size + 2]? = _ := (hb.block _ (by omega)).trans hbx
    have h2 : ∀ i, Owns (w.heap.size + 2) 44 W i → i = w.heap.size + 2 ∨ i = w.heap.size + 1 := fun i hi => by
      rcases hi with hi | ⟨v, hv, ho⟩
      · exact .inl hi
      · unfold Boxed at hv; rw [h1] at hv; cases hv; cases ho; exact .inr rfl
    exact ⟨fun h => by have := h2 _ h; omega, fun g off e h0 h => by have := h2 _ h; have := HGL.out g off e h0; omega⟩)
  clear hbx hcb hbw hrw hmk
  refine wpIn_rangeFunc_X rfl (by omega) (gf := 56) (lb := #[.pointer (some ⟨w.heap.size + 1 + 1 + 1, 0, none⟩)]) rfl trivial (enters_of Try.func56 (by kernel_rfl) rfl) hseq (Below.refl _ _) (fun _ => rfl)
    (fun pre W => ReaSt w n W pre) (fun s W h => h.lies) ?hI HS0.out
    (fun x a' _ => a' = { tmps := #[.agg #[.int .i64 r, .slice a n c], .pointer (some ⟨w.heap.size, 0, none⟩), .slice none 0 0, .pointer (some ⟨w.heap.size + 1 + 1, 0, none⟩), .int .i64 x, .pointer (some ⟨w.heap.size, 1, none⟩), .slice a n c, .int .i64 n, .slice (some ⟨w.heap.size + 1, 0, none⟩) n n, .agg #[.int .i64 r, .slice a n c], .func (.func 56) #[] #[.pointer (some ⟨w.heap.size + 1 + 1 + 1, 0, none⟩)], .int .i64 x, undef, undef, undef, undef], defers := [] })
    (fun _ _ _ _ _ _ h _ _ => h) ?assign ?body ?ran
  case hI =>
    rintro s W W' row h hg hr
    exact h.grown hg (fun r e => ⟨by have := (hr r e).1; omega, (hr r e).2⟩)
  case assign =>
    rintro l pre x W K' hI hK'
    gi_wp2
    exact hK' _ _ (KeepX.refl _ _ _) hI rfl
  case body =>
    rintro l pre x a' W hl0 _ hS rfl hT hlen
    obtain ⟨j, rfl⟩ : ∃ j : Nat, x = j := Int.eq_ofNat_of_zero_le hT.1
    have hj : j < n := by have := hT.2; omega
    have hji : (j : Int) < (n : Int) := by omega
    have hv := Boxed.cell hS.box
    have hcj : W.cell? ⟨w.heap.size + 1, j, none⟩ = some (.bool (decide ((j : Int) ∈ pre))) := by
      have := World.ownsRow.cells hS.row rfl j _ (metVals_at (met := pre) hj)
      rwa [addr_plain, Nat.zero_add] at this
    have hfj := World.ownsRow.frozenAt hS.row j
    have HS := Lib.hid hS
    have HST := Lib.hid (World.ownsRow.stored hS.row j (.bool true))
    clear hS
    gi_wp2
    have hg := HST.out.2
    have hr := HST.out.1
    rw [metVals_more hj] at hr
    have hb2 : Boxed (W.setCell ⟨w.heap.size + 1, j, none⟩ (.bool true)) (w.heap.size + 2) 44 (.slice (some ⟨w.heap.size + 1, 0, none⟩) n n) := HS.out.box.kept hg (fun e => by have := Option.some.inj e; omega)
    have hS2 : ReaSt w n (W.setCell ⟨w.heap.size + 1, j, none⟩ (.bool true)) (pre ++ [(j : Int)]) := ⟨hb2, hr, HS.out.bel.setCell (p := ⟨w.heap.size + 1, j, none⟩) (by show w.heap.size ≤ w.heap.size + 1; omega) _, Nat.le_trans HS.out.siz hg.size⟩
    exact ⟨⟨hg.size, fun i hi hn => hg.block i hi (fun e => hn ((HS.out.owns i).2 (.inr (Option.some.inj e)))), fun i ho hi => (HS.out.owns i).2 ((hS2.owns i).1 ho)⟩, hS2⟩
  case ran =>
    rintro D ys U hD rfl hS hK
    have hv := Boxed.cell hS.box
    have HS := Lib.hid hS
    have HK := Lib.hid hK
    clear hS hK
    gi_wp2
    refine ⟨by simp, .inl ⟨_, _, rfl, run_takeDeferred HK.out, ?_⟩⟩
    have hfree := HS.out.lies.not HK.out rfl
    have h2 := HS.out.grown (grownBy_putObj' U D (.deferred none)) (fun r e => by cases e; exact ⟨by omega, hfree⟩)
    have hm : metVals n (orderL f).reverse = metVals n (orderL f) := by unfold metVals; simp
    refine ⟨_, results_tmp rfl _ _ _, w.heap.size + 1, rfl, ?_, h2.bel⟩
    have h3 := h2.row
    rw [hm] at h3
    exact ⟨h3.1, by
      rcases h3.2 with hn | ⟨g, cap, cur, e, hB, rest⟩
      · exact .inl hn
      · exact .inr ⟨g, cap, cur, e, by omega, rest⟩⟩
end Go.Proofs.Ytccajbgdlicbnaa
