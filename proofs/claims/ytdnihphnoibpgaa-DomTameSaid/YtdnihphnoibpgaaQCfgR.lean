/- Layer 7: package cfg's Reached: which blocks the walk leaves. -/
import Derived.Test.YtdnihphnoibpgaaQT2

namespace Go.Proofs.Ytdnihphnoibpgaa
open Go.RowKit
set_option linter.unusedVariables false
set_option linter.unusedSimpArgs false
attribute [local go_sem] Oper.semAt_some

/-- Where Reached stands. -/
structure ReaSt (w : World) (n : Nat) (W : World) (Z : List Int) : Prop where
  box : Boxed W (w.heap.size + 2) 79 (.slice (some ⟨w.heap.size + 1, 0, none⟩) n n)
  row : W.ownsRow (w.heap.size + 1) 4 1 (.slice (some ⟨w.heap.size + 1, 0, none⟩) n n) n (metVals n Z)
  bel : Below w.heap.size w W
  siz : w.heap.size + 4 ≤ W.heap.size
theorem ReaSt.owns {w W : World} {n : Nat} {Z : List Int} (h : ReaSt w n W Z) (i : Nat) : Owns (w.heap.size + 2) 79 W i ↔ i = w.heap.size + 2 ∨ i = w.heap.size + 1 := by
  constructor
  · rintro (hi | ⟨v, hb, hv⟩)
    · exact .inl hi
    · have h1 := hb; have h2 := h.box
      unfold Boxed at h1 h2
      rw [h1] at h2
      cases h2
      cases hv
      exact .inr rfl
  · rintro (hi | hi)
    · exact .inl hi
    · exact .inr ⟨_, h.box, by rw [hi]; rfl⟩
theorem ReaSt.blk {w W : World} {n : Nat} {Z : List Int} (h : ReaSt w n W Z) : ∃ cur, W.heap[w.heap.size + 1]? = some (.cells cur 4 (0, 0)) := by
  rcases h.row.2 with ⟨e, _⟩ | ⟨g, cap, cur, e, _, hh, _⟩
  · cases e
  · cases e; exact ⟨cur, hh⟩
theorem ReaSt.lies {w W : World} {n : Nat} {Z : List Int} (h : ReaSt w n W Z) : Lies (w.heap.size + 2) 79 W := by
  intro i hi
  rcases (h.owns i).1 hi with rfl | rfl
  · exact ⟨_, h.box, rfl⟩
  · obtain ⟨cur, hc⟩ := h.blk
    exact ⟨_, hc, rfl⟩
theorem ReaSt.grown {w W W' : World} {n : Nat} {Z : List Int} {row : Option Nat} (h : ReaSt w n W Z) (hg : W.grownBy W' row) (hr : ∀ r, row = some r → w.heap.size ≤ r ∧ ¬ Owns (w.heap.size + 2) 79 W r) : ReaSt w n W' Z :=
  ⟨h.box.kept hg (fun e => (hr _ e.symm).2 ((h.owns _).2 (.inl rfl))), World.ownsRow.kept h.row hg (.inr fun e => (hr _ e.symm).2 ((h.owns _).2 (.inr rfl))), h.bel.trans (Below.grown (Below.refl w.heap.size W) hg (by have := h.siz; omega) (fun k e => (hr k e).1)), Nat.le_trans h.siz hg.size⟩
end Go.Proofs.Ytdnihphnoibpgaa
