/- Layer 5: a window of cells that a reader's walk fills; the walk's whole with a reader. -/
import Derived.Test.YtdchhfdmingnaaaDoorFCodeRk

namespace Go.Proofs.YtdchhfdmingnaaaDoor
open Go.RowKit (wrap64 intOf Below)
set_option linter.unusedVariables false
set_option linter.unusedSimpArgs false
attribute [local go_sem ↓] Go.wp_at_zero Go.wp_at_succ
structure RWin (r g off k : Nat) (w w' : World) : Prop where
  os : w'.os = w.os
  tape : w'.tape = w.tape
  output : w'.output = w.output
  size : w.heap.size ≤ w'.heap.size
  block : ∀ b, b < w.heap.size → b ≠ r → b ≠ g → w'.heap[b]? = w.heap[b]?
  obj : ∃ cur cur' T, w.heap[g]? = some (.cells cur T (0, 0)) ∧ w'.heap[g]? = some (.cells cur' T (0, 0)) ∧ cur'.size = cur.size ∧ ∀ j, (j < off ∨ off + k ≤ j) → cur'[j]? = cur[j]?
section
variable {r g off k : Nat} {a b c w w' : World}
theorem RWin.of_off {cs : List Value} (h : Off (RX r) a b) (hw : WinAt a g off cs) (hg : g ≠ r) : RWin r g off k a b := by
  obtain ⟨cur, T, h1, _⟩ := hw
  exact ⟨h.os, h.tape, h.output, h.size, fun i hi h1 _ => h.block i hi h1, cur, cur, T, h1, (h.block g (Array.getElem?_eq_some_iff.1 h1).1 hg).trans h1, rfl, fun _ _ => rfl⟩
theorem RWin.trans (h : RWin r g off k a b) (h' : RWin r g off k b c) : RWin r g off k a c := by
  obtain ⟨c1, c2, T, e1, e2, e3, e4⟩ := h.obj
  obtain ⟨c3, c4, T', f1, f2, f3, f4⟩ := h'.obj
  rw [e2] at f1
  cases f1
  exact ⟨h'.os.trans h.os, h'.tape.trans h.tape, h'.output.trans h.output, Nat.le_trans h.size h'.size, fun i hi h1 h2 => (h'.block i (Nat.lt_of_lt_of_le hi h.size) h1 h2).trans (h.block i hi h1 h2), c1, c4, T, e1, f2, f3.trans e3, fun j hj => (f4 j hj).trans (e4 j hj)⟩
theorem RWin.wider {off' k' : Nat} (h : RWin r g off k a b) (h1 : off' ≤ off) (h2 : off + k ≤ off' + k') : RWin r g off' k' a b := by
  obtain ⟨c1, c2, T, e1, e2, e3, e4⟩ := h.obj
  exact ⟨h.os, h.tape, h.output, h.size, h.block, c1, c2, T, e1, e2, e3, fun j hj => e4 j (by omega)⟩
theorem RWin.set {cs : List Value} {j : Nat} {v : Value} (hw : WinAt a g off cs) (hj : j < cs.length) (hk : j < k) : RWin r g off k a (a.setCell ⟨g, off + j, none⟩ v) ∧ WinAt (a.setCell ⟨g, off + j, none⟩ v) g off (cs.set j v) := by
  obtain ⟨cur, T, h1, h2⟩ := hw
  have hb : (a.setCell ⟨g, off + j, none⟩ v).heap[g]? = some (.cells (cur.setIfInBounds (off + j) v) T (0, 0)) := by
    simp only [World.setCell, Array.getElem?_modify, if_pos, h1]
    simp
  have hlt : off + j < cur.size := by
    have := h2 j hj
    exact (Array.getElem?_eq_some_iff.1 this).1
  refine ⟨⟨rfl, rfl, rfl, by simp [World.setCell], fun i hi _ hg => Below.heap_setCell _ _ _ _ hg, cur, _, T, h1, hb, by simp, fun i hi => ?_⟩, _, T, hb, fun i hi => ?_⟩
  · rw [Array.getElem?_setIfInBounds]
    rw [if_neg (by omega)]
  · simp only [List.length_set] at hi
    rw [Array.getElem?_setIfInBounds, List.getElem_set]
    by_cases hij : j = i
    · subst hij; rw [if_pos rfl, if_pos hlt, if_pos rfl]
    · rw [if_neg (by omega), if_neg hij]; exact h2 i hi
end
theorem WinAt.whole {w : World} {g off : Nat} {cs cs' : List Value} {o n : Nat} (h : WinAt w g off cs) (h' : WinAt w g (off + o) cs') (hn : cs'.length = n) (ho : o + n ≤ cs.length) : WinAt w g off (cs.take o ++ cs' ++ cs.drop (o + n)) := by
  obtain ⟨cur, T, h1, h2⟩ := h
  obtain ⟨cur', T', h1', h2'⟩ := h'
  rw [h1] at h1'
  cases h1'
  refine ⟨cur, T, h1, fun j hj => ?_⟩
  have hl : (cs.take o).length = o := by rw [List.length_take]; omega
  by_cases hj1 : j < o
  · rw [h2 j (by omega), List.getElem_append_left (by rw [List.length_append, hl]; omega), List.getElem_append_left (by omega), List.getElem_take]
  · by_cases hj2 : j < o + n
    · have := h2' (j - o) (by omega)
      rw [show off + o + (j - o) = off + j by omega] at this
      rw [this, List.getElem_append_left (by rw [List.length_append, hl]; omega), List.getElem_append_right (by omega)]
      simp only [hl]
    · simp only [List.length_append, hl, List.length_drop, hn] at hj
      rw [h2 j (by omega), List.getElem_append_right (by rw [List.length_append, hl]; omega)]
      simp only [List.length_append, hl, hn, List.getElem_drop]
      congr 2
      omega
def IntQ (w : World) (S : Nat → Prop) (cs : List Value) (x : Int) : Prop := cs = [.int .i64 x] ∧ InR x
end Go.Proofs.YtdchhfdmingnaaaDoor
