/- What is kept when all but some blocks may have turned ('Off'); blocks that are known by their cells; a store of what lies there already. Nothing of the program is named here. -/
import Derived.Test.YtdnihphnoibpgaaDeepAt
import Derived.Maps.AppendAt
namespace Go.Proofs.Ytdnihphnoibpgaa
open Go.RowKit (wrap64 intOf Below)
set_option linter.unusedVariables false

structure Off (X : Nat → Prop) (w w' : World) : Prop where
  os : w'.os = w.os
  tape : w'.tape = w.tape
  output : w'.output = w.output
  size : w.heap.size ≤ w'.heap.size
  block : ∀ k, k < w.heap.size → ¬ X k → w'.heap[k]? = w.heap[k]?
section
variable {X Y : Nat → Prop} {a b c w w' : World}
theorem Off.refl (X : Nat → Prop) (w : World) : Off X w w := ⟨rfl, rfl, rfl, Nat.le_refl _, fun _ _ _ => rfl⟩
theorem Off.trans (h : Off X a b) (k : Off X b c) : Off X a c :=
  ⟨k.os.trans h.os, k.tape.trans h.tape, k.output.trans h.output, Nat.le_trans h.size k.size, fun i hi hx => (k.block i (Nat.lt_of_lt_of_le hi h.size) hx).trans (h.block i hi hx)⟩
/-- The second step may turn what has been made since, too. -/
theorem Off.trans_new (h : Off X a b) (k : Off Y b c) (hY : ∀ i, Y i → X i ∨ a.heap.size ≤ i) : Off X a c :=
  ⟨k.os.trans h.os, k.tape.trans h.tape, k.output.trans h.output, Nat.le_trans h.size k.size, fun i hi hx => (k.block i (Nat.lt_of_lt_of_le hi h.size) (fun hy => by rcases hY i hy with h' | h' <;> first | exact hx h' | omega)).trans (h.block i hi hx)⟩
theorem Off.mono (h : Off X a b) (hY : ∀ i, i < a.heap.size → X i → Y i) : Off Y a b :=
  ⟨h.os, h.tape, h.output, h.size, fun i hi hy => h.block i hi (fun hx => hy (hY i hi hx))⟩
theorem Off.of_below {B : Nat} (h : Below B a b) (hB : ∀ i, B ≤ i → i < a.heap.size → X i) : Off X a b :=
  ⟨h.os, h.tape, h.output, h.size, fun i hi hx => h.block i (Nat.lt_of_not_le fun h' => hx (hB i h' hi))⟩
theorem Off.since (h : Below a.heap.size a b) : Off X a b := Off.of_below h (fun i h1 h2 => absurd h2 (by omega))
theorem Off.below {B : Nat} (h : Off X a b) (hB : B ≤ a.heap.size) (hX : ∀ i, X i → B ≤ i) : Below B a b :=
  ⟨h.os, h.tape, h.output, h.size, fun i hi => h.block i (by omega) (fun hx => by have := hX i hx; omega)⟩
theorem Off.drew (h : Off X a b) : Off X a b.drew := ⟨h.os, h.tape, h.output, h.size, h.block⟩
theorem Off.drewN (h : Off X a b) (n : Nat) : Off X a (b.drewN n) := ⟨h.os, h.tape, h.output, h.size, h.block⟩
theorem Off.alloc (h : Off X a b) (o : Obj) : Off X a (b.alloc o) := h.trans (Off.since ((Below.refl _ _).alloc (Nat.le_refl _) o))
theorem Off.setCell (h : Off X a b) {p : Addr} (hp : X p.block ∨ a.heap.size ≤ p.block) (u : Value) : Off X a (b.setCell p u) :=
  ⟨h.os, h.tape, h.output, by simp only [World.setCell, Array.size_modify]; exact h.size, fun k hk hx => (Below.heap_setCell _ _ _ _ (fun e => by subst e; rcases hp with h' | h' <;> first | exact hx h' | omega)).trans (h.block k hk hx)⟩
theorem Off.grown {row : Option Nat} (h : Off X a b) (hg : b.grownBy c row) (hr : ∀ k, row = some k → X k ∨ a.heap.size ≤ k) : Off X a c :=
  h.trans_new (Y := fun k => row = some k) ⟨hg.os, hg.tape, hg.output, hg.size, fun k hk hx => hg.block k hk (fun e => hx e.symm)⟩ (fun i hi => hr i hi)
theorem Off.cell (h : Off X a b) {p : Addr} (hp : p.block < a.heap.size) (hx : ¬ X p.block) : b.cell? p = a.cell? p := World.cell?_of_block (h.block _ hp hx)
theorem Off.frozen (h : Off X a b) {p : Addr} (hp : p.block < a.heap.size) (hx : ¬ X p.block) : b.frozen? p = a.frozen? p := World.frozen?_of_block (h.block _ hp hx)
end

/-- A store of what lies there already turns nothing. -/
theorem setCell_same {w : World} {p : Addr} {v : Value} (h : w.cell? p = some v) : w.setCell p v = w := by
  have hh : (w.setCell p v).heap = w.heap := by
    apply Array.ext
    · simp [World.setCell]
    · intro i h1 h2
      simp only [World.setCell, Array.getElem_modify]
      split
      · rename_i he
        subst he
        unfold World.cell? at h
        rw [Array.getElem?_eq_getElem h2] at h
        revert h
        split
        · rename_i c e f hc
          intro h
          simp only [Option.some.injEq] at hc
          rw [hc]
          split at h
          · cases h
          · rename_i hs
            simp only [hs, if_false, Bool.false_eq_true]
            congr 1
            obtain ⟨hlt, rfl⟩ := Array.getElem?_eq_some_iff.1 h
            rw [Array.setIfInBounds_def, dif_pos hlt, Array.set_getElem_self]
        · intro h; cases h
      · rfl
  cases w
  simp only [World.setCell] at hh ⊢
  rw [hh]

/-- Block g's cells from off on are cs, and may be written. -/
def WinAt (w : World) (g off : Nat) (cs : List Value) : Prop :=
  ∃ cur T, w.heap[g]? = some (.cells cur T (0, 0)) ∧ ∀ j (h : j < cs.length), cur[off + j]? = some cs[j]
section
variable {w w' : World} {g off : Nat} {cs : List Value}
theorem WinAt.cell (h : WinAt w g off cs) {j : Nat} (hj : j < cs.length) : w.cell? ⟨g, off + j, none⟩ = some cs[j] := by
  obtain ⟨cur, T, hg, hc⟩ := h
  simp only [World.cell?, hg, Option.isSome_none, Bool.false_eq_true, if_false]
  exact hc j hj
theorem WinAt.free (h : WinAt w g off cs) (o : Nat) : w.frozen? ⟨g, o, none⟩ = false := by
  obtain ⟨cur, T, hg, hc⟩ := h
  simp [World.frozen?, hg]
theorem WinAt.lt (h : WinAt w g off cs) : g < w.heap.size := by
  obtain ⟨cur, T, hg, hc⟩ := h
  exact (Array.getElem?_eq_some_iff.1 hg).1
theorem WinAt.kept (h : WinAt w g off cs) (hb : w'.heap[g]? = w.heap[g]?) : WinAt w' g off cs := by
  obtain ⟨cur, T, hg, hc⟩ := h
  exact ⟨cur, T, hb.trans hg, hc⟩
theorem WinAt.stays {X : Nat → Prop} (h : WinAt w g off cs) (ho : Off X w w') (hx : ¬ X g) : WinAt w' g off cs := h.kept (ho.block g h.lt hx)
/-- A part of it. -/
theorem WinAt.part (h : WinAt w g off cs) (k n : Nat) (hk : k + n ≤ cs.length) : WinAt w g (off + k) ((cs.drop k).take n) := by
  obtain ⟨cur, T, hg, hc⟩ := h
  refine ⟨cur, T, hg, fun j hj => ?_⟩
  simp only [List.length_take, List.length_drop] at hj
  rw [Nat.add_assoc, hc (k + j) (by omega)]
  simp
end
theorem flatten_at {α : Type} {k : Nat} : ∀ (css : List (List α)), (∀ cs ∈ css, cs.length = k) → ∀ i (hi : i < css.length) j (hj : j < css[i].length), css.flatten[i * k + j]? = some css[i][j]
  | [], _, i, hi, _, _ => by simp at hi
  | cs :: css, hk, 0, hi, j, hj => by
    simp only [List.getElem_cons_zero] at hj
    simp only [List.flatten_cons, Nat.zero_mul, Nat.zero_add, List.getElem_cons_zero]
    rw [List.getElem?_append_left hj, List.getElem?_eq_getElem hj]
  | cs :: css, hk, i + 1, hi, j, hj => by
    have h0 : cs.length = k := hk cs (by simp)
    simp only [List.getElem_cons_succ] at hj
    have ih := flatten_at css (fun c hc => hk c (by simp [hc])) i (by simpa using hi) j hj
    simp only [List.flatten_cons, List.getElem_cons_succ]
    rw [List.getElem?_append_right (by rw [h0, Nat.succ_mul]; omega), h0, show (i + 1) * k + j - k = i * k + j by rw [Nat.succ_mul]; omega]
    exact ih
theorem flatten_len {α : Type} {k : Nat} : ∀ (css : List (List α)), (∀ cs ∈ css, cs.length = k) → css.flatten.length = css.length * k
  | [], _ => by simp
  | cs :: css, hk => by
    have ih := flatten_len css (fun c hc => hk c (by simp [hc]))
    simp only [List.flatten_cons, List.length_append, List.length_cons, ih, hk cs (by simp), Nat.succ_mul]
    omega
/-- A row of the call's own, element by element: block, and where. -/
theorem ownsRow_win {w : World} {base : Nat} {e : TypeId} {k : Nat} {v : Value} {n : Nat} {css : List (List Value)} (h : w.ownsRow base e k v n css.flatten) (hk : ∀ cs ∈ css, cs.length = k) {g : Nat} (hg : v.ownBlock = some g) {i : Nat} (hi : i < css.length) : WinAt w g (i * k) css[i] := by
  rcases h.2 with ⟨rfl, _⟩ | ⟨g', cap, cur, rfl, _, hgg, _, _, _, htake⟩
  · simp [Value.ownBlock] at hg
  · simp [Value.ownBlock] at hg
    subst hg
    refine ⟨cur, e, hgg, fun j hj => ?_⟩
    have hlen : css[i].length = k := hk _ (List.getElem_mem hi)
    have hfl := flatten_at css hk i hi j hj
    rw [← htake, List.getElem?_take] at hfl
    split at hfl
    · simpa using hfl
    · cases hfl
end Go.Proofs.Ytdnihphnoibpgaa
