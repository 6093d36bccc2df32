/- A queue of numbers, of the call's own: a slice that may begin behind its array's first cell ('q = q[1:]'), and 'append' onto it. Nothing of the program is named here. -/
import Derived.Test.YtdnihphnoibpgaaIterBox
import Derived.Deep.AppendSrc
namespace Go.Proofs.Ytdnihphnoibpgaa
open Go.RowKit
set_option linter.unusedVariables false

def QAt (W : World) (B : Nat) (e : TypeId) (v : Value) (Z : List Int) : Prop :=
  ∃ g off cap cur, v = .slice (some ⟨g, off, none⟩) Z.length cap ∧ B ≤ g ∧ W.heap[g]? = some (.cells cur e (0, 0)) ∧ Z.length ≤ cap ∧ cap ≤ maxLen ∧ off + cap ≤ cur.size ∧ ∀ j (h : j < Z.length), cur[off + j]? = some (numV Z[j])
def qBlock : Value → Option Nat
  | .slice (some a) _ _ => some a.block
  | _ => none
theorem QAt.blk {W : World} {B : Nat} {e : TypeId} {v : Value} {Z : List Int} (h : QAt W B e v Z) : ∃ g cur, qBlock v = some g ∧ B ≤ g ∧ W.heap[g]? = some (.cells cur e (0, 0)) := by
  obtain ⟨g, off, cap, cur, rfl, hB, hg, _⟩ := h
  exact ⟨g, cur, rfl, hB, hg⟩
theorem QAt.kept {W W' : World} {B : Nat} {e : TypeId} {v : Value} {Z : List Int} (h : QAt W B e v Z) (hk : ∀ g, qBlock v = some g → W'.heap[g]? = W.heap[g]?) : QAt W' B e v Z := by
  obtain ⟨g, off, cap, cur, rfl, hB, hg, rest⟩ := h
  exact ⟨g, off, cap, cur, rfl, hB, (hk g rfl).trans hg, rest⟩
theorem QAt.lit {w : World} {B : Nat} {e : TypeId} {z : Int} (hB : B ≤ w.heap.size) : QAt (w.alloc (.cells #[.int .i64 z] e)) B e (.slice (some ⟨w.heap.size, 0, none⟩) 1 1) [z] :=
  ⟨w.heap.size, 0, 1, _, rfl, hB, World.alloc_heap_new w _, by simp, by decide, by simp, fun j hj => by
    have : j = 0 := by simp at hj; omega
    subst this
    rfl⟩
theorem QAt.head {W : World} {B : Nat} {e : TypeId} {g off n cap : Nat} {z : Int} {Z : List Int} (h : QAt W B e (.slice (some ⟨g, off, none⟩) n cap) (z :: Z)) : W.cell? ⟨g, off, none⟩ = some (.int .i64 z) ∧ n = Z.length + 1 ∧ Z.length + 1 ≤ cap ∧ cap ≤ maxLen := by
  obtain ⟨g', off', cap', cur, e', hB, hg, h1, h2, h3, h4⟩ := h
  cases e'
  refine ⟨?_, by simp, by simpa using h1, h2⟩
  have := h4 0 (by simp)
  simp only [World.cell?, hg, Option.isSome_none, Bool.false_eq_true, if_false]
  simpa [numV] using this
/-- 'q[1:]'. -/
theorem QAt.tail {W : World} {B : Nat} {e : TypeId} {g off n cap : Nat} {z : Int} {Z : List Int} (h : QAt W B e (.slice (some ⟨g, off, none⟩) n cap) (z :: Z)) : (cap = 1 → QAt W B e (.slice (some ⟨g, off, none⟩) 0 0) Z) ∧ QAt W B e (.slice (some ⟨g, off + 1, none⟩) (n - 1) (cap - 1)) Z := by
  obtain ⟨g', off', cap', cur, e', hB, hg, h1, h2, h3, h4⟩ := h
  cases e'
  have h5 : ∀ j (h : j < Z.length), cur[off + 1 + j]? = some (numV Z[j]) := fun j hj => by
    have := h4 (j + 1) (by simpa using hj)
    rw [show off + 1 + j = off + (j + 1) by omega]
    simpa using this
  refine ⟨fun hc => ?_, ?_⟩
  · have hz : Z = [] := List.eq_nil_of_length_eq_zero (by simp at h1; omega)
    subst hz
    exact ⟨g, off, 0, cur, rfl, hB, hg, Nat.le_refl _, by decide, by omega, fun j hj => absurd hj (by simp)⟩
  · exact ⟨g, off + 1, cap - 1, cur, by simp, hB, hg, by simp at h1 ⊢; omega, by omega, by simp at h1; omega, h5⟩
theorem run_append_q {P : Program} (w : World) (t ty e : TypeId) (ht : P.underlying t = some (.slice e))
    (hinfo : (P.info? e).map (fun i => (i.zero, i.size, i.bytes)) = some (some (.int .i64 0), 1, 8))
    (B : Nat) (v : Value) (Z : List Int) (h : QAt w B e v Z) (hB : B ≤ w.heap.size) (g c : Nat) (z : Int) (hz : w.cell? ⟨g, 0, none⟩ = some (.int .i64 z)) (hlen : (Z.length + 1) * 8 ≤ 140737488355328) :
    ∃ v' w', (Builtin.append_ #[t, t] ty #[v, .slice (some ⟨g, 0, none⟩) 1 c]).run P w = .ok v' w' ∧ QAt w' B e v' (Z ++ [z]) ∧ w.grownBy w' (qBlock v) ∧ (∀ i, qBlock v' = some i → qBlock v = some i ∨ w.heap.size ≤ i) := by
  obtain ⟨i0, hi, hz0, hz1, hz2⟩ := info_parts hinfo
  obtain ⟨q, off, cap, cur, rfl, hBq, hq, h1, h2, h3, h4⟩ := h
  have hnews : ∀ (j : Nat) (u : Value), ([.int .i64 z] : List Value)[j]? = some u → w.cell? ((⟨g, 0, none⟩ : Addr).add j) = some u := by
    intro j u hu
    obtain ⟨hj, rfl⟩ := List.getElem?_eq_some_iff.1 hu
    simp only [List.length_cons, List.length_nil] at hj
    obtain rfl : j = 0 := by omega
    simpa [Addr.add] using hz
  by_cases hr : Z.length + 1 ≤ cap
  · have hs := Src.ofSlice (P := P) w (size := i0.size) (tx := t) ht ⟨g, 0, none⟩ 1 c [.int .i64 z] (by rw [hz1]; rfl) hnews (by intro u hu; simp at hu; subst hu; rfl)
    have hcell : ∀ j, j < ([.int .i64 z] : List Value).length → (w.cell? ⟨q, off + Z.length * i0.size + j, none⟩).isSome = true := fun j hj => by
      simp only [World.cell?, hq, Option.isSome_none, Bool.false_eq_true, if_false]
      simp at hj
      rw [Array.getElem?_eq_getElem (by rw [hz1]; omega)]; rfl
    have hfr : ∀ j, j < ([.int .i64 z] : List Value).length → w.frozen? ⟨q, off + Z.length * i0.size + j, none⟩ = false := fun j hj => by simp [World.frozen?, hq]
    have hrun := run_append_room_src (P := P) w t t ty e i0 ht hi q off Z.length cap _ 1 _ hs hr hcell hfr
    refine ⟨_, _, hrun, ?_, ?_, fun i hi => .inl hi⟩
    · have hsz : (w.setCells q (off + Z.length * i0.size) [.int .i64 z]).heap[q]? = some (.cells (cur.setIfInBounds (off + Z.length) (.int .i64 z)) e (0, 0)) := by
        rw [hz1, Nat.mul_one]
        simp only [World.setCells]
        exact heap_setCell_same w q (off + Z.length) cur e _ hq
      refine ⟨q, off, cap, _, by simp, hBq, hsz, by simpa using hr, h2, by simpa using h3, fun j hj => ?_⟩
      rw [Array.getElem?_setIfInBounds]
      by_cases hjl : j < Z.length
      · rw [if_neg (by omega), h4 j hjl, List.getElem_append_left hjl]
      · have : j = Z.length := by simp at hj; omega
        subst this
        rw [if_pos rfl, if_pos (by omega)]
        simp [numV]
    · rw [hz1, Nat.mul_one]
      simp only [World.setCells]
      exact ⟨rfl, rfl, rfl, by simp [World.setCell], fun k hk hne => heap_setCell_other w ⟨q, off + Z.length, none⟩ k _ (fun e' => hne (by simp [qBlock, e']))⟩
  · have hrun := run_append_grow (P := P) (w := w) t ty e i0 (.int .i64 0) ht hi hz0 ⟨q, off, none⟩ Z.length cap (Z.map numV) (by rw [hz1]; simp) (fun j u hj => by
      rw [List.getElem?_map] at hj
      obtain ⟨x, hx, rfl⟩ := Option.map_eq_some_iff.1 hj
      obtain ⟨hjl, rfl⟩ := List.getElem?_eq_some_iff.1 hx
      rw [addr_plain]
      simp only [World.cell?, hq, Option.isSome_none, Bool.false_eq_true, if_false]
      exact h4 j hjl) ⟨g, 0, none⟩ 1 c [.int .i64 z] (by rw [hz1]; rfl) hnews (by omega) (by omega) (by rw [hz2]; exact growslice_fits (by omega) (by omega))
    have hge := grownCap_ge w (Z.length + 1) cap e
    have hcm : grownCap w (Z.length + 1) cap e ≤ maxLen := grownCap_le_maxLen w (Z.length + 1) cap e (by unfold maxLen; omega)
    refine ⟨_, _, hrun, ⟨w.heap.size, 0, _, _, by simp, hB, heap_alloc_new w.drew _, by simpa using hge, hcm, ?_, fun j hj => ?_⟩, ⟨rfl, rfl, rfl, by simp, fun k hk _ => heap_alloc_old w.drew _ hk⟩, fun i hi => .inr (by simp [qBlock] at hi; omega)⟩
    · have e1 : (Value.int .i64 0).cells.size = 1 := rfl
      simp [size_zeroCells, e1]
      omega
    · rw [Nat.zero_add, Array.getElem?_append_left (by simp at hj ⊢; omega)]
      by_cases hjl : j < Z.length
      · rw [Array.getElem?_append_left (by simpa using hjl)]
        simp [hjl]
      · have : j = Z.length := by simp at hj; omega
        subst this
        simp [numV]
theorem wpListIn_append_q {F : Fence} {n : Nat} {P : Program} (w : World) {ops : Array Oper} {rest : List Oper} {o : Oper} {a : Act} {Q : Exit → Act → World → Prop} (hgd : o.guard = none) (s x : Operand) (t : TypeId)
    (ho : o.op = .call { callee := .builtin .append, args := #[s, x], argTypes := #[t, t] }) (e : TypeId) (ht : P.underlying t = some (.slice e))
    (hinfo : (P.info? e).map (fun i => (i.zero, i.size, i.bytes)) = some (some (.int .i64 0), 1, 8))
    (B : Nat) (v : Value) (Z : List Int) (hs : a.eval s = v) (hown : QAt w B e v Z) (hB : B ≤ w.heap.size)
    (C : Array Value) (c g : Nat) (z : Int) (hx : a.eval x = .slice (some ⟨g, 0, none⟩) 1 c) (hg : g = w.heap.size) (hC : C = #[.int .i64 z])
    (hlen : (Z.length + 1) * 8 ≤ 140737488355328)
    (h : ∀ v' w', QAt w' B e v' (Z ++ [z]) → (w.alloc (.cells C e)).grownBy w' (qBlock v) → (∀ i, qBlock v' = some i → qBlock v = some i ∨ w.heap.size ≤ i) → wpListIn F n P ops Q rest (a.put o.dst v') w') : wpListIn F n P ops Q (o :: rest) a (w.alloc (.cells C e)) := by
  subst hC hg
  have hcell : (w.alloc (.cells #[.int .i64 z] e)).cell? ⟨w.heap.size, 0, none⟩ = some (.int .i64 z) := by rw [World.cell?_alloc_mark]; rfl
  have hown1 : QAt (w.alloc (.cells #[.int .i64 z] e)) B e v Z := hown.kept fun k hk => by
    obtain ⟨g, cur, e1, _, e2⟩ := hown.blk
    rw [hk] at e1; cases e1
    exact Below.heap_alloc _ _ _ (Array.getElem?_eq_some_iff.1 e2).1
  obtain ⟨v', w', hrun, r1, r2, r3⟩ := run_append_q (P := P) (w.alloc (.cells #[.int .i64 z] e)) t o.type e ht hinfo B v Z hown1 (by simp; omega) w.heap.size c z hcell hlen
  refine wpListIn_plain hgd fun K hK' => ?_
  unfold Oper.wpIn
  refine ⟨?_, ?_⟩
  · simp [Oper.about, ho, resolve, Target.leads, Sem.run_pure]
  · rw [Oper.semAt_plain F _ _ (by rw [ho]; intro c hc'; cases hc')]
    simp [execOp, ho, resolve, invoke, builtin, hs, hx, hrun, Result.andThen]
    exact hK' _ _ (h v' w' r1 r2 (fun i hi' => (r3 i hi').imp id (fun h' => by simp at h'; omega)))
end Go.Proofs.Ytdnihphnoibpgaa
