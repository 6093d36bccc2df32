/- Layer 5: two boxes that a call lays, and what is stored over them; whether two ends, two steps are one, in what plays a part. -/
import Derived.Test.YtnapechlgjcpbaaDoorQCodeCe
import Derived.Test.YtnapechlgjcpbaaDoorQKindPlainL
import Derived.Test.YtnapechlgjcpbaaDoorQKindPlainW
import Derived.Test.YtnapechlgjcpbaaDoorQKindRef

namespace Go.Proofs.YtnapechlgjcpbaaDoor
open Go.RowKit (wrap64 intOf Below)
set_option linter.unusedVariables false
set_option linter.unusedSimpArgs false

/-- A test comes back that is true just if p is. -/
def TruthPost (p : Prop) (w : World) (e : Ending) (w' : World) : Prop := ∃ b : Bool, e = .returned (.bool b) ∧ (b = true ↔ p) ∧ Below w.heap.size w w'
/-- Two blocks that the call has laid. -/
structure Laid2B (w : World) (t : TypeId) (C0 C1 : Array Value) (u : World) : Prop where
  bel : Below w.heap.size w u
  b0 : u.heap[w.heap.size]? = some (.cells C0 t (0, 0))
  b1 : u.heap[w.heap.size + 1]? = some (.cells C1 t (0, 0))
  size : w.heap.size + 2 ≤ u.heap.size
section
variable {w : World} {t : TypeId} {C0 C1 : Array Value} {u u' : World}
theorem Laid2B.start (w : World) (t : TypeId) (C0 C1 : Array Value) : Laid2B w t C0 C1 ((w.alloc (.cells C0 t)).alloc (.cells C1 t)) := by
  have h1 : (w.alloc (.cells C0 t)).heap.size = w.heap.size + 1 := by simp
  refine ⟨((Below.refl _ _).alloc (Nat.le_refl _) _).alloc (by omega) _, ?_, ?_, by simp⟩
  · exact (heap_alloc_old _ _ (by omega)).trans (heap_alloc_new w _)
  · rw [← h1]; exact heap_alloc_new _ _
theorem Laid2B.step {B : Nat} (h : Laid2B w t C0 C1 u) (hb : Below B u u') (hB : w.heap.size + 2 ≤ B) : Laid2B w t C0 C1 u' :=
  ⟨h.bel.trans (hb.mono (by omega)), (hb.block _ (by omega)).trans h.b0, (hb.block _ (by omega)).trans h.b1, Nat.le_trans h.size hb.size⟩
theorem Laid2B.drew (h : Laid2B w t C0 C1 u) : Laid2B w t C0 C1 u.drew := ⟨h.bel.drew, h.b0, h.b1, h.size⟩
theorem Laid2B.c0 (h : Laid2B w t C0 C1 u) (j : Nat) : u.cell? ⟨w.heap.size, j, Option.none⟩ = C0[j]? := by simp [World.cell?, h.b0]
theorem Laid2B.c1 (h : Laid2B w t C0 C1 u) (j : Nat) : u.cell? ⟨w.heap.size + 1, j, Option.none⟩ = C1[j]? := by simp [World.cell?, h.b1]
theorem Laid2B.f0 (h : Laid2B w t C0 C1 u) (j : Nat) : u.frozen? ⟨w.heap.size, j, Option.none⟩ = false := by simp [World.frozen?, h.b0]
theorem Laid2B.f1 (h : Laid2B w t C0 C1 u) (j : Nat) : u.frozen? ⟨w.heap.size + 1, j, Option.none⟩ = false := by simp [World.frozen?, h.b1]
end
theorem heap_far {u : World} {b k o : Nat} {v : Value} (h : k ≠ b) : (u.setCell ⟨b, o, Option.none⟩ v).heap[k]? = u.heap[k]? := Below.heap_setCell _ _ _ _ h
theorem over6 {u : World} {b : Nat} {C : Array Value} {T : TypeId} (h : u.heap[b]? = some (.cells C T (0, 0))) (hs : C.size = 6) (v0 v1 v2 v3 v4 v5 : Value) : ((((((u.setCell ⟨b, 0, Option.none⟩ v0).setCell ⟨b, 1, Option.none⟩ v1).setCell ⟨b, 2, Option.none⟩ v2).setCell ⟨b, 3, Option.none⟩ v3).setCell ⟨b, 4, Option.none⟩ v4).setCell ⟨b, 5, Option.none⟩ v5).heap[b]? = some (.cells #[v0, v1, v2, v3, v4, v5] T (0, 0)) := by
  obtain ⟨l⟩ := C
  match l, hs with
  | [c0, c1, c2, c3, c4, c5], _ => simp [World.setCell, Array.getElem?_modify, h]
theorem over6_far {u : World} {b k : Nat} (h : k ≠ b) (v0 v1 v2 v3 v4 v5 : Value) : ((((((u.setCell ⟨b, 0, Option.none⟩ v0).setCell ⟨b, 1, Option.none⟩ v1).setCell ⟨b, 2, Option.none⟩ v2).setCell ⟨b, 3, Option.none⟩ v3).setCell ⟨b, 4, Option.none⟩ v4).setCell ⟨b, 5, Option.none⟩ v5).heap[k]? = u.heap[k]? := by
  rw [heap_far h, heap_far h, heap_far h, heap_far h, heap_far h, heap_far h]
theorem over6_off {u : World} {b : Nat} {X : Nat → Prop} (h : X b) (v0 v1 v2 v3 v4 v5 : Value) : Off X u ((((((u.setCell ⟨b, 0, Option.none⟩ v0).setCell ⟨b, 1, Option.none⟩ v1).setCell ⟨b, 2, Option.none⟩ v2).setCell ⟨b, 3, Option.none⟩ v3).setCell ⟨b, 4, Option.none⟩ v4).setCell ⟨b, 5, Option.none⟩ v5) :=
  ((((((Off.refl X u).setCell (.inl h) _).setCell (.inl h) _).setCell (.inl h) _).setCell (.inl h) _).setCell (.inl h) _).setCell (.inl h) _
theorem Laid2B.over6 {w : World} {t : TypeId} {C0 C1 : Array Value} {u : World} (h : Laid2B w t C0 C1 u) (h0 : C0.size = 6) (h1 : C1.size = 6) (v0 v1 v2 v3 v4 v5 : Value) (r0 r1 r2 r3 r4 r5 : Value) : Laid2B w t #[v0, v1, v2, v3, v4, v5] #[r0, r1, r2, r3, r4, r5] ((((((((((((u.setCell ⟨w.heap.size, 0, Option.none⟩ v0).setCell ⟨w.heap.size, 1, Option.none⟩ v1).setCell ⟨w.heap.size, 2, Option.none⟩ v2).setCell ⟨w.heap.size, 3, Option.none⟩ v3).setCell ⟨w.heap.size, 4, Option.none⟩ v4).setCell ⟨w.heap.size, 5, Option.none⟩ v5).setCell ⟨(w.heap.size + 1), 0, Option.none⟩ r0).setCell ⟨(w.heap.size + 1), 1, Option.none⟩ r1).setCell ⟨(w.heap.size + 1), 2, Option.none⟩ r2).setCell ⟨(w.heap.size + 1), 3, Option.none⟩ r3).setCell ⟨(w.heap.size + 1), 4, Option.none⟩ r4).setCell ⟨(w.heap.size + 1), 5, Option.none⟩ r5) := by
  have ho : Off (fun k => k = w.heap.size ∨ k = w.heap.size + 1) u ((((((((((((u.setCell ⟨w.heap.size, 0, Option.none⟩ v0).setCell ⟨w.heap.size, 1, Option.none⟩ v1).setCell ⟨w.heap.size, 2, Option.none⟩ v2).setCell ⟨w.heap.size, 3, Option.none⟩ v3).setCell ⟨w.heap.size, 4, Option.none⟩ v4).setCell ⟨w.heap.size, 5, Option.none⟩ v5).setCell ⟨(w.heap.size + 1), 0, Option.none⟩ r0).setCell ⟨(w.heap.size + 1), 1, Option.none⟩ r1).setCell ⟨(w.heap.size + 1), 2, Option.none⟩ r2).setCell ⟨(w.heap.size + 1), 3, Option.none⟩ r3).setCell ⟨(w.heap.size + 1), 4, Option.none⟩ r4).setCell ⟨(w.heap.size + 1), 5, Option.none⟩ r5) := (over6_off (X := fun k => k = w.heap.size ∨ k = w.heap.size + 1) (.inl rfl) v0 v1 v2 v3 v4 v5).trans (over6_off (.inr rfl) r0 r1 r2 r3 r4 r5)
  have hs := h.size
  refine ⟨h.bel.trans (ho.below (by omega) (fun i hi => by rcases hi with rfl | rfl <;> omega)), ?_, ?_, Nat.le_trans h.size ho.size⟩
  · rw [over6_far (by omega)]; exact Go.Proofs.YtnapechlgjcpbaaDoor.over6 h.b0 h0 v0 v1 v2 v3 v4 v5
  · exact Go.Proofs.YtnapechlgjcpbaaDoor.over6 ((over6_far (by omega) v0 v1 v2 v3 v4 v5).trans h.b1) h1 r0 r1 r2 r3 r4 r5
theorem over6_both {w u : World} (v0 v1 v2 v3 v4 v5 : Value) (r0 r1 r2 r3 r4 r5 : Value) : Off (fun k => k = w.heap.size ∨ k = w.heap.size + 1) u ((((((((((((u.setCell ⟨w.heap.size, 0, Option.none⟩ v0).setCell ⟨w.heap.size, 1, Option.none⟩ v1).setCell ⟨w.heap.size, 2, Option.none⟩ v2).setCell ⟨w.heap.size, 3, Option.none⟩ v3).setCell ⟨w.heap.size, 4, Option.none⟩ v4).setCell ⟨w.heap.size, 5, Option.none⟩ v5).setCell ⟨(w.heap.size + 1), 0, Option.none⟩ r0).setCell ⟨(w.heap.size + 1), 1, Option.none⟩ r1).setCell ⟨(w.heap.size + 1), 2, Option.none⟩ r2).setCell ⟨(w.heap.size + 1), 3, Option.none⟩ r3).setCell ⟨(w.heap.size + 1), 4, Option.none⟩ r4).setCell ⟨(w.heap.size + 1), 5, Option.none⟩ r5) := (over6_off (X := fun k => k = w.heap.size ∨ k = w.heap.size + 1) (.inl rfl) v0 v1 v2 v3 v4 v5).trans (over6_off (.inr rfl) r0 r1 r2 r3 r4 r5)
theorem over8 {u : World} {b : Nat} {C : Array Value} {T : TypeId} (h : u.heap[b]? = some (.cells C T (0, 0))) (hs : C.size = 8) (v0 v1 v2 v3 v4 v5 v6 v7 : Value) : ((((((((u.setCell ⟨b, 0, Option.none⟩ v0).setCell ⟨b, 1, Option.none⟩ v1).setCell ⟨b, 2, Option.none⟩ v2).setCell ⟨b, 3, Option.none⟩ v3).setCell ⟨b, 4, Option.none⟩ v4).setCell ⟨b, 5, Option.none⟩ v5).setCell ⟨b, 6, Option.none⟩ v6).setCell ⟨b, 7, Option.none⟩ v7).heap[b]? = some (.cells #[v0, v1, v2, v3, v4, v5, v6, v7] T (0, 0)) := by
  obtain ⟨l⟩ := C
  match l, hs with
  | [c0, c1, c2, c3, c4, c5, c6, c7], _ => simp [World.setCell, Array.getElem?_modify, h]
theorem over8_far {u : World} {b k : Nat} (h : k ≠ b) (v0 v1 v2 v3 v4 v5 v6 v7 : Value) : ((((((((u.setCell ⟨b, 0, Option.none⟩ v0).setCell ⟨b, 1, Option.none⟩ v1).setCell ⟨b, 2, Option.none⟩ v2).setCell ⟨b, 3, Option.none⟩ v3).setCell ⟨b, 4, Option.none⟩ v4).setCell ⟨b, 5, Option.none⟩ v5).setCell ⟨b, 6, Option.none⟩ v6).setCell ⟨b, 7, Option.none⟩ v7).heap[k]? = u.heap[k]? := by
  rw [heap_far h, heap_far h, heap_far h, heap_far h, heap_far h, heap_far h, heap_far h, heap_far h]
theorem over8_off {u : World} {b : Nat} {X : Nat → Prop} (h : X b) (v0 v1 v2 v3 v4 v5 v6 v7 : Value) : Off X u ((((((((u.setCell ⟨b, 0, Option.none⟩ v0).setCell ⟨b, 1, Option.none⟩ v1).setCell ⟨b, 2, Option.none⟩ v2).setCell ⟨b, 3, Option.none⟩ v3).setCell ⟨b, 4, Option.none⟩ v4).setCell ⟨b, 5, Option.none⟩ v5).setCell ⟨b, 6, Option.none⟩ v6).setCell ⟨b, 7, Option.none⟩ v7) :=
  ((((((((Off.refl X u).setCell (.inl h) _).setCell (.inl h) _).setCell (.inl h) _).setCell (.inl h) _).setCell (.inl h) _).setCell (.inl h) _).setCell (.inl h) _).setCell (.inl h) _
theorem Laid2B.over8 {w : World} {t : TypeId} {C0 C1 : Array Value} {u : World} (h : Laid2B w t C0 C1 u) (h0 : C0.size = 8) (h1 : C1.size = 8) (v0 v1 v2 v3 v4 v5 v6 v7 : Value) (r0 r1 r2 r3 r4 r5 r6 r7 : Value) : Laid2B w t #[v0, v1, v2, v3, v4, v5, v6, v7] #[r0, r1, r2, r3, r4, r5, r6, r7] ((((((((((((((((u.setCell ⟨w.heap.size, 0, Option.none⟩ v0).setCell ⟨w.heap.size, 1, Option.none⟩ v1).setCell ⟨w.heap.size, 2, Option.none⟩ v2).setCell ⟨w.heap.size, 3, Option.none⟩ v3).setCell ⟨w.heap.size, 4, Option.none⟩ v4).setCell ⟨w.heap.size, 5, Option.none⟩ v5).setCell ⟨w.heap.size, 6, Option.none⟩ v6).setCell ⟨w.heap.size, 7, Option.none⟩ v7).setCell ⟨(w.heap.size + 1), 0, Option.none⟩ r0).setCell ⟨(w.heap.size + 1), 1, Option.none⟩ r1).setCell ⟨(w.heap.size + 1), 2, Option.none⟩ r2).setCell ⟨(w.heap.size + 1), 3, Option.none⟩ r3).setCell ⟨(w.heap.size + 1), 4, Option.none⟩ r4).setCell ⟨(w.heap.size + 1), 5, Option.none⟩ r5).setCell ⟨(w.heap.size + 1), 6, Option.none⟩ r6).setCell ⟨(w.heap.size + 1), 7, Option.none⟩ r7) := by
  have ho : Off (fun k => k = w.heap.size ∨ k = w.heap.size + 1) u ((((((((((((((((u.setCell ⟨w.heap.size, 0, Option.none⟩ v0).setCell ⟨w.heap.size, 1, Option.none⟩ v1).setCell ⟨w.heap.size, 2, Option.none⟩ v2).setCell ⟨w.heap.size, 3, Option.none⟩ v3).setCell ⟨w.heap.size, 4, Option.none⟩ v4).setCell ⟨w.heap.size, 5, Option.none⟩ v5).setCell ⟨w.heap.size, 6, Option.none⟩ v6).setCell ⟨w.heap.size, 7, Option.none⟩ v7).setCell ⟨(w.heap.size + 1), 0, Option.none⟩ r0).setCell ⟨(w.heap.size + 1), 1, Option.none⟩ r1).setCell ⟨(w.heap.size + 1), 2, Option.none⟩ r2).setCell ⟨(w.heap.size + 1), 3, Option.none⟩ r3).setCell ⟨(w.heap.size + 1), 4, Option.none⟩ r4).setCell ⟨(w.heap.size + 1), 5, Option.none⟩ r5).setCell ⟨(w.heap.size + 1), 6, Option.none⟩ r6).setCell ⟨(w.heap.size + 1), 7, Option.none⟩ r7) := (over8_off (X := fun k => k = w.heap.size ∨ k = w.heap.size + 1) (.inl rfl) v0 v1 v2 v3 v4 v5 v6 v7).trans (over8_off (.inr rfl) r0 r1 r2 r3 r4 r5 r6 r7)
  have hs := h.size
  refine ⟨h.bel.trans (ho.below (by omega) (fun i hi => by rcases hi with rfl | rfl <;> omega)), ?_, ?_, Nat.le_trans h.size ho.size⟩
  · rw [over8_far (by omega)]; exact Go.Proofs.YtnapechlgjcpbaaDoor.over8 h.b0 h0 v0 v1 v2 v3 v4 v5 v6 v7
  · exact Go.Proofs.YtnapechlgjcpbaaDoor.over8 ((over8_far (by omega) v0 v1 v2 v3 v4 v5 v6 v7).trans h.b1) h1 r0 r1 r2 r3 r4 r5 r6 r7
theorem over8_both {w u : World} (v0 v1 v2 v3 v4 v5 v6 v7 : Value) (r0 r1 r2 r3 r4 r5 r6 r7 : Value) : Off (fun k => k = w.heap.size ∨ k = w.heap.size + 1) u ((((((((((((((((u.setCell ⟨w.heap.size, 0, Option.none⟩ v0).setCell ⟨w.heap.size, 1, Option.none⟩ v1).setCell ⟨w.heap.size, 2, Option.none⟩ v2).setCell ⟨w.heap.size, 3, Option.none⟩ v3).setCell ⟨w.heap.size, 4, Option.none⟩ v4).setCell ⟨w.heap.size, 5, Option.none⟩ v5).setCell ⟨w.heap.size, 6, Option.none⟩ v6).setCell ⟨w.heap.size, 7, Option.none⟩ v7).setCell ⟨(w.heap.size + 1), 0, Option.none⟩ r0).setCell ⟨(w.heap.size + 1), 1, Option.none⟩ r1).setCell ⟨(w.heap.size + 1), 2, Option.none⟩ r2).setCell ⟨(w.heap.size + 1), 3, Option.none⟩ r3).setCell ⟨(w.heap.size + 1), 4, Option.none⟩ r4).setCell ⟨(w.heap.size + 1), 5, Option.none⟩ r5).setCell ⟨(w.heap.size + 1), 6, Option.none⟩ r6).setCell ⟨(w.heap.size + 1), 7, Option.none⟩ r7) := (over8_off (X := fun k => k = w.heap.size ∨ k = w.heap.size + 1) (.inl rfl) v0 v1 v2 v3 v4 v5 v6 v7).trans (over8_off (.inr rfl) r0 r1 r2 r3 r4 r5 r6 r7)
theorem EndQ.parts {w w' : World} {k1 x1 t1 l1 k2 x2 t2 l2 : Int} {p1 q1 p2 q2 : Value} {X Y : EndD} (hx : EndQ w [.int .i64 k1, .int .i64 x1, .int .i64 t1, .int .i64 l1, p1, q1] X) (hy : EndQ w' [.int .i64 k2, .int .i64 x2, .int .i64 t2, .int .i64 l2, p2, q2] Y) :
    X = Y ↔ k1 = k2 ∧ x1 = x2 ∧ t1 = t2 ∧ l1 = l2 ∧ X.L = Y.L ∧ X.M = Y.M := by
  obtain ⟨_, _, e, _⟩ := hx
  obtain ⟨_, _, f, _⟩ := hy
  obtain ⟨K, A, To, El, L, M⟩ := X
  obtain ⟨K', A', To', El', L', M'⟩ := Y
  simp only [List.cons.injEq, Value.int.injEq, true_and, and_true] at e f
  obtain ⟨rfl, rfl, rfl, rfl, _⟩ := e
  obtain ⟨rfl, rfl, rfl, rfl, _⟩ := f
  simp
theorem EndQ.numL {w : World} {k x t l : Int} {a b : Option Addr} {n c m d : Nat} {X : EndD} (h : EndQ w [.int .i64 k, .int .i64 x, .int .i64 t, .int .i64 l, .slice a n c, .slice b m d] X) : NumsAt w a n X.L ∧ n ≤ 140737488355328 := by
  obtain ⟨p, q, e, _, _, _, _, ⟨_, _, _, hp0, hp1, hp2, hp3, hp4⟩, _⟩ := h
  simp only [List.cons.injEq, true_and, and_true] at e
  obtain ⟨_, _, _, _, rfl, rfl⟩ := e
  cases hp0
  exact ⟨hp1, by omega⟩
theorem EndQ.numM {w : World} {k x t l : Int} {a b : Option Addr} {n c m d : Nat} {X : EndD} (h : EndQ w [.int .i64 k, .int .i64 x, .int .i64 t, .int .i64 l, .slice a n c, .slice b m d] X) : NumsAt w b m X.M ∧ m ≤ 140737488355328 := by
  obtain ⟨p, q, e, _, _, _, _, _, ⟨_, _, _, hp0, hp1, hp2, hp3, hp4⟩⟩ := h
  simp only [List.cons.injEq, true_and, and_true] at e
  obtain ⟨_, _, _, _, rfl, rfl⟩ := e
  cases hp0
  exact ⟨hp1, by omega⟩
theorem OpQ.parts {w w' : World} {k1 a1 b1 c1 n1 k2 a2 b2 c2 n2 : Int} {s1 s2 : ByteArray} {p1 p2 : Value} {t1 t2 : Bool} {X Y : OpD} (hx : OpQ w [.int .i64 k1, .int .i64 a1, .int .i64 b1, .int .i64 c1, .int .i64 n1, .string s1, p1, .bool t1] X) (hy : OpQ w' [.int .i64 k2, .int .i64 a2, .int .i64 b2, .int .i64 c2, .int .i64 n2, .string s2, p2, .bool t2] Y) :
    X = Y ↔ k1 = k2 ∧ a1 = a2 ∧ b1 = b2 ∧ c1 = c2 ∧ n1 = n2 ∧ s1 = s2 ∧ X.L = Y.L ∧ t1 = t2 := by
  obtain ⟨_, e, _⟩ := hx
  obtain ⟨_, f, _⟩ := hy
  obtain ⟨K, A, B, C, N, S, L, T⟩ := X
  obtain ⟨K', A', B', C', N', S', L', T'⟩ := Y
  simp only [List.cons.injEq, Value.int.injEq, Value.string.injEq, Value.bool.injEq, true_and, and_true] at e f
  obtain ⟨rfl, rfl, rfl, rfl, rfl, rfl, _, rfl⟩ := e
  obtain ⟨rfl, rfl, rfl, rfl, rfl, rfl, _, rfl⟩ := f
  simp
theorem OpQ.numL {w : World} {K A B C N : Int} {S : ByteArray} {a : Option Addr} {n c : Nat} {T : Bool} {X : OpD} (h : OpQ w [.int .i64 K, .int .i64 A, .int .i64 B, .int .i64 C, .int .i64 N, .string S, .slice a n c, .bool T] X) : NumsAt w a n X.L ∧ n ≤ 140737488355328 := by
  obtain ⟨p, e, _, _, _, _, _, _, ⟨_, _, _, hp0, hp1, hp2, hp3, hp4⟩⟩ := h
  simp only [List.cons.injEq, true_and, and_true] at e
  obtain ⟨_, _, _, _, _, _, rfl, _⟩ := e
  cases hp0
  exact ⟨hp1, by omega⟩
end Go.Proofs.YtnapechlgjcpbaaDoor

/- Layer 5: Copy's lists (gen/cpeach.py): of steps. -/
namespace Go.Proofs.YtnapechlgjcpbaaDoor
open Go.RowKit (wrap64 intOf Below)
set_option linter.unusedVariables false
set_option linter.unusedSimpArgs false
attribute [local go_sem ↓] Go.wp_at_zero Go.wp_at_succ

def OpPost (y : OpD) (w : World) (e : Ending) (w' : World) : Prop := ∃ k a b c n s va vn vc t, e = .returned (.agg #[.int .i64 k, .int .i64 a, .int .i64 b, .int .i64 c, .int .i64 n, .string s, .slice va vn vc, .bool t]) ∧
  OpO w' (From w.heap.size) [.int .i64 k, .int .i64 a, .int .i64 b, .int .i64 c, .int .i64 n, .string s, .slice va vn vc, .bool t] (plainOp y) ∧ Below w.heap.size w w'
theorem InR.pick {b : Bool} {z : Int} (h : InR z) : InR (pickI b z) := by
  cases b
  · exact InR.zero
  · exact h
theorem info_op : (Tryd.prog.info? 50).map (fun i => (i.zero, i.size, i.bytes)) = some (some (.agg #[.int .i64 0, .int .i64 0, .int .i64 0, .int .i64 0, .int .i64 0, .string ⟨#[]⟩, .slice none 0 0, .bool false]), 8, 88) := by kernel_rfl
/-- A list of the call's own comes back. -/
def EachopPost (xs : List OpD) (w : World) (e : Ending) (w' : World) : Prop := ∃ va vn vc, e = .returned (.slice va vn vc) ∧ RowO 50 8 OpO w' (From w.heap.size) (.slice va vn vc) (xs.map plainOp) ∧ Below w.heap.size w w'
end Go.Proofs.YtnapechlgjcpbaaDoor

/- Layer 5: a step without what plays no part: the document's Plain, and kind.Plain, of a step that is read. -/
namespace Go.Proofs.YtnapechlgjcpbaaDoor
open Go.RowKit (wrap64 intOf Below)
set_option linter.unusedVariables false
set_option linter.unusedSimpArgs false

theorem str_eq {a b : ByteArray} (h : a = b) : (a.toList == b.toList) = true := by rw [h]; exact beq_self_eq_true _
theorem str_ne {a b : ByteArray} (h : a ≠ b) : (a.toList == b.toList) = false := by
  rw [beq_eq_false_iff_ne]
  intro he
  have h1 := Lib.toList_data a
  have h2 := Lib.toList_data b
  rw [h1, h2] at he
  exact h (by cases a; cases b; simp at he; rw [he])
theorem ref_op_at (k a b c n : Int) (s : ByteArray) (pa : Option Addr) (pn pc : Nat) (t : Bool) (y : OpD) (w : World) (h : OpQ w [.int .i64 k, .int .i64 a, .int .i64 b, .int .i64 c, .int .i64 n, .string s, .slice pa pn pc, .bool t] y) :
    Calls Tryd.prog 67 #[.agg #[.int .i64 k, .int .i64 a, .int .i64 b, .int .i64 c, .int .i64 n, .string s, .slice pa pn pc, .bool t]] w (OpPost y w) := by
  obtain ⟨l, he, r1, r2, r3, r4, r5, r6, a', n', c', he2, hat, hnil, hn, hr⟩ := h
  simp only [List.cons.injEq, Value.int.injEq, Value.string.injEq, Value.bool.injEq, true_and, and_true] at he
  obtain ⟨rfl, rfl, rfl, rfl, rfl, rfl, he, rfl⟩ := he
  rw [← he] at he2
  cases he2
  have hl := hat.1
  refine (plain_any y.K y.A y.B y.C y.N y.S pa pn pc y.T y.L w hat hnil (by omega)).mono ?_
  rintro e w' ⟨va, vn, vc, rfl, hown, hb⟩
  refine ⟨_, _, _, _, _, _, va, vn, vc, _, rfl, ⟨_, rfl, r1, r2.pick, r3.pick, r4.pick, r5.pick, ?_, OwnsI.numsO hown ?_ ?_⟩, hb⟩
  · show (pickS _ y.S).size ≤ _
    unfold pickS
    split
    · exact r6
    · exact Nat.zero_le _
  · show (pickL _ y.L).length * 8 ≤ _
    unfold pickL
    split
    · rw [hl]; exact hn
    · exact Nat.zero_le _
  · intro z hz
    simp only [plainOp, pickL] at hz
    split at hz
    · exact hr z hz
    · cases hz
end Go.Proofs.YtnapechlgjcpbaaDoor

/- Layer 5: Copy's lists (gen/cpeach.py). -/
namespace Go.Proofs.YtnapechlgjcpbaaDoor
open Go.RowKit (wrap64 intOf Below)
set_option linter.unusedVariables false
set_option linter.unusedSimpArgs false
attribute [local go_sem ↓] Go.wp_at_zero Go.wp_at_succ

theorem set_far8 {u : World} {b o0 o1 o2 o3 o4 o5 o6 o7 : Nat} {v0 v1 v2 v3 v4 v5 v6 v7 : Value} {p : Addr} (h : p.block ≠ b) : ((((((((u.setCell ⟨b, o0, none⟩ v0).setCell ⟨b, o1, none⟩ v1).setCell ⟨b, o2, none⟩ v2).setCell ⟨b, o3, none⟩ v3).setCell ⟨b, o4, none⟩ v4).setCell ⟨b, o5, none⟩ v5).setCell ⟨b, o6, none⟩ v6).setCell ⟨b, o7, none⟩ v7).cell? p = u.cell? p := by
  rw [set_far h, set_far h, set_far h, set_far h, set_far h, set_far h, set_far h, set_far h]
theorem set_far2 {u : World} {b o0 o1 : Nat} {v0 v1 : Value} {p : Addr} (h : p.block ≠ b) : ((u.setCell ⟨b, o0, none⟩ v0).setCell ⟨b, o1, none⟩ v1).cell? p = u.cell? p := by
  rw [set_far h, set_far h]
def BlockPost (y : BlockD) (w : World) (e : Ending) (w' : World) : Prop := ∃ va vn vc ua un uc k x t l ta tn tc sa sn sc, e = .returned (.agg #[.slice va vn vc, .slice ua un uc, .int .i64 k, .int .i64 x, .int .i64 t, .int .i64 l, .slice ta tn tc, .slice sa sn sc]) ∧
  BlockO w' (From w.heap.size) [.slice va vn vc, .slice ua un uc, .int .i64 k, .int .i64 x, .int .i64 t, .int .i64 l, .slice ta tn tc, .slice sa sn sc] (plainBlock y) ∧ Below w.heap.size w w'
theorem RowO.past {α : Type} {T k : Nat} {Q : World → (Nat → Prop) → List Value → α → Prop} (hQ : Holds Q) {n : Nat} {u u' : World} {v : Value} {xs : List α} (h : RowO T k Q u (From (n + 2)) v xs) (ho : Off (fun b => b = n + 1) u u') : RowO T k Q u' (From n) v xs :=
  (h.off hQ ho (fun b hb e => by have : n + 2 ≤ b := hb; omega)).wider hQ (fun b _ hb => Nat.le_trans (by omega) hb)
theorem Holds.past {α : Type} {Q : World → (Nat → Prop) → List Value → α → Prop} (hQ : Holds Q) {n : Nat} {u u' : World} {cs : List Value} {x : α} (h : Q u (From (n + 2)) cs x) (ho : Off (fun b => b = n + 1) u u') : Q u' (From n) cs x :=
  hQ.wider (hQ.off h ho (fun b hb e => by have : n + 2 ≤ b := hb; omega)) (fun b _ hb => Nat.le_trans (by omega) hb)
end Go.Proofs.YtnapechlgjcpbaaDoor
