/- Layer 5: two boxes that a call lays, and what is stored over them; whether two ends, two steps are one, in what plays a part. -/
import Derived.Test.YtfnkmigcklmghaaDoorQCodeCe
import Derived.Test.YtfnkmigcklmghaaDoorQKindPlainL
import Derived.Test.YtfnkmigcklmghaaDoorQKindPlainW
import Derived.Test.YtfnkmigcklmghaaDoorQKindRef

namespace Go.Proofs.YtfnkmigcklmghaaDoor
open Go.RowKit (wrap64 intOf Below)
set_option linter.unusedVariables false
set_option linter.unusedSimpArgs false

/-- A test comes back that is true just if p is. -/
def TruthPost (p : Prop) (w : World) (e : Ending) (w' : World) : Prop := ∃ b : Bool, e = .returned (.bool b) ∧ (b = true ↔ p) ∧ Below w.heap.size w w'
/-- Two blocks that the call has laid. -/
structure Laid2B (w : World) (t : TypeId) (C0 C1 : Array Value) (u : World) : Prop where
  bel : Below w.heap.size w u
  b0 : u.heap[w.heap.size]? = some (.cells C0 t (0, 0))
  b1 : u.heap[w.heap.size + 1]? = some (.cells C1 t (0, 0))
  size : w.heap.size + 2 ≤ u.heap.size
section
variable {w : World} {t : TypeId} {C0 C1 : Array Value} {u u' : World}
theorem Laid2B.start (w : World) (t : TypeId) (C0 C1 : Array Value) : Laid2B w t C0 C1 ((w.alloc (.cells C0 t)).alloc (.cells C1 t)) := by
  have h1 : (w.alloc (.cells C0 t)).heap.size = w.heap.size + 1 := by simp
  refine ⟨((Below.refl _ _).alloc (Nat.le_refl _) _).alloc (by omega) _, ?_, ?_, by simp⟩
  · exact (heap_alloc_old _ _ (by omega)).trans (heap_alloc_new w _)
  · rw [← h1]; exact heap_alloc_new _ _
theorem Laid2B.step {B : Nat} (h : Laid2B w t C0 C1 u) (hb : Below B u u') (hB : w.heap.size + 2 ≤ B) : Laid2B w t C0 C1 u' :=
  ⟨h.bel.trans (hb.mono (by omega)), (hb.block _ (by omega)).trans h.b0, (hb.block _ (by omega)).trans h.b1, Nat.le_trans h.size hb.size⟩
theorem Laid2B.drew (h : Laid2B w t C0 C1 u) : Laid2B w t C0 C1 u.drew := ⟨h.bel.drew, h.b0, h.b1, h.size⟩
theorem Laid2B.c0 (h : Laid2B w t C0 C1 u) (j : Nat) : u.cell? ⟨w.heap.size, j, Option.none⟩ = C0[j]? := by simp [World.cell?, h.b0]
theorem Laid2B.c1 (h : Laid2B w t C0 C1 u) (j : Nat) : u.cell? ⟨w.heap.size + 1, j, Option.none⟩ = C1[j]? := by simp [World.cell?, h.b1]
theorem Laid2B.f0 (h : Laid2B w t C0 C1 u) (j : Nat) : u.frozen? ⟨w.heap.size, j, Option.none⟩ = false := by simp [World.frozen?, h.b0]
theorem Laid2B.f1 (h : Laid2B w t C0 C1 u) (j : Nat) : u.frozen? ⟨w.heap.size + 1, j, Option.none⟩ = false := by simp [World.frozen?, h.b1]
end
theorem heap_far {u : World} {b k o : Nat} {v : Value} (h : k ≠ b) : (u.setCell ⟨b, o, Option.none⟩ v).heap[k]? = u.heap[k]? := Below.heap_setCell _ _ _ _ h
theorem over6 {u : World} {b : Nat} {C : Array Value} {T : TypeId} (h : u.heap[b]? = some (.cells C T (0, 0))) (hs : C.size = 6) (v0 v1 v2 v3 v4 v5 : Value) : ((((((u.setCell ⟨b, 0, Option.none⟩ v0).setCell ⟨b, 1, Option.none⟩ v1).setCell ⟨b, 2, Option.none⟩ v2).setCell ⟨b, 3, Option.none⟩ v3).setCell ⟨b, 4, Option.none⟩ v4).setCell ⟨b, 5, Option.none⟩ v5).heap[b]? = some (.cells #[v0, v1, v2, v3, v4, v5] T (0, 0)) := by
  obtain ⟨l⟩ := C
  match l, hs with
  | [c0, c1, c2, c3, c4, c5], _ => simp [World.setCell, Array.getElem?_modify, h]
theorem over6_far {u : World} {b k : Nat} (h : k ≠ b) (v0 v1 v2 v3 v4 v5 : Value) : ((((((u.setCell ⟨b, 0, Option.none⟩ v0).setCell ⟨b, 1, Option.none⟩ v1).setCell ⟨b, 2, Option.none⟩ v2).setCell ⟨b, 3, Option.none⟩ v3).setCell ⟨b, 4, Option.none⟩ v4).setCell ⟨b, 5, Option.none⟩ v5).heap[k]? = u.heap[k]? := by
  rw [heap_far h, heap_far h, heap_far h, heap_far h, heap_far h, heap_far h]
theorem over6_off {u : World} {b : Nat} {X : Nat → Prop} (h : X b) (v0 v1 v2 v3 v4 v5 : Value) : Off X u ((((((u.setCell ⟨b, 0, Option.none⟩ v0).setCell ⟨b, 1, Option.none⟩ v1).setCell ⟨b, 2, Option.none⟩ v2).setCell ⟨b, 3, Option.none⟩ v3).setCell ⟨b, 4, Option.none⟩ v4).setCell ⟨b, 5, Option.none⟩ v5) :=
  ((((((Off.refl X u).setCell (.inl h) _).setCell (.inl h) _).setCell (.inl h) _).setCell (.inl h) _).setCell (.inl h) _).setCell (.inl h) _
theorem Laid2B.over6 {w : World} {t : TypeId} {C0 C1 : Array Value} {u : World} (h : Laid2B w t C0 C1 u) (h0 : C0.size = 6) (h1 : C1.size = 6) (v0 v1 v2 v3 v4 v5 : Value) (r0 r1 r2 r3 r4 r5 : Value) : Laid2B w t #[v0, v1, v2, v3, v4, v5] #[r0, r1, r2, r3, r4, r5] ((((((((((((u.setCell ⟨w.heap.size, 0, Option.none⟩ v0).setCell ⟨w.heap.size, 1, Option.none⟩ v1).setCell ⟨w.heap.size, 2, Option.none⟩ v2).setCell ⟨w.heap.size, 3, Option.none⟩ v3).setCell ⟨w.heap.size, 4, Option.none⟩ v4).setCell ⟨w.heap.size, 5, Option.none⟩ v5).setCell ⟨(w.heap.size + 1), 0, Option.none⟩ r0).setCell ⟨(w.heap.size + 1), 1, Option.none⟩ r1).setCell ⟨(w.heap.size + 1), 2, Option.none⟩ r2).setCell ⟨(w.heap.size + 1), 3, Option.none⟩ r3).setCell ⟨(w.heap.size + 1), 4, Option.none⟩ r4).setCell ⟨(w.heap.size + 1), 5, Option.none⟩ r5) := by
  have ho : Off (fun k => k = w.heap.size ∨ k = w.heap.size + 1) u ((((((((((((u.setCell ⟨w.heap.size, 0, Option.none⟩ v0).setCell ⟨w.heap.size, 1, Option.none⟩ v1).setCell ⟨w.heap.size, 2, Option.none⟩ v2).setCell ⟨w.heap.size, 3, Option.none⟩ v3).setCell ⟨w.heap.size, 4, Option.none⟩ v4).setCell ⟨w.heap.size, 5, Option.none⟩ v5).setCell ⟨(w.heap.size + 1), 0, Option.none⟩ r0).setCell ⟨(w.heap.size + 1), 1, Option.none⟩ r1).setCell ⟨(w.heap.size + 1), 2, Option.none⟩ r2).setCell ⟨(w.heap.size + 1), 3, Option.none⟩ r3).setCell ⟨(w.heap.size + 1), 4, Option.none⟩ r4).setCell ⟨(w.heap.size + 1), 5, Option.none⟩ r5) := (over6_off (X := fun k => k = w.heap.size ∨ k = w.heap.size + 1) (.inl rfl) v0 v1 v2 v3 v4 v5).trans (over6_off (.inr rfl) r0 r1 r2 r3 r4 r5)
  have hs := h.size
  refine ⟨h.bel.trans (ho.below (by omega) (fun i hi => by rcases hi with rfl | rfl <;> omega)), ?_, ?_, Nat.le_trans h.size ho.size⟩
  · rw [over6_far (by omega)]; exact Go.Proofs.YtfnkmigcklmghaaDoor.over6 h.b0 h0 v0 v1 v2 v3 v4 v5
  · exact Go.Proofs.YtfnkmigcklmghaaDoor.over6 ((over6_far (by omega) v0 v1 v2 v3 v4 v5).trans h.b1) h1 r0 r1 r2 r3 r4 r5
theorem over6_both {w u : World} (v0 v1 v2 v3 v4 v5 : Value) (r0 r1 r2 r3 r4 r5 : Value) : Off (fun k => k = w.heap.size ∨ k = w.heap.size + 1) u ((((((((((((u.setCell ⟨w.heap.size, 0, Option.none⟩ v0).setCell ⟨w.heap.size, 1, Option.none⟩ v1).setCell ⟨w.heap.size, 2, Option.none⟩ v2).setCell ⟨w.heap.size, 3, Option.none⟩ v3).setCell ⟨w.heap.size, 4, Option.none⟩ v4).setCell ⟨w.heap.size, 5, Option.none⟩ v5).setCell ⟨(w.heap.size + 1), 0, Option.none⟩ r0).setCell ⟨(w.heap.size + 1), 1, Option.none⟩ r1).setCell ⟨(w.heap.size + 1), 2, Option.none⟩ r2).setCell ⟨(w.heap.size + 1), 3, Option.none⟩ r3).setCell ⟨(w.heap.size + 1), 4, Option.none⟩ r4).setCell ⟨(w.heap.size + 1), 5, Option.none⟩ r5) := (over6_off (X := fun k => k = w.heap.size ∨ k = w.heap.size + 1) (.inl rfl) v0 v1 v2 v3 v4 v5).trans (over6_off (.inr rfl) r0 r1 r2 r3 r4 r5)
theorem over8 {u : World} {b : Nat} {C : Array Value} {T : TypeId} (h : u.heap[b]? = some (.cells C T (0, 0))) (hs : C.size = 8) (v0 v1 v2 v3 v4 v5 v6 v7 : Value) : ((((((((u.setCell ⟨b, 0, Option.none⟩ v0).setCell ⟨b, 1, Option.none⟩ v1).setCell ⟨b, 2, Option.none⟩ v2).setCell ⟨b, 3, Option.none⟩ v3).setCell ⟨b, 4, Option.none⟩ v4).setCell ⟨b, 5, Option.none⟩ v5).setCell ⟨b, 6, Option.none⟩ v6).setCell ⟨b, 7, Option.none⟩ v7).heap[b]? = some (.cells #[v0, v1, v2, v3, v4, v5, v6, v7] T (0, 0)) := by
  obtain ⟨l⟩ := C
  match l, hs with
  | [c0, c1, c2, c3, c4, c5, c6, c7], _ => simp [World.setCell, Array.getElem?_modify, h]
theorem over8_far {u : World} {b k : Nat} (h : k ≠ b) (v0 v1 v2 v3 v4 v5 v6 v7 : Value) : ((((((((u.setCell ⟨b, 0, Option.none⟩ v0).setCell ⟨b, 1, Option.none⟩ v1).setCell ⟨b, 2, Option.none⟩ v2).setCell ⟨b, 3, Option.none⟩ v3).setCell ⟨b, 4, Option.none⟩ v4).setCell ⟨b, 5, Option.none⟩ v5).setCell ⟨b, 6, Option.none⟩ v6).setCell ⟨b, 7, Option.none⟩ v7).heap[k]? = u.heap[k]? := by
  rw [heap_far h, heap_far h, heap_far h, heap_far h, heap_far h, heap_far h, heap_far h, heap_far h]
theorem over8_off {u : World} {b : Nat} {X : Nat → Prop} (h : X b) (v0 v1 v2 v3 v4 v5 v6 v7 : Value) : Off X u ((((((((u.setCell ⟨b, 0, Option.none⟩ v0).setCell ⟨b, 1, Option.none⟩ v1).setCell ⟨b, 2, Option.none⟩ v2).setCell ⟨b, 3, Option.none⟩ v3).setCell ⟨b, 4, Option.none⟩ v4).setCell ⟨b, 5, Option.none⟩ v5).setCell ⟨b, 6, Option.none⟩ v6).setCell ⟨b, 7, Option.none⟩ v7) :=
  ((((((((Off.refl X u).setCell (.inl h) _).setCell (.inl h) _).setCell (.inl h) _).setCell (.inl h) _).setCell (.inl h) _).setCell (.inl h) _).setCell (.inl h) _).setCell (.inl h) _
theorem Laid2B.over8 {w : World} {t : TypeId} {C0 C1 : Array Value} {u : World} (h : Laid2B w t C0 C1 u) (h0 : C0.size = 8) (h1 : C1.size = 8) (v0 v1 v2 v3 v4 v5 v6 v7 : Value) (r0 r1 r2 r3 r4 r5 r6 r7 : Value) : Laid2B w t #[v0, v1, v2, v3, v4, v5, v6, v7] #[r0, r1, r2, r3, r4, r5, r6, r7] ((((((((((((((((u.setCell ⟨w.heap.size, 0, Option.none⟩ v0).setCell ⟨w.heap.size, 1, Option.none⟩ v1).setCell ⟨w.heap.size, 2, Option.none⟩ v2).setCell ⟨w.heap.size, 3, Option.none⟩ v3).setCell ⟨w.heap.size, 4, Option.none⟩ v4).setCell ⟨w.heap.size, 5, Option.none⟩ v5).setCell ⟨w.heap.size, 6, Option.none⟩ v6).setCell ⟨w.heap.size, 7, Option.none⟩ v7).setCell ⟨(w.heap.size + 1), 0, Option.none⟩ r0).setCell ⟨(w.heap.size + 1), 1, Option.none⟩ r1).setCell ⟨(w.heap.size + 1), 2, Option.none⟩ r2).setCell ⟨(w.heap.size + 1), 3, Option.none⟩ r3).setCell ⟨(w.heap.size + 1), 4, Option.none⟩ r4).setCell ⟨(w.heap.size + 1), 5, Option.none⟩ r5).setCell ⟨(w.heap.size + 1), 6, Option.none⟩ r6).setCell ⟨(w.heap.size + 1), 7, Option.none⟩ r7) := by
  have ho : Off (fun k => k = w.heap.size ∨ k = w.heap.size + 1) u ((((((((((((((((u.setCell ⟨w.heap.size, 0, Option.none⟩ v0).setCell ⟨w.heap.size, 1, Option.none⟩ v1).setCell ⟨w.heap.size, 2, Option.none⟩ v2).setCell ⟨w.heap.size, 3, Option.none⟩ v3).setCell ⟨w.heap.size, 4, Option.none⟩ v4).setCell ⟨w.heap.size, 5, Option.none⟩ v5).setCell ⟨w.heap.size, 6, Option.none⟩ v6).setCell ⟨w.heap.size, 7, Option.none⟩ v7).setCell ⟨(w.heap.size + 1), 0, Option.none⟩ r0).setCell ⟨(w.heap.size + 1), 1, Option.none⟩ r1).setCell ⟨(w.heap.size + 1), 2, Option.none⟩ r2).setCell ⟨(w.heap.size + 1), 3, Option.none⟩ r3).setCell ⟨(w.heap.size + 1), 4, Option.none⟩ r4).setCell ⟨(w.heap.size + 1), 5, Option.none⟩ r5).setCell ⟨(w.heap.size + 1), 6, Option.none⟩ r6).setCell ⟨(w.heap.size + 1), 7, Option.none⟩ r7) := (over8_off (X := fun k => k = w.heap.size ∨ k = w.heap.size + 1) (.inl rfl) v0 v1 v2 v3 v4 v5 v6 v7).trans (over8_off (.inr rfl) r0 r1 r2 r3 r4 r5 r6 r7)
  have hs := h.size
  refine ⟨h.bel.trans (ho.below (by omega) (fun i hi => by rcases hi with rfl | rfl <;> omega)), ?_, ?_, Nat.le_trans h.size ho.size⟩
  · rw [over8_far (by omega)]; exact Go.Proofs.YtfnkmigcklmghaaDoor.over8 h.b0 h0 v0 v1 v2 v3 v4 v5 v6 v7
  · exact Go.Proofs.YtfnkmigcklmghaaDoor.over8 ((over8_far (by omega) v0 v1 v2 v3 v4 v5 v6 v7).trans h.b1) h1 r0 r1 r2 r3 r4 r5 r6 r7
theorem over8_both {w u : World} (v0 v1 v2 v3 v4 v5 v6 v7 : Value) (r0 r1 r2 r3 r4 r5 r6 r7 : Value) : Off (fun k => k = w.heap.size ∨ k = w.heap.size + 1) u ((((((((((((((((u.setCell ⟨w.heap.size, 0, Option.none⟩ v0).setCell ⟨w.heap.size, 1, Option.none⟩ v1).setCell ⟨w.heap.size, 2, Option.none⟩ v2).setCell ⟨w.heap.size, 3, Option.none⟩ v3).setCell ⟨w.heap.size, 4, Option.none⟩ v4).setCell ⟨w.heap.size, 5, Option.none⟩ v5).setCell ⟨w.heap.size, 6, Option.none⟩ v6).setCell ⟨w.heap.size, 7, Option.none⟩ v7).setCell ⟨(w.heap.size + 1), 0, Option.none⟩ r0).setCell ⟨(w.heap.size + 1), 1, Option.none⟩ r1).setCell ⟨(w.heap.size + 1), 2, Option.none⟩ r2).setCell ⟨(w.heap.size + 1), 3, Option.none⟩ r3).setCell ⟨(w.heap.size + 1), 4, Option.none⟩ r4).setCell ⟨(w.heap.size + 1), 5, Option.none⟩ r5).setCell ⟨(w.heap.size + 1), 6, Option.none⟩ r6).setCell ⟨(w.heap.size + 1), 7, Option.none⟩ r7) := (over8_off (X := fun k => k = w.heap.size ∨ k = w.heap.size + 1) (.inl rfl) v0 v1 v2 v3 v4 v5 v6 v7).trans (over8_off (.inr rfl) r0 r1 r2 r3 r4 r5 r6 r7)
theorem EndQ.parts {w w' : World} {k1 x1 t1 l1 k2 x2 t2 l2 : Int} {p1 q1 p2 q2 : Value} {X Y : EndD} (hx : EndQ w [.int .i64 k1, .int .i64 x1, .int .i64 t1, .int .i64 l1, p1, q1] X) (hy : EndQ w' [.int .i64 k2, .int .i64 x2, .int .i64 t2, .int .i64 l2, p2, q2] Y) :
    X = Y ↔ k1 = k2 ∧ x1 = x2 ∧ t1 = t2 ∧ l1 = l2 ∧ X.L = Y.L ∧ X.M = Y.M := by
  obtain ⟨_, _, e, _⟩ := hx
  obtain ⟨_, _, f, _⟩ := hy
  obtain ⟨K, A, To, El, L, M⟩ := X
  obtain ⟨K', A', To', El', L', M'⟩ := Y
  simp only [List.cons.injEq, Value.int.injEq, true_and, and_true] at e f
  obtain ⟨rfl, rfl, rfl, rfl, _⟩ := e
  obtain ⟨rfl, rfl, rfl, rfl, _⟩ := f
  simp
theorem EndQ.numL {w : World} {k x t l : Int} {a b : Option Addr} {n c m d : Nat} {X : EndD} (h : EndQ w [.int .i64 k, .int .i64 x, .int .i64 t, .int .i64 l, .slice a n c, .slice b m d] X) : NumsAt w a n X.L ∧ n ≤ 140737488355328 := by
  obtain ⟨p, q, e, _, _, _, _, ⟨_, _, _, hp0, hp1, hp2, hp3, hp4⟩, _⟩ := h
  simp only [List.cons.injEq, true_and, and_true] at e
  obtain ⟨_, _, _, _, rfl, rfl⟩ := e
  cases hp0
  exact ⟨hp1, by omega⟩
theorem EndQ.numM {w : World} {k x t l : Int} {a b : Option Addr} {n c m d : Nat} {X : EndD} (h : EndQ w [.int .i64 k, .int .i64 x, .int .i64 t, .int .i64 l, .slice a n c, .slice b m d] X) : NumsAt w b m X.M ∧ m ≤ 140737488355328 := by
  obtain ⟨p, q, e, _, _, _, _, _, ⟨_, _, _, hp0, hp1, hp2, hp3, hp4⟩⟩ := h
  simp only [List.cons.injEq, true_and, and_true] at e
  obtain ⟨_, _, _, _, rfl, rfl⟩ := e
  cases hp0
  exact ⟨hp1, by omega⟩
theorem OpQ.parts {w w' : World} {k1 a1 b1 c1 n1 k2 a2 b2 c2 n2 : Int} {s1 s2 : ByteArray} {p1 p2 : Value} {t1 t2 : Bool} {X Y : OpD} (hx : OpQ w [.int .i64 k1, .int .i64 a1, .int .i64 b1, .int .i64 c1, .int .i64 n1, .string s1, p1, .bool t1] X) (hy : OpQ w' [.int .i64 k2, .int .i64 a2, .int .i64 b2, .int .i64 c2, .int .i64 n2, .string s2, p2, .bool t2] Y) :
    X = Y ↔ k1 = k2 ∧ a1 = a2 ∧ b1 = b2 ∧ c1 = c2 ∧ n1 = n2 ∧ s1 = s2 ∧ X.L = Y.L ∧ t1 = t2 := by
  obtain ⟨_, e, _⟩ := hx
  obtain ⟨_, f, _⟩ := hy
  obtain ⟨K, A, B, C, N, S, L, T⟩ := X
  obtain ⟨K', A', B', C', N', S', L', T'⟩ := Y
  simp only [List.cons.injEq, Value.int.injEq, Value.string.injEq, Value.bool.injEq, true_and, and_true] at e f
  obtain ⟨rfl, rfl, rfl, rfl, rfl, rfl, _, rfl⟩ := e
  obtain ⟨rfl, rfl, rfl, rfl, rfl, rfl, _, rfl⟩ := f
  simp
theorem OpQ.numL {w : World} {K A B C N : Int} {S : ByteArray} {a : Option Addr} {n c : Nat} {T : Bool} {X : OpD} (h : OpQ w [.int .i64 K, .int .i64 A, .int .i64 B, .int .i64 C, .int .i64 N, .string S, .slice a n c, .bool T] X) : NumsAt w a n X.L ∧ n ≤ 140737488355328 := by
  obtain ⟨p, e, _, _, _, _, _, _, ⟨_, _, _, hp0, hp1, hp2, hp3, hp4⟩⟩ := h
  simp only [List.cons.injEq, true_and, and_true] at e
  obtain ⟨_, _, _, _, _, _, rfl, _⟩ := e
  cases hp0
  exact ⟨hp1, by omega⟩
end Go.Proofs.YtfnkmigcklmghaaDoor

/- Layer 5: Copy's lists (gen/cpeach.py): of steps. -/
namespace Go.Proofs.YtfnkmigcklmghaaDoor
open Go.RowKit (wrap64 intOf Below)
set_option linter.unusedVariables false
set_option linter.unusedSimpArgs false
attribute [local go_sem ↓] Go.wp_at_zero Go.wp_at_succ

def OpPost (y : OpD) (w : World) (e : Ending) (w' : World) : Prop := ∃ k a b c n s va vn vc t, e = .returned (.agg #[.int .i64 k, .int .i64 a, .int .i64 b, .int .i64 c, .int .i64 n, .string s, .slice va vn vc, .bool t]) ∧
  OpO w' (From w.heap.size) [.int .i64 k, .int .i64 a, .int .i64 b, .int .i64 c, .int .i64 n, .string s, .slice va vn vc, .bool t] (plainOp y) ∧ Below w.heap.size w w'
theorem InR.pick {b : Bool} {z : Int} (h : InR z) : InR (pickI b z) := by
  cases b
  · exact InR.zero
  · exact h
theorem op_plain (pa : Option Addr) (pn pc : Nat) (y : OpD) (w : World) (h : OpQ w [.int .i64 y.K, .int .i64 y.A, .int .i64 y.B, .int .i64 y.C, .int .i64 y.N, .string y.S, .slice pa pn pc, .bool y.T] y) (hft : FT w) :
    Calls Tryd.prog 101 #[.agg #[.int .i64 y.K, .int .i64 y.A, .int .i64 y.B, .int .i64 y.C, .int .i64 y.N, .string y.S, .slice pa pn pc, .bool y.T]] w (OpPost y w) := by
  obtain ⟨l, he, r1, r2, r3, r4, r5, r6, a, n, c, he2, hat, hnil, hn, hr⟩ := h
  simp only [List.cons.injEq, true_and, and_true] at he
  rw [← he] at he2
  cases he2
  have hl := hat.1
  refine (kplain_any y.K y.A y.B y.C y.N y.S pa pn pc y.T y.L w hft hat hnil (by omega)).mono ?_
  rintro e w' ⟨va, vn, vc, rfl, hown, hb⟩
  refine ⟨_, _, _, _, _, _, va, vn, vc, _, rfl, ⟨_, rfl, r1, r2.pick, r3.pick, r4.pick, r5.pick, ?_, OwnsI.numsO hown ?_ ?_⟩, hb⟩
  · show (pickS _ y.S).size ≤ _
    unfold pickS
    split
    · exact r6
    · exact Nat.zero_le _
  · show (pickL _ y.L).length * 8 ≤ _
    unfold pickL
    split
    · rw [hl]; exact hn
    · simp
  · intro z hz
    have hz : z ∈ pickL (hasB y.K 76) y.L := hz
    unfold pickL at hz
    split at hz
    · exact hr z hz
    · cases hz

theorem info_op : (Tryd.prog.info? 38).map (fun i => (i.zero, i.size, i.bytes)) = some (some (.agg #[.int .i64 0, .int .i64 0, .int .i64 0, .int .i64 0, .int .i64 0, .string ⟨#[]⟩, .slice none 0 0, .bool false]), 8, 88) := by kernel_rfl
/-- A list of the call's own comes back. -/
def EachopPost (xs : List OpD) (w : World) (e : Ending) (w' : World) : Prop := ∃ va vn vc, e = .returned (.slice va vn vc) ∧ RowO 38 8 OpO w' (From w.heap.size) (.slice va vn vc) (xs.map plainOp) ∧ Below w.heap.size w w'
set_option maxRecDepth 100000 in
set_option maxHeartbeats 2000000 in
theorem each_op (a : Option Addr) (n c : Nat) (xs : List OpD) (w : World) (h : RowV OpQ 8 w (.slice a n c) xs) (hlen : xs.length ≤ 100000) (hft : FT w) :
    Calls Tryd.prog 100 #[.slice a n c, .func (.func 101) #[] #[]] w (EachopPost xs w) := by
  obtain ⟨a', c', g, off, he, hnil, hcap, hg⟩ := h.cells
  cases he
  have HG := Lib.hid hg
  have HLN := Lib.hid hlen
  obtain ⟨ln, hln⟩ : ∃ ln, ln = xs.length := ⟨_, rfl⟩
  have HL := Lib.hid hln
  rw [← hln] at hlen
  have hcap' : ln ≤ 140737488351232 := by omega
  have HFT := Lib.hid hft
  clear hft
  clear hg hln h
  rw [← HL.out]
  go_enter Tryd.func100, Tryd.ntmps100
  go_wp2_with fail
  go_loopw [5, 10] (fun sv iv wr => ∃ (k : Nat) (va : Option Addr) (vn vc : Nat), k ≤ ln ∧ iv = .int .i64 (k : Int) ∧ sv = .slice va vn vc ∧ RowKit.Hid (RowO 38 8 OpO wr (From w.heap.size) (.slice va vn vc) ((xs.take k).map plainOp) ∧ Below w.heap.size w wr)) (fun _ iv _ => ln - (intOf iv).toNat)
  case atStart => exact ⟨0, none, 0, 0, Nat.zero_le _, rfl, rfl, Lib.hid ⟨RowO.none _ _, Below.refl _ _⟩⟩
  case round =>
    obtain ⟨k, va, vn, vc, hk, rfl, rfl, HR⟩ := hrel
    by_cases hlt : k < ln
    · have hkx : k < xs.length := by rw [← HL.out]; exact hlt
      obtain ⟨rfl, hgl, hcs⟩ := HG.out (by omega)
      obtain ⟨cs, hc8, hcell, hq⟩ := hcs k hkx
      replace hq := OpQ.lasts _ _ _ _ HR.out.2 hq
      replace hcell : ∀ j (hj : j < cs.length), wr.cell? ⟨g, off + k * 8 + j, none⟩ = some cs[j] := fun j hj => (HR.out.2.cell (p := ⟨g, off + k * 8 + j, none⟩) hgl).trans (hcell j hj)
      obtain ⟨y, hy⟩ : ∃ y, y = xs[k] := ⟨_, rfl⟩
      rw [← hy] at hq
      have HY := Lib.hid hy
      obtain ⟨pv, rfl, r1, r2, r3, r4, r5, r6, hpv⟩ := hq
      obtain ⟨pa, pn, pc, rfl, hpv'⟩ := hpv
      have hq : OpQ wr [.int .i64 y.K, .int .i64 y.A, .int .i64 y.B, .int .i64 y.C, .int .i64 y.N, .string y.S, .slice pa pn pc, .bool y.T] y := ⟨_, rfl, r1, r2, r3, r4, r5, r6, ⟨pa, pn, pc, rfl, hpv'⟩⟩
      clear hpv' r1 r2 r3 r4 r5 r6
      have hc0 := hcell 0 (by simp)
      have hc1 := hcell 1 (by simp)
      have hc2 := hcell 2 (by simp)
      have hc3 := hcell 3 (by simp)
      have hc4 := hcell 4 (by simp)
      have hc5 := hcell 5 (by simp)
      have hc6 := hcell 6 (by simp)
      have hc7 := hcell 7 (by simp)
      simp only [Nat.add_zero, List.getElem_cons_zero, List.getElem_cons_succ] at hc0 hc1 hc2 hc3 hc4 hc5 hc6 hc7
      have hbl : Below wr.heap.size wr (wr.alloc (.cells #[.int .i64 y.K, .int .i64 y.A, .int .i64 y.B, .int .i64 y.C, .int .i64 y.N, .string y.S, .slice pa pn pc, .bool y.T] 38)) := (Below.refl _ _).alloc (Nat.le_refl _) _
      have HQ1 := Lib.hid (OpQ.lasts _ _ _ _ hbl hq)
      have HF1 := Lib.hid ((HFT.out.since HR.out.2).since hbl)
      have hwz : w.heap.size ≤ wr.heap.size := HR.out.2.size
      have HKX := Lib.hid hkx
      clear hcell hq hcs hbl hc8 hy 
      go_wp2_with fail
      refine (op_plain pa pn pc y _ HQ1.out HF1.out).mono ?_
      rintro e w1 ⟨q1, q2, q3, q4, q5, q6, ua, un, uc, q7, rfl, hq1, hb1⟩
      have hb2 := keepB ((Below.refl wr.heap.size wr).alloc (Nat.le_refl _) _) hb1
      have hrow := HR.out.1.holds OpO.holds (w' := w1) (S' := From w.heap.size) (fun b hb hS => ⟨hb2.block b hb, hS⟩)
      have hfar : ∀ b, (Value.slice va vn vc).ownBlock = some b → b < wr.heap.size + 1 := fun b hb => by have := (HR.out.1.own hb).2; omega
      have hw1 : w.heap.size ≤ w1.heap.size := Nat.le_trans hwz hb2.size
      have hbw := HR.out.2.trans (hb2.mono hwz)
      have HQ2 := Lib.hid (OpO.holds.wider hq1 (S' := From (wr.heap.size + 1)) (fun b _ hb => by simpa [From] using hb))
      have HRW := Lib.hid hrow
      have HFA := Lib.hid hfar
      have HBW := Lib.hid hbw
      have HTK : RowKit.Hid (((xs.take k).map plainOp).length ≤ 100000) := Lib.hid (by simp only [List.length_map, List.length_take]; have := HLN.out; omega)
      clear hb1 hb2 hq1 hrow hfar hbw HQ1
      go_wp2_with (at_builtin; refine wpList_append_elem w1 rfl _ _ 55 rfl 38 Tryd.underlying55 _ 8 88 info_op rfl (by decide) (by decide) OpO.holds w.heap.size (.slice va vn vc) ((xs.take k).map plainOp) rfl HRW.out hw1 _ 1 w1.heap.size rfl rfl rfl (by intro u hu; simp at hu; rcases hu with rfl | rfl | rfl | rfl | rfl | rfl | rfl | rfl <;> rfl) (plainOp y) (wr.heap.size + 1) HQ2.out (by omega) HFA.out HTK.out ?_; intro va2 vn2 vc2 w2 hrow2 hb3)
      have HK' : RowKit.Hid (RowO 38 8 OpO w2 (From w.heap.size) (.slice va2 vn2 vc2) ((xs.take (k + 1)).map plainOp) ∧ Below w.heap.size w w2) := Lib.hid ⟨by rw [List.take_succ_eq_append_getElem HKX.out, List.map_append, List.map_cons, List.map_nil, ← HY.out]; exact hrow2, HBW.out.trans hb3⟩
      clear hrow2 hb3 HRW HFA HBW HTK HQ2
      go_wp2_with fail
      go_roundw
      case rel => exact ⟨k + 1, va2, vn2, vc2, by omega, by go_num, rfl, HK'⟩
      case measure => simp [intOf]; omega
    · have HE : RowKit.Hid (RowO 38 8 OpO wr (From w.heap.size) (.slice va vn vc) (xs.map plainOp) ∧ Below w.heap.size w wr) := Lib.hid (by have h := HR.out; rw [List.take_of_length_le (by rw [← HL.out]; omega)] at h; exact h)
      go_wp2_with fail
      go_ret
      exact ⟨va, vn, vc, rfl, HE.out⟩
end Go.Proofs.YtfnkmigcklmghaaDoor

/- Layer 5: a step without what plays no part: the document's Plain, and kind.Plain, of a step that is read. -/
namespace Go.Proofs.YtfnkmigcklmghaaDoor
open Go.RowKit (wrap64 intOf Below)
set_option linter.unusedVariables false
set_option linter.unusedSimpArgs false

theorem str_eq {a b : ByteArray} (h : a = b) : (a.toList == b.toList) = true := by rw [h]; exact beq_self_eq_true _
theorem str_ne {a b : ByteArray} (h : a ≠ b) : (a.toList == b.toList) = false := by
  rw [beq_eq_false_iff_ne]
  intro he
  have h1 := Lib.toList_data a
  have h2 := Lib.toList_data b
  rw [h1, h2] at he
  exact h (by cases a; cases b; simp at he; rw [he])
theorem ref_op_at (k a b c n : Int) (s : ByteArray) (pa : Option Addr) (pn pc : Nat) (t : Bool) (y : OpD) (w : World) (h : OpQ w [.int .i64 k, .int .i64 a, .int .i64 b, .int .i64 c, .int .i64 n, .string s, .slice pa pn pc, .bool t] y) :
    Calls Tryd.prog 29 #[.agg #[.int .i64 k, .int .i64 a, .int .i64 b, .int .i64 c, .int .i64 n, .string s, .slice pa pn pc, .bool t]] w (OpPost y w) := by
  obtain ⟨l, he, r1, r2, r3, r4, r5, r6, a', n', c', he2, hat, hnil, hn, hr⟩ := h
  simp only [List.cons.injEq, Value.int.injEq, Value.string.injEq, Value.bool.injEq, true_and, and_true] at he
  obtain ⟨rfl, rfl, rfl, rfl, rfl, rfl, he, rfl⟩ := he
  rw [← he] at he2
  cases he2
  have hl := hat.1
  refine (plain_any y.K y.A y.B y.C y.N y.S pa pn pc y.T y.L w hat hnil (by omega)).mono ?_
  rintro e w' ⟨va, vn, vc, rfl, hown, hb⟩
  refine ⟨_, _, _, _, _, _, va, vn, vc, _, rfl, ⟨_, rfl, r1, r2.pick, r3.pick, r4.pick, r5.pick, ?_, OwnsI.numsO hown ?_ ?_⟩, hb⟩
  · show (pickS _ y.S).size ≤ _
    unfold pickS
    split
    · exact r6
    · exact Nat.zero_le _
  · show (pickL _ y.L).length * 8 ≤ _
    unfold pickL
    split
    · rw [hl]; exact hn
    · exact Nat.zero_le _
  · intro z hz
    simp only [plainOp, pickL] at hz
    split at hz
    · exact hr z hz
    · cases hz
theorem kop_at (k a b c n : Int) (s : ByteArray) (pa : Option Addr) (pn pc : Nat) (t : Bool) (y : OpD) (w : World) (h : OpQ w [.int .i64 k, .int .i64 a, .int .i64 b, .int .i64 c, .int .i64 n, .string s, .slice pa pn pc, .bool t] y) (hft : FT w) :
    Calls Tryd.prog 101 #[.agg #[.int .i64 k, .int .i64 a, .int .i64 b, .int .i64 c, .int .i64 n, .string s, .slice pa pn pc, .bool t]] w (OpPost y w) := by
  have h2 := h
  obtain ⟨l, he, _⟩ := h2
  simp only [List.cons.injEq, Value.int.injEq, Value.string.injEq, Value.bool.injEq, true_and, and_true] at he
  obtain ⟨rfl, rfl, rfl, rfl, rfl, rfl, rfl, rfl⟩ := he
  exact op_plain pa pn pc y w h hft
end Go.Proofs.YtfnkmigcklmghaaDoor

/- Layer 5: Copy's lists (gen/cpeach.py). -/
namespace Go.Proofs.YtfnkmigcklmghaaDoor
open Go.RowKit (wrap64 intOf Below)
set_option linter.unusedVariables false
set_option linter.unusedSimpArgs false
attribute [local go_sem ↓] Go.wp_at_zero Go.wp_at_succ

theorem set_far8 {u : World} {b o0 o1 o2 o3 o4 o5 o6 o7 : Nat} {v0 v1 v2 v3 v4 v5 v6 v7 : Value} {p : Addr} (h : p.block ≠ b) : ((((((((u.setCell ⟨b, o0, none⟩ v0).setCell ⟨b, o1, none⟩ v1).setCell ⟨b, o2, none⟩ v2).setCell ⟨b, o3, none⟩ v3).setCell ⟨b, o4, none⟩ v4).setCell ⟨b, o5, none⟩ v5).setCell ⟨b, o6, none⟩ v6).setCell ⟨b, o7, none⟩ v7).cell? p = u.cell? p := by
  rw [set_far h, set_far h, set_far h, set_far h, set_far h, set_far h, set_far h, set_far h]
theorem set_far2 {u : World} {b o0 o1 : Nat} {v0 v1 : Value} {p : Addr} (h : p.block ≠ b) : ((u.setCell ⟨b, o0, none⟩ v0).setCell ⟨b, o1, none⟩ v1).cell? p = u.cell? p := by
  rw [set_far h, set_far h]
def BlockPost (y : BlockD) (w : World) (e : Ending) (w' : World) : Prop := ∃ va vn vc ua un uc k x t l ta tn tc sa sn sc, e = .returned (.agg #[.slice va vn vc, .slice ua un uc, .int .i64 k, .int .i64 x, .int .i64 t, .int .i64 l, .slice ta tn tc, .slice sa sn sc]) ∧
  BlockO w' (From w.heap.size) [.slice va vn vc, .slice ua un uc, .int .i64 k, .int .i64 x, .int .i64 t, .int .i64 l, .slice ta tn tc, .slice sa sn sc] (plainBlock y) ∧ Below w.heap.size w w'
theorem RowO.past {α : Type} {T k : Nat} {Q : World → (Nat → Prop) → List Value → α → Prop} (hQ : Holds Q) {n : Nat} {u u' : World} {v : Value} {xs : List α} (h : RowO T k Q u (From (n + 2)) v xs) (ho : Off (fun b => b = n + 1) u u') : RowO T k Q u' (From n) v xs :=
  (h.off hQ ho (fun b hb e => by have : n + 2 ≤ b := hb; omega)).wider hQ (fun b _ hb => Nat.le_trans (by omega) hb)
theorem Holds.past {α : Type} {Q : World → (Nat → Prop) → List Value → α → Prop} (hQ : Holds Q) {n : Nat} {u u' : World} {cs : List Value} {x : α} (h : Q u (From (n + 2)) cs x) (ho : Off (fun b => b = n + 1) u u') : Q u' (From n) cs x :=
  hQ.wider (hQ.off h ho (fun b hb e => by have : n + 2 ≤ b := hb; omega)) (fun b _ hb => Nat.le_trans (by omega) hb)
set_option maxRecDepth 100000 in
set_option maxHeartbeats 4000000 in
theorem copied_block (pa oa la ma : Option Addr) (pn pc on oc ln lc mn mc : Nat) (y : BlockD) (w : World) (h : BlockQ w [.slice pa pn pc, .slice oa on oc, .int .i64 y.fin.K, .int .i64 y.fin.A, .int .i64 y.fin.To, .int .i64 y.fin.Else, .slice la ln lc, .slice ma mn mc] y) (hft : FT w) (hsm : SmBlock y) :
    Calls Tryd.prog 84 #[.agg #[.slice pa pn pc, .slice oa on oc, .int .i64 y.fin.K, .int .i64 y.fin.A, .int .i64 y.fin.To, .int .i64 y.fin.Else, .slice la ln lc, .slice ma mn mc]] w (BlockPost y w) := by
  obtain ⟨pv, ov, es, he, hp, ho, hend⟩ := h
  simp only [List.cons.injEq, true_and, and_true] at he
  obtain ⟨rfl, rfl, rfl⟩ := he
  have hl0 := Laid2.start w #[.slice pa pn pc, .slice oa on oc, .int .i64 y.fin.K, .int .i64 y.fin.A, .int .i64 y.fin.To, .int .i64 y.fin.Else, .slice la ln lc, .slice ma mn mc] #[.slice none 0 0, .slice none 0 0, .int .i64 0, .int .i64 0, .int .i64 0, .int .i64 0, .slice none 0 0, .slice none 0 0] 59 59
  have HL0 := Lib.hid hl0
  have HP := Lib.hid (hp.since hl0.bel)
  have HO := Lib.hid (ho.since OpQ.lasts hl0.bel)
  have HE := Lib.hid (EndQ.lasts _ _ _ _ hl0.bel hend)
  have HF := Lib.hid (hft.since hl0.bel)
  have HSM := Lib.hid (show y.ops.length ≤ 100000 from hsm)
  clear hp ho hend hft hsm hl0
  go_enter Tryd.func84, Tryd.ntmps84
  go_wp2_with fail
  have hi := HL0.out.c0
  have hi0 := hi 0
  have hi1 := hi 1
  have hi2 := hi 2
  have hi3 := hi 3
  have hi4 := hi 4
  have hi5 := hi 5
  have hi6 := hi 6
  have hi7 := hi 7
  clear hi
  simp only [List.getElem?_toArray, List.getElem?_cons_zero, List.getElem?_cons_succ] at hi0 hi1 hi2 hi3 hi4 hi5 hi6 hi7
  go_region_held3 (fun u => u.cell? ⟨w.heap.size, 0, none⟩ = some (.slice pa pn pc) ∧ u.cell? ⟨w.heap.size, 1, none⟩ = some (.slice oa on oc) ∧ u.cell? ⟨w.heap.size, 2, none⟩ = some (.int .i64 y.fin.K) ∧ u.cell? ⟨w.heap.size, 3, none⟩ = some (.int .i64 y.fin.A) ∧ u.cell? ⟨w.heap.size, 4, none⟩ = some (.int .i64 y.fin.To) ∧ u.cell? ⟨w.heap.size, 5, none⟩ = some (.int .i64 y.fin.Else) ∧ u.cell? ⟨w.heap.size, 6, none⟩ = some (.slice la ln lc) ∧ u.cell? ⟨w.heap.size, 7, none⟩ = some (.slice ma mn mc))
    (first | (with_reducible exact ⟨hi0, hi1, hi2, hi3, hi4, hi5, hi6, hi7⟩) | (with_reducible exact ⟨hj0, hj1, hj2, hj3, hj4, hj5, hj6, hj7⟩) | (with_reducible exact ⟨hk0, hk1, hk2, hk3, hk4, hk5, hk6, hk7⟩) | (with_reducible exact ⟨hm0, hm1, hm2, hm3, hm4, hm5, hm6, hm7⟩) | (rw [set_far8 (by simp), set_far8 (by simp), set_far8 (by simp), set_far8 (by simp), set_far8 (by simp), set_far8 (by simp), set_far8 (by simp), set_far8 (by simp)]; with_reducible exact ⟨hm0, hm1, hm2, hm3, hm4, hm5, hm6, hm7⟩))
    (first
      | (go_at_call 82; (with_reducible refine (apart_v pa pn pc y.params _ HP.out).mono ?_); rintro e w1 ⟨va, vn, vc, rfl, hn1, hb1⟩; have hl1 := HL0.out.step hb1; have hn2 := hn1.first HL0.out; have hz := hl1.c0; have hj0 : w1.cell? ⟨w.heap.size, 0, none⟩ = some (.slice pa pn pc) := hz 0; have hj1 : w1.cell? ⟨w.heap.size, 1, none⟩ = some (.slice oa on oc) := hz 1; have hj2 : w1.cell? ⟨w.heap.size, 2, none⟩ = some (.int .i64 y.fin.K) := hz 2; have hj3 : w1.cell? ⟨w.heap.size, 3, none⟩ = some (.int .i64 y.fin.A) := hz 3; have hj4 : w1.cell? ⟨w.heap.size, 4, none⟩ = some (.int .i64 y.fin.To) := hz 4; have hj5 : w1.cell? ⟨w.heap.size, 5, none⟩ = some (.int .i64 y.fin.Else) := hz 5; have hj6 : w1.cell? ⟨w.heap.size, 6, none⟩ = some (.slice la ln lc) := hz 6; have hj7 : w1.cell? ⟨w.heap.size, 7, none⟩ = some (.slice ma mn mc) := hz 7; clear hz; have ho1 := HO.out.since OpQ.lasts hb1; have he1 := EndQ.lasts _ _ _ _ hb1 HE.out; have hf1 := HF.out.since hb1)
      | (go_at_call 100; (with_reducible refine (each_op oa on oc y.ops _ ho1 HSM.out hf1).mono ?_); rintro e w2 ⟨ua, un, uc, rfl, hr1, hb2⟩; have hl2 := hl1.step hb2; have hr2 := hr1.wider OpO.holds (S' := From (w.heap.size + 2)) (fun b _ hb => Nat.le_trans hl1.size hb); have hn3 := hn2.off (X := fun _ => False) (Off.since hb2) (fun _ _ h => h); have hz := hl2.c0; have hk0 : w2.cell? ⟨w.heap.size, 0, none⟩ = some (.slice pa pn pc) := hz 0; have hk1 : w2.cell? ⟨w.heap.size, 1, none⟩ = some (.slice oa on oc) := hz 1; have hk2 : w2.cell? ⟨w.heap.size, 2, none⟩ = some (.int .i64 y.fin.K) := hz 2; have hk3 : w2.cell? ⟨w.heap.size, 3, none⟩ = some (.int .i64 y.fin.A) := hz 3; have hk4 : w2.cell? ⟨w.heap.size, 4, none⟩ = some (.int .i64 y.fin.To) := hz 4; have hk5 : w2.cell? ⟨w.heap.size, 5, none⟩ = some (.int .i64 y.fin.Else) := hz 5; have hk6 : w2.cell? ⟨w.heap.size, 6, none⟩ = some (.slice la ln lc) := hz 6; have hk7 : w2.cell? ⟨w.heap.size, 7, none⟩ = some (.slice ma mn mc) := hz 7; clear hz; have he2 := EndQ.lasts _ _ _ _ hb2 he1)
      | (go_at_call 102; (with_reducible refine (end_plain y.fin.K y.fin.A y.fin.To y.fin.Else la ma ln lc mn mc y.fin _ he2).mono ?_); rintro e w3 ⟨k, x, t, l, ta, tn, tc, sa, sn, sc, rfl, hx1, hb3⟩; have hl3 := hl2.step hb3; have hx2 := EndO.holds.wider hx1 (S' := From (w.heap.size + 2)) (fun b _ hb => Nat.le_trans hl2.size hb); have hn4 := hn3.off (X := fun _ => False) (Off.since hb3) (fun _ _ h => h); have hr3 := hr2.off OpO.holds (X := fun _ => False) (Off.since hb3) (fun _ _ h => h); have hz := hl3.c0; have hm0 : w3.cell? ⟨w.heap.size, 0, none⟩ = some (.slice pa pn pc) := hz 0; have hm1 : w3.cell? ⟨w.heap.size, 1, none⟩ = some (.slice oa on oc) := hz 1; have hm2 : w3.cell? ⟨w.heap.size, 2, none⟩ = some (.int .i64 y.fin.K) := hz 2; have hm3 : w3.cell? ⟨w.heap.size, 3, none⟩ = some (.int .i64 y.fin.A) := hz 3; have hm4 : w3.cell? ⟨w.heap.size, 4, none⟩ = some (.int .i64 y.fin.To) := hz 4; have hm5 : w3.cell? ⟨w.heap.size, 5, none⟩ = some (.int .i64 y.fin.Else) := hz 5; have hm6 : w3.cell? ⟨w.heap.size, 6, none⟩ = some (.slice la ln lc) := hz 6; have hm7 : w3.cell? ⟨w.heap.size, 7, none⟩ = some (.slice ma mn mc) := hz 7; clear hz; have hc1 := hl3.c1; have hf3 := hl3.f1))
  all_goals
    have HN := Lib.hid hn4
    have HR := Lib.hid hr3
    have HX := Lib.hid hx2
    have HL := Lib.hid hl3
    clear hn1 hn2 hn3 hn4 hr1 hr2 hr3 hx1 hx2 hl1 hl2 hl3 ho1 he1 he2 hf1
    go_wp2_with fail
    refine bodyPost_ret (v := .agg #[.slice va vn vc, .slice ua un uc, .int .i64 k, .int .i64 x, .int .i64 t, .int .i64 l, .slice ta tn tc, .slice sa sn sc]) (by simp [results, Tryd.results84, go_sem, hc1]) rfl ⟨_, _, _, _, _, _, _, _, _, _, _, _, _, _, _, _, rfl, ⟨_, _, _, rfl, HN.out.past (((((((((Off.refl (fun b => b = w.heap.size + 1) _).setCell (.inl rfl) _).setCell (.inl rfl) _).setCell (.inl rfl) _).setCell (.inl rfl) _).setCell (.inl rfl) _).setCell (.inl rfl) _).setCell (.inl rfl) _).setCell (.inl rfl) _), HR.out.past OpO.holds (((((((((Off.refl (fun b => b = w.heap.size + 1) _).setCell (.inl rfl) _).setCell (.inl rfl) _).setCell (.inl rfl) _).setCell (.inl rfl) _).setCell (.inl rfl) _).setCell (.inl rfl) _).setCell (.inl rfl) _).setCell (.inl rfl) _), EndO.holds.past HX.out (((((((((Off.refl (fun b => b = w.heap.size + 1) _).setCell (.inl rfl) _).setCell (.inl rfl) _).setCell (.inl rfl) _).setCell (.inl rfl) _).setCell (.inl rfl) _).setCell (.inl rfl) _).setCell (.inl rfl) _).setCell (.inl rfl) _)⟩, ((((((((HL.out.bel.setCell (by simp) _).setCell (by simp) _).setCell (by simp) _).setCell (by simp) _).setCell (by simp) _).setCell (by simp) _).setCell (by simp) _).setCell (by simp) _)⟩
end Go.Proofs.YtfnkmigcklmghaaDoor
