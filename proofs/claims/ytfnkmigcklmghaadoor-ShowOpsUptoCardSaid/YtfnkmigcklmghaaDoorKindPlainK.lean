/- Layer 4, P4.1: package kind's Plain, walked: the letters are gone through one by one, and each field that plays a part is taken over. -/
import Derived.Test.YtfnkmigcklmghaaDoorIterAt
import Derived.Test.YtfnkmigcklmghaaDoorKindTab
namespace Go.Proofs.YtfnkmigcklmghaaDoor
open Go.RowKit (wrap64 intOf Below)
set_option linter.unusedVariables false

/-- Whether a field is among the first k. -/
def hasT (K : Int) (k : Nat) (f : UInt8) : Bool := ((fieldsL K).take k).contains f
theorem hasT_zero (K : Int) (f : UInt8) : hasT K 0 f = false := by simp [hasT]
theorem hasT_next {K : Int} {k : Nat} {g : UInt8} (f : UInt8) (hk : k < (fieldsL K).length) (hg : (fieldsL K)[k] = g) : hasT K (k + 1) f = (hasT K k f || f == g) := by
  unfold hasT
  rw [List.take_succ_eq_append_getElem hk, hg, Bool.eq_iff_iff]
  simp
theorem hasT_all {K : Int} {k : Nat} (f : UInt8) (hk : (fieldsL K).length ≤ k) : hasT K k f = hasB K f := by
  unfold hasT hasB
  rw [List.take_of_length_le hk]
theorem letters (K : Int) : ∀ f ∈ fieldsL K, f = 78 ∨ f = 83 ∨ f = 65 ∨ f = 66 ∨ f = 67 ∨ f = 76 ∨ f = 75 := by
  rcases kinds K with h | h
  · rcases h with rfl | rfl | rfl | rfl | rfl | rfl | rfl | rfl | rfl | rfl | rfl | rfl | rfl | rfl | rfl | rfl | rfl | rfl | rfl | rfl | rfl | rfl | rfl | rfl | rfl | rfl
    all_goals decide
  · rw [fields_none h]
    intro f hf
    cases hf
/-- The letters as a text. -/
def fstr (K : Int) : ByteArray := mk (fieldsL K)
/-- The step as far as its first k letters tell it. -/
def plainT (K A B C N : Int) (S : ByteArray) (T : Bool) (k : Nat) (l : Value) : Array Value := #[.int .i64 K, .int .i64 (pickI (hasT K k 65) A), .int .i64 (pickI (hasT K k 66) B), .int .i64 (pickI (hasT K k 67) C), .int .i64 (pickI (hasT K k 78) N), .string (pickS (hasT K k 83) S), l, .bool (hasT K k 75 && T)]
structure PlSt (w : World) (u : World) (K A B C N : Int) (S : ByteArray) (la : Option Addr) (ln lc : Nat) (T : Bool) (L : List Int) (k : Nat) (va : Option Addr) (vn vc : Nat) : Prop where
  inb : Box u w.heap.size #[.int .i64 K, .int .i64 A, .int .i64 B, .int .i64 C, .int .i64 N, .string S, .slice la ln lc, .bool T]
  res : Box u (w.heap.size + 1) #[.int .i64 0, .int .i64 0, .int .i64 0, .int .i64 0, .int .i64 0, .string ⟨#[]⟩, .slice none 0 0, .bool false]
  box : Box u (w.heap.size + 2) (plainT K A B C N S T k (.slice va vn vc))
  it : u.heap[w.heap.size + 3]? = some (.stringIter (fstr K) k)
  own : OwnsI u (w.heap.size + 4) 3 (.slice va vn vc) (pickL (hasT K k 76) L)
  bel : Below w.heap.size w u
  siz : w.heap.size + 4 ≤ u.heap.size
theorem PlSt.at_ {w u : World} {K A B C N : Int} {S : ByteArray} {la : Option Addr} {ln lc : Nat} {T : Bool} {L : List Int} {k : Nat} {va : Option Addr} {vn vc : Nat} (h : PlSt w u K A B C N S la ln lc T L k va vn vc) : True := trivial

/-- The iterator moved on. -/
structure PlMv (w : World) (u : World) (K A B C N : Int) (S : ByteArray) (la : Option Addr) (ln lc : Nat) (T : Bool) (L : List Int) (k : Nat) (va : Option Addr) (vn vc : Nat) : Prop where
  inb : Box u w.heap.size #[.int .i64 K, .int .i64 A, .int .i64 B, .int .i64 C, .int .i64 N, .string S, .slice la ln lc, .bool T]
  res : Box u (w.heap.size + 1) #[.int .i64 0, .int .i64 0, .int .i64 0, .int .i64 0, .int .i64 0, .string ⟨#[]⟩, .slice none 0 0, .bool false]
  box : Box u (w.heap.size + 2) (plainT K A B C N S T k (.slice va vn vc))
  it : u.heap[w.heap.size + 3]? = some (.stringIter (fstr K) (k + 1))
  own : OwnsI u (w.heap.size + 4) 3 (.slice va vn vc) (pickL (hasT K k 76) L)
  bel : Below w.heap.size w u
  siz : w.heap.size + 4 ≤ u.heap.size
theorem PlSt.move {w u : World} {K A B C N : Int} {S : ByteArray} {la : Option Addr} {ln lc : Nat} {T : Bool} {L : List Int} {k : Nat} {va : Option Addr} {vn vc : Nat} (h : PlSt w u K A B C N S la ln lc T L k va vn vc) :
    PlMv w (u.iterAt (w.heap.size + 3) (fstr K) (k + 1)) K A B C N S la ln lc T L k va vn vc :=
  have hs := iterAt_same u (w.heap.size + 3) (fstr K) (k + 1)
  ⟨h.inb.same hs (by omega), h.res.same hs (by omega), h.box.same hs (by omega), Lib.iterAt_heap _ _ _ _ _ h.it, h.own.same hs (by omega), h.bel.trans (hs.bel _ (by omega)), by rw [hs.size]; exact h.siz⟩
theorem heap_setCell_other {u : World} {p : Addr} {v : Value} {i : Nat} (h : i ≠ p.block) : (u.setCell p v).heap[i]? = u.heap[i]? := Below.heap_setCell u p v i h
theorem setCell_size (u : World) (p : Addr) (v : Value) : (u.setCell p v).heap.size = u.heap.size := by
  show (u.heap.modify _ _).size = _
  rw [Array.size_modify]
/-- A field is put. -/
theorem PlMv.put {w u : World} {K A B C N : Int} {S : ByteArray} {la : Option Addr} {ln lc : Nat} {T : Bool} {L : List Int} {k : Nat} {va : Option Addr} {vn vc : Nat} (h : PlMv w u K A B C N S la ln lc T L k va vn vc)
    (j : Nat) (v : Value) (hj : j < 8) (hP : plainT K A B C N S T (k + 1) (.slice va vn vc) = (plainT K A B C N S T k (.slice va vn vc)).setIfInBounds j v) (hL : hasT K (k + 1) 76 = hasT K k 76) :
    PlSt w (u.setCell ⟨w.heap.size + 2, j, none⟩ v) K A B C N S la ln lc T L (k + 1) va vn vc :=
  ⟨h.inb.other (by omega) _ _, h.res.other (by omega) _ _, h.box.set j v hj hP, by rw [heap_setCell_other (by show w.heap.size + 3 ≠ w.heap.size + 2; omega)]; exact h.it, by rw [hL]; exact h.own.setCell _ _ (by show w.heap.size + 2 < w.heap.size + 4; omega), h.bel.setCell (by show w.heap.size ≤ w.heap.size + 2; omega) _, by rw [setCell_size]; exact h.siz⟩
/-- The list is put. -/
theorem PlMv.putL {w u u' : World} {K A B C N : Int} {S : ByteArray} {la : Option Addr} {ln lc : Nat} {T : Bool} {L : List Int} {k : Nat} {va va' : Option Addr} {vn vc vn' vc' : Nat} (h : PlMv w u K A B C N S la ln lc T L k va vn vc)
    (hb : Below (w.heap.size + 4) u u') (ho : OwnsI u' (w.heap.size + 4) 3 (.slice va' vn' vc') L) (hP : plainT K A B C N S T (k + 1) (.slice va' vn' vc') = (plainT K A B C N S T k (.slice va vn vc)).setIfInBounds 6 (.slice va' vn' vc')) (hL : hasT K (k + 1) 76 = true) :
    PlSt w (u'.setCell ⟨w.heap.size + 2, 6, none⟩ (.slice va' vn' vc')) K A B C N S la ln lc T L (k + 1) va' vn' vc' :=
  ⟨(h.inb.below hb (by omega)).other (by omega) _ _, (h.res.below hb (by omega)).other (by omega) _ _, (h.box.below hb (by omega)).set 6 _ (by simp [plainT]) hP, by rw [heap_setCell_other (by show w.heap.size + 3 ≠ w.heap.size + 2; omega), hb.block _ (by omega)]; exact h.it, by rw [hL]; exact ho.setCell _ _ (by show w.heap.size + 2 < w.heap.size + 4; omega), (h.bel.trans (hb.mono (by omega))).setCell (by show w.heap.size ≤ w.heap.size + 2; omega) _, by rw [setCell_size]; exact Nat.le_trans h.siz hb.size⟩

section
variable {K A B C N : Int} {S : ByteArray} {T : Bool} {k : Nat} {l : Value}
theorem plainT_zero (K A B C N : Int) (S : ByteArray) (T : Bool) (l : Value) : plainT K A B C N S T 0 l = #[.int .i64 K, .int .i64 0, .int .i64 0, .int .i64 0, .int .i64 0, .string ⟨#[]⟩, l, .bool false] := by
  simp [plainT, hasT_zero, pickI, pickS]
theorem put_N (hk : k < (fieldsL K).length) (hg : (fieldsL K)[k] = 78) : plainT K A B C N S T (k + 1) l = (plainT K A B C N S T k l).setIfInBounds 4 (.int .i64 N) ∧ hasT K (k + 1) 76 = hasT K k 76 := by
  simp [plainT, hasT_next _ hk hg, pickI]
theorem put_S (hk : k < (fieldsL K).length) (hg : (fieldsL K)[k] = 83) : plainT K A B C N S T (k + 1) l = (plainT K A B C N S T k l).setIfInBounds 5 (.string S) ∧ hasT K (k + 1) 76 = hasT K k 76 := by
  simp [plainT, hasT_next _ hk hg, pickS]
theorem put_A (hk : k < (fieldsL K).length) (hg : (fieldsL K)[k] = 65) : plainT K A B C N S T (k + 1) l = (plainT K A B C N S T k l).setIfInBounds 1 (.int .i64 A) ∧ hasT K (k + 1) 76 = hasT K k 76 := by
  simp [plainT, hasT_next _ hk hg, pickI]
theorem put_B (hk : k < (fieldsL K).length) (hg : (fieldsL K)[k] = 66) : plainT K A B C N S T (k + 1) l = (plainT K A B C N S T k l).setIfInBounds 2 (.int .i64 B) ∧ hasT K (k + 1) 76 = hasT K k 76 := by
  simp [plainT, hasT_next _ hk hg, pickI]
theorem put_C (hk : k < (fieldsL K).length) (hg : (fieldsL K)[k] = 67) : plainT K A B C N S T (k + 1) l = (plainT K A B C N S T k l).setIfInBounds 3 (.int .i64 C) ∧ hasT K (k + 1) 76 = hasT K k 76 := by
  simp [plainT, hasT_next _ hk hg, pickI]
theorem put_K (hk : k < (fieldsL K).length) (hg : (fieldsL K)[k] = 75) : plainT K A B C N S T (k + 1) l = (plainT K A B C N S T k l).setIfInBounds 7 (.bool T) ∧ hasT K (k + 1) 76 = hasT K k 76 := by
  simp [plainT, hasT_next _ hk hg]
theorem put_L {l' : Value} (hk : k < (fieldsL K).length) (hg : (fieldsL K)[k] = 76) : plainT K A B C N S T (k + 1) l' = (plainT K A B C N S T k l).setIfInBounds 6 l' ∧ hasT K (k + 1) 76 = true := by
  simp [plainT, hasT_next _ hk hg]
end
theorem fstr_at {K : Int} {k : Nat} (h : k < (fieldsL K).length) (h' : k < (fstr K).size) : (fstr K)[k] = (fieldsL K)[k] := by
  show (fieldsL K).toArray[k]'(by simpa using h) = _
  rfl
end Go.Proofs.YtfnkmigcklmghaaDoor
