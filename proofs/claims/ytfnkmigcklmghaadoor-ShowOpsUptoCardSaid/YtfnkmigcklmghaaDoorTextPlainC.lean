/- Layer 2, plain: a text in parts (P2.1, P2.4). Nothing of the program is named here. -/
import Derived.Test.YtfnkmigcklmghaaDoorTextPlain
import Derived.Lib.Strings
namespace Go.Proofs.YtfnkmigcklmghaaDoor
set_option linter.unusedVariables false

/-- The parts, joined. -/
def joined (ps : List ByteArray) : List UInt8 := (ps.map fun p => p.data.toList).flatten
theorem joined_nil : joined [] = [] := rfl
theorem joined_cons (p : ByteArray) (ps : List ByteArray) : joined (p :: ps) = p.data.toList ++ joined ps := rfl
theorem joined_append (a b : List ByteArray) : joined (a ++ b) = joined a ++ joined b := by simp [joined]
theorem joined_snoc (a : List ByteArray) (p : ByteArray) : joined (a ++ [p]) = joined a ++ p.data.toList := by simp [joined]

/-- ps are L's parts of N bytes each, the last one what is left. -/
def CutOf (L : List UInt8) (N : Nat) (ps : List ByteArray) : Prop :=
  joined ps = L ∧ (∀ j (h : j < ps.length), 0 < ps[j].size ∧ ps[j].size ≤ N) ∧ ∀ j (h : j + 1 < ps.length), ps[j].size = N
/-- All parts so far have N bytes. -/
def CutAll (L : List UInt8) (N : Nat) (ps : List ByteArray) (x : List UInt8) : Prop := joined ps ++ x = L ∧ ∀ j (h : j < ps.length), ps[j].size = N
theorem CutAll.start (L : List UInt8) (N : Nat) : CutAll L N [] L := ⟨rfl, fun j h => by simp at h⟩
theorem joined_len {N : Nat} : ∀ (ps : List ByteArray), (∀ j (h : j < ps.length), ps[j].size = N) → (joined ps).length = ps.length * N
  | [], _ => by simp [joined_nil]
  | p :: ps, h => by
    rw [joined_cons, List.length_append, joined_len ps (fun j hj => by have := h (j + 1) (by simp; omega); simpa using this)]
    have h0 := h 0 (by simp)
    simp only [List.getElem_cons_zero] at h0
    rw [list_len, h0, List.length_cons, Nat.add_mul, Nat.one_mul, Nat.add_comm]
theorem CutAll.len {L : List UInt8} {N : Nat} {ps : List ByteArray} {x : List UInt8} (hN : 1 ≤ N) (h : CutAll L N ps x) : ps.length + x.length ≤ L.length := by
  have h1 := congrArg List.length h.1
  rw [List.length_append, joined_len ps h.2] at h1
  have := Nat.le_mul_of_pos_right ps.length hN
  omega
theorem CutAll.step {L : List UInt8} {N : Nat} {ps : List ByteArray} {x p q : ByteArray} (h : CutAll L N ps x.data.toList) (hx : x.data.toList = p.data.toList ++ q.data.toList) (hp : p.size = N) : CutAll L N (ps ++ [p]) q.data.toList := by
  refine ⟨by rw [joined_snoc, List.append_assoc, ← hx]; exact h.1, fun j hj => ?_⟩
  simp only [List.length_append, List.length_cons, List.length_nil] at hj
  by_cases hjl : j < ps.length
  · rw [List.getElem_append_left hjl]; exact h.2 j hjl
  · have : j = ps.length := by omega
    subst this
    simpa using hp
theorem CutAll.fin_nil {L : List UInt8} {N : Nat} {ps : List ByteArray} (hN : 1 ≤ N) (h : CutAll L N ps []) : CutOf L N ps :=
  ⟨by rw [← List.append_nil (joined ps)]; exact h.1, fun j hj => by have := h.2 j hj; omega, fun j hj => h.2 j (by omega)⟩
theorem CutAll.fin {L : List UInt8} {N : Nat} {ps : List ByteArray} {x : ByteArray} (h : CutAll L N ps x.data.toList) (h0 : 0 < x.size) (hx : x.size ≤ N) : CutOf L N (ps ++ [x]) := by
  refine ⟨by rw [joined_snoc]; exact h.1, fun j hj => ?_, fun j hj => ?_⟩
  · simp only [List.length_append, List.length_cons, List.length_nil] at hj
    by_cases hjl : j < ps.length
    · rw [List.getElem_append_left hjl]; have := h.2 j hjl; omega
    · have : j = ps.length := by omega
      subst this
      simpa using ⟨h0, hx⟩
  · simp only [List.length_append, List.length_cons, List.length_nil] at hj
    rw [List.getElem_append_left (by omega)]
    exact h.2 j (by omega)
/-- How far the first parts reach. -/
def upTo (ps : List ByteArray) (j : Nat) : Nat := (joined (ps.take j)).length
theorem upTo_zero (ps : List ByteArray) : upTo ps 0 = 0 := rfl
theorem upTo_succ (ps : List ByteArray) (j : Nat) (h : j < ps.length) : upTo ps (j + 1) = upTo ps j + ps[j].size := by
  unfold upTo
  rw [List.take_succ_eq_append_getElem h, joined_snoc, List.length_append, list_len]
theorem upTo_all (ps : List ByteArray) : upTo ps ps.length = (joined ps).length := by unfold upTo; rw [List.take_length]
theorem CutOf.at_end {L : List UInt8} {N : Nat} {ps : List ByteArray} (h : CutOf L N ps) : upTo ps ps.length = L.length := by rw [upTo_all, h.1]
theorem CutOf.part {s : ByteArray} {N : Nat} {ps : List ByteArray} (h : CutOf s.data.toList N ps) (j : Nat) (hj : j < ps.length) :
    upTo ps j + ps[j].size ≤ s.size ∧ s.extract (upTo ps j) (upTo ps j + ps[j].size) = ps[j] := by
  have e : s.data.toList = joined (ps.take j) ++ (ps[j].data.toList ++ joined (ps.drop (j + 1))) := by
    rw [← h.1, ← joined_cons, ← List.drop_eq_getElem_cons hj, ← joined_append, List.take_append_drop]
  constructor
  · have := congrArg List.length e
    rw [list_len, List.length_append, List.length_append, list_len] at this
    unfold upTo; omega
  · apply ByteArray.ext
    apply Array.toList_inj.1
    rw [Lib.extract_data, e]
    unfold upTo
    rw [List.drop_left, Nat.add_sub_cancel_left, ← list_len, List.take_left]
end Go.Proofs.YtfnkmigcklmghaaDoor
