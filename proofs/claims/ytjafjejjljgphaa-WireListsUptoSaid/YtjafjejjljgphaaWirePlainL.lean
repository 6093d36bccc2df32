/- Layer 3, plain: lists as bytes (P3.2): which bytes a list is, and which list bytes begin with. Nothing of the program is named here. -/
import Derived.Test.YtjafjejjljgphaaWirePlain
import Derived.Test.YtjafjejjljgphaaInts
namespace Go.Proofs.Ytjafjejjljgphaa
set_option linter.unusedVariables false

def InI (z : Int) : Prop := -9223372036854775808 ≤ z ∧ z ≤ 9223372036854775807
def putNs (Z : List Int) : List UInt8 := Z.flatMap putL
def putZ (Z : List Int) : List UInt8 := putL (Z.length : Int) ++ putNs Z
theorem putNs_snoc (Z : List Int) (z : Int) : putNs (Z ++ [z]) = putNs Z ++ putL z := by simp [putNs]
theorem putNs_cons (z : Int) (Z : List Int) : putNs (z :: Z) = putL z ++ putNs Z := by simp [putNs]
theorem putNs_len (Z : List Int) : (putNs Z).length ≤ 10 * Z.length := by
  induction Z with
  | nil => simp [putNs]
  | cons z Z ih => rw [putNs_cons]; have := putL_len z; simp only [List.length_append, List.length_cons]; omega
theorem putZ_len (Z : List Int) : (putZ Z).length ≤ 10 + 10 * Z.length := by
  unfold putZ; have := putNs_len Z; have := putL_len (Z.length : Int); rw [List.length_append]; omega
theorem take_next (Z : List Int) (k : Nat) (h : k < Z.length) : Z.take (k + 1) = Z.take k ++ [Z[k]] := List.take_succ_eq_append_getElem h

/-- k numbers more, from place t on, behind acc: all of them, and where they end, and 0; or none, and the error. -/
def takes : Nat → List UInt8 → Nat → List Int → List Int × Nat × Int
  | 0, L, t, acc => (acc, t, 0)
  | k + 1, L, t, acc => if (takeL (L.drop t) 0 0).2.2 = 0 then takes k L (t + (takeL (L.drop t) 0 0).2.1) (acc ++ [(takeL (L.drop t) 0 0).1]) else ([], 0, (takeL (L.drop t) 0 0).2.2)
theorem takes_yes {k : Nat} {L : List UInt8} {t : Nat} {acc : List Int} {m : Int} {s : Nat} (h : Gives (L.drop t) m s) : takes (k + 1) L t acc = takes k L (t + s) (acc ++ [m]) := by
  have h' : takeL (L.drop t) 0 0 = (m, s, 0) := h
  conv => lhs; unfold takes
  rw [h']
  rfl
theorem takes_no {k : Nat} {L : List UInt8} {t : Nat} {acc : List Int} {er : Int} (h : Fails (L.drop t) er) : takes (k + 1) L t acc = ([], 0, er) := by
  have h' := h.1
  unfold takes
  rw [h']
  have : er ≠ 0 := by rcases h.2 with h | h <;> omega
  simp [this]
theorem takes_cases : ∀ (k : Nat) (L : List UInt8) (t : Nat) (acc : List Int), t ≤ L.length → (∃ Z u, takes k L t acc = (Z, u, 0) ∧ u ≤ L.length ∧ t ≤ u ∧ Z.length = acc.length + k ∧ t + k ≤ u) ∨ ∃ er, takes k L t acc = ([], 0, er) ∧ (er = 3 ∨ er = 4)
  | 0, L, t, acc, ht => Or.inl ⟨acc, t, rfl, ht, Nat.le_refl _, rfl, Nat.le_refl _⟩
  | k + 1, L, t, acc, ht => by
    rcases gives_or_fails (L.drop t) with ⟨m, s, h⟩ | ⟨er, h⟩
    · rw [takes_yes h]
      have hp := h.put
      rw [List.length_drop] at hp
      rcases takes_cases k L (t + s) (acc ++ [m]) (by omega) with ⟨Z, u, h1, h2, h3, h4, h5⟩ | h1
      · rw [List.length_append, List.length_singleton] at h4
        exact Or.inl ⟨Z, u, h1, h2, by omega, by omega, by omega⟩
      · exact Or.inr h1
    · rw [takes_no h]
      exact Or.inr ⟨er, rfl, h.2⟩
/-- What was put is taken in order, whatever is ahead and behind. -/
theorem takes_put : ∀ (Z : List Int) (A X : List UInt8) (acc : List Int), (∀ z ∈ Z, InI z) → takes Z.length (A ++ (putNs Z ++ X)) A.length acc = (acc ++ Z, A.length + (putNs Z).length, 0)
  | [], A, X, acc, _ => by simp [takes, putNs]
  | z :: Z, A, X, acc, h => by
    have hz := h z (by simp)
    have hg : Gives ((A ++ (putNs (z :: Z) ++ X)).drop A.length) z (putL z).length := by
      rw [List.drop_left, putNs_cons, List.append_assoc]
      exact gives_put hz.1 hz.2 _
    rw [List.length_cons, takes_yes hg]
    have he : A ++ (putNs (z :: Z) ++ X) = (A ++ putL z) ++ (putNs Z ++ X) := by rw [putNs_cons]; simp only [List.append_assoc]
    have hl : A.length + (putL z).length = (A ++ putL z).length := by rw [List.length_append]
    rw [he, hl, takes_put Z (A ++ putL z) X (acc ++ [z]) (fun y hy => h y (by simp [hy]))]
    rw [putNs_cons]
    simp only [List.length_append, List.append_assoc, List.singleton_append, Prod.mk.injEq, and_true, true_and]
    omega
end Go.Proofs.Ytjafjejjljgphaa
