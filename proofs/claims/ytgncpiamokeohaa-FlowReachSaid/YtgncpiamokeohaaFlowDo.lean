/- Layer 14: the document's Distances: the starts, and how many nodes are not met yet (plain). -/
import Derived.Test.YtgncpiamokeohaaFlowWa
namespace Go.Proofs.Ytgncpiamokeohaa
open Go.RowKit (wrap64 intOf Below)
set_option linter.unusedVariables false
set_option linter.unusedSimpArgs false
/-- The row when the first j starts are told. -/
def zeroF (n : Nat) (S : List Int) : List Int := S.foldl (fun D s => D.set s.toNat 0) (List.replicate n (-1))
theorem zeroF_more (n : Nat) (S : List Int) (s : Int) : zeroF n (S ++ [s]) = (zeroF n S).set s.toNat 0 := by unfold zeroF; rw [List.foldl_append]; rfl
theorem zeroF_facts {n : Nat} : ∀ (m : Nat) (S : List Int), S.length = m → (∀ s ∈ S, 0 ≤ s ∧ s < (n : Int)) → (zeroF n S).length = n ∧ ∀ v, v < n → nth (zeroF n S) v = if (v : Int) ∈ S then 0 else -1 := by
  intro m
  induction m with
  | zero =>
    intro S hl _
    obtain rfl := List.eq_nil_of_length_eq_zero hl
    refine ⟨by simp [zeroF], fun v hv => ?_⟩
    rw [nth_is (by simp [zeroF]; exact hv)]
    simp [zeroF]
  | succ m ih =>
    intro S0 hl hin
    rcases List.eq_nil_or_concat S0 with e | ⟨S, s, e⟩
    · rw [e] at hl; simp at hl
    rw [List.concat_eq_append] at e
    subst e
    obtain ⟨i1, i2⟩ := ih S (by simp at hl; exact hl) (fun t ht => hin t (List.mem_append_left _ ht))
    have hs := hin s (by simp)
    rw [zeroF_more]
    refine ⟨by rw [List.length_set]; exact i1, fun v hv => ?_⟩
    rw [nth_setF (by rw [i1]; omega), i2 v hv]
    by_cases e : v = s.toNat
    · have e1 : (v : Int) = s := by omega
      rw [if_pos e, if_pos (by rw [e1]; simp)]
    · have e1 : (v : Int) ≠ s := by omega
      rw [if_neg e]
      by_cases h : (v : Int) ∈ S
      · rw [if_pos h, if_pos (List.mem_append_left _ h)]
      · rw [if_neg h, if_neg (fun h' => by
          rcases List.mem_append.1 h' with h' | h'
          · exact h h'
          · simp at h'; exact e1 h')]
theorem zeroF_at {n : Nat} {E : List (Int × Int)} {S : List Int} (hin : ∀ s ∈ S, 0 ≤ s ∧ s < (n : Int)) : AtF n E S 0 (zeroF n S) := by
  obtain ⟨_, h2⟩ := zeroF_facts S.length S rfl hin
  intro v hv
  rw [h2 v hv]
  by_cases h : (v : Int) ∈ S
  · rw [if_pos h]; exact .inl ⟨0, Nat.le_refl _, rfl, h, fun j hj => by omega⟩
  · rw [if_neg h]
    refine .inr ⟨rfl, fun k hk hs => ?_⟩
    obtain rfl : k = 0 := by omega
    exact h hs
/-- How many nodes are not met yet. -/
def negF (D : List Int) : Nat := (D.filter fun d => d < 0).length
theorem negF_le (D : List Int) : negF D ≤ D.length := List.length_filter_le _ _
theorem negF_set : ∀ {D : List Int} {b : Nat} {z : Int}, b < D.length → nth D b < 0 → 0 ≤ z → negF (D.set b z) + 1 = negF D
  | d :: D, 0, z, _, h, hz => by
    have h' : d < 0 := h
    unfold negF
    simp only [List.set_cons_zero, List.filter_cons]
    rw [if_neg (by simp; omega), if_pos (by simpa using h')]
    simp
  | d :: D, b + 1, z, hb, h, hz => by
    have ih := negF_set (D := D) (b := b) (z := z) (by simpa using hb) (by simpa [nth] using h) hz
    unfold negF at ih ⊢
    simp only [List.set_cons_succ, List.filter_cons]
    split
    · simp only [List.length_cons]; omega
    · exact ih
/-- Where the document's rounds stand: r rounds are done, b: whether the last one told anything new. -/
structure RndF (n : Nat) (E : List (Int × Int)) (S : List Int) (r : Nat) (b : Bool) (D : List Int) : Prop where
  len : D.length = n
  at_ : AtF n E S r D
  low : r + negF D ≤ n + if b then 0 else 1
  fin : b = false → ∃ r', r = r' + 1 ∧ ∀ v, v < n → nth D v ≠ ((r' : Int) + 1)
/-- Within a round: i edges are looked at; c: how many were not met ahead of it. -/
structure InnF (n : Nat) (E : List (Int × Int)) (S : List Int) (r c i : Nat) (b : Bool) (D : List Int) : Prop where
  len : D.length = n
  mid : MidF n E S r i D
  yes : b = true → negF D + 1 ≤ c
  no : negF D ≤ c
  nil : b = false → ∀ v, v < n → nth D v ≠ ((r : Int) + 1)
section
variable {n : Nat} {E : List (Int × Int)} {S : List Int} {r c i : Nat} {b : Bool} {D : List Int}
theorem RndF.begin (hin : ∀ s ∈ S, 0 ≤ s ∧ s < (n : Int)) : RndF n E S 0 true (zeroF n S) := by
  obtain ⟨h1, _⟩ := zeroF_facts S.length S rfl hin
  exact ⟨h1, zeroF_at hin, by have := negF_le (zeroF n S); simp; omega, fun h => by cases h⟩
theorem RndF.enter (h : RndF n E S r true D) : InnF n E S r (negF D) 0 false D :=
  ⟨h.len, h.at_.mid, fun h => (by cases h), Nat.le_refl _, fun _ v hv e => by
    rcases h.at_ v hv with ⟨k, hk, h1, _⟩ | ⟨h1, _⟩
    · omega
    · omega⟩
theorem InnF.take (h : InnF n E S r c i b D) {x y : Nat} (hi : i < E.length) (he : E[i] = ((x : Int), (y : Int))) (hx : x < n) (hy : y < n) (h1 : nth D x = (r : Int)) (h2 : nth D y < 0) : InnF n E S r c (i + 1) true (D.set y ((r : Int) + 1)) := by
  have hn := negF_set (D := D) (b := y) (z := (r : Int) + 1) (by rw [h.len]; exact hy) h2 (by omega)
  have hno := h.no
  exact ⟨by rw [List.length_set]; exact h.len, h.mid.take h.len hi he hx hy h1 h2, fun _ => by omega, by omega, fun h => by cases h⟩
theorem InnF.pass (h : InnF n E S r c i b D) {x y : Nat} (hi : i < E.length) (he : E[i] = ((x : Int), (y : Int))) (hx : x < n) (hno : ¬ (nth D x = (r : Int) ∧ nth D y < 0)) : InnF n E S r c (i + 1) b D :=
  ⟨h.len, h.mid.pass hi he hx hno, h.yes, h.no, h.nil⟩
theorem InnF.leave (h : InnF n E S r c E.length b D) (hlow : r + c ≤ n) : RndF n E S (r + 1) b D :=
  ⟨h.len, h.mid.done, by
    have h2 := h.no
    cases hb : b with
    | true => have h1 := h.yes hb; rw [if_pos rfl]; omega
    | false => rw [if_neg (by simp)]; omega, fun hb => ⟨r, rfl, h.nil hb⟩⟩
theorem RndF.done (h : RndF n E S r false D) (hE : ∀ e ∈ E, 0 ≤ e.2 ∧ e.2 < (n : Int)) : D = distsF n E S := by
  obtain ⟨r', e, hno⟩ := h.fin rfl
  subst e
  exact dists_of h.len h.at_ hE hno
end
end Go.Proofs.Ytgncpiamokeohaa
