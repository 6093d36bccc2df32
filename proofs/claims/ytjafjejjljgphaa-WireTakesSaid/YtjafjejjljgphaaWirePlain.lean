/- Layer 3, plain: which bytes a number is, and which number bytes begin with (P3.1), on lists of bytes; that there is one form (P3.3), and no beginning (P3.4); likewise texts and lists (P3.2). Nothing of the program is named here. -/
import Derived.Test.YtjafjejjljgphaaTextPlain
namespace Go.Proofs.Ytjafjejjljgphaa
set_option linter.unusedVariables false

/-- A number without a sign, for one with a sign, and back. -/
def zz (n : Int) : Nat := if n < 0 then (2 * (-1 - n) + 1).toNat else (2 * n).toNat
def unzz (z : Nat) : Int := if z % 2 = 1 then -1 - ((z / 2 : Nat) : Int) else ((z / 2 : Nat) : Int)
theorem unzz_zz (n : Int) : unzz (zz n) = n := by
  unfold unzz zz
  split <;> split <;> omega
theorem zz_unzz (z : Nat) : zz (unzz z) = z := by
  unfold unzz zz
  split <;> split <;> omega
theorem zz_lt {n : Int} (h0 : -9223372036854775808 ≤ n) (h1 : n ≤ 9223372036854775807) : zz n < 18446744073709551616 := by
  unfold zz; split <;> omega
theorem unzz_in {z : Nat} (h : z < 18446744073709551616) : -9223372036854775808 ≤ unzz z ∧ unzz z ≤ 9223372036854775807 := by
  unfold unzz; split <;> omega

/-- The bytes of z, seven bits each, the least first; f: how many may go on. -/
def putF : Nat → Nat → List UInt8
  | 0, z => [UInt8.ofNat z]
  | f + 1, z => if z < 128 then [UInt8.ofNat z] else UInt8.ofNat (z % 128 + 128) :: putF f (z / 128)
def putL (n : Int) : List UInt8 := putF 9 (zz n)
/-- What bytes begin with: the number, how many bytes that are, and 0; or 0, 0 and the error. i bytes have been read, they came to a. -/
def takeL : List UInt8 → Nat → Nat → Int × Nat × Int
  | [], _, _ => (0, 0, 3)
  | c :: r, i, a => if (i = 9 ∧ 1 < c.toNat) ∨ (0 < i ∧ c.toNat = 0) then (0, 0, 4) else
      if c.toNat < 128 then (unzz (a + c.toNat % 128 * 128 ^ i), i + 1, 0) else takeL r (i + 1) (a + c.toNat % 128 * 128 ^ i)

theorem putF_pos (f z : Nat) : 1 ≤ (putF f z).length := by
  cases f with
  | zero => simp [putF]
  | succ f => unfold putF; split <;> simp
theorem putF_len (f z : Nat) : (putF f z).length ≤ f + 1 := by
  induction f generalizing z with
  | zero => simp [putF]
  | succ f ih =>
    unfold putF
    split
    · simp
    · have := ih (z / 128); simp only [List.length_cons]; omega
theorem putL_pos (n : Int) : 1 ≤ (putL n).length := putF_pos _ _
theorem putL_len (n : Int) : (putL n).length ≤ 10 := putF_len 9 _

theorem byte_nat (n : Nat) (h : n < 256) : (UInt8.ofNat n).toNat = n := by simp; omega
theorem pow9 : (128 : Nat) ^ 9 = 9223372036854775808 := by decide
theorem pow_le {i : Nat} (h : i ≤ 9) : 128 ^ i ≤ 9223372036854775808 := by
  rw [← pow9]; exact Nat.pow_le_pow_right (by decide) h
theorem pow_step {i : Nat} (h : i ≤ 8) : 128 ^ i * 128 ≤ 9223372036854775808 := by
  rw [← Nat.pow_succ]; exact pow_le (by omega)
theorem pow_pos' (i : Nat) : 0 < 128 ^ i := Nat.pow_pos (by decide)

theorem split_num (z p : Nat) : z % 128 * p + z / 128 * (p * 128) = z * p := by
  have h : z = 128 * (z / 128) + z % 128 := by omega
  have hh : z % 128 * p + z / 128 * (p * 128) = (128 * (z / 128) + z % 128) * p := by
    rw [Nat.add_mul, Nat.mul_comm p 128, ← Nat.mul_assoc, Nat.mul_comm (z / 128) 128]; omega
  rw [← h] at hh
  exact hh

/-- Taking what was put, whatever is behind. -/
theorem take_put (f : Nat) : ∀ (z i a : Nat) (X : List UInt8), i + f = 9 → z * 128 ^ i < 18446744073709551616 → (i = 0 ∨ z ≠ 0) →
    takeL (putF f z ++ X) i a = (unzz (a + z * 128 ^ i), i + (putF f z).length, 0) := by
  induction f with
  | zero =>
    intro z i a X hi hz h0
    obtain rfl : i = 9 := by omega
    rw [pow9] at hz
    obtain rfl : z = 1 := by omega
    simp [putF, takeL]
  | succ f ih =>
    intro z i a X hi hz h0
    have hi9 : ¬ i = 9 := by omega
    by_cases hs : z < 128
    · have hb : (UInt8.ofNat z).toNat = z := byte_nat z (by omega)
      have hbad : ¬ ((i = 9 ∧ 1 < (UInt8.ofNat z).toNat) ∨ (0 < i ∧ (UInt8.ofNat z).toNat = 0)) := by rw [hb]; omega
      have hm : z % 128 = z := Nat.mod_eq_of_lt hs
      unfold putF
      rw [if_pos hs]
      simp only [List.cons_append, List.nil_append, takeL]
      rw [if_neg hbad, hb, if_pos hs, hm]
      simp
    · have hb : (UInt8.ofNat (z % 128 + 128)).toNat = z % 128 + 128 := byte_nat _ (by omega)
      have hbad : ¬ ((i = 9 ∧ 1 < (UInt8.ofNat (z % 128 + 128)).toNat) ∨ (0 < i ∧ (UInt8.ofNat (z % 128 + 128)).toNat = 0)) := by rw [hb]; omega
      have hsp := split_num z (128 ^ i)
      have hlt : ¬ z % 128 + 128 < 128 := by omega
      have hmod : (z % 128 + 128) % 128 = z % 128 := by omega
      unfold putF
      rw [if_neg hs]
      simp only [List.cons_append, takeL]
      rw [if_neg hbad, hb, if_neg hlt, hmod, ih (z / 128) (i + 1) _ X (by omega) (by rw [Nat.pow_succ]; omega) (by right; omega), Nat.pow_succ, Nat.add_assoc, hsp]
      simp only [List.length_cons, Prod.mk.injEq, and_true, true_and]
      omega

/-- A beginning that is not the whole ends too early. -/
theorem take_cut (f : Nat) : ∀ (z i a j : Nat), i + f = 9 → z * 128 ^ i < 18446744073709551616 → (i = 0 ∨ z ≠ 0) → j < (putF f z).length →
    takeL ((putF f z).take j) i a = (0, 0, 3) := by
  induction f with
  | zero =>
    intro z i a j hi hz h0 hj
    obtain rfl : j = 0 := by simpa [putF] using hj
    simp [takeL]
  | succ f ih =>
    intro z i a j hi hz h0 hj
    by_cases hs : z < 128
    · unfold putF at hj ⊢
      rw [if_pos hs] at hj ⊢
      obtain rfl : j = 0 := by simpa using hj
      simp [takeL]
    · have hb : (UInt8.ofNat (z % 128 + 128)).toNat = z % 128 + 128 := byte_nat _ (by omega)
      have hbad : ¬ ((i = 9 ∧ 1 < (UInt8.ofNat (z % 128 + 128)).toNat) ∨ (0 < i ∧ (UInt8.ofNat (z % 128 + 128)).toNat = 0)) := by rw [hb]; omega
      have hsp := split_num z (128 ^ i)
      have hlt : ¬ z % 128 + 128 < 128 := by omega
      unfold putF at hj ⊢
      rw [if_neg hs] at hj ⊢
      cases j with
      | zero => simp [takeL]
      | succ j =>
        simp only [List.take_succ_cons, takeL]
        rw [if_neg hbad, hb, if_neg hlt]
        exact ih (z / 128) (i + 1) _ j (by omega) (by rw [Nat.pow_succ]; omega) (by right; omega) (by simpa using hj)

/-- What was taken is what the number is put as. -/
theorem take_sound : ∀ (L : List UInt8) (i a : Nat) (m : Int) (k : Nat), i ≤ 9 → a < 128 ^ i → takeL L i a = (m, k, 0) →
    i + 1 ≤ k ∧ k - i ≤ L.length ∧ k ≤ 10 ∧ ∃ z, L.take (k - i) = putF (9 - i) z ∧ m = unzz (a + z * 128 ^ i) ∧ a + z * 128 ^ i < 18446744073709551616 ∧ (0 < i → z ≠ 0)
  | [], i, a, m, k, _, _, h => by simp [takeL] at h
  | c :: r, i, a, m, k, hi, ha, h => by
    unfold takeL at h
    by_cases hbad : (i = 9 ∧ 1 < c.toNat) ∨ (0 < i ∧ c.toNat = 0)
    · rw [if_pos hbad] at h; simp at h
    · rw [if_neg hbad] at h
      have hc := c.toNat_lt
      have hp := pow_le hi
      have hpp := pow_pos' i
      by_cases hs : c.toNat < 128
      · rw [if_pos hs] at h
        simp only [Prod.mk.injEq, and_true] at h
        obtain ⟨rfl, rfl⟩ := h
        have hm : c.toNat % 128 = c.toNat := Nat.mod_eq_of_lt hs
        have hone : i + 1 - i = 1 := by omega
        refine ⟨Nat.le_refl _, by simp, by omega, c.toNat, ?_, by rw [hm], ?_, by omega⟩
        · rw [hone]
          simp only [List.take_succ_cons, List.take_zero]
          have hbk : UInt8.ofNat c.toNat = c := by simp
          cases hf : 9 - i with
          | zero => unfold putF; rw [hbk]
          | succ f => unfold putF; rw [if_pos hs, hbk]
        · by_cases h9 : i = 9
          · subst h9
            have h1 : c.toNat ≤ 1 := by omega
            have : c.toNat * 128 ^ 9 ≤ 1 * 128 ^ 9 := Nat.mul_le_mul_right _ h1
            rw [pow9] at this ha ⊢
            omega
          · have h8 := pow_step (i := i) (by omega)
            have : c.toNat * 128 ^ i ≤ 127 * 128 ^ i := Nat.mul_le_mul_right _ (by omega)
            omega
      · rw [if_neg hs] at h
        have h8 : i ≤ 8 := by omega
        have ha2 : a + c.toNat % 128 * 128 ^ i < 128 ^ (i + 1) := by
          have : c.toNat % 128 * 128 ^ i ≤ 127 * 128 ^ i := Nat.mul_le_mul_right _ (by omega)
          rw [Nat.pow_succ]
          omega
        obtain ⟨k1, k2, k3, z, e1, e2, e3, e4⟩ := take_sound r (i + 1) _ m k (by omega) ha2 h
        have hz := e4 (by omega)
        have hdm : (c.toNat % 128 + 128 * z) % 128 = c.toNat % 128 ∧ (c.toNat % 128 + 128 * z) / 128 = z := by omega
        have hsp := split_num (c.toNat % 128 + 128 * z) (128 ^ i)
        rw [hdm.1, hdm.2] at hsp
        rw [Nat.pow_succ, Nat.add_assoc, hsp] at e2 e3
        refine ⟨by omega, by simp only [List.length_cons]; omega, k3, c.toNat % 128 + 128 * z, ?_, e2, e3, by omega⟩
        obtain ⟨d, rfl⟩ : ∃ d, k = i + 1 + d := ⟨k - (i + 1), by omega⟩
        have hk1 : i + 1 + d - i = d + 1 := by omega
        have hk2 : i + 1 + d - (i + 1) = d := by omega
        have hf : 9 - i = (8 - i) + 1 := by omega
        have hf2 : 9 - (i + 1) = 8 - i := by omega
        rw [hk2, hf2] at e1
        rw [hk1, hf]
        unfold putF
        rw [if_neg (by omega), hdm.1, hdm.2, List.take_succ_cons, e1]
        congr 1
        have hcc : c.toNat % 128 + 128 = c.toNat := by omega
        rw [hcc]; simp

/-- A taking gives, or fails. -/
theorem take_cases : ∀ (L : List UInt8) (i a : Nat), (∃ m k, takeL L i a = (m, k, 0)) ∨ takeL L i a = (0, 0, 3) ∨ takeL L i a = (0, 0, 4)
  | [], _, _ => Or.inr (Or.inl rfl)
  | c :: r, i, a => by
    unfold takeL
    split
    · exact Or.inr (Or.inr rfl)
    · split
      · exact Or.inl ⟨_, _, rfl⟩
      · exact take_cases r _ _

/-- The bytes L begin with the number m, in k bytes. -/
def Gives (L : List UInt8) (m : Int) (k : Nat) : Prop := takeL L 0 0 = (m, k, 0)
/-- They begin with none, for the reason e. -/
def Fails (L : List UInt8) (e : Int) : Prop := takeL L 0 0 = (0, 0, e) ∧ (e = 3 ∨ e = 4)
theorem gives_or_fails (L : List UInt8) : (∃ m k, Gives L m k) ∨ ∃ e, Fails L e := by
  rcases take_cases L 0 0 with h | h | h
  · exact Or.inl h
  · exact Or.inr ⟨3, h, Or.inl rfl⟩
  · exact Or.inr ⟨4, h, Or.inr rfl⟩
theorem gives_put {n : Int} (h0 : -9223372036854775808 ≤ n) (h1 : n ≤ 9223372036854775807) (X : List UInt8) : Gives (putL n ++ X) n (putL n).length := by
  have h := take_put 9 (zz n) 0 0 X rfl (by have := zz_lt h0 h1; simpa using this) (Or.inl rfl)
  unfold Gives putL
  rw [h]
  simp [unzz_zz]
theorem fails_cut {n : Int} (h0 : -9223372036854775808 ≤ n) (h1 : n ≤ 9223372036854775807) (j : Nat) (hj : j < (putL n).length) : Fails ((putL n).take j) 3 :=
  ⟨take_cut 9 (zz n) 0 0 j rfl (by have := zz_lt h0 h1; simpa using this) (Or.inl rfl) hj, Or.inl rfl⟩
theorem Gives.put {L : List UInt8} {m : Int} {k : Nat} (h : Gives L m k) : 1 ≤ k ∧ k ≤ 10 ∧ k ≤ L.length ∧ L.take k = putL m ∧ -9223372036854775808 ≤ m ∧ m ≤ 9223372036854775807 := by
  obtain ⟨k1, k2, k3, z, e1, e2, e3, _⟩ := take_sound L 0 0 m k (by omega) (by simp) h
  simp only [Nat.sub_zero, Nat.pow_zero, Nat.mul_one, Nat.zero_add] at e1 e2 e3 k2 k1
  refine ⟨k1, k3, k2, ?_, ?_⟩
  · rw [e1, e2]; unfold putL; rw [zz_unzz]
  · rw [e2]; exact unzz_in e3
theorem Gives.same {L : List UInt8} {m m' : Int} {k k' : Nat} (h : Gives L m k) (h' : Gives L m' k') : m = m' ∧ k = k' := by
  have := h.symm.trans h'
  simp only [Prod.mk.injEq, and_true] at this
  exact this
end Go.Proofs.Ytjafjejjljgphaa
