/- Facts on what the signs of layer 1 come to: sums undo one another, products wrap in any order, quotient and rest are the number again, a product of a sum is the sum of both products, a shift up is a product with a power of two. Nothing of the program is named here. -/
import Derived.Test.YtkomjcmjhabpnaaWordVal
namespace Go.Proofs.Ytkomjcmjhabpnaa
open Go.RowKit (wrap64)

theorem wf_bd {a : Int} (h : (Lit.int .i64 a).wf = true) : -9223372036854775808 ≤ a ∧ a ≤ 9223372036854775807 := by
  simp only [Lit.wf, IntKind.min, IntKind.max, IntKind.signed, IntKind.bits, Bool.and_eq_true, decide_eq_true_eq, if_true] at h
  omega
theorem wf_u8_bd {a : Int} (h : (Lit.int .u8 a).wf = true) : 0 ≤ a ∧ a ≤ 255 := by
  simp [Lit.wf, IntKind.min, IntKind.max, IntKind.signed, IntKind.bits] at h
  omega
theorem ok_of (s b : Int) (h0 : 0 ≤ s ∧ s ≤ 13) (h3 : s ≠ 3) (h4 : s ≠ 4) : arOk s b = true := by
  unfold arOk; simp [h0, h3, h4]
theorem ok_div (s b : Int) (h : s = 3 ∨ s = 4) : arOk s b = (b != 0) := by
  rcases h with rfl | rfl <;> rfl
theorem val_add (a b : Int) : arV 0 a b = wrap64 (a + b) := rfl
theorem val_sub (a b : Int) : arV 1 a b = wrap64 (a - b) := rfl
theorem val_mul (a b : Int) : arV 2 a b = wrap64 (a * b) := rfl
theorem val_less (a b : Int) : arV 10 a b = tv (decide (a < b)) := rfl
theorem val_most (a b : Int) : arV 11 a b = tv (decide (a ≤ b)) := rfl
theorem val_same (a b : Int) : arV 12 a b = tv (a == b) := rfl
theorem val_else (a b : Int) : arV 13 a b = tv (a != b) := rfl
theorem val_up (a b : Int) : arV 8 a b = shu a (b % 64).toNat := rfl
theorem val_down (a b : Int) : arV 9 a b = shd a (b % 64).toNat := rfl

/-! ### Wrapping -/
theorem wrap_is (n : Int) : ∃ k : Int, wrap64 n = n + 18446744073709551616 * k := ⟨-((n + 9223372036854775808) / 18446744073709551616), by unfold wrap64; omega⟩
theorem wrap_add (n k : Int) : wrap64 (n + 18446744073709551616 * k) = wrap64 n := by unfold wrap64; omega
theorem wrap_in_add (m n : Int) : wrap64 (wrap64 m + n) = wrap64 (m + n) := by unfold wrap64; omega
theorem wrap_in_add2 (m n : Int) : wrap64 (wrap64 m + wrap64 n) = wrap64 (m + n) := by unfold wrap64; omega
theorem wrap_in_mul (m n : Int) : wrap64 (wrap64 m * n) = wrap64 (m * n) := by
  obtain ⟨k, hk⟩ := wrap_is m
  rw [hk, Int.add_mul, Int.mul_assoc]
  exact wrap_add _ _
theorem wrap_in_mul2 (m n : Int) : wrap64 (m * wrap64 n) = wrap64 (m * n) := by rw [Int.mul_comm, wrap_in_mul, Int.mul_comm]

/-! ### The laws' own facts -/
theorem sums_back (a b : Int) (ha : -9223372036854775808 ≤ a ∧ a ≤ 9223372036854775807) : arV 1 (arV 0 a b) b = a := by
  rw [val_add, val_sub]; unfold wrap64; omega
theorem sums_turn (a b : Int) : arV 0 b a = arV 0 a b := by rw [val_add, val_add, Int.add_comm]
theorem products_turn (a b : Int) : arV 2 b a = arV 2 a b := by rw [val_mul, val_mul, Int.mul_comm]
theorem spreads (a b c : Int) : arV 2 (arV 0 a b) c = arV 0 (arV 2 a c) (arV 2 b c) := by
  simp only [val_add, val_mul]
  rw [wrap_in_mul, wrap_in_add2, Int.add_mul]
theorem rests (a b : Int) (ha : -9223372036854775808 ≤ a ∧ a ≤ 9223372036854775807) (hb : ¬ b = 0) : arV 0 (arV 2 (arV 3 a b) b) (arV 4 a b) = a := by
  have e3 : arV 3 a b = wrap64 (a.tdiv b) := by show (if b = 0 then 0 else wrap64 (a.tdiv b)) = _; rw [if_neg hb]
  have e4 : arV 4 a b = a.tmod b := by show (if b = 0 then 0 else a.tmod b) = _; rw [if_neg hb]
  rw [e3, e4, val_mul, val_add, wrap_in_mul, wrap_in_add, Int.tdiv_mul_add_tmod]
  exact wrap64_id a ha
theorem one_of (a b : Int) : (a < b ∧ arV 10 a b = 1 ∧ arV 10 b a = 0 ∧ arV 12 a b = 0 ∧ arV 11 a b = 1 ∧ arV 13 a b = 1)
    ∨ (a = b ∧ arV 10 a b = 0 ∧ arV 10 b a = 0 ∧ arV 12 a b = 1 ∧ arV 11 a b = 1 ∧ arV 13 a b = 0)
    ∨ (b < a ∧ arV 10 a b = 0 ∧ arV 10 b a = 1 ∧ arV 12 a b = 0 ∧ arV 11 a b = 0 ∧ arV 13 a b = 1) := by
  simp only [val_less, val_most, val_same, val_else]
  rcases Int.lt_trichotomy a b with h | h | h
  · refine Or.inl ⟨h, ?_⟩
    have h1 : (a == b) = false := by simp; omega
    rw [decide_eq_true h, decide_eq_false (show ¬ b < a by omega), decide_eq_true (show a ≤ b by omega), bne, h1]
    exact ⟨rfl, rfl, rfl, rfl, rfl⟩
  · subst h
    refine Or.inr (Or.inl ⟨rfl, ?_⟩)
    rw [decide_eq_false (show ¬ a < a by omega), decide_eq_true (show a ≤ a by omega), bne, beq_self_eq_true]
    exact ⟨rfl, rfl, rfl, rfl, rfl⟩
  · refine Or.inr (Or.inr ⟨h, ?_⟩)
    have h1 : (a == b) = false := by simp; omega
    rw [decide_eq_true h, decide_eq_false (show ¬ a < b by omega), decide_eq_false (show ¬ a ≤ b by omega), bne, h1]
    exact ⟨rfl, rfl, rfl, rfl, rfl⟩

/-! ### Shifts -/
theorem up_mul (a : Int) (k : Nat) (hk : k < 63) : arV 8 a k = arV 2 a (2 ^ k) := by
  rw [val_up, val_mul, show ((k : Int) % 64).toNat = k by omega]; rfl
theorem up_mul_on (a : Int) (k : Nat) (hk : k < 63) : arV 8 a ((k : Int) + 64) = arV 2 a (2 ^ k) := by
  rw [val_up, val_mul, show (((k : Int) + 64) % 64).toNat = k by omega]; rfl
theorem pow_in (k : Nat) (hk : k < 63) : wrap64 ((2 : Int) ^ k) = 2 ^ k := by
  have h : 2 ^ k ≤ 2 ^ 62 := Nat.pow_le_pow_right (show 2 > 0 by decide) (show k ≤ 62 by omega)
  rw [show (2 : Nat) ^ 62 = 4611686018427387904 by decide] at h
  have h2 : (0 : Int) < 2 ^ k := Int.pow_pos (by decide)
  have h3 : ((2 ^ k : Nat) : Int) ≤ 4611686018427387904 := by omega
  rw [← pow_cast] at h3
  exact wrap64_id _ ⟨by omega, by omega⟩
theorem down_is (a : Int) (k : Nat) (hk : k < 63) : arV 9 a k = a / 2 ^ k := by
  rw [val_down, show ((k : Int) % 64).toNat = k by omega]; rfl
theorem down_up (a : Int) (k : Nat) (ha : -9223372036854775808 ≤ a ∧ a ≤ 9223372036854775807) (hk : k < 63) : arV 9 (arV 8 (a / 2 ^ k) k) k = a / 2 ^ k := by
  have hp : (0 : Int) < 2 ^ k := Int.pow_pos (by decide)
  have h1 : a / 2 ^ k * 2 ^ k ≤ a := Int.ediv_mul_le _ (by omega)
  have h2 : a < a / 2 ^ k * 2 ^ k + 2 ^ k := Int.lt_ediv_add_one_mul_self a hp |> fun h => by rw [Int.add_mul, Int.one_mul] at h; exact h
  have h3 : -9223372036854775808 ≤ a / 2 ^ k * 2 ^ k := by
    have e : (9223372036854775808 : Int) = 2 ^ (63 - k) * 2 ^ k := by rw [← Int.pow_add, show 63 - k + k = 63 by omega]; rfl
    have : -(2 ^ (63 - k)) ≤ a / 2 ^ k := (Int.le_ediv_iff_mul_le hp).2 (by rw [Int.neg_mul, ← e]; exact ha.1)
    have := Int.mul_le_mul_of_nonneg_right this (Int.le_of_lt hp)
    rw [Int.neg_mul, ← e] at this
    exact this
  rw [down_is _ _ hk, val_up, show ((k : Int) % 64).toNat = k by omega]
  unfold shu
  rw [wrap64_id _ ⟨h3, by omega⟩, Int.mul_ediv_cancel _ (by omega)]

/-! ### The chapter's examples -/
theorem c_add : arV 0 4611686018427387904 4611686018427387904 = -9223372036854775808 := by rw [val_add]; unfold wrap64; omega
theorem c_mul2 : arV 2 4611686018427387904 2 = -9223372036854775808 := by rw [val_mul]; unfold wrap64; omega
theorem c_mul : arV 2 3 5 = 15 := by rw [val_mul]; unfold wrap64; omega
theorem c_sum : arV 0 1 2 = 3 := by rw [val_add]; unfold wrap64; omega
theorem c_div : arV 3 (-7) 2 = -3 := by show wrap64 ((-7 : Int).tdiv 2) = -3; rw [show (-7 : Int).tdiv 2 = -3 by decide]; unfold wrap64; omega
theorem c_rem : arV 4 (-7) 2 = -1 := by show (-7 : Int).tmod 2 = -1; decide
theorem c_shl : arV 8 1 65 = 2 := by rw [val_up, show ((65 : Int) % 64).toNat = 1 by decide]; unfold shu wrap64; omega
theorem c_shr : arV 9 (-2) 1 = -1 := by rw [val_down, show ((1 : Int) % 64).toNat = 1 by decide]; unfold shd; omega
theorem ok_s (s b : Int) (h : (0 ≤ s ∧ s ≤ 13) ∧ s ≠ 3 ∧ s ≠ 4) : arOk s b = true := ok_of s b h.1 h.2.1 h.2.2
theorem ok_d (s b : Int) (h : (s = 3 ∨ s = 4) ∧ b ≠ 0) : arOk s b = true := by rw [ok_div s b h.1]; simp [h.2]
end Go.Proofs.Ytkomjcmjhabpnaa
