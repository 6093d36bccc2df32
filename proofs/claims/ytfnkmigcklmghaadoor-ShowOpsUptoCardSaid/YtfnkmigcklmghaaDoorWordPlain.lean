/- Plain lemmas on numbers for layer 1: sums by carries, products, quotients and shifts bit by bit come to the sums, products, quotients and shifts modulo 2^64. Nothing of the program is named here. -/
import Derived.WalkKit
namespace Go.Proofs.YtfnkmigcklmghaaDoor
open Go.RowKit (wrap64)

/-- Sums, products, and the number with the other sign, modulo 2^64. -/
def sum64 (a b : Nat) : Nat := (a + b) % 18446744073709551616
def mul64 (a b : Nat) : Nat := a * b % 18446744073709551616
def neg64 (a : Nat) : Nat := (18446744073709551616 - a) % 18446744073709551616
theorem sum64_lt (a b : Nat) : sum64 a b < 18446744073709551616 := Nat.mod_lt _ (by decide)
theorem mul64_lt (a b : Nat) : mul64 a b < 18446744073709551616 := Nat.mod_lt _ (by decide)
theorem neg64_lt (a : Nat) : neg64 a < 18446744073709551616 := Nat.mod_lt _ (by decide)

/-- Quotient and rest. -/
def qt (a d : Nat) : Nat := a / d
def rs (a d : Nat) : Nat := a % d
theorem qt_le (a d : Nat) : qt a d ≤ a := Nat.div_le_self _ _
theorem rs_le (a d : Nat) : rs a d ≤ a := Nat.mod_le _ _

/-- Bit i of a number. -/
def bit (a i : Nat) : Nat := a / 2 ^ i % 2
theorem bit_le (a i : Nat) : bit a i ≤ 1 := by unfold bit; omega
theorem mod_bit (a i : Nat) : a % 2 ^ (i + 1) = a % 2 ^ i + 2 ^ i * bit a i := Nat.mod_pow_succ
theorem div_bit (a i : Nat) : a / 2 ^ i = 2 * (a / 2 ^ (i + 1)) + bit a i := by
  unfold bit; rw [Nat.pow_succ, ← Nat.div_div_eq_div_mul]; omega

/-! ### A sum by carries -/
def po (a b i : Nat) : Nat := (a % 2 ^ i + b % 2 ^ i) % 2 ^ i
def pc (a b i : Nat) : Nat := (a % 2 ^ i + b % 2 ^ i) / 2 ^ i
def ps (a b i : Nat) : Nat := bit a i + bit b i + pc a b i
theorem po_lt (a b i : Nat) : po a b i < 2 ^ i := Nat.mod_lt _ (Nat.two_pow_pos _)
theorem pc_le (a b i : Nat) : pc a b i ≤ 1 := by
  unfold pc
  have h1 := Nat.mod_lt a (Nat.two_pow_pos i)
  have h2 := Nat.mod_lt b (Nat.two_pow_pos i)
  have : (a % 2 ^ i + b % 2 ^ i) / 2 ^ i < 2 := (Nat.div_lt_iff_lt_mul (Nat.two_pow_pos i)).2 (by omega)
  omega
theorem two_parts (M o s : Nat) (ho : o < M) : (o + M * s) % (M * 2) = o + M * (s % 2) ∧ (o + M * s) / (M * 2) = s / 2 := by
  have e : o + M * s = (o + M * (s % 2)) + (M * 2) * (s / 2) := by
    have : s = 2 * (s / 2) + s % 2 := by omega
    calc o + M * s = o + M * (2 * (s / 2) + s % 2) := by rw [← this]
      _ = _ := by rw [Nat.mul_add, Nat.mul_assoc]; omega
  have hs : s % 2 = 0 ∨ s % 2 = 1 := by omega
  have hlt : o + M * (s % 2) < M * 2 := by rcases hs with h | h <;> rw [h] <;> omega
  rw [e, Nat.add_mul_mod_self_left, Nat.add_mul_div_left _ _ (by omega), Nat.mod_eq_of_lt hlt, Nat.div_eq_of_lt hlt]
  exact ⟨rfl, by omega⟩
theorem p_step (a b i : Nat) : po a b (i + 1) = po a b i + 2 ^ i * (ps a b i % 2) ∧ pc a b (i + 1) = ps a b i / 2 := by
  have h := two_parts (2 ^ i) (po a b i) (ps a b i) (po_lt a b i)
  have e : a % 2 ^ (i + 1) + b % 2 ^ (i + 1) = po a b i + 2 ^ i * ps a b i := by
    rw [mod_bit, mod_bit]
    have hd := Nat.div_add_mod (a % 2 ^ i + b % 2 ^ i) (2 ^ i)
    unfold ps
    rw [Nat.mul_add, Nat.mul_add]
    change _ = (a % 2 ^ i + b % 2 ^ i) % 2 ^ i + (2 ^ i * bit a i + 2 ^ i * bit b i + 2 ^ i * ((a % 2 ^ i + b % 2 ^ i) / 2 ^ i))
    omega
  constructor
  · show (a % 2 ^ (i + 1) + b % 2 ^ (i + 1)) % 2 ^ (i + 1) = _
    rw [e, Nat.pow_succ]; exact h.1
  · show (a % 2 ^ (i + 1) + b % 2 ^ (i + 1)) / 2 ^ (i + 1) = _
    rw [e, Nat.pow_succ]; exact h.2
theorem or_top (o t i : Nat) (ho : o < 2 ^ i) : o ||| (2 ^ i * t) = o + 2 ^ i * t := by
  rw [Nat.or_comm, ← Nat.two_pow_add_eq_or_of_lt ho t]; omega
theorem po_end (a b : Nat) (ha : a < 18446744073709551616) (hb : b < 18446744073709551616) : po a b 64 = sum64 a b := by
  unfold po sum64
  rw [Nat.mod_eq_of_lt (show a < 2 ^ 64 from ha), Nat.mod_eq_of_lt (show b < 2 ^ 64 from hb)]

/-! ### The model's words -/
theorem wrap_u64_nat (n : Nat) : IntKind.u64.wrap (n : Int) = ((n % 18446744073709551616 : Nat) : Int) := by
  rw [IntKind.wrap_u64]; omega
theorem pow_cast (i : Nat) : ((2 : Int) ^ i) = ((2 ^ i : Nat) : Int) := by simp
theorem pow_lt_64 {i : Nat} (h : i < 64) : 2 ^ i * 2 ≤ 18446744073709551616 := by
  have : 2 ^ (i + 1) ≤ 2 ^ 64 := Nat.pow_le_pow_right (by decide) (by omega)
  rw [Nat.pow_succ] at this; simpa using this
/-- A low bit, shifted up to place i. -/
theorem shl_low (t i : Nat) (ht : t ≤ 1) (hi : i < 64) : IntKind.u64.wrap ((t : Int) * 2 ^ i) = ((2 ^ i * t : Nat) : Int) := by
  have := pow_lt_64 hi
  rw [pow_cast, ← Int.natCast_mul, wrap_u64_nat, Nat.mod_eq_of_lt, Nat.mul_comm]
  rcases (show t = 0 ∨ t = 1 by omega) with h | h <;> subst h <;> omega
theorem bits_or_nat (a b : Nat) (ha : a < 18446744073709551616) (hb : b < 18446744073709551616) : bits .or .u64 (a : Int) (b : Int) = ((a ||| b : Nat) : Int) := bits_or_u64_nat a b ha hb
theorem po_zero (a b : Nat) : po a b 0 = 0 := by unfold po; omega
theorem pc_zero (a b : Nat) : pc a b 0 = 0 := by unfold pc; omega
theorem p_or (a b i : Nat) (hi : i < 64) :
    bits .or .u64 (po a b i : Int) (IntKind.u64.wrap (((bit a i : Int) + (bit b i : Int) + (pc a b i : Int)) % 2 * 2 ^ i)) = (po a b (i + 1) : Int) := by
  have e : ((bit a i : Int) + (bit b i : Int) + (pc a b i : Int)) % 2 = ((ps a b i % 2 : Nat) : Int) := by unfold ps; omega
  have h2 := pow_lt_64 hi
  have h3 := po_lt a b i
  have ht : ps a b i % 2 ≤ 1 := by omega
  have h4 : 2 ^ i * (ps a b i % 2) ≤ 2 ^ i := by
    rcases (show ps a b i % 2 = 0 ∨ ps a b i % 2 = 1 by omega) with h | h <;> rw [h] <;> omega
  rw [e, shl_low _ _ ht hi, bits_or_nat _ _ (by omega) (by omega), or_top _ _ _ h3, (p_step a b i).1]
theorem p_carry (a b i : Nat) : ((bit a i : Int) + (bit b i : Int) + (pc a b i : Int)) / 2 = (pc a b (i + 1) : Int) := by
  rw [(p_step a b i).2]; unfold ps; omega

/-! ### The other sign, products -/
theorem minus_nat (a : Nat) (ha : a < 18446744073709551616) : sum64 (18446744073709551615 - a) 1 = neg64 a := by unfold sum64 neg64; omega
theorem xor_ones (a : Nat) (ha : a < 18446744073709551616) : bits .xor .u64 (a : Int) 18446744073709551615 = ((18446744073709551615 - a : Nat) : Int) := by
  have h := bits_xor_u64_nat a 18446744073709551615 ha (by decide)
  rw [show ((18446744073709551615 : Nat) : Int) = (18446744073709551615 : Int) from rfl] at h
  rw [h]
  congr 1
  refine Nat.eq_of_testBit_eq fun i => ?_
  have h1 := Nat.testBit_two_pow_sub_succ (x := a) (n := 64) ha i
  have h2 := Nat.testBit_two_pow_sub_one 64 i
  rw [show (2 : Nat) ^ 64 - (a + 1) = 18446744073709551615 - a by omega] at h1
  rw [show (2 : Nat) ^ 64 - 1 = 18446744073709551615 by omega] at h2
  rw [Nat.testBit_xor, h1, h2]
  by_cases hi : i < 64
  · simp [hi]
  · have h3 : a.testBit i = false := Nat.testBit_lt_two_pow (Nat.lt_of_lt_of_le (show a < 2 ^ 64 from ha) (Nat.pow_le_pow_right (show 2 > 0 by decide) (show 64 ≤ i by omega)))
    simp [hi, h3]
/-- A product, as far as the low i bits of the second one. -/
def pt (a b i : Nat) : Nat := a * (b % 2 ^ i) % 18446744073709551616
theorem pt_zero (a b : Nat) : pt a b 0 = 0 := by unfold pt; simp [Nat.mod_one]
theorem pt_lt (a b i : Nat) : pt a b i < 18446744073709551616 := Nat.mod_lt _ (by decide)
theorem pt_end (a b : Nat) (hb : b < 18446744073709551616) : pt a b 64 = mul64 a b := by
  unfold pt mul64; rw [Nat.mod_eq_of_lt (show b < 2 ^ 64 from hb)]
theorem pt_no (a b i : Nat) (h : bit b i = 0) : pt a b (i + 1) = pt a b i := by unfold pt; rw [mod_bit, h]; simp
theorem pt_yes (a b i : Nat) (h : bit b i = 1) : pt a b (i + 1) = sum64 (pt a b i) (a * 2 ^ i % 18446744073709551616) := by
  unfold pt sum64; rw [mod_bit, h, Nat.mul_add, Nat.mul_one, Nat.add_mod]
theorem shl_wrap (a i : Nat) : IntKind.u64.wrap ((a : Int) * 2 ^ i) = ((a * 2 ^ i % 18446744073709551616 : Nat) : Int) := by
  rw [pow_cast, ← Int.natCast_mul, wrap_u64_nat]

/-! ### A number with a sign as one without -/
def u64n (x : Int) : Nat := (x % 18446744073709551616).toNat
theorem u64n_lt (x : Int) : u64n x < 18446744073709551616 := by unfold u64n; omega
theorem wrap_u64n (x : Int) : IntKind.u64.wrap x = (u64n x : Int) := by rw [IntKind.wrap_u64]; unfold u64n; omega
theorem size_neg (a : Int) (h0 : -9223372036854775808 ≤ a) (h : a < 0) : neg64 (u64n a) = a.natAbs := by unfold neg64 u64n; omega

/-! ### The first bit turned about -/
theorem xor_top_small (n : Nat) (h : n < 9223372036854775808) : n ^^^ 9223372036854775808 = 9223372036854775808 + n := by
  have e : (9223372036854775808 : Nat) = 2 ^ 63 := by decide
  rw [e] at h ⊢
  refine Nat.eq_of_testBit_eq fun i => ?_
  rw [Nat.testBit_xor, Nat.testBit_two_pow]
  rcases Nat.lt_trichotomy i 63 with hi | hi | hi
  · rw [Nat.testBit_two_pow_add_gt hi, decide_eq_false (show ¬ 63 = i by omega), Bool.xor_false]
  · subst hi; rw [Nat.testBit_two_pow_add_eq, decide_eq_true rfl, Bool.xor_true]
  · have h1 : n.testBit i = false := Nat.testBit_lt_two_pow (Nat.lt_of_lt_of_le h (Nat.pow_le_pow_right (show 2 > 0 by decide) (show 63 ≤ i by omega)))
    have h2 : (2 ^ 63 + n).testBit i = false := Nat.testBit_lt_two_pow (Nat.lt_of_lt_of_le (show 2 ^ 63 + n < 2 ^ 64 by omega) (Nat.pow_le_pow_right (show 2 > 0 by decide) (show 64 ≤ i by omega)))
    rw [h1, h2, decide_eq_false (show ¬ 63 = i by omega)]; rfl
def flip (a : Int) : Nat := (a + 9223372036854775808).toNat
theorem flip_lt (a : Int) (h : a ≤ 9223372036854775807) : flip a < 18446744073709551616 := by unfold flip; omega
theorem xor_flip (a : Int) (h0 : -9223372036854775808 ≤ a) (h1 : a ≤ 9223372036854775807) :
    bits .xor .u64 (IntKind.u64.wrap a) 9223372036854775808 = (flip a : Int) := by
  have h := bits_xor_u64_nat (u64n a) 9223372036854775808 (u64n_lt a) (by decide)
  rw [show ((9223372036854775808 : Nat) : Int) = (9223372036854775808 : Int) from rfl] at h
  rw [wrap_u64n, h]
  congr 1
  by_cases hs : 0 ≤ a
  · rw [xor_top_small _ (by unfold u64n; omega)]; unfold u64n flip; omega
  · have e : u64n a = flip a ^^^ 9223372036854775808 := by rw [xor_top_small _ (by unfold flip; omega)]; unfold u64n flip; omega
    rw [e, Nat.xor_assoc, Nat.xor_self, Nat.xor_zero]
theorem flip_less (a b : Int) (h0 : -9223372036854775808 ≤ a) (h2 : -9223372036854775808 ≤ b) : decide (flip a < flip b) = decide (a < b) := by
  have : flip a < flip b ↔ a < b := by unfold flip; omega
  simp only [this]

/-! ### The highest bit that is another one -/
theorem less_at (x y j : Nat) (h : x / 2 ^ (j + 1) = y / 2 ^ (j + 1)) (hne : bit x j ≠ bit y j) : decide (x < y) = decide (bit y j = 1) := by
  have h1 := bit_le x j
  have h2 := bit_le y j
  have ex := div_bit x j
  have ey := div_bit y j
  rw [h] at ex
  have key : x / 2 ^ j < y / 2 ^ j ↔ bit y j = 1 := by omega
  have up : x / 2 ^ j < y / 2 ^ j → x < y := fun hh => by
    rcases Nat.lt_or_ge x y with hl | hl
    · exact hl
    · have := Nat.div_le_div_right (c := 2 ^ j) hl; omega
  have dn : y / 2 ^ j < x / 2 ^ j → ¬ x < y := fun hh hl => by
    have := Nat.div_le_div_right (c := 2 ^ j) (Nat.le_of_lt hl); omega
  have : x < y ↔ bit y j = 1 := ⟨fun hl => by
    rcases Nat.lt_or_ge (x / 2 ^ j) (y / 2 ^ j) with hh | hh
    · exact key.1 hh
    · exact absurd hl (dn (by omega)), fun hb => up (key.2 hb)⟩
  simp only [this]
theorem same_down (x y j : Nat) (h : x / 2 ^ (j + 1) = y / 2 ^ (j + 1)) (he : bit x j = bit y j) : x / 2 ^ j = y / 2 ^ j := by
  rw [div_bit x j, div_bit y j, h, he]

/-! ### Shifts by one bit, again and again -/
def shu (a : Int) (k : Nat) : Int := wrap64 (a * 2 ^ k)
theorem shu_bd (a : Int) (k : Nat) : -9223372036854775808 ≤ shu a k ∧ shu a k ≤ 9223372036854775807 := by unfold shu wrap64; omega
theorem wrap64_id (a : Int) (h : -9223372036854775808 ≤ a ∧ a ≤ 9223372036854775807) : wrap64 a = a := by unfold wrap64; omega
theorem shu_zero (a : Int) (h : -9223372036854775808 ≤ a ∧ a ≤ 9223372036854775807) : shu a 0 = a := by
  unfold shu; rw [Int.pow_zero, Int.mul_one]; exact wrap64_id a h
theorem shu_step (a : Int) (k : Nat) : wrap64 (sum64 (u64n (shu a k)) (u64n (shu a k)) : Int) = shu a (k + 1) := by
  unfold shu
  rw [Int.pow_succ, ← Int.mul_assoc]
  generalize a * 2 ^ k = t
  unfold wrap64 sum64 u64n
  omega
def shd (a : Int) (k : Nat) : Int := a / 2 ^ k
theorem shd_bd (a : Int) (k : Nat) (h : -9223372036854775808 ≤ a ∧ a ≤ 9223372036854775807) : -9223372036854775808 ≤ shd a k ∧ shd a k ≤ 9223372036854775807 := by
  have hp : (1 : Int) ≤ 2 ^ k := by rw [pow_cast]; have := Nat.two_pow_pos k; omega
  unfold shd
  constructor
  · refine (Int.le_ediv_iff_mul_le (by omega)).2 ?_
    calc -9223372036854775808 * 2 ^ k ≤ -9223372036854775808 * 1 := Int.mul_le_mul_of_nonpos_left (by omega) hp
      _ ≤ a := by omega
  · by_cases ha : 0 ≤ a
    · have := Int.ediv_le_self (2 ^ k) ha; omega
    · have := Int.ediv_neg_of_neg_of_pos (a := a) (b := 2 ^ k) (by omega) (by omega); omega
theorem shd_zero (a : Int) : shd a 0 = a := by unfold shd; simp
theorem shd_succ (a : Int) (k : Nat) : shd a (k + 1) = shd a k / 2 := by
  unfold shd; rw [Int.pow_succ, Int.ediv_ediv_of_nonneg (Int.le_of_lt (Int.pow_pos (by decide)))]
theorem and_top (n : Nat) (h : n < 18446744073709551616) : n &&& 9223372036854775808 = if n < 9223372036854775808 then 0 else 9223372036854775808 := by
  have h1 := nat_bit 63 n
  rw [show (2 : Nat) ^ 63 = 9223372036854775808 by decide] at h1
  rw [h1]
  split <;> omega
theorem half_step (x : Int) (h : -9223372036854775808 ≤ x ∧ x ≤ 9223372036854775807) :
    wrap64 (bits .or .u64 ((u64n x : Int) / 2) (bits .and .u64 (u64n x : Int) 9223372036854775808)) = x / 2 := by
  have hl := u64n_lt x
  have ha := bits_and_u64_nat (u64n x) 9223372036854775808 hl (by decide)
  rw [show ((9223372036854775808 : Nat) : Int) = (9223372036854775808 : Int) from rfl, and_top _ hl] at ha
  rw [ha, show ((u64n x : Int) / 2) = ((u64n x / 2 : Nat) : Int) by omega]
  split
  · rw [bits_or_nat _ _ (by omega) (by omega), Nat.or_zero]
    unfold wrap64 u64n at *; omega
  · rw [bits_or_nat _ _ (by omega) (by omega), Nat.or_comm]
    have := Nat.two_pow_add_eq_or_of_lt (i := 63) (b := u64n x / 2) (by omega) 1
    rw [show (2 : Nat) ^ 63 * 1 = 9223372036854775808 by decide] at this
    rw [← this]
    unfold wrap64 u64n at *; omega

/-! ### And, or, xor bit by bit -/
def bitop (s a b : Nat) : Nat := if s = 5 then a &&& b else if s = 6 then a ||| b else a ^^^ b
theorem bit_test (a i : Nat) : bit a i = (a.testBit i).toNat := by
  unfold bit; rw [Nat.testBit_eq_decide_div_mod_eq]
  rcases (show a / 2 ^ i % 2 = 0 ∨ a / 2 ^ i % 2 = 1 by omega) with h | h <;> rw [h] <;> rfl
/-- The bits of the three, from theirs. -/
theorem bitop_bit (s a b i : Nat) : bit (bitop s a b) i = if s = 5 then bit a i * bit b i else if s = 6 then (bit a i + bit b i + 1) / 2 else (bit a i + bit b i) % 2 := by
  unfold bitop
  by_cases h5 : s = 5
  · simp only [h5, if_true, bit_test, Nat.testBit_and]
    cases a.testBit i <;> cases b.testBit i <;> rfl
  · by_cases h6 : s = 6
    · subst h6; simp only [Nat.reduceEqDiff, if_true, if_false, bit_test, Nat.testBit_or]
      cases a.testBit i <;> cases b.testBit i <;> rfl
    · simp only [h5, h6, if_false, bit_test, Nat.testBit_xor]
      cases a.testBit i <;> cases b.testBit i <;> rfl
theorem bitop_lt (s a b : Nat) (ha : a < 18446744073709551616) (hb : b < 18446744073709551616) : bitop s a b < 18446744073709551616 := by
  have e : (18446744073709551616 : Nat) = 2 ^ 64 := by decide
  rw [e] at *
  unfold bitop
  split
  · exact Nat.and_lt_two_pow _ hb
  · split
    · exact Nat.or_lt_two_pow ha hb
    · exact Nat.xor_lt_two_pow ha hb
/-- What the loop has made. -/
def bo (s a b i : Nat) : Nat := bitop s a b % 2 ^ i
theorem bo_zero (s a b : Nat) : bo s a b 0 = 0 := by unfold bo; omega
theorem bo_end (s a b : Nat) (ha : a < 18446744073709551616) (hb : b < 18446744073709551616) : bo s a b 64 = bitop s a b := Nat.mod_eq_of_lt (bitop_lt s a b ha hb)
theorem bo_no (s a b i : Nat) (h : bit (bitop s a b) i = 0) : bo s a b (i + 1) = bo s a b i := by unfold bo; rw [mod_bit, h]; simp
theorem bo_yes (s a b i : Nat) (hi : i < 64) (h : bit (bitop s a b) i = 1) :
    bits .or .u64 (bo s a b i : Int) (IntKind.u64.wrap (2 ^ i)) = (bo s a b (i + 1) : Int) := by
  have h1 : bo s a b i < 2 ^ i := Nat.mod_lt _ (Nat.two_pow_pos _)
  have h2 := pow_lt_64 hi
  have h3 := Nat.two_pow_pos i
  rw [pow_cast, wrap_u64_nat, Nat.mod_eq_of_lt (by omega), bits_or_nat _ _ (by omega) (by omega)]
  have h4 := or_top (bo s a b i) 1 i h1
  rw [Nat.mul_one] at h4
  rw [h4]
  unfold bo; rw [mod_bit, h, Nat.mul_one]

/-! ### Quotient and rest, bit by bit -/
def dq (a d k : Nat) : Nat := a / 2 ^ k / d
def dr (a d k : Nat) : Nat := a / 2 ^ k % d
theorem dr_lt (a d k : Nat) (hd : 1 ≤ d) : dr a d k < d := Nat.mod_lt _ (by omega)
theorem dq_le (a d k : Nat) : dq a d k ≤ a / 2 ^ k := Nat.div_le_self _ _
theorem dq_lt (a d j : Nat) (ha : a < 18446744073709551616) : dq a d (j + 1) * 2 + 1 < 18446744073709551616 := by
  have h1 := dq_le a d (j + 1)
  have h2 : a / 2 ^ (j + 1) ≤ a / 2 := by
    rw [Nat.pow_succ, Nat.mul_comm, ← Nat.div_div_eq_div_mul]; exact Nat.div_le_self _ _
  omega
/-- The next rest, ahead of its being cut. -/
def dn (a d j : Nat) : Nat := dr a d (j + 1) * 2 + bit a j
theorem d_parts (a d j : Nat) : a / 2 ^ j = d * (dq a d (j + 1) * 2) + dn a d j := by
  rw [div_bit a j]
  have h := Nat.div_add_mod (a / 2 ^ (j + 1)) d
  unfold dn dq dr
  rw [Nat.mul_comm _ 2, Nat.mul_left_comm]
  omega
theorem d_no (a d j : Nat) (hd : 1 ≤ d) (h : dn a d j < d) : dq a d j = dq a d (j + 1) * 2 ∧ dr a d j = dn a d j := by
  have e := d_parts a d j
  constructor
  · show a / 2 ^ j / d = _
    rw [e, Nat.mul_add_div (by omega), Nat.div_eq_of_lt h, Nat.add_zero]
  · show a / 2 ^ j % d = _
    rw [e, Nat.mul_add_mod_self_left, Nat.mod_eq_of_lt h]
theorem d_yes (a d j : Nat) (hd : 1 ≤ d) (h : d ≤ dn a d j) : dq a d j = dq a d (j + 1) * 2 + 1 ∧ dr a d j = dn a d j - d := by
  have e := d_parts a d j
  have hr := dr_lt a d (j + 1) hd
  have hb := bit_le a j
  have hlt : dn a d j - d < d := by unfold dn at *; omega
  have e2 : a / 2 ^ j = d * (dq a d (j + 1) * 2 + 1) + (dn a d j - d) := by rw [Nat.mul_add, Nat.mul_one]; omega
  constructor
  · show a / 2 ^ j / d = _
    rw [e2, Nat.mul_add_div (by omega), Nat.div_eq_of_lt hlt, Nat.add_zero]
  · show a / 2 ^ j % d = _
    rw [e2, Nat.mul_add_mod_self_left, Nat.mod_eq_of_lt hlt]
theorem or_low (n t : Nat) (hn : n * 2 + 1 < 18446744073709551616) (ht : t ≤ 1) : bits .or .u64 ((n : Int) * 2) (t : Int) = ((n * 2 + t : Nat) : Int) := by
  have h := bits_or_nat (n * 2) t (by omega) (by omega)
  rw [Int.natCast_mul] at h
  have h2 := Nat.two_pow_add_eq_or_of_lt (i := 1) (b := t) (by omega) n
  rw [show 2 ^ 1 * n = n * 2 by omega] at h2
  rw [← h2] at h
  exact h
theorem sub_neg (n d : Nat) (hd : 1 ≤ d) (h : d ≤ n) (hn : n < 18446744073709551616) : sum64 n (neg64 d) = n - d := by unfold sum64 neg64; omega
end Go.Proofs.YtfnkmigcklmghaaDoor
