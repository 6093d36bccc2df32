/- Plain lemmas on numbers for layer 1: sums by carries, products, quotients and shifts bit by bit come to the sums, products, quotients and shifts modulo 2^64. Nothing of the program is named here. -/
import Derived.WalkKit
import Derived.Test.YtccajbgdlicbnaaDoorRows
import Derived.ProofKit
import Derived.OpenShut
import Derived.Lib.Hide
import Derived.Lib.ItoaNum
import Derived.Laws.IdiomStrings
import Derived.Below
import Derived.Outline
import Derived.Laws.AppendOwnNone
import Derived.SizedLaws
import Derived.Deep.QuietTactic
import Derived.BigQuiet
import Derived.Test.YtccajbgdlicbnaaDoorShelf
import Derived.Lib.LaidTab
import Derived.Lib.AppendIntMem
import Derived.Lib.ItoaLen
import Derived.Lib.Bytealg
import Derived.Lib.Strings
import Derived.Shelf.Strings.BuilderK
import Derived.Laws.AppendOwn
import Derived.Laws.MakeOwn
import Derived.Deep.AppendLies
import Derived.Laws.Slices
import Derived.Handy
import Derived.Lib.SmallJoins
import Derived.Lib.IndexBytes
import Derived.IntWalk
import Derived.Deep.RegionLaw
import Derived.Deep.RegionHeld3
import Derived.Maps.AppendAt
import Derived.Laws.Bits64b
import Derived.Lib.AppendStr
import Derived.Lib.Join
namespace Go.Proofs.YtccajbgdlicbnaaDoor
open Go.RowKit (wrap64)

/-- Sums, products, and the number with the other sign, modulo 2^64. -/
def sum64 (a b : Nat) : Nat := (a + b) % 18446744073709551616
def mul64 (a b : Nat) : Nat := a * b % 18446744073709551616
def neg64 (a : Nat) : Nat := (18446744073709551616 - a) % 18446744073709551616
theorem sum64_lt (a b : Nat) : sum64 a b < 18446744073709551616 := Nat.mod_lt _ (by decide)
theorem mul64_lt (a b : Nat) : mul64 a b < 18446744073709551616 := Nat.mod_lt _ (by decide)
theorem neg64_lt (a : Nat) : neg64 a < 18446744073709551616 := Nat.mod_lt _ (by decide)

/-- Quotient and rest. -/
def qt (a d : Nat) : Nat := a / d
def rs (a d : Nat) : Nat := a % d
theorem qt_le (a d : Nat) : qt a d ≤ a := Nat.div_le_self _ _
theorem rs_le (a d : Nat) : rs a d ≤ a := Nat.mod_le _ _

/-- Bit i of a number. -/
def bit (a i : Nat) : Nat := a / 2 ^ i % 2
theorem bit_le (a i : Nat) : bit a i ≤ 1 := by unfold bit; omega
theorem mod_bit (a i : Nat) : a % 2 ^ (i + 1) = a % 2 ^ i + 2 ^ i * bit a i := Nat.mod_pow_succ
theorem div_bit (a i : Nat) : a / 2 ^ i = 2 * (a / 2 ^ (i + 1)) + bit a i := by
  unfold bit; rw [Nat.pow_succ, ← Nat.div_div_eq_div_mul]; omega

/-! ### A sum by carries -/
def po (a b i : Nat) : Nat := (a % 2 ^ i + b % 2 ^ i) % 2 ^ i
def pc (a b i : Nat) : Nat := (a % 2 ^ i + b % 2 ^ i) / 2 ^ i
def ps (a b i : Nat) : Nat := bit a i + bit b i + pc a b i
theorem po_lt (a b i : Nat) : po a b i < 2 ^ i := Nat.mod_lt _ (Nat.two_pow_pos _)
theorem pc_le (a b i : Nat) : pc a b i ≤ 1 := by
  unfold pc
  have h1 := Nat.mod_lt a (Nat.two_pow_pos i)
  have h2 := Nat.mod_lt b (Nat.two_pow_pos i)
  have : (a % 2 ^ i + b % 2 ^ i) / 2 ^ i < 2 := (Nat.div_lt_iff_lt_mul (Nat.two_pow_pos i)).2 (by omega)
  omega
theorem two_parts (M o s : Nat) (ho : o < M) : (o + M * s) % (M * 2) = o + M * (s % 2) ∧ (o + M * s) / (M * 2) = s / 2 := by
  have e : o + M * s = (o + M * (s % 2)) + (M * 2) * (s / 2) := by
    have : s = 2 * (s / 2) + s % 2 := by omega
    calc o + M * s = o + M * (2 * (s / 2) + s % 2) := by rw [← this]
      _ = _ := by rw [Nat.mul_add, Nat.mul_assoc]; omega
  have hs : s % 2 = 0 ∨ s % 2 = 1 := by omega
  have hlt : o + M * (s % 2) < M * 2 := by rcases hs with h | h <;> rw [h] <;> omega
  rw [e, Nat.add_mul_mod_self_left, Nat.add_mul_div_left _ _ (by omega), Nat.mod_eq_of_lt hlt, Nat.div_eq_of_lt hlt]
  exact ⟨rfl, by omega⟩
theorem p_step (a b i : Nat) : po a b (i + 1) = po a b i + 2 ^ i * (ps a b i % 2) ∧ pc a b (i + 1) = ps a b i / 2 := by
  have h := two_parts (2 ^ i) (po a b i) (ps a b i) (po_lt a b i)
  have e : a % 2 ^ (i + 1) + b % 2 ^ (i + 1) = po a b i + 2 ^ i * ps a b i := by
    rw [mod_bit, mod_bit]
    have hd := Nat.div_add_mod (a % 2 ^ i + b % 2 ^ i) (2 ^ i)
    unfold ps
    rw [Nat.mul_add, Nat.mul_add]
    change _ = (a % 2 ^ i + b % 2 ^ i) % 2 ^ i + (2 ^ i * bit a i + 2 ^ i * bit b i + 2 ^ i * ((a % 2 ^ i + b % 2 ^ i) / 2 ^ i))
    omega
  constructor
  · show (a % 2 ^ (i + 1) + b % 2 ^ (i + 1)) % 2 ^ (i + 1) = _
    rw [e, Nat.pow_succ]; exact h.1
  · show (a % 2 ^ (i + 1) + b % 2 ^ (i + 1)) / 2 ^ (i + 1) = _
    rw [e, Nat.pow_succ]; exact h.2
theorem or_top (o t i : Nat) (ho : o < 2 ^ i) : o ||| (2 ^ i * t) = o + 2 ^ i * t := by
  rw [Nat.or_comm, ← Nat.two_pow_add_eq_or_of_lt ho t]; omega
theorem po_end (a b : Nat) (ha : a < 18446744073709551616) (hb : b < 18446744073709551616) : po a b 64 = sum64 a b := by
  unfold po sum64
  rw [Nat.mod_eq_of_lt (show a < 2 ^ 64 from ha), Nat.mod_eq_of_lt (show b < 2 ^ 64 from hb)]

/-! ### The model's words -/
theorem wrap_u64_nat (n : Nat) : IntKind.u64.wrap (n : Int) = ((n % 18446744073709551616 : Nat) : Int) := by
  rw [IntKind.wrap_u64]; omega
theorem pow_cast (i : Nat) : ((2 : Int) ^ i) = ((2 ^ i : Nat) : Int) := by simp
theorem pow_lt_64 {i : Nat} (h : i < 64) : 2 ^ i * 2 ≤ 18446744073709551616 := by
  have : 2 ^ (i + 1) ≤ 2 ^ 64 := Nat.pow_le_pow_right (by decide) (by omega)
  rw [Nat.pow_succ] at this; simpa using this
/-- A low bit, shifted up to place i. -/
theorem shl_low (t i : Nat) (ht : t ≤ 1) (hi : i < 64) : IntKind.u64.wrap ((t : Int) * 2 ^ i) = ((2 ^ i * t : Nat) : Int) := by
  have := pow_lt_64 hi
  rw [pow_cast, ← Int.natCast_mul, wrap_u64_nat, Nat.mod_eq_of_lt, Nat.mul_comm]
  rcases (show t = 0 ∨ t = 1 by omega) with h | h <;> subst h <;> omega
theorem bits_or_nat (a b : Nat) (ha : a < 18446744073709551616) (hb : b < 18446744073709551616) : bits .or .u64 (a : Int) (b : Int) = ((a ||| b : Nat) : Int) := bits_or_u64_nat a b ha hb
theorem po_zero (a b : Nat) : po a b 0 = 0 := by unfold po; omega
theorem pc_zero (a b : Nat) : pc a b 0 = 0 := by unfold pc; omega
theorem p_or (a b i : Nat) (hi : i < 64) :
    bits .or .u64 (po a b i : Int) (IntKind.u64.wrap (((bit a i : Int) + (bit b i : Int) + (pc a b i : Int)) % 2 * 2 ^ i)) = (po a b (i + 1) : Int) := by
  have e : ((bit a i : Int) + (bit b i : Int) + (pc a b i : Int)) % 2 = ((ps a b i % 2 : Nat) : Int) := by unfold ps; omega
  have h2 := pow_lt_64 hi
  have h3 := po_lt a b i
  have ht : ps a b i % 2 ≤ 1 := by omega
  have h4 : 2 ^ i * (ps a b i % 2) ≤ 2 ^ i := by
    rcases (show ps a b i % 2 = 0 ∨ ps a b i % 2 = 1 by omega) with h | h <;> rw [h] <;> omega
  rw [e, shl_low _ _ ht hi, bits_or_nat _ _ (by omega) (by omega), or_top _ _ _ h3, (p_step a b i).1]
theorem p_carry (a b i : Nat) : ((bit a i : Int) + (bit b i : Int) + (pc a b i : Int)) / 2 = (pc a b (i + 1) : Int) := by
  rw [(p_step a b i).2]; unfold ps; omega

/-! ### The other sign, products -/
theorem minus_nat (a : Nat) (ha : a < 18446744073709551616) : sum64 (18446744073709551615 - a) 1 = neg64 a := by unfold sum64 neg64; omega
theorem xor_ones (a : Nat) (ha : a < 18446744073709551616) : bits .xor .u64 (a : Int) 18446744073709551615 = ((18446744073709551615 - a : Nat) : Int) := by
  have h := bits_xor_u64_nat a 18446744073709551615 ha (by decide)
  rw [show ((18446744073709551615 : Nat) : Int) = (18446744073709551615 : Int) from rfl] at h
  rw [h]
  congr 1
  refine Nat.eq_of_testBit_eq fun i => ?_
  have h1 := Nat.testBit_two_pow_sub_succ (x := a) (n := 64) ha i
  have h2 := Nat.testBit_two_pow_sub_one 64 i
  rw [show (2 : Nat) ^ 64 - (a + 1) = 18446744073709551615 - a by omega] at h1
  rw [show (2 : Nat) ^ 64 - 1 = 18446744073709551615 by omega] at h2
  rw [Nat.testBit_xor, h1, h2]
  by_cases hi : i < 64
  · simp [hi]
  · have h3 : a.testBit i = false := Nat.testBit_lt_two_pow (Nat.lt_of_lt_of_le (show a < 2 ^ 64 from ha) (Nat.pow_le_pow_right (show 2 > 0 by decide) (show 64 ≤ i by omega)))
    simp [hi, h3]
/-- A product, as far as the low i bits of the second one. -/
def pt (a b i : Nat) : Nat := a * (b % 2 ^ i) % 18446744073709551616
theorem pt_zero (a b : Nat) : pt a b 0 = 0 := by unfold pt; simp [Nat.mod_one]
theorem pt_lt (a b i : Nat) : pt a b i < 18446744073709551616 := Nat.mod_lt _ (by decide)
theorem pt_end (a b : Nat) (hb : b < 18446744073709551616) : pt a b 64 = mul64 a b := by
  unfold pt mul64; rw [Nat.mod_eq_of_lt (show b < 2 ^ 64 from hb)]
theorem pt_no (a b i : Nat) (h : bit b i = 0) : pt a b (i + 1) = pt a b i := by unfold pt; rw [mod_bit, h]; simp
theorem pt_yes (a b i : Nat) (h : bit b i = 1) : pt a b (i + 1) = sum64 (pt a b i) (a * 2 ^ i % 18446744073709551616) := by
  unfold pt sum64; rw [mod_bit, h, Nat.mul_add, Nat.mul_one, Nat.add_mod]
theorem shl_wrap (a i : Nat) : IntKind.u64.wrap ((a : Int) * 2 ^ i) = ((a * 2 ^ i % 18446744073709551616 : Nat) : Int) := by
  rw [pow_cast, ← Int.natCast_mul, wrap_u64_nat]

/-! ### A number with a sign as one without -/
def u64n (x : Int) : Nat := (x % 18446744073709551616).toNat
theorem u64n_lt (x : Int) : u64n x < 18446744073709551616 := by unfold u64n; omega
theorem wrap_u64n (x : Int) : IntKind.u64.wrap x = (u64n x : Int) := by rw [IntKind.wrap_u64]; unfold u64n; omega
theorem size_neg (a : Int) (h0 : -9223372036854775808 ≤ a) (h : a < 0) : neg64 (u64n a) = a.natAbs := by unfold neg64 u64n; omega

/-! ### The first bit turned about -/
theorem xor_top_small (n : Nat) (h : n < 9223372036854775808) : n ^^^ 9223372036854775808 = 9223372036854775808 + n := by
  have e : (9223372036854775808 : Nat) = 2 ^ 63 := by decide
  rw [e] at h ⊢
  refine Nat.eq_of_testBit_eq fun i => ?_
  rw [Nat.testBit_xor, Nat.testBit_two_pow]
  rcases Nat.lt_trichotomy i 63 with hi | hi | hi
  · rw [Nat.testBit_two_pow_add_gt hi, decide_eq_false (show ¬ 63 = i by omega), Bool.xor_false]
  · subst hi; rw [Nat.testBit_two_pow_add_eq, decide_eq_true rfl, Bool.xor_true]
  · have h1 : n.testBit i = false := Nat.testBit_lt_two_pow (Nat.lt_of_lt_of_le h (Nat.pow_le_pow_right (show 2 > 0 by decide) (show 63 ≤ i by omega)))
    have h2 : (2 ^ 63 + n).testBit i = false := Nat.testBit_lt_two_pow (Nat.lt_of_lt_of_le (show 2 ^ 63 + n < 2 ^ 64 by omega) (Nat.pow_le_pow_right (show 2 > 0 by decide) (show 64 ≤ i by omega)))
    rw [h1, h2, decide_eq_false (show ¬ 63 = i by omega)]; rfl
def flip (a : Int) : Nat := (a + 9223372036854775808).toNat
theorem flip_lt (a : Int) (h : a ≤ 9223372036854775807) : flip a < 18446744073709551616 := by unfold flip; omega
theorem xor_flip (a : Int) (h0 : -9223372036854775808 ≤ a) (h1 : a ≤ 9223372036854775807) :
    bits .xor .u64 (IntKind.u64.wrap a) 9223372036854775808 = (flip a : Int) := by
  have h := bits_xor_u64_nat (u64n a) 9223372036854775808 (u64n_lt a) (by decide)
  rw [show ((9223372036854775808 : Nat) : Int) = (9223372036854775808 : Int) from rfl] at h
  rw [wrap_u64n, h]
  congr 1
  by_cases hs : 0 ≤ a
  · rw [xor_top_small _ (by unfold u64n; omega)]; unfold u64n flip; omega
  · have e : u64n a = flip a ^^^ 9223372036854775808 := by rw [xor_top_small _ (by unfold flip; omega)]; unfold u64n flip; omega
    rw [e, Nat.xor_assoc, Nat.xor_self, Nat.xor_zero]
theorem flip_less (a b : Int) (h0 : -9223372036854775808 ≤ a) (h2 : -9223372036854775808 ≤ b) : decide (flip a < flip b) = decide (a < b) := by
  have : flip a < flip b ↔ a < b := by unfold flip; omega
  simp only [this]

/-! ### The highest bit that is another one -/
theorem less_at (x y j : Nat) (h : x / 2 ^ (j + 1) = y / 2 ^ (j + 1)) (hne : bit x j ≠ bit y j) : decide (x < y) = decide (bit y j = 1) := by
  have h1 := bit_le x j
  have h2 := bit_le y j
  have ex := div_bit x j
  have ey := div_bit y j
  rw [h] at ex
  have key : x / 2 ^ j < y / 2 ^ j ↔ bit y j = 1 := by omega
  have up : x / 2 ^ j < y / 2 ^ j → x < y := fun hh => by
    rcases Nat.lt_or_ge x y with hl | hl
    · exact hl
    · have := Nat.div_le_div_right (c := 2 ^ j) hl; omega
  have dn : y / 2 ^ j < x / 2 ^ j → ¬ x < y := fun hh hl => by
    have := Nat.div_le_div_right (c := 2 ^ j) (Nat.le_of_lt hl); omega
  have : x < y ↔ bit y j = 1 := ⟨fun hl => by
    rcases Nat.lt_or_ge (x / 2 ^ j) (y / 2 ^ j) with hh | hh
    · exact key.1 hh
    · exact absurd hl (dn (by omega)), fun hb => up (key.2 hb)⟩
  simp only [this]
theorem same_down (x y j : Nat) (h : x / 2 ^ (j + 1) = y / 2 ^ (j + 1)) (he : bit x j = bit y j) : x / 2 ^ j = y / 2 ^ j := by
  rw [div_bit x j, div_bit y j, h, he]

/-! ### Shifts by one bit, again and again -/
def shu (a : Int) (k : Nat) : Int := wrap64 (a * 2 ^ k)
theorem shu_bd (a : Int) (k : Nat) : -9223372036854775808 ≤ shu a k ∧ shu a k ≤ 9223372036854775807 := by unfold shu wrap64; omega
theorem wrap64_id (a : Int) (h : -9223372036854775808 ≤ a ∧ a ≤ 9223372036854775807) : wrap64 a = a := by unfold wrap64; omega
theorem shu_zero (a : Int) (h : -9223372036854775808 ≤ a ∧ a ≤ 9223372036854775807) : shu a 0 = a := by
  unfold shu; rw [Int.pow_zero, Int.mul_one]; exact wrap64_id a h
theorem shu_step (a : Int) (k : Nat) : wrap64 (sum64 (u64n (shu a k)) (u64n (shu a k)) : Int) = shu a (k + 1) := by
  unfold shu
  rw [Int.pow_succ, ← Int.mul_assoc]
  generalize a * 2 ^ k = t
  unfold wrap64 sum64 u64n
  omega
def shd (a : Int) (k : Nat) : Int := a / 2 ^ k
theorem shd_bd (a : Int) (k : Nat) (h : -9223372036854775808 ≤ a ∧ a ≤ 9223372036854775807) : -9223372036854775808 ≤ shd a k ∧ shd a k ≤ 9223372036854775807 := by
  have hp : (1 : Int) ≤ 2 ^ k := by rw [pow_cast]; have := Nat.two_pow_pos k; omega
  unfold shd
  constructor
  · refine (Int.le_ediv_iff_mul_le (by omega)).2 ?_
    calc -9223372036854775808 * 2 ^ k ≤ -9223372036854775808 * 1 := Int.mul_le_mul_of_nonpos_left (by omega) hp
      _ ≤ a := by omega
  · by_cases ha : 0 ≤ a
    · have := Int.ediv_le_self (2 ^ k) ha; omega
    · have := Int.ediv_neg_of_neg_of_pos (a := a) (b := 2 ^ k) (by omega) (by omega); omega
theorem shd_zero (a : Int) : shd a 0 = a := by unfold shd; simp
theorem shd_succ (a : Int) (k : Nat) : shd a (k + 1) = shd a k / 2 := by
  unfold shd; rw [Int.pow_succ, Int.ediv_ediv_of_nonneg (Int.le_of_lt (Int.pow_pos (by decide)))]
theorem and_top (n : Nat) (h : n < 18446744073709551616) : n &&& 9223372036854775808 = if n < 9223372036854775808 then 0 else 9223372036854775808 := by
  have h1 := nat_bit 63 n
  rw [show (2 : Nat) ^ 63 = 9223372036854775808 by decide] at h1
  rw [h1]
  split <;> omega
theorem half_step (x : Int) (h : -9223372036854775808 ≤ x ∧ x ≤ 9223372036854775807) :
    wrap64 (bits .or .u64 ((u64n x : Int) / 2) (bits .and .u64 (u64n x : Int) 9223372036854775808)) = x / 2 := by
  have hl := u64n_lt x
  have ha := bits_and_u64_nat (u64n x) 9223372036854775808 hl (by decide)
  rw [show ((9223372036854775808 : Nat) : Int) = (9223372036854775808 : Int) from rfl, and_top _ hl] at ha
  rw [ha, show ((u64n x : Int) / 2) = ((u64n x / 2 : Nat) : Int) by omega]
  split
  · rw [bits_or_nat _ _ (by omega) (by omega), Nat.or_zero]
    unfold wrap64 u64n at *; omega
  · rw [bits_or_nat _ _ (by omega) (by omega), Nat.or_comm]
    have := Nat.two_pow_add_eq_or_of_lt (i := 63) (b := u64n x / 2) (by omega) 1
    rw [show (2 : Nat) ^ 63 * 1 = 9223372036854775808 by decide] at this
    rw [← this]
    unfold wrap64 u64n at *; omega

/-! ### And, or, xor bit by bit -/
def bitop (s a b : Nat) : Nat := if s = 5 then a &&& b else if s = 6 then a ||| b else a ^^^ b
theorem bit_test (a i : Nat) : bit a i = (a.testBit i).toNat := by
  unfold bit; rw [Nat.testBit_eq_decide_div_mod_eq]
  rcases (show a / 2 ^ i % 2 = 0 ∨ a / 2 ^ i % 2 = 1 by omega) with h | h <;> rw [h] <;> rfl
/-- The bits of the three, from theirs. -/
theorem bitop_bit (s a b i : Nat) : bit (bitop s a b) i = if s = 5 then bit a i * bit b i else if s = 6 then (bit a i + bit b i + 1) / 2 else (bit a i + bit b i) % 2 := by
  unfold bitop
  by_cases h5 : s = 5
  · simp only [h5, if_true, bit_test, Nat.testBit_and]
    cases a.testBit i <;> cases b.testBit i <;> rfl
  · by_cases h6 : s = 6
    · subst h6; simp only [Nat.reduceEqDiff, if_true, if_false, bit_test, Nat.testBit_or]
      cases a.testBit i <;> cases b.testBit i <;> rfl
    · simp only [h5, h6, if_false, bit_test, Nat.testBit_xor]
      cases a.testBit i <;> cases b.testBit i <;> rfl
theorem bitop_lt (s a b : Nat) (ha : a < 18446744073709551616) (hb : b < 18446744073709551616) : bitop s a b < 18446744073709551616 := by
  have e : (18446744073709551616 : Nat) = 2 ^ 64 := by decide
  rw [e] at *
  unfold bitop
  split
  · exact Nat.and_lt_two_pow _ hb
  · split
    · exact Nat.or_lt_two_pow ha hb
    · exact Nat.xor_lt_two_pow ha hb
/-- What the loop has made. -/
def bo (s a b i : Nat) : Nat := bitop s a b % 2 ^ i
theorem bo_zero (s a b : Nat) : bo s a b 0 = 0 := by unfold bo; omega
theorem bo_end (s a b : Nat) (ha : a < 18446744073709551616) (hb : b < 18446744073709551616) : bo s a b 64 = bitop s a b := Nat.mod_eq_of_lt (bitop_lt s a b ha hb)
theorem bo_no (s a b i : Nat) (h : bit (bitop s a b) i = 0) : bo s a b (i + 1) = bo s a b i := by unfold bo; rw [mod_bit, h]; simp
theorem bo_yes (s a b i : Nat) (hi : i < 64) (h : bit (bitop s a b) i = 1) :
    bits .or .u64 (bo s a b i : Int) (IntKind.u64.wrap (2 ^ i)) = (bo s a b (i + 1) : Int) := by
  have h1 : bo s a b i < 2 ^ i := Nat.mod_lt _ (Nat.two_pow_pos _)
  have h2 := pow_lt_64 hi
  have h3 := Nat.two_pow_pos i
  rw [pow_cast, wrap_u64_nat, Nat.mod_eq_of_lt (by omega), bits_or_nat _ _ (by omega) (by omega)]
  have h4 := or_top (bo s a b i) 1 i h1
  rw [Nat.mul_one] at h4
  rw [h4]
  unfold bo; rw [mod_bit, h, Nat.mul_one]

/-! ### Quotient and rest, bit by bit -/
def dq (a d k : Nat) : Nat := a / 2 ^ k / d
def dr (a d k : Nat) : Nat := a / 2 ^ k % d
theorem dr_lt (a d k : Nat) (hd : 1 ≤ d) : dr a d k < d := Nat.mod_lt _ (by omega)
theorem dq_le (a d k : Nat) : dq a d k ≤ a / 2 ^ k := Nat.div_le_self _ _
theorem dq_lt (a d j : Nat) (ha : a < 18446744073709551616) : dq a d (j + 1) * 2 + 1 < 18446744073709551616 := by
  have h1 := dq_le a d (j + 1)
  have h2 : a / 2 ^ (j + 1) ≤ a / 2 := by
    rw [Nat.pow_succ, Nat.mul_comm, ← Nat.div_div_eq_div_mul]; exact Nat.div_le_self _ _
  omega
/-- The next rest, ahead of its being cut. -/
def dn (a d j : Nat) : Nat := dr a d (j + 1) * 2 + bit a j
theorem d_parts (a d j : Nat) : a / 2 ^ j = d * (dq a d (j + 1) * 2) + dn a d j := by
  rw [div_bit a j]
  have h := Nat.div_add_mod (a / 2 ^ (j + 1)) d
  unfold dn dq dr
  rw [Nat.mul_comm _ 2, Nat.mul_left_comm]
  omega
theorem d_no (a d j : Nat) (hd : 1 ≤ d) (h : dn a d j < d) : dq a d j = dq a d (j + 1) * 2 ∧ dr a d j = dn a d j := by
  have e := d_parts a d j
  constructor
  · show a / 2 ^ j / d = _
    rw [e, Nat.mul_add_div (by omega), Nat.div_eq_of_lt h, Nat.add_zero]
  · show a / 2 ^ j % d = _
    rw [e, Nat.mul_add_mod_self_left, Nat.mod_eq_of_lt h]
theorem d_yes (a d j : Nat) (hd : 1 ≤ d) (h : d ≤ dn a d j) : dq a d j = dq a d (j + 1) * 2 + 1 ∧ dr a d j = dn a d j - d := by
  have e := d_parts a d j
  have hr := dr_lt a d (j + 1) hd
  have hb := bit_le a j
  have hlt : dn a d j - d < d := by unfold dn at *; omega
  have e2 : a / 2 ^ j = d * (dq a d (j + 1) * 2 + 1) + (dn a d j - d) := by rw [Nat.mul_add, Nat.mul_one]; omega
  constructor
  · show a / 2 ^ j / d = _
    rw [e2, Nat.mul_add_div (by omega), Nat.div_eq_of_lt hlt, Nat.add_zero]
  · show a / 2 ^ j % d = _
    rw [e2, Nat.mul_add_mod_self_left, Nat.mod_eq_of_lt hlt]
theorem or_low (n t : Nat) (hn : n * 2 + 1 < 18446744073709551616) (ht : t ≤ 1) : bits .or .u64 ((n : Int) * 2) (t : Int) = ((n * 2 + t : Nat) : Int) := by
  have h := bits_or_nat (n * 2) t (by omega) (by omega)
  rw [Int.natCast_mul] at h
  have h2 := Nat.two_pow_add_eq_or_of_lt (i := 1) (b := t) (by omega) n
  rw [show 2 ^ 1 * n = n * 2 by omega] at h2
  rw [← h2] at h
  exact h
theorem sub_neg (n d : Nat) (hd : 1 ≤ d) (h : d ≤ n) (hn : n < 18446744073709551616) : sum64 n (neg64 d) = n - d := by unfold sum64 neg64; omega
end Go.Proofs.YtccajbgdlicbnaaDoor

/- The document's bits and sums for layer 1, walked: a bit of a number, a sum by carries, the number with the other sign, a size. Whatever the numbers of 64 bits. -/
namespace Go.Proofs.YtccajbgdlicbnaaDoor
open Go.RowKit (wrap64 intOf)

theorem ret_int {k : IntKind} {a b : Int} (h : a = b) : Ending.returned (.int k a) = .returned (.int k b) := by rw [h]
theorem val_int {k : IntKind} {a b : Int} (h : a = b) : Value.int k a = .int k b := by rw [h]

theorem bit_any (a i : Nat) (w : World) (_ha : a < 18446744073709551616) (hi : i < 64) :
    Calls Tryd.prog 87 #[.int .u64 a, .int .i64 i] w fun e w' => e = .returned (.int .u64 (bit a i)) ∧ w = w' := by
  go_enter Tryd.func87, Tryd.ntmps87
  go_wp2
  go_ret
  refine ⟨ret_int ?_, rfl⟩
  unfold bit
  rw [pow_cast, ← Int.natCast_ediv, Int.tmod_eq_emod_of_nonneg (Int.natCast_nonneg _)]
  rfl

theorem plus_any (a b : Nat) (w : World) (ha : a < 18446744073709551616) (hb : b < 18446744073709551616) :
    Calls Tryd.prog 80 #[.int .u64 a, .int .u64 b] w fun e w' => e = .returned (.int .u64 (sum64 a b)) ∧ w = w' := by
  go_enter Tryd.func80, Tryd.ntmps80
  go_wp2
  go_loop [5, 6, 7] (fun o c t => ∃ i : Nat, i ≤ 64 ∧ t = .int .i64 i ∧ o = .int .u64 (po a b i) ∧ c = .int .u64 (pc a b i)) (fun _ _ t => 64 - (intOf t).toNat)
  case atStart => exact ⟨0, by omega, rfl, by rw [po_zero]; rfl, by rw [pc_zero]; rfl⟩
  case round =>
    obtain ⟨i, hi, rfl, rfl, rfl⟩ := hrel
    have h1 := bit_le a i
    have h2 := bit_le b i
    have h3 := pc_le a b i
    by_cases hlt : i < 64
    · go_wp2_with (go_at_call 87; refine (bit_any _ _ _ (by assumption) (by assumption)).mono ?_; rintro e w' ⟨rfl, rfl⟩)
      go_round
      case rel => exact ⟨i + 1, by omega, by go_num, val_int (p_or a b i hlt), val_int (p_carry a b i)⟩
      case measure => simp [intOf]; omega
    · obtain rfl : i = 64 := by omega
      go_wp2
      go_ret
      exact ⟨ret_int (by rw [po_end a b ha hb]), rfl⟩

theorem minus_any (a : Nat) (w : World) (ha : a < 18446744073709551616) :
    Calls Tryd.prog 73 #[.int .u64 a] w fun e w' => e = .returned (.int .u64 (neg64 a)) ∧ w = w' := by
  have hx := xor_ones a ha
  go_enter Tryd.func73, Tryd.ntmps73
  go_wp2_with (go_at_call 80; refine (plus_any (18446744073709551615 - a) 1 _ (by omega) (by omega)).mono ?_; rintro e w' ⟨rfl, rfl⟩)
  go_ret
  exact ⟨ret_int (by rw [minus_nat a ha]), rfl⟩

theorem size_any (a : Int) (w : World) (h0 : -9223372036854775808 ≤ a) (h1 : a ≤ 9223372036854775807) :
    Calls Tryd.prog 60 #[.int .i64 a] w fun e w' => e = .returned (.int .u64 a.natAbs) ∧ w = w' := by
  by_cases h : a < 0
  · have hw := wrap_u64n a
    have hl := u64n_lt a
    go_enter Tryd.func60, Tryd.ntmps60
    go_wp2_with (go_at_call 73; refine (minus_any _ _ (by assumption)).mono ?_; rintro e w' ⟨rfl, rfl⟩)
    go_ret
    exact ⟨ret_int (by rw [size_neg a h0 h]), rfl⟩
  · go_enter Tryd.func60, Tryd.ntmps60
    go_wp2
    go_ret
    exact ⟨ret_int (by omega), rfl⟩

end Go.Proofs.YtccajbgdlicbnaaDoor

/- Layer 2, P2.2: text.Digits and the document's own Digits, walked: the digits of whatever number of 64 bits. -/
namespace Go.Proofs.YtccajbgdlicbnaaDoor
open Go.RowKit (wrap64 intOf Below)
set_option linter.unusedVariables false

def mkB (l : List UInt8) : ByteArray := ⟨l.toArray⟩
theorem mkB_append (a b : List UInt8) : mkB a ++ mkB b = mkB (a ++ b) := by
  apply ByteArray.ext
  simp [mkB]
/-- A number's last digit. -/
def dig (n : Nat) : UInt8 := UInt8.ofNat (48 + n % 10)
theorem dig_val (n : Nat) : ((dig n).toNat : Int) = 48 + (n : Int) % 10 := by unfold dig; simp; omega
theorem dec_small {u : Nat} (h : u < 10) : Lib.decDigits u = [dig u] := by rw [Lib.decDigits, dif_pos h]; unfold dig; rw [Nat.mod_eq_of_lt h]
theorem dec_big {u : Nat} (h : ¬ u < 10) : Lib.decDigits u = Lib.decDigits (u / 10) ++ [dig u] := by rw [Lib.decDigits, dif_neg h]; rfl

theorem mkB_size (l : List UInt8) : (mkB l).size = l.length := by simp [mkB, ByteArray.size]
theorem dec_len : ∀ (m u : Nat), u ≤ m → (Lib.decDigits u).length ≤ u / 10 + 1
  | m, u, hm => by
    by_cases h : u < 10
    · rw [dec_small h]; simp
    · cases m with
      | zero => omega
      | succ m =>
        have := dec_len m (u / 10) (by omega)
        rw [dec_big h, List.length_append]
        simp only [List.length_cons, List.length_nil]
        omega
theorem dec_size (u : Nat) : (mkB (Lib.decDigits u)).size ≤ u / 10 + 1 := by rw [mkB_size]; exact dec_len u u (Nat.le_refl _)

def DigPost (n : Nat) (w : World) (e : Ending) (w' : World) : Prop := e = .returned (.string (mkB (Lib.decDigits n))) ∧ Below w.heap.size w w'

set_option maxRecDepth 100000 in
theorem one_digit (u : World) (n : Nat) : (convert 53 9 (.slice (some ⟨u.heap.size, 0, none⟩) 1 1)).run Tryd.prog (u.alloc (.cells #[.int .u8 (48 + (n : Int) % 10)] 5)) =
    .ok (.string (mkB [dig n])) (u.alloc (.cells #[.int .u8 (48 + (n : Int) % 10)] 5)) := by
  have h := run_convert_bytes_back (P := Tryd.prog) (u.alloc (.cells #[.int .u8 (48 + (n : Int) % 10)] 5)) 53 9 5 ⟨u.heap.size, 0, none⟩ 1 [dig n] Tryd.underlying53 Tryd.underlying5 Tryd.underlying9 (fun j hj => by
    have : j = 0 := by simpa using hj
    subst this
    have hadd : (⟨u.heap.size, 0, none⟩ : Addr).add 0 = ⟨u.heap.size, 0, none⟩ := rfl
    rw [hadd, World.cell?_alloc_mark]
    simp only [List.getElem_cons_zero]
    rw [dig_val]
    rfl)
  exact h

set_option maxRecDepth 100000 in
theorem digits_fuel : ∀ (m n : Nat) (w : World), n ≤ m → n < 18446744073709551616 → Calls Tryd.prog 59 #[.int .u64 (n : Int)] w (DigPost n w)
  | m, n, w, hm, hn => by
    have h0 : (0 : Int) ≤ (n : Int) := Int.natCast_nonneg _
    by_cases h10 : n < 10
    · have h1 := one_digit w n
      have HD := Lib.hid (dec_small h10)
      go_enter Tryd.func59, Tryd.ntmps59
      go_wp2
      go_ret
      exact ⟨by rw [HD.out]; rfl, (Below.refl _ _).alloc (Nat.le_refl _) _⟩
    · cases m with
      | zero => omega
      | succ m =>
        have ih : ∀ w, Calls Tryd.prog 59 #[.int .u64 ((n : Int) / 10)] w (DigPost (n / 10) w) := fun w => digits_fuel m (n / 10) w (by omega) (by omega)
        have IH := Lib.hid ih
        clear ih
        have h1 := one_digit w n
        have HD := Lib.hid (dec_big h10)
        have hs1 : (mkB (Lib.decDigits (n / 10))).size ≤ 1000000000000000000 := by have := dec_size (n / 10); omega
        have hs2 : (mkB [dig n]).size ≤ 1 := by rw [mkB_size]; simp
        go_enter Tryd.func59, Tryd.ntmps59
        go_wp2_with fail
        refine (IH.out _).mono ?_
        rintro e w1 ⟨rfl, hb1⟩
        have HB1 := Lib.hid (((Below.refl w.heap.size w).alloc (Nat.le_refl _) (.cells #[.int .u8 (48 + (n : Int) % 10)] 5)).trans (hb1.mono (by simp)))
        clear hb1 h1
        go_wp2
        go_ret
        exact ⟨by rw [HD.out, ← mkB_append]; rfl, HB1.out⟩
theorem digits_any (n : Nat) (w : World) (hn : n < 18446744073709551616) : Calls Tryd.prog 59 #[.int .u64 (n : Int)] w (DigPost n w) :=
  digits_fuel n n w (Nat.le_refl _) hn

set_option maxRecDepth 100000 in
/-- The document's digits are those that the library counts by. -/
theorem ref_digits (n : Int) (w : World) (h0 : -9223372036854775808 ≤ n) (h1 : n ≤ 9223372036854775807) :
    Calls Tryd.prog 42 #[.int .i64 n] w fun e w' => e = .returned (.string (mkB (Lib.itoa n))) ∧ Below w.heap.size w w' := by
  by_cases h : n < 0
  · have HI := Lib.hid (show Lib.itoa n = [45] ++ Lib.decDigits n.natAbs by unfold Lib.itoa; rw [if_pos h]; rfl)
    have C1 := Lib.hid fun w => size_any n w h0 h1
    have C2 := Lib.hid fun w => digits_any n.natAbs w (by omega)
    have hs1 : (mkB (Lib.decDigits n.natAbs)).size ≤ 1000000000000000000 := by have := dec_size n.natAbs; omega
    go_enter Tryd.func42, Tryd.ntmps42
    go_wp2_with fail
    refine (C1.out _).mono ?_
    rintro e w1 ⟨rfl, rfl⟩
    go_wp2_with fail
    refine (C2.out _).mono ?_
    rintro e w1 ⟨rfl, hb⟩
    have HB := Lib.hid hb
    clear hb
    go_wp2
    go_ret
    exact ⟨by rw [HI.out, ← mkB_append]; rfl, HB.out⟩
  · obtain ⟨k, rfl⟩ := Int.eq_ofNat_of_zero_le (show 0 ≤ n by omega)
    have HI := Lib.hid (show Lib.itoa (k : Int) = Lib.decDigits k by unfold Lib.itoa; rw [if_neg h]; simp)
    have C2 := Lib.hid fun w => digits_any k w (by omega)
    go_enter Tryd.func42, Tryd.ntmps42
    go_wp2_with fail
    refine (C2.out _).mono ?_
    rintro e w1 ⟨rfl, hb⟩
    have HB := Lib.hid hb
    clear hb
    go_wp2_with fail
    go_ret
    exact ⟨by rw [HI.out]; rfl, HB.out⟩
end Go.Proofs.YtccajbgdlicbnaaDoor

/- Slices of numbers of 64 bits that came in (nil or not), and their copies by append to a new empty slice: what a walk needs of them. Nothing of the program is named here. -/
namespace Go.Proofs.YtccajbgdlicbnaaDoor
open Go.RowKit (wrap64 intOf Below)

theorem addr_block (a : Addr) (j : Nat) : (a.add j).block = a.block := by unfold Addr.add; split <;> rfl
theorem addr_plain (b off j : Nat) : (⟨b, off, none⟩ : Addr).add j = ⟨b, off + j, none⟩ := by
  unfold Addr.add; split
  · rename_i h; subst h; rfl
  · rfl
/-- The number at place k (0 behind the end). -/
def nth (L : List Int) (k : Nat) : Int := L.getD k 0
/-- The cells of a slice of numbers. -/
def CellsAt (w : World) (b off : Nat) (zs : List Int) : Prop := ∀ j, j < zs.length → w.cell? ⟨b, off + j, none⟩ = some (.int .i64 (nth zs j))
/-- A slice of numbers that came in: nil, or a length with its cells. -/
def IntsAt (w : World) (v : Value) (zs : List Int) : Prop :=
  (v = .slice none 0 0 ∧ zs = []) ∨
  ∃ (a : Addr) (c : Nat), v = .slice (some a) zs.length c ∧ zs.length * 8 ≤ 140737488351232 ∧ (∀ j, j < zs.length → a.block < w.heap.size) ∧ ∀ j, j < zs.length → w.cell? (a.add j) = some (.int .i64 (nth zs j))

theorem IntsAt.below {w w' : World} {v : Value} {zs : List Int} {B : Nat} (h : IntsAt w v zs) (hb : Below B w w') (hB : w.heap.size ≤ B) : IntsAt w' v zs := by
  rcases h with h | ⟨a, c, hv, hl, hlt, hc⟩
  · exact Or.inl h
  · refine Or.inr ⟨a, c, hv, hl, fun j hj => Nat.lt_of_lt_of_le (hlt j hj) hb.size, fun j hj => ?_⟩
    rw [hb.cell (p := a.add j) (Nat.lt_of_lt_of_le (by rw [addr_block]; exact hlt j hj) hB)]
    exact hc j hj
theorem IntsAt.len {w : World} {v : Value} {zs : List Int} (h : IntsAt w v zs) : zs.length * 8 ≤ 140737488351232 := by
  rcases h with ⟨_, rfl⟩ | ⟨a, c, _, hl, _⟩
  · exact Nat.zero_le _
  · exact hl
theorem IntsAt.cells {w : World} {v : Value} {zs : List Int} (h : IntsAt w v zs) (hne : 0 < zs.length) :
    ∃ (b off c : Nat), v = .slice (some ⟨b, off, none⟩) zs.length c ∧ b < w.heap.size ∧ CellsAt w b off zs := by
  rcases h with ⟨_, rfl⟩ | ⟨⟨b, off, spot⟩, c, hv, _, hlt, hc⟩
  · exact absurd hne (by simp)
  · have hs : spot = none := by simpa [Addr.add] using World.cell?_spot (hc 0 hne)
    subst hs
    exact ⟨b, off, c, hv, hlt 0 hne, fun j hj => by have := hc j hj; rwa [addr_plain] at this⟩
theorem IntsAt.shape {w : World} {v : Value} {zs : List Int} (h : IntsAt w v zs) : ∃ (a : Option Addr) (c : Nat), v = .slice a zs.length c := by
  rcases h with ⟨rfl, rfl⟩ | ⟨a, c, hv, _⟩
  · exact ⟨none, 0, rfl⟩
  · exact ⟨some a, c, hv⟩

theorem CellsAt.below {w w' : World} {b off : Nat} {zs : List Int} {B : Nat} (h : CellsAt w b off zs) (hb : Below B w w') (hB : b < B) : CellsAt w' b off zs := fun j hj => by
  rw [hb.cell (p := ⟨b, off + j, none⟩) hB]; exact h j hj

/-- 'append([]T{}, xs...)' where xs came in: a new row with its numbers. -/
theorem wpList_copy_ints {P : Program} (w : World) {ops : Array Oper} {rest : List Oper} {o : Oper} {a : Act} {Q : Exit → Act → World → Prop} (hgd : o.guard = none) (s x : Operand) (t : TypeId)
    (ho : o.op = .call { callee := .builtin .append, args := #[s, x], argTypes := #[t, t] }) (e : TypeId) (ht : P.underlying t = some (.slice e))
    (hinfo : (P.info? e).map (fun i => (i.zero, i.size, i.bytes)) = some (some (.int .i64 0), 1, 8))
    (g0 : Nat) (hs : a.eval s = .slice (some ⟨g0, 0, none⟩) 0 0) (hg0 : w.heap[g0]? = some (.cells #[] e (0, 0))) (hlt0 : g0 < w.heap.size)
    (v : Value) (zs : List Int) (hx : a.eval x = v) (hv : IntsAt w v zs)
    (h : ∀ g cap w', g0 ≤ g → g < w'.heap.size → zs.length ≤ cap → cap ≤ maxLen → CellsAt w' g 0 zs → Below g0 w w' → wpList P ops Q rest (a.put o.dst (.slice (some ⟨g, 0, none⟩) zs.length cap)) w') :
    wpList P ops Q (o :: rest) a w := by
  obtain ⟨i0, hi, hz0, hz1, hz2⟩ := info_parts hinfo
  have hown : w.ownsRow g0 e 1 (.slice (some ⟨g0, 0, none⟩) 0 0) 0 [] :=
    ⟨rfl, .inr ⟨g0, 0, #[], rfl, Nat.le_refl _, hg0, Nat.le_refl _, Nat.zero_le _, rfl, rfl⟩⟩
  rcases hv with ⟨rfl, rfl⟩ | ⟨ad, c, rfl, hlen, _, hcell⟩
  · exact wpList_append_own_none hgd s x t ho g0 e i0 1 ht hi _ 0 [] hs hown hx (h g0 0 w (Nat.le_refl _) hlt0 (Nat.le_refl _) (Nat.zero_le _) (fun j hj => by simp at hj) (Below.refl _ _))
  · refine wpList_append_own w hgd s x t ho g0 e i0 (.int .i64 0) 1 8 ht hi hz0 hz1 hz2 rfl (by decide) _ 0 [] hs hown ad zs.length c (zs.map (Value.int .i64)) hx (by simp) (fun j u hu => ?_) (fun u hu => ?_) (by unfold maxLen; omega) (by omega) (by omega) ?_
    · rw [List.getElem?_map] at hu
      obtain ⟨z, hz, rfl⟩ := Option.map_eq_some_iff.1 hu
      have hj : j < zs.length := (List.getElem?_eq_some_iff.1 hz).1
      rw [hcell j hj]
      unfold nth
      rw [List.getD_eq_getElem?_getD, hz]; rfl
    · obtain ⟨z, _, rfl⟩ := List.mem_map.1 hu; rfl
    · intro v' w' hown' hgrow hnil
      have hown2 := hown'
      have hltv := hown'.lt
      obtain ⟨_, hcase⟩ := hown'
      rcases hcase with ⟨rfl, _⟩ | ⟨g, cap, cur, rfl, hg, hheap, hn, hcap, _, _⟩
      · exact absurd (hnil.1 rfl).1 (by simp)
      · simp only [Nat.zero_add] at hn ⊢
        refine h g cap w' hg (hltv g rfl).2 hn hcap (fun j hj => ?_) ?_
        · have := hown2.cells (g := g) rfl j (.int .i64 (nth zs j)) (by
            rw [List.nil_append, List.getElem?_map, List.getElem?_eq_getElem hj]
            unfold nth
            rw [List.getD_eq_getElem?_getD, List.getElem?_eq_getElem hj]; rfl)
          rwa [addr_plain] at this
        · exact Below.grown (Below.refl _ _) hgrow (by omega) (fun k hk => by cases hk; exact Nat.le_refl _)

/-! ### A call that leaves the world alone, inside a region that draws its order -/
theorem quiet_add_left {P : Program} {f : FuncId} {args : Array Value} {w : World} {a n : Nat} {v : Value}
    (h : Calls P f args (w.drewN (a + n)) fun e w' => e = .returned v ∧ w.drewN (a + n) = w') :
    Calls P f args (w.drewN (a + n)) fun e w'' => e = .returned v ∧ ∃ m, w'' = w.drewN (a + m) :=
  h.mono fun _ _ ⟨he, hm⟩ => ⟨he, n, hm.symm⟩
theorem quiet_left {P : Program} {f : FuncId} {args : Array Value} {w : World} {n : Nat} {v : Value}
    (h : Calls P f args (w.drewN n) fun e w' => e = .returned v ∧ w.drewN n = w') : Calls P f args (w.drewN n) fun e w'' => e = .returned v ∧ ∃ m, w'' = w.drewN m :=
  h.mono fun _ _ ⟨he, hm⟩ => ⟨he, n, hm.symm⟩

/-! ### From the readings -/
theorem nth_take (zs : List Int) (n j : Nat) (h : j < n) : nth (zs.take n) j = zs.getD j 0 := by
  unfold nth
  rw [List.getD_eq_getElem?_getD, List.getElem?_take, if_pos h, ← List.getD_eq_getElem?_getD]
theorem wf_i64_range {n : Int} (h : (Lit.int .i64 n).wf = true) : -9223372036854775808 ≤ n ∧ n ≤ 9223372036854775807 := by
  simp only [Lit.wf, IntKind.min, IntKind.max, IntKind.signed, IntKind.bits, Bool.and_eq_true, decide_eq_true_eq, if_true] at h
  omega
end Go.Proofs.YtccajbgdlicbnaaDoor

/- From a walk to a row: a law that returns true and leaves all that was there as it was keeps its promise: each argument reads behind the call as it read before. Nothing of the program is named here. -/
namespace Go.Proofs.YtccajbgdlicbnaaDoor
open Go.ChangeShapes Go.WideShapes Go.ChangeAt Go.RowKit

section
variable {H : Type} {enc : TypeId × Value → H} {P : Program}

/-- All arguments read as they did, if below the old heap's size nothing has turned. -/
theorem trodAll_stays (hl : laidOutB P = true) {W W' : World} (hb : Below W.heap.size W W') : ∀ {ts : List TypeId} {vs : List Value} {ds : List (DataW H)} {ps : List MemPlace},
    (∀ t ∈ ts, P.readableRec t = true ∧ t < P.types.size) → DataW.TrodAll enc P W 0 (fun _ => true) true ts vs ds ps → (∀ x ∈ ps, x.block < W.heap.size) →
    DataW.TrodAll enc P W' 0 (fun b => decide (b < W.heap.size)) true ts vs ds ps
  | [], _, _, _, _, h, _ => by
    obtain ⟨rfl, rfl, rfl⟩ := trodAll_nil h
    exact trodAll_mk0
  | t :: ts, _, _, _, ht, h, hlt => by
    obtain ⟨v, vs, d, ds, p, q, rfl, rfl, rfl, h0, hr⟩ := trodAll_cons h
    have h1 := ht t (by simp)
    exact trodAll_cons_mk (Below.trod hl h1.1 h1.2 h0 hb (fun x hx => hlt x (by simp [hx]))) (trodAll_stays hl hb (fun u hu => ht u (by simp [hu])) hr (fun x hx => hlt x (by simp [hx])))

/-- The promise of a law, kept. -/
theorem law_post {f : Func} {s : ChangeSpec} {apart : Bool} {W W' : World} {args : Array Value} {ds gs : List (DataW H)} {before : List MemPlace} {tb : TypeId}
    (hl : laidOutB P = true) (hts : ∀ t ∈ f.params.toList, P.readableRec t = true ∧ t < P.types.size) (hrs : f.resultTypes = #[tb]) (htb : P.underlying tb = some .bool) (hvars : s.vars = [])
    (hfn : s.fn H (ds ++ gs) = { results := [.lit (.bool true)], args := ds }) (hW : DataW.Whole enc P f.params.toList s.vars apart W args.toList ds gs before) (hb : Below W.heap.size W W') :
    s.post enc P f apart true false false W args (.bool true) W' := by
  have hW' := hW
  obtain ⟨p, q, hA, hV, hps, hfz, hnd⟩ := hW
  refine ⟨ds, gs, before, [], p, [], hW', ?_, ?_, ?_, hb.frame _, fun h => by cases h⟩
  · rw [hfn, hrs]
    exact trodAll_cons_mk (shut_bool htb _) trodAll_mk0
  · rw [hfn]
    exact trodAll_stays hl hb hts hA (fun x hx => hW'.lt x (by rw [hps]; simp [hx]))
  · rw [hfn, hvars]; rfl

/-- A slice of numbers of 64 bits that came in, opened. -/
theorem open_ints_at {W : World} {v : Value} {d : DataW H} {p : List MemPlace} {t e : TypeId} {ts : List TypeId} {ds : List (DataW H)} {j : Nat} (ht : P.underlying t = some (.slice e)) (he : P.underlying e = some (.int .i64)) (hc : P.cellsOf e = 1) (h8 : P.bytesOf e = 8)
    (hv : Value.okWide P W .any 0 t v) (h : DataW.Trod enc P W 0 (fun _ => true) true t v d p) (hlt : ∀ x ∈ p, x.block < W.heap.size)
    (hsz : (DataW.weightsEach P ts ds).all (· ≤ reachBytes) = true) (hj : ts[j]? = some t) (hd : ds[j]? = some d) :
    ∃ zs : List Int, IntsAt W v zs ∧ ∀ i, -9223372036854775808 ≤ nth zs i ∧ nth zs i ≤ 9223372036854775807 := by
  obtain ⟨a0, len, cap, rfl⟩ := okWide_slice ht hv
  obtain ⟨fuel, hf⟩ := h
  rcases open_ints ht he hc hf with ⟨hcs, hx⟩ | ⟨a, len', cap', zs, hcs, _, hl, hm, hz, hx, hcell, hwz⟩
  · simp [Value.cells] at hcs
    obtain ⟨rfl, rfl, rfl⟩ := hcs
    exact ⟨[], Or.inl ⟨rfl, rfl⟩, fun i => by unfold nth; simp⟩
  · simp [Value.cells] at hcs
    obtain ⟨rfl, rfl, rfl⟩ := hcs
    simp only [Prod.mk.injEq] at hx
    obtain ⟨rfl, rfl⟩ := hx
    simp only [if_true] at hz
    have hr := sized_slice hsz hj hd ht
    rw [h8] at hr
    simp only [lits, List.length_map, List.length_take, List.length_drop, reachBytes] at hr
    have hlen : (zs.take len).length = len := by simp; omega
    refine ⟨zs.take len, Or.inr ⟨a, cap, by rw [hlen], by omega, fun i hi => hlt (.cell a.block (a.off + i)) (MemPlace.mem_row.2 ⟨i, by omega, rfl⟩), fun i hi => ?_⟩, fun i => ?_⟩
    · rw [nth_take zs len i (by omega)]
      exact hcell i (by omega)
    · by_cases hi : i < len
      · rw [nth_take zs len i hi, List.getD_eq_getElem?_getD, List.getElem?_eq_getElem (by omega)]
        exact wf_i64_range (hwz _ (List.getElem_mem _))
      · unfold nth
        rw [List.getD_eq_getElem?_getD, List.getElem?_eq_none (by omega)]
        simp
end
end Go.Proofs.YtccajbgdlicbnaaDoor

/- Layer 6: text.Digits and the document's num; the library's table of powers of ten stands. -/
namespace Go.Proofs.YtccajbgdlicbnaaDoor
open Go.RowKit (wrap64 intOf Below)
set_option linter.unusedVariables false

/-- The library's table of powers of ten holds what it was laid with. -/
def PT (w : World) : Prop := Lib.TabIs Tryd.prog w "internal/strconv.uint64pow10" .u64 Lib.pow10Tab
theorem gPow : Tryd.prog.globalNamed "internal/strconv.uint64pow10" = some 4 := by kernel_rfl
theorem PT.lt {w : World} (h : PT w) : 4 < w.heap.size := World.block_lt_of_cell? _ _ (Lib.TabIs.cell h gPow 0 (by decide))
theorem PT.since {w w' : World} (h : PT w) (hb : Below w.heap.size w w') : PT w' := by
  have hl := h.lt
  unfold PT Lib.TabIs at h ⊢
  rw [← h]
  unfold World.var?
  rw [gPow]
  simp only [Option.bind_some]
  rw [hb.block _ hl]
/-- A number as a text. -/
theorem itoa_text (n : Int) (w : World) (h0 : -9223372036854775808 ≤ n) (h1 : n ≤ 9223372036854775807) (htab : PT w) :
    Calls Tryd.prog 37 #[.int .i64 n] w fun e w' => e = .returned (.string (mkB (Lib.itoa n))) ∧ Below w.heap.size w w' := by
  have C1 := Lib.hid (Tryd.strconv_FormatInt_10 n h0 h1 w htab)
  clear htab
  go_enter Tryd.func37, Tryd.ntmps37
  go_wp2_with fail
  refine C1.out.mono ?_
  rintro e w1 ⟨rfl, k, os, rfl⟩
  have HB := Lib.hid (Lib.below_grow w.heap.size w (Nat.le_refl _) k os)
  go_wp2
  go_ret
  exact ⟨rfl, HB.out⟩
theorem itoa_ref (n : Int) (w : World) (h0 : -9223372036854775808 ≤ n) (h1 : n ≤ 9223372036854775807) :
    Calls Tryd.prog 23 #[.int .i64 n] w fun e w' => e = .returned (.string (mkB (Lib.itoa n))) ∧ Below w.heap.size w w' := by
  have C2 := Lib.hid (ref_digits n w h0 h1)
  have hw : RowKit.wrap64 n = n := by unfold RowKit.wrap64; omega
  go_enter Tryd.func23, Tryd.ntmps23
  go_wp2_with fail
  refine C2.out.mono ?_
  rintro e w1 ⟨rfl, hb⟩
  have HB := Lib.hid hb
  clear hb
  go_wp2_with fail
  go_ret
  exact ⟨rfl, HB.out⟩
theorem itoa_size (n : Int) (h0 : -9223372036854775808 ≤ n) (h1 : n ≤ 9223372036854775807) : (mkB (Lib.itoa n)).size ≤ 21 := by
  rw [mkB_size]
  exact Lib.itoa_length_le n h0 h1
end Go.Proofs.YtccajbgdlicbnaaDoor

/- Layer 2, plain: how a text is quoted (P2.2), byte by byte, on lists of bytes; that a quote is read in one way (P2.3). Nothing of the program is named here. -/
namespace Go.Proofs.YtccajbgdlicbnaaDoor
set_option linter.unusedVariables false

/-- A text out of its bytes. -/
def mk (l : List UInt8) : ByteArray := ⟨l.toArray⟩
theorem mk_list (l : List UInt8) : (mk l).data.toList = l := by simp [mk]
theorem mk_of (s : ByteArray) : mk s.data.toList = s := by unfold mk; rw [Array.toArray_toList]
theorem mk_size (l : List UInt8) : (mk l).size = l.length := by simp [mk, ByteArray.size]
theorem mk_inj {a b : List UInt8} (h : mk a = mk b) : a = b := by rw [← mk_list a, h, mk_list]
theorem list_len (s : ByteArray) : s.data.toList.length = s.size := by rw [Array.length_toList]; rfl
theorem list_at (s : ByteArray) (k : Nat) (h : k < s.size) : s.data.toList[k]? = some s[k] := by
  rw [List.getElem?_eq_getElem (by rw [list_len]; exact h)]; rfl
def digit (n : Nat) : UInt8 := if n < 10 then UInt8.ofNat (48 + n) else UInt8.ofNat (87 + n)
def markI (n : Int) : Bool := n == 34 || n == 92
def shownI (n : Int) : Bool := decide (32 ≤ n) && decide (n ≤ 126)
def mark (c : UInt8) : Bool := markI c.toNat
def shown (c : UInt8) : Bool := shownI c.toNat
/-- What a quote tells one byte as. -/
def enc (c : UInt8) : List UInt8 := if mark c then [92, c] else if shown c then [c] else [92, digit (c.toNat / 16), digit (c.toNat % 16)]
def encs (l : List UInt8) : List UInt8 := l.flatMap enc
def quoteL (l : List UInt8) : List UInt8 := 34 :: (encs l ++ [34])

theorem encs_nil : encs [] = [] := rfl
theorem encs_cons (c : UInt8) (l : List UInt8) : encs (c :: l) = enc c ++ encs l := by simp [encs]
theorem encs_append (a b : List UInt8) : encs (a ++ b) = encs a ++ encs b := by simp [encs]
theorem encs_snoc (a : List UInt8) (c : UInt8) : encs (a ++ [c]) = encs a ++ enc c := by simp [encs]
theorem enc_len (c : UInt8) : 1 ≤ (enc c).length ∧ (enc c).length ≤ 3 := by
  unfold enc; split
  · simp
  · split <;> simp
theorem encs_len (l : List UInt8) : l.length ≤ (encs l).length ∧ (encs l).length ≤ 3 * l.length := by
  induction l with
  | nil => simp [encs_nil]
  | cons c l ih => rw [encs_cons]; have := enc_len c; simp only [List.length_append, List.length_cons]; omega
theorem quoteL_len (l : List UInt8) : (quoteL l).length = (encs l).length + 2 := by simp [quoteL]

/-- Which place among the sixteen digits a byte has; below 0: none. -/
def hx (a : UInt8) : Int := Lib.indexByte [48, 49, 50, 51, 52, 53, 54, 55, 56, 57, 97, 98, 99, 100, 101, 102] a
/-- The byte that two digits are, if a quote tells it so. -/
def hex2 (a b : UInt8) : Option UInt8 :=
  if hx a < 0 ∨ hx b < 0 then none else
  if shownI (16 * hx a + hx b) then none else some (UInt8.ofNat (16 * hx a + hx b).toNat)
/-- The byte that a piece of a quote begins with, and what stands behind it. -/
def firstP : List UInt8 → Option (UInt8 × List UInt8)
  | [] => none
  | c :: r => if c = 92 then
      (match r with
       | [] => none
       | d :: r1 => if mark d then some (d, r1) else
          (match r1 with
           | [] => none
           | e :: r2 => (hex2 d e).map fun x => (x, r2)))
    else if shown c && !mark c then some (c, r) else none

theorem bytes_all {p : UInt8 → Prop} (h : ∀ n : Fin 256, p (UInt8.ofNat n.val)) (c : UInt8) : p c := by
  have := h ⟨c.toNat, c.toNat_lt⟩
  simpa using this
theorem hx_range (a : UInt8) : -1 ≤ hx a ∧ hx a < 16 := by
  revert a; apply bytes_all; decide +kernel
theorem hx_digit (a : UInt8) : 0 ≤ hx a → digit (hx a).toNat = a ∧ mark a = false := by
  revert a; apply bytes_all; decide +kernel
theorem digit_hx (n : Nat) (h : n < 16) : hx (digit n) = n := by
  have H : ∀ k : Fin 16, hx (digit k.val) = (k.val : Int) := by decide +kernel
  exact H ⟨n, h⟩
theorem digit_mark (n : Nat) (h : n < 16) : mark (digit n) = false := by
  have H : ∀ k : Fin 16, mark (digit k.val) = false := by decide +kernel
  exact H ⟨n, h⟩
theorem mark_shown (c : UInt8) (h : mark c = true) : shown c = true := by
  revert c; apply bytes_all; decide +kernel
theorem mark_bs : mark 92 = true := by decide

theorem enc_mark {c : UInt8} (h : mark c = true) : enc c = [92, c] := by unfold enc; rw [if_pos h]
theorem enc_plain {c : UInt8} (h : mark c = false) (h2 : shown c = true) : enc c = [c] := by unfold enc; rw [if_neg (by rw [h]; decide), if_pos h2]
theorem enc_hex {c : UInt8} (h : shown c = false) : enc c = [92, digit (c.toNat / 16), digit (c.toNat % 16)] := by
  have hm : mark c = false := by
    cases e : mark c
    · rfl
    · rw [mark_shown c e] at h; cases h
  unfold enc; rw [if_neg (by rw [hm]; decide), if_neg (by rw [h]; decide)]

theorem hex2_enc {c : UInt8} (h : shown c = false) : hex2 (digit (c.toNat / 16)) (digit (c.toNat % 16)) = some c := by
  have hc := c.toNat_lt
  have e1 := digit_hx (c.toNat / 16) (by omega)
  have e2 := digit_hx (c.toNat % 16) (by omega)
  have e3 : 16 * ((c.toNat / 16 : Nat) : Int) + ((c.toNat % 16 : Nat) : Int) = (c.toNat : Int) := by omega
  unfold hex2
  rw [e1, e2, if_neg (by omega), e3]
  have : shownI (c.toNat : Int) = false := h
  rw [this]
  simp
theorem hex2_sound {a b x : UInt8} (h : hex2 a b = some x) : shown x = false ∧ digit (x.toNat / 16) = a ∧ digit (x.toNat % 16) = b ∧ mark a = false := by
  unfold hex2 at h
  have ra := hx_range a
  have rb := hx_range b
  split at h
  · cases h
  rename_i hn
  split at h
  · cases h
  rename_i hs
  have hx' : x = UInt8.ofNat (16 * hx a + hx b).toNat := (Option.some.inj h).symm
  have hv : x.toNat = (16 * hx a + hx b).toNat := by
    rw [hx']; simp; omega
  have h1 : x.toNat / 16 = (hx a).toNat := by omega
  have h2 : x.toNat % 16 = (hx b).toNat := by omega
  refine ⟨?_, ?_, ?_, (hx_digit a (by omega)).2⟩
  · unfold shown
    rw [show (x.toNat : Int) = 16 * hx a + hx b by omega]
    simpa using hs
  · rw [h1]; exact (hx_digit a (by omega)).1
  · rw [h2]; exact (hx_digit b (by omega)).1

/-- A byte's piece of a quote is read as the byte, whatever is behind. -/
theorem firstP_enc (c : UInt8) (r : List UInt8) : firstP (enc c ++ r) = some (c, r) := by
  cases hm : mark c
  · cases hs : shown c
    · rw [enc_hex hs]
      have hd : mark (digit (c.toNat / 16)) = false := digit_mark _ (by have := c.toNat_lt; omega)
      simp only [List.cons_append, List.nil_append, firstP, if_true, hd, Bool.false_eq_true, if_false, hex2_enc hs, Option.map_some]
    · rw [enc_plain hm hs]
      have hne : c ≠ 92 := by intro e; subst e; rw [mark_bs] at hm; cases hm
      simp [firstP, hne, hs, hm]
  · rw [enc_mark hm]
    simp [firstP, hm]
/-- What is read is a byte's piece. -/
theorem firstP_sound {l : List UInt8} {c : UInt8} {r : List UInt8} (h : firstP l = some (c, r)) : l = enc c ++ r := by
  cases l with
  | nil => cases h
  | cons a l =>
    simp only [firstP] at h
    split at h
    · rename_i ha
      subst ha
      cases l with
      | nil => cases h
      | cons d r1 =>
        simp only at h
        split at h
        · rename_i hd
          simp only [Option.some.injEq, Prod.mk.injEq] at h
          obtain ⟨rfl, rfl⟩ := h
          rw [enc_mark hd]; rfl
        · cases r1 with
          | nil => cases h
          | cons e r2 =>
            simp only [Option.map_eq_some_iff, Prod.mk.injEq] at h
            obtain ⟨x, hx', rfl, rfl⟩ := h
            obtain ⟨hs, h1, h2, _⟩ := hex2_sound hx'
            rw [enc_hex hs, h1, h2]; rfl
    · split at h
      · rename_i _ hsm
        simp only [Option.some.injEq, Prod.mk.injEq] at h
        obtain ⟨rfl, rfl⟩ := h
        simp only [Bool.and_eq_true, Bool.not_eq_true'] at hsm
        rw [enc_plain hsm.2 hsm.1]; rfl
      · cases h

theorem enc_cancel {c d : UInt8} {r q : List UInt8} (h : enc c ++ r = enc d ++ q) : c = d ∧ r = q := by
  have := firstP_enc c r
  rw [h, firstP_enc d q] at this
  simp only [Option.some.injEq, Prod.mk.injEq] at this
  exact ⟨this.1.symm, this.2.symm⟩
theorem enc_ne (c : UInt8) : enc c ≠ [] := by have := enc_len c; intro e; rw [e] at this; simp at this
/-- What was read is the text's beginning, and what is left tells its end. -/
theorem encs_cancel : ∀ {a t r : List UInt8}, encs a ++ r = encs t → ∃ q, t = a ++ q ∧ r = encs q
  | [], t, r, h => ⟨t, rfl, by simpa [encs_nil] using h⟩
  | c :: a, [], r, h => by
    rw [encs_cons, encs_nil] at h
    have h1 := (List.append_eq_nil_iff.1 (List.append_eq_nil_iff.1 h).1).1
    exact absurd h1 (enc_ne c)
  | c :: a, d :: t, r, h => by
    rw [encs_cons, encs_cons, List.append_assoc] at h
    obtain ⟨rfl, h2⟩ := enc_cancel h
    obtain ⟨q, rfl, hq⟩ := encs_cancel h2
    exact ⟨q, rfl, hq⟩
theorem encs_inj {a t : List UInt8} (h : encs a = encs t) : a = t := by
  obtain ⟨q, rfl, hq⟩ := encs_cancel (a := a) (t := t) (r := []) (by rw [List.append_nil]; exact h)
  have h0 : q.length ≤ 0 := by
    have := (encs_len q).1
    rw [← hq] at this
    simpa using this
  have hq0 : q = [] := List.eq_nil_of_length_eq_zero (by omega)
  subst hq0
  simp
theorem quoteL_inj {a t : List UInt8} (h : quoteL a = quoteL t) : a = t := by
  unfold quoteL at h
  simp only [List.cons.injEq, true_and] at h
  exact encs_inj (List.append_cancel_right h)

/-- What a quote is, is text t; or it is none. -/
def Reads (L : List UInt8) (v : List UInt8) (ok : Bool) : Prop := (ok = true ∧ quoteL v = L) ∨ (ok = false ∧ v = [] ∧ ∀ t, quoteL t ≠ L)
theorem Reads.same {L v v' : List UInt8} {ok ok' : Bool} (h : Reads L v ok) (h' : Reads L v' ok') : v = v' ∧ ok = ok' := by
  rcases h with ⟨rfl, h⟩ | ⟨rfl, rfl, h⟩ <;> rcases h' with ⟨rfl, h'⟩ | ⟨rfl, rfl, h'⟩
  · exact ⟨quoteL_inj (h.trans h'.symm), rfl⟩
  · exact absurd h (h' v)
  · exact absurd h' (h v')
  · exact ⟨rfl, rfl⟩
/-- All bytes of a quote can be shown. -/
theorem enc_shown (c : UInt8) : ∀ x ∈ enc c, shown x = true := by
  revert c; apply bytes_all; decide +kernel
theorem quoteL_shown (l : List UInt8) : ∀ x ∈ quoteL l, shown x = true := by
  intro x hx
  simp only [quoteL, List.mem_cons, List.mem_append, List.not_mem_nil, or_false, encs, List.mem_flatMap] at hx
  rcases hx with rfl | ⟨c, _, h⟩ | rfl
  · decide
  · exact enc_shown c x h
  · decide
end Go.Proofs.YtccajbgdlicbnaaDoor

/- Layer 6: the document's word: a word of some with blanks between; and its Type. -/
namespace Go.Proofs.YtccajbgdlicbnaaDoor
open Go.RowKit (wrap64 intOf Below)
set_option linter.unusedVariables false
set_option linter.unusedSimpArgs false

def wordGo : List UInt8 → List UInt8 → Int → Int → List UInt8
  | [], cur, at', n => if at' = n then cur else [63]
  | c :: r, cur, at', n => if c = 32 then (if at' = n then cur else wordGo r [] (at' + 1) n) else wordGo r (cur ++ [c]) at' n
def wordL (l : List UInt8) (n : Int) : List UInt8 := wordGo l [] 0 n
theorem wordGo_low : ∀ (l cur : List UInt8) (a n : Int), n < a → wordGo l cur a n = [63]
  | [], cur, a, n, h => by unfold wordGo; rw [if_neg (by omega)]
  | c :: r, cur, a, n, h => by
    unfold wordGo
    rw [if_neg (show ¬ a = n by omega), wordGo_low r [] (a + 1) n (by omega), wordGo_low r (cur ++ [c]) a n h]
    simp
theorem wordGo_high : ∀ (l cur : List UInt8) (a n : Int), a + (l.filter (· = 32)).length < n → wordGo l cur a n = [63]
  | [], cur, a, n, h => by unfold wordGo; simp at h; rw [if_neg (by omega)]
  | c :: r, cur, a, n, h => by
    by_cases hc : c = 32
    · subst hc
      simp at h
      unfold wordGo
      rw [if_pos rfl, if_neg (by omega), wordGo_high r [] (a + 1) n (by omega)]
    · simp [hc] at h
      unfold wordGo
      rw [if_neg hc, wordGo_high r (cur ++ [c]) a n (by simpa using h)]
theorem wordGo_sp {c : UInt8} {r cur : List UInt8} {a n : Int} (h : c = 32) (hn : ¬ a = n) : wordGo (c :: r) cur a n = wordGo r [] (a + 1) n := by rw [wordGo, if_pos h, if_neg hn]
theorem wordGo_ch {c : UInt8} {r cur : List UInt8} {a n : Int} (h : ¬ c = 32) : wordGo (c :: r) cur a n = wordGo r (cur ++ [c]) a n := by rw [wordGo, if_neg h]
theorem drop_cons {l : List UInt8} {i : Nat} (h : i < l.length) : l.drop i = l[i] :: l.drop (i + 1) := List.drop_eq_getElem_cons h
theorem mid_snoc {l : List UInt8} {p i : Nat} (hp : p ≤ i) (h : i < l.length) : (l.drop p).take (i + 1 - p) = (l.drop p).take (i - p) ++ [l[i]] := by
  rw [show i + 1 - p = (i - p) + 1 by omega, List.take_succ_eq_append_getElem (by rw [List.length_drop]; omega)]
  congr 2
  rw [List.getElem_drop]
  congr 1
  omega
theorem extract_mid (s : ByteArray) (p i : Nat) : s.extract p i = mk ((s.data.toList.drop p).take (i - p)) := by
  apply ByteArray.ext
  apply Array.toList_inj.1
  rw [mk_list, Lib.extract_data]

set_option maxRecDepth 100000 in
set_option maxHeartbeats 2000000 in
theorem word_any (s : ByteArray) (n : Int) (w : World) (hs : s.size ≤ 1000000) :
    Calls Tryd.prog 38 #[.string s, .int .i64 n] w fun e w' => e = .returned (.string (mk (wordL s.data.toList n))) ∧ w = w' := by
  have hsl : s.data.toList.length = s.size := by rw [Array.length_toList]; rfl
  have HSL := Lib.hid hsl
  clear hsl
  go_enter Tryd.func38, Tryd.ntmps38
  go_wp2_with fail
  go_loopw [5, 6, 7] (fun av fv iv wr => ∃ (a p i : Nat), p ≤ i ∧ a ≤ i ∧ i ≤ s.size + 1 ∧ av = .int .i64 (a : Int) ∧ fv = .int .i64 (p : Int) ∧ iv = .int .i64 (i : Int) ∧ w = wr ∧ RowKit.Hid ((i ≤ s.size → wordGo (s.data.toList.drop i) ((s.data.toList.drop p).take (i - p)) a n = wordL s.data.toList n) ∧ (i = s.size + 1 → wordL s.data.toList n = [63]))) (fun _ _ iv _ => s.size + 1 - (intOf iv).toNat)
  case atStart => exact ⟨0, 0, 0, Nat.le_refl _, Nat.le_refl _, Nat.zero_le _, rfl, rfl, rfl, rfl, Lib.hid ⟨fun _ => by simp [wordL], fun h => by omega⟩⟩
  case round =>
    obtain ⟨a, p, i, hpi, hai, hi, rfl, rfl, rfl, rfl, HI⟩ := hrel
    by_cases hlt : i ≤ s.size
    · by_cases he : i = s.size
      · subst he
        have hr := HI.out.1 (Nat.le_refl _)
        rw [List.drop_of_length_le (by rw [HSL.out]; exact Nat.le_refl _)] at hr
        by_cases hn : (a : Int) = n
        · subst hn
          have HR : RowKit.Hid (mk (wordL s.data.toList (a : Int)) = s.extract p s.size) := Lib.hid (by rw [extract_mid, ← hr]; unfold wordGo; rw [if_pos rfl])
          clear hr
          go_wp2_with fail
          go_ret
          exact ⟨by rw [HR.out]; rfl, rfl⟩
        · have HR : RowKit.Hid (wordL s.data.toList n = [63]) := Lib.hid (by rw [← hr]; unfold wordGo; rw [if_neg hn])
          clear hr
          go_wp2_with fail
          go_roundw
          case rel => exact ⟨a + 1, s.size + 1, s.size + 1, by omega, by omega, by omega, by go_num, by go_num, by go_num, (by first | rfl | trivial), Lib.hid ⟨fun h => by omega, fun _ => HR.out⟩⟩
          case measure => simp [intOf] <;> omega
      · have hil : i < s.size := by omega
        have hr := HI.out.1 hlt
        rw [drop_cons (by rw [HSL.out]; exact hil)] at hr
        obtain ⟨c, hc⟩ : ∃ c, c = s[i]'hil := ⟨_, rfl⟩
        have hci : s.data.toList[i]'(by rw [HSL.out]; exact hil) = c := by rw [hc]; rfl
        have HCI := Lib.hid hci
        rw [hci] at hr
        by_cases hsp : c = 32
        · have h32 : (s[i]'hil) = 32 := by rw [← hc, hsp]
          have HR := Lib.hid hr
          clear hr hc hci
          by_cases hn : (a : Int) = n
          · subst hn
            have HQ : RowKit.Hid (mk (wordL s.data.toList (a : Int)) = s.extract p i) := Lib.hid (by rw [extract_mid, ← HR.out]; unfold wordGo; rw [if_pos hsp, if_pos rfl])
            go_wp2_with fail
            go_ret
            exact ⟨by rw [HQ.out]; rfl, rfl⟩
          · have HQ : RowKit.Hid (wordGo (s.data.toList.drop (i + 1)) ((s.data.toList.drop (i + 1)).take (i + 1 - (i + 1))) ((a + 1 : Nat) : Int) n = wordL s.data.toList n) := Lib.hid (by rw [← HR.out, Nat.sub_self, List.take_zero, wordGo_sp hsp hn]; rfl)
            go_wp2_with fail
            go_roundw
            case rel => exact ⟨a + 1, i + 1, i + 1, by omega, by omega, by omega, by go_num, by go_num, by go_num, (by first | rfl | trivial), Lib.hid ⟨fun _ => HQ.out, fun h => by omega⟩⟩
            case measure => simp [intOf]; omega
        · have h32 : ¬ (s[i]'hil) = 32 := by rw [← hc]; exact hsp
          have hb : (((s[i]'hil).toNat : Int) == 32) = false := by
            rw [beq_eq_false_iff_ne]
            intro hh
            exact h32 (UInt8.toNat.inj (by have : (s[i]'hil).toNat = 32 := by omega
                                           rw [this]; rfl))
          have HQ : RowKit.Hid (wordGo (s.data.toList.drop (i + 1)) ((s.data.toList.drop p).take (i + 1 - p)) a n = wordL s.data.toList n) := Lib.hid (by
            rw [← hr, mid_snoc hpi (by rw [HSL.out]; exact hil), HCI.out, wordGo_ch hsp])
          clear hr hc hci
          go_wp2_with fail
          go_roundw
          case rel => exact ⟨a, p, i + 1, by omega, by omega, by omega, by go_num, by go_num, by go_num, (by first | rfl | trivial), Lib.hid ⟨fun _ => HQ.out, fun h => by omega⟩⟩
          case measure => simp [intOf]; omega
    · have HR : RowKit.Hid (wordL s.data.toList n = [63]) := Lib.hid (HI.out.2 (by omega))
      go_wp2_with fail
      go_ret
      exact ⟨by rw [HR.out]; rfl, rfl⟩
end Go.Proofs.YtccajbgdlicbnaaDoor

/- Layer 6: types' names: package show's Type and the document's. -/
namespace Go.Proofs.YtccajbgdlicbnaaDoor
open Go.RowKit (wrap64 intOf Below)
set_option linter.unusedVariables false
set_option linter.unusedSimpArgs false

/-- A table of texts holds what it was laid with. -/
def StrTab (g : Nat) (ls : List (List UInt8)) (w : World) : Prop := ∀ k (h : k < ls.length), w.cell? ⟨g, k, none⟩ = some (.string (mk ls[k]))
theorem StrTab.lt {g : Nat} {ls : List (List UInt8)} {w : World} (h : StrTab g ls w) (h0 : 0 < ls.length) : g < w.heap.size := World.block_lt_of_cell? _ _ (h 0 h0)
theorem StrTab.since {g : Nat} {ls : List (List UInt8)} {w w' : World} (h : StrTab g ls w) (hb : Below w.heap.size w w') : StrTab g ls w' := fun k hk => by
  rw [hb.cell (p := ⟨g, k, none⟩) (h.lt (by omega))]; exact h k hk
def typeNames : List (List UInt8) := [[110, 111, 110, 101], [105, 110, 116], [98, 111, 111, 108], [116, 101, 120, 116], [115, 108, 105, 99, 101], [116, 97, 98, 108, 101], [102, 97, 99, 101]]
def stepNames : List (List UInt8) := [[105, 110, 116], [98, 111, 111, 108], [116, 101, 120, 116], [97, 114, 105, 116, 104], [110, 111, 116], [99, 97, 116], [108, 111, 110, 103], [98, 121, 116, 101], [97, 108, 105, 107, 101], [110, 101, 119], [103, 101, 116], [115, 101, 116], [109, 97, 107, 101], [114, 111, 111, 109], [115, 105, 122, 101], [97, 116], [112, 117, 116], [116, 97, 98, 108, 101], [101, 110, 116, 101, 114], [108, 111, 111, 107], [99, 111, 117, 110, 116], [107, 101, 121], [102, 97, 99, 101], [99, 97, 108, 108], [97, 115, 107], [116, 101, 108, 108]]
def signNames : List (List UInt8) := [[97, 100, 100], [115, 117, 98], [109, 117, 108], [100, 105, 118], [114, 101, 109], [97, 110, 100], [111, 114], [120, 111, 114], [115, 104, 108], [115, 104, 114], [108, 101, 115, 115], [109, 111, 115, 116], [115, 97, 109, 101], [101, 108, 115, 101]]
def typeWords : List UInt8 := [110, 111, 110, 101, 32, 105, 110, 116, 32, 98, 111, 111, 108, 32, 116, 101, 120, 116, 32, 115, 108, 105, 99, 101, 32, 116, 97, 98, 108, 101, 32, 102, 97, 99, 101]
def stepWords : List UInt8 := [105, 110, 116, 32, 98, 111, 111, 108, 32, 116, 101, 120, 116, 32, 97, 114, 105, 116, 104, 32, 110, 111, 116, 32, 99, 97, 116, 32, 108, 111, 110, 103, 32, 98, 121, 116, 101, 32, 97, 108, 105, 107, 101, 32, 110, 101, 119, 32, 103, 101, 116, 32, 115, 101, 116, 32, 109, 97, 107, 101, 32, 114, 111, 111, 109, 32, 115, 105, 122, 101, 32, 97, 116, 32, 112, 117, 116, 32, 116, 97, 98, 108, 101, 32, 101, 110, 116, 101, 114, 32, 108, 111, 111, 107, 32, 99, 111, 117, 110, 116, 32, 107, 101, 121, 32, 102, 97, 99, 101, 32, 99, 97, 108, 108, 32, 97, 115, 107, 32, 116, 101, 108, 108]
def signWords : List UInt8 := [97, 100, 100, 32, 115, 117, 98, 32, 109, 117, 108, 32, 100, 105, 118, 32, 114, 101, 109, 32, 97, 110, 100, 32, 111, 114, 32, 120, 111, 114, 32, 115, 104, 108, 32, 115, 104, 114, 32, 108, 101, 115, 115, 32, 109, 111, 115, 116, 32, 115, 97, 109, 101, 32, 101, 108, 115, 101]
def nameOf (ls : List (List UInt8)) (n : Int) : List UInt8 := if n < 0 ∨ (ls.length : Int) ≤ n then [63] else ls.getD n.toNat []
theorem word_of {l : List UInt8} {ls : List (List UInt8)} (hn : (l.filter (· = 32)).length + 1 = ls.length) (h : ∀ k, k < ls.length → wordL l (k : Int) = ls.getD k []) (n : Int) : wordL l n = nameOf ls n := by
  unfold nameOf
  by_cases h0 : n < 0
  · rw [if_pos (.inl h0)]; exact wordGo_low _ _ _ _ h0
  · by_cases h1 : (ls.length : Int) ≤ n
    · rw [if_pos (.inr h1)]; exact wordGo_high _ _ _ _ (by omega)
    · rw [if_neg (by omega)]
      obtain ⟨k, rfl⟩ := Int.eq_ofNat_of_zero_le (show 0 ≤ n by omega)
      exact h k (by omega)
set_option maxRecDepth 100000 in
theorem words_types (n : Int) : wordL typeWords n = nameOf typeNames n := word_of (by decide) (by decide) n
set_option maxRecDepth 100000 in
theorem words_steps (n : Int) : wordL stepWords n = nameOf stepNames n := word_of (by decide) (by decide) n
set_option maxRecDepth 100000 in
theorem words_signs (n : Int) : wordL signWords n = nameOf signNames n := word_of (by decide) (by decide) n
def typeText (t : Int) : List UInt8 := if 6 ≤ t then 42 :: Lib.itoa (t - 6) else nameOf typeNames (t + 1)
def TN (w : World) : Prop := StrTab 0 typeNames w
def SN (w : World) : Prop := StrTab 1 stepNames w
def GN (w : World) : Prop := StrTab 3 signNames w

set_option maxRecDepth 100000 in
theorem type_any (t : Int) (w : World) (h0 : -9223372036854775808 ≤ t) (h1 : t ≤ 9223372036854775807) (hp : PT w) (ht : TN w) :
    Calls Tryd.prog 20 #[.int .i64 t] w fun e w' => e = .returned (.string (mk (typeText t))) ∧ Below w.heap.size w w' := by
  by_cases hlo : t < -1
  · have HR : RowKit.Hid (typeText t = [63]) := Lib.hid (by unfold typeText nameOf; rw [if_neg (by omega), if_pos (.inl (by omega))])
    clear hp ht
    go_enter Tryd.func20, Tryd.ntmps20
    go_wp2_with fail
    go_ret
    exact ⟨by rw [HR.out]; rfl, Below.refl _ _⟩
  · by_cases hhi : 6 ≤ t
    · have HR : RowKit.Hid (mk (typeText t) = mkB [42] ++ mkB (Lib.itoa (t - 6))) := Lib.hid (by unfold typeText; rw [if_pos hhi, mkB_append]; rfl)
      have HC := Lib.hid (itoa_text (t - 6) w (by omega) (by omega) hp)
      have hs := itoa_size (t - 6) (by omega) (by omega)
      have hw : IntKind.i64.wrap (t - 6) = t - 6 := wrap_small _ (by omega) (by omega)
      clear hp ht
      go_enter Tryd.func20, Tryd.ntmps20
      go_wp2_with fail
      refine HC.out.mono ?_
      rintro e w1 ⟨rfl, hb⟩
      have HB := Lib.hid hb
      clear hb
      go_wp2_with fail
      go_ret
      exact ⟨by rw [HR.out]; rfl, HB.out⟩
    · obtain ⟨k, hk⟩ := Int.eq_ofNat_of_zero_le (show 0 ≤ t + 1 by omega)
      obtain rfl : t = (k : Int) - 1 := by omega
      have hk7 : k < 7 := by omega
      have hcell := ht k hk7
      have HR : RowKit.Hid (typeText ((k : Int) - 1) = typeNames[k]) := Lib.hid (by unfold typeText nameOf; rw [if_neg (by omega), if_neg (by simp [typeNames]; omega), show ((k : Int) - 1 + 1).toNat = k by omega]; rw [List.getD_eq_getElem?_getD, List.getElem?_eq_getElem hk7]; rfl)
      have hw : IntKind.i64.wrap ((k : Int) - 1 - -1) = (k : Int) := by rw [show (k : Int) - 1 - -1 = (k : Int) by omega]; exact wrap_small _ (by omega) (by omega)
      clear hp ht hk
      go_enter Tryd.func20, Tryd.ntmps20
      go_wp2_with fail
      go_ret
      exact ⟨by rw [HR.out]; rfl, Below.refl _ _⟩
set_option maxRecDepth 100000 in
theorem type_ref (t : Int) (w : World) (h0 : -9223372036854775808 ≤ t) (h1 : t ≤ 9223372036854775807) :
    Calls Tryd.prog 19 #[.int .i64 t] w fun e w' => e = .returned (.string (mk (typeText t))) ∧ Below w.heap.size w w' := by
  by_cases hhi : 6 ≤ t
  · have HR : RowKit.Hid (mk (typeText t) = mkB [42] ++ mkB (Lib.itoa (t - 6))) := Lib.hid (by unfold typeText; rw [if_pos hhi, mkB_append]; rfl)
    have HC := Lib.hid (itoa_ref (t - 6) w (by omega) (by omega))
    have hs := itoa_size (t - 6) (by omega) (by omega)
    have hw : IntKind.i64.wrap (t - 6) = t - 6 := wrap_small _ (by omega) (by omega)
    go_enter Tryd.func19, Tryd.ntmps19
    go_wp2_with fail
    refine HC.out.mono ?_
    rintro e w1 ⟨rfl, hb⟩
    have HB := Lib.hid hb
    clear hb
    go_wp2_with fail
    go_ret
    exact ⟨by rw [HR.out]; rfl, HB.out⟩
  · by_cases hlo : t < -1
    · have HR : RowKit.Hid (typeText t = [63]) := Lib.hid (by unfold typeText nameOf; rw [if_neg (by omega), if_pos (.inl (by omega))])
      go_enter Tryd.func19, Tryd.ntmps19
      go_wp2_with fail
      go_ret
      exact ⟨by rw [HR.out]; rfl, Below.refl _ _⟩
    · have HR : RowKit.Hid (typeText t = wordL typeWords (t + 1)) := Lib.hid (by unfold typeText; rw [if_neg hhi, words_types])
      have HC := Lib.hid (word_any (mk typeWords) (t + 1) w (by rw [mk_size]; decide))
      have hw : IntKind.i64.wrap (t + 1) = t + 1 := wrap_small _ (by omega) (by omega)
      go_enter Tryd.func19, Tryd.ntmps19
      go_wp2_with fail
      refine HC.out.mono ?_
      rintro e w1 ⟨rfl, rfl⟩
      go_wp2_with fail
      go_ret
      exact ⟨by rw [HR.out]; rfl, Below.refl _ _⟩
end Go.Proofs.YtccajbgdlicbnaaDoor

/- Layer 6: what a strings.Builder of the call's own does at this program: copyCheck and WriteString, walked (the library's laid form does not fit this translation). -/
namespace Go.Proofs.YtccajbgdlicbnaaDoor
open Go.RowKit (wrap64 intOf Below)
set_option linter.unusedVariables false
set_option linter.unusedSimpArgs false

theorem infoBuilder : (Tryd.prog.info? 55).map (·.size) = some 2 := by kernel_rfl
theorem liesBuilder : liesAt Tryd.prog Tryd.prog.depth 55 (2 / Tryd.prog.cellsOf 55) 0 55 1 = true := by kernel_rfl
theorem infoByte : (Tryd.prog.info? 5).map (fun i => (i.zero, i.size, i.bytes)) = some (some (.int .u8 0), 1, 1) := by kernel_rfl
set_option maxHeartbeats 1000000 in
set_option maxRecDepth 100000 in
theorem check_used (b : Nat) (w : World) (h0 : w.cell? ⟨b, 0, none⟩ = some (.pointer (some ⟨b, 0, none⟩))) :
    Calls Tryd.prog 33 #[.pointer (some ⟨b, 0, none⟩)] w fun e w' => e = .returned (.tuple #[]) ∧ w' = w := by
  obtain ⟨j, hj, _⟩ := Option.map_eq_some_iff.1 infoBuilder
  go_enter Tryd.func33, Tryd.ntmps33
  go_wp2
  rw [Lib.run_neq_ptr_same w _ Tryd.underlying52 hj]
  go_wp2
  go_end0
  exact ⟨rfl, rfl⟩
set_option maxHeartbeats 1000000 in
set_option maxRecDepth 100000 in
theorem check_fresh (b : Nat) (w : World) (h0 : w.cell? ⟨b, 0, none⟩ = some (.pointer none)) (hsh : w.shape? b = some (55, 2)) (hfz : w.frozen? ⟨b, 0, none⟩ = false) :
    Calls Tryd.prog 33 #[.pointer (some ⟨b, 0, none⟩)] w fun e w' => e = .returned (.tuple #[]) ∧ w' = w.setCell ⟨b, 0, none⟩ (.pointer (some ⟨b, 0, none⟩)) := by
  obtain ⟨j, hj, hjs⟩ := Option.map_eq_some_iff.1 infoBuilder
  go_enter Tryd.func33, Tryd.ntmps33
  go_wp2
  rw [Lib.run_to_unsafe w ⟨b, 0, none⟩ Tryd.underlying52 Tryd.underlying94 hj (by rw [hjs]; decide) hsh (Nat.zero_lt_succ 1)]
  simp only [Result.andThen]
  rw [Oper.upon_value]
  go_wp2
  rw [run_callFunc_extern Tryd.func55 (by kernel_rfl) (by kernel_rfl) (by kernel_rfl) (e := Extern.AbiNoEscape.same) (by kernel_rfl)]
  rw [Lib.run_noEscape]
  simp only [Result.andThen]
  rw [Oper.upon_value]
  go_wp2
  rw [Lib.run_from_unsafe w ⟨b, 0, none⟩ Tryd.underlying94 Tryd.underlying52 hj hsh liesBuilder]
  simp only [Result.andThen]
  rw [Oper.upon_value]
  go_wp2
  go_end0
  exact ⟨rfl, rfl⟩
theorem check_any (B b : Nat) (bs : List Value) (w : World) (h : Lib.IsBuilderF 55 5 B b bs w) :
    Calls Tryd.prog 33 #[.pointer (some ⟨b, 0, none⟩)] w fun e w' => e = .returned (.tuple #[]) ∧ (Lib.BuilderAtF 55 5 B b (.pointer (some ⟨b, 0, none⟩)) bs w' ∧ Below B w w' ∧ Lib.OthersKept 5 (some b) w w') := by
  rcases h with h | h
  · refine (check_fresh b w h.cell0 h.shape h.frozen0).mono ?_
    rintro e w' ⟨rfl, rfl⟩
    exact ⟨rfl, h.used _, (Below.refl B w).setCell (p := ⟨b, 0, none⟩) h.1 _, (Lib.OthersKept.refl _ _ w).setCell ⟨b, 0, none⟩ rfl _⟩
  · refine (check_used b w h.cell0).mono ?_
    rintro e w' ⟨rfl, rfl⟩
    exact ⟨rfl, h, Below.refl B _, Lib.OthersKept.refl _ _ _⟩
set_option maxHeartbeats 2000000 in
set_option maxRecDepth 100000 in
/-- WriteString: the text goes behind what the builder holds; all that is no row of bytes stands. -/
theorem write_text (B b : Nat) (bs : List Value) (s : ByteArray) (w : World) (h : Lib.IsBuilderF 55 5 B b bs w) (hlen : bs.length + s.size ≤ 140737488355328) (hBw : B ≤ w.heap.size) :
    Calls Tryd.prog 14 #[.pointer (some ⟨b, 0, none⟩), .string s] w fun e w' => e = .returned (.tuple #[.int .i64 s.size, .nilIface]) ∧ (Lib.BuilderAtF 55 5 B b (.pointer (some ⟨b, 0, none⟩)) (bs ++ Lib.strCells s) w' ∧ Below B w w' ∧ Lib.OthersKept 5 (some b) w w') := by
  obtain ⟨i0, hi, hz0, hz1, hz2⟩ := info_parts infoByte
  have HC := Lib.hid (check_any B b bs w h)
  go_enter Tryd.func14, Tryd.ntmps14
  go_wp2_with fail
  refine HC.out.mono ?_
  rintro e w1 ⟨rfl, h1, hb1, hk1⟩
  obtain ⟨hB, v, hbk, hown, hne⟩ := h1
  have c0 : w1.cell? ⟨b, 0, none⟩ = some (.pointer (some ⟨b, 0, none⟩)) := by rw [Lib.cell_of_heap hbk]; rfl
  have c1 : w1.cell? ⟨b, 1, none⟩ = some v := by rw [Lib.cell_of_heap hbk]; rfl
  go_wp2_with (at_builtin; refine Lib.wpList_append_own_stringF _ rfl _ _ 53 9 rfl B 5 i0 Tryd.underlying53 Tryd.underlying9 hi hz0 hz1 hz2 _ _ _ rfl hown s rfl ?c3 ?c4 ?c5 ?_)
  case c3 => unfold maxLen; omega
  case c4 => omega
  case c5 => have := hb1.size; omega
  intro v' w2 hown' hgrow _
  have hlt : b < w1.heap.size := (Array.getElem?_eq_some_iff.1 hbk).1
  have hb2 : w2.heap[b]? = some (.cells #[.pointer (some ⟨b, 0, none⟩), v] 55 (0, 0)) := by
    rw [hgrow.block b hlt (fun e => hne e.symm)]
    exact hbk
  have d0 : w2.cell? ⟨b, 0, none⟩ = some (.pointer (some ⟨b, 0, none⟩)) := by rw [Lib.cell_of_heap hb2]; rfl
  have d1 : w2.cell? ⟨b, 1, none⟩ = some v := by rw [Lib.cell_of_heap hb2]; rfl
  have f1 : w2.frozen? ⟨b, 1, none⟩ = false := Lib.frozen_of_heap hb2 1
  obtain ⟨ao, n', cap, rfl⟩ : ∃ ao n' cap, v' = .slice ao n' cap := by
    rcases hown'.2 with ⟨hv, _⟩ | ⟨g, cap, cur, fz, hv, _⟩
    · exact ⟨_, _, _, hv⟩
    · exact ⟨_, _, _, hv⟩
  go_wp2
  go_ret2
  refine ⟨rfl, ?_, ?_, (hk1.grown hgrow (Lib.ownsRowF_kind hown)).setCell ⟨b, 1, none⟩ rfl _⟩
  · exact Lib.BuilderAtF.put (T := 55) (e := 5) hB hb2 (bs' := bs ++ Lib.strCells s) (by simpa [Lib.strCells_length] using hown') (by decide)
  · exact (hb1.grown hgrow (by have := hb1.size; omega) (fun k hk => (hown.lt k hk).1)).setCell (p := ⟨b, 1, none⟩) hB _
end Go.Proofs.YtccajbgdlicbnaaDoor

/- Layer 4, plain: which fields of each kind of step play a part (P4.1). Nothing of the program is named here. -/
namespace Go.Proofs.YtccajbgdlicbnaaDoor
set_option linter.unusedVariables false

/-- The letters of the fields that play a part. -/
def fieldsL (K : Int) : List UInt8 :=
  if K = 0 ∨ K = 1 then [78] else if K = 2 then [83] else if K = 3 ∨ K = 11 then [78, 65, 66] else
  if K = 4 ∨ K = 6 ∨ K = 13 ∨ K = 14 ∨ K = 20 ∨ K = 22 ∨ K = 25 then [65] else
  if K = 5 ∨ K = 7 ∨ K = 8 ∨ K = 15 ∨ K = 19 ∨ K = 21 then [65, 66] else
  if K = 9 then [78, 76, 75] else if K = 10 then [78, 65] else if K = 12 then [78, 75] else if K = 16 ∨ K = 18 then [65, 66, 67] else
  if K = 17 then [75] else if K = 23 then [78, 76] else if K = 24 then [78, 65, 76] else []
def hasB (K : Int) (f : UInt8) : Bool := (fieldsL K).contains f
theorem kinds (K : Int) : (K = 0 ∨ K = 1 ∨ K = 2 ∨ K = 3 ∨ K = 4 ∨ K = 5 ∨ K = 6 ∨ K = 7 ∨ K = 8 ∨ K = 9 ∨ K = 10 ∨ K = 11 ∨ K = 12 ∨ K = 13 ∨ K = 14 ∨ K = 15 ∨ K = 16 ∨ K = 17 ∨ K = 18 ∨ K = 19 ∨ K = 20 ∨ K = 21 ∨ K = 22 ∨ K = 23 ∨ K = 24 ∨ K = 25) ∨ (K < 0 ∨ 25 < K) := by omega
theorem fields_none {K : Int} (h : K < 0 ∨ 25 < K) : fieldsL K = [] := by
  unfold fieldsL
  repeat rw [if_neg (by omega)]
/-- All that can be of the seven at once: N, S, A, B, C, L, K. -/
theorem groups (K : Int) : (hasB K 78, hasB K 83, hasB K 65, hasB K 66, hasB K 67, hasB K 76, hasB K 75) ∈
    [(true, false, false, false, false, false, false), (false, true, false, false, false, false, false), (true, false, true, true, false, false, false), (false, false, true, false, false, false, false),
     (false, false, true, true, false, false, false), (true, false, false, false, false, true, true), (true, false, true, false, false, false, false), (true, false, false, false, false, false, true),
     (false, false, true, true, true, false, false), (false, false, false, false, false, false, true), (true, false, false, false, false, true, false), (true, false, true, false, false, true, false), (false, false, false, false, false, false, false)] := by
  rcases kinds K with h | h
  · rcases h with rfl | rfl | rfl | rfl | rfl | rfl | rfl | rfl | rfl | rfl | rfl | rfl | rfl | rfl | rfl | rfl | rfl | rfl | rfl | rfl | rfl | rfl | rfl | rfl | rfl | rfl
    all_goals decide +kernel
  · unfold hasB
    rw [fields_none h]
    decide +kernel
def pickI (b : Bool) (x : Int) : Int := if b then x else 0
def pickS (b : Bool) (s : ByteArray) : ByteArray := if b then s else ⟨#[]⟩
def pickL (b : Bool) (l : List Int) : List Int := if b then l else []
/-- What a step may do. -/
def mayFail (K N : Int) : Int := if K = 5 ∨ K = 7 ∨ K = 13 ∨ K = 15 ∨ K = 16 ∨ K = 21 ∨ K = 24 ∨ (K = 3 ∧ (N = 3 ∨ N = 4)) then 1 else 0
def mayDo (K : Int) : Int := if K = 10 ∨ K = 15 ∨ K = 19 ∨ K = 20 ∨ K = 21 then 2 else if K = 11 ∨ K = 16 ∨ K = 18 then 4 else if K = 9 ∨ K = 12 ∨ K = 13 ∨ K = 17 then 8 else if K = 23 ∨ K = 24 then 16 else if K = 25 then 32 else 0
def flagsI (K N : Int) : Int := mayFail K N + mayDo K
theorem flags_none {K : Int} (N : Int) (h : K < 0 ∨ 25 < K) : flagsI K N = 0 := by
  unfold flagsI mayFail mayDo
  repeat rw [if_neg (by omega)]
  rfl
theorem flags_plain (K N : Int) : flagsI K (pickI (hasB K 78) N) = flagsI K N := by
  rcases kinds K with h | h
  · rcases h with rfl | rfl | rfl | rfl | rfl | rfl | rfl | rfl | rfl | rfl | rfl | rfl | rfl | rfl | rfl | rfl | rfl | rfl | rfl | rfl | rfl | rfl | rfl | rfl | rfl | rfl
    all_goals rfl
  · rw [flags_none _ h, flags_none _ h]
end Go.Proofs.YtccajbgdlicbnaaDoor

/- A row of bytes that a call made itself: told by the list of its bytes; what append, make and the way back to a text do to it. Nothing of the program is named here. -/
namespace Go.Proofs.YtccajbgdlicbnaaDoor
open Go.RowKit (wrap64 intOf Below)
set_option linter.unusedVariables false

def byteV (c : UInt8) : Value := .int .u8 c.toNat
/-- The slice v is the call's own (from block B on) and holds the bytes l. -/
def OwnsB (w : World) (B : Nat) (e : TypeId) (v : Value) (l : List UInt8) : Prop := w.ownsRow B e 1 v l.length (l.map byteV)

theorem OwnsB.alloc {w : World} {B : Nat} {e : TypeId} {v : Value} {l : List UInt8} (h : OwnsB w B e v l) (o : Obj) : OwnsB (w.alloc o) B e v l := World.ownsRow.alloc h o
theorem OwnsB.drew {w : World} {B : Nat} {e : TypeId} {v : Value} {l : List UInt8} (h : OwnsB w B e v l) : OwnsB w.drew B e v l := h
theorem OwnsB.nil (w : World) (B : Nat) (e : TypeId) : OwnsB w B e (.slice none 0 0) [] := World.ownsRow_nil w B e 1
theorem OwnsB.made {w : World} {B : Nat} {e : TypeId} (cur : Array Value) (cap : Nat) (hB : B ≤ w.heap.size) (hm : cap ≤ maxLen) (hs : cur.size = cap) : OwnsB (w.alloc (.cells cur e)) B e (.slice (some ⟨w.heap.size, 0, none⟩) 0 cap) [] :=
  World.ownsRow_made w cur cap hB hm (by rw [hs, Nat.mul_one])
theorem OwnsB.lt {w : World} {B : Nat} {e : TypeId} {v : Value} {l : List UInt8} (h : OwnsB w B e v l) : ∀ k, v.ownBlock = some k → B ≤ k ∧ k < w.heap.size := World.ownsRow.lt h
theorem OwnsB.shape {w : World} {B : Nat} {e : TypeId} {v : Value} {l : List UInt8} (h : OwnsB w B e v l) : ∃ (a : Option Addr) (c : Nat), v = .slice a l.length c := by
  rcases h.2 with ⟨rfl, h0⟩ | ⟨g, cap, cur, rfl, _⟩
  · rw [h0]; exact ⟨none, 0, rfl⟩
  · exact ⟨_, cap, rfl⟩
/-- A row just built out of bytes. -/
theorem OwnsB.built {w : World} {B : Nat} {e : TypeId} (l : List UInt8) (C : Array Value) (n : Nat) (hC : C = (l.map byteV).toArray) (hB : B ≤ w.heap.size) (hn : l.length = n) (hm : n ≤ maxLen) : OwnsB (w.alloc (.cells C e)) B e (.slice (some ⟨w.heap.size, 0, none⟩) n n) l := by
  subst hn hC
  refine ⟨by simp, .inr ⟨w.heap.size, _, (l.map byteV).toArray, rfl, hB, heap_alloc_new w _, Nat.le_refl _, hm, by simp, ?_⟩⟩
  simp only [Nat.mul_one]
  exact List.take_of_length_le (by simp)

/-- What has grown behind it changes nothing of it. -/
theorem OwnsB.below {w w' : World} {B : Nat} {e : TypeId} {v : Value} {l : List UInt8} (h : OwnsB w B e v l) (hb : Below w.heap.size w w') : OwnsB w' B e v l := by
  refine ⟨h.1, ?_⟩
  rcases h.2 with hn | ⟨g, cap, cur, rfl, hB, hg, rest⟩
  · exact .inl hn
  · refine .inr ⟨g, cap, cur, rfl, hB, ?_, rest⟩
    rw [hb.block g (Array.getElem?_eq_some_iff.1 hg).1]
    exact hg
theorem byteV_one {l : List UInt8} : ∀ u ∈ l.map byteV, u.oneCell' = true := by
  intro u hu
  obtain ⟨c, _, rfl⟩ := List.mem_map.1 hu
  rfl

/-- 'append(b, c1, c2 ..)': bytes that lie in a row just built, behind those that b holds. -/
theorem wpList_append_bytes {P : Program} (w : World) {ops : Array Oper} {rest : List Oper} {o : Oper} {a : Act} {Q : Exit → Act → World → Prop} (hgd : o.guard = none) (s x : Operand) (t : TypeId)
    (ho : o.op = .call { callee := .builtin .append, args := #[s, x], argTypes := #[t, t] }) (e : TypeId) (ht : P.underlying t = some (.slice e))
    (hinfo : (P.info? e).map (fun i => (i.zero, i.size, i.bytes)) = some (some (.int .u8 0), 1, 1))
    (B : Nat) (v : Value) (l : List UInt8) (hs : a.eval s = v) (hown : OwnsB w B e v l) (hB : B ≤ w.heap.size)
    (C : Array Value) (m c g : Nat) (news : List UInt8) (hx : a.eval x = .slice (some ⟨g, 0, none⟩) m c) (hg : g = w.heap.size) (hC : C = (news.map byteV).toArray) (hm : news.length = m)
    (hlen : l.length + m ≤ 140737488355328)
    (h : ∀ v' w', OwnsB w' B e v' (l ++ news) → Below B w w' → w.heap.size < w'.heap.size → wpList P ops Q rest (a.put o.dst v') w') : wpList P ops Q (o :: rest) a (w.alloc (.cells C e)) := by
  obtain ⟨i0, hi, hz0, hz1, hz2⟩ := info_parts hinfo
  subst hC hm hg
  refine wpList_append_own _ hgd s x t ho B e i0 (.int .u8 0) 1 1 ht hi hz0 hz1 hz2 rfl (by decide) v l.length (l.map byteV) hs (hown.alloc _) ⟨w.heap.size, 0, none⟩ news.length c (news.map byteV) hx (by simp) (fun j u hu => ?_) byteV_one (by unfold maxLen; omega) (by omega) (by simp; omega) ?_
  · have hadd : (⟨w.heap.size, 0, none⟩ : Addr).add j = ⟨w.heap.size, j, none⟩ := by unfold Addr.add; split <;> simp_all
    rw [hadd, World.cell?_alloc_mark]
    simpa using hu
  · intro v' w' hown' hgrow _
    refine h v' w' ?_ ?_ ?_
    · show w'.ownsRow B e 1 v' (l ++ news).length ((l ++ news).map byteV)
      rw [List.map_append, List.length_append]
      exact hown'
    · exact Below.grown ((Below.refl B w).alloc hB _) hgrow (by simp; omega) (fun k hk => (hown.lt k hk).1)
    · have := hgrow.size
      simp at this
      omega

/-- The same as one step of a region that draws its order. -/
theorem step_append_bytes {P : Program} {u : World} {ops : Array Oper} {o : Oper} {a : Act} {K : Act → World → Prop} {Q : Exit → Act → World → Prop} {E : Prop} (hgd : o.guard = none) (s x : Operand) (t : TypeId)
    (ho : o.op = .call { callee := .builtin .append, args := #[s, x], argTypes := #[t, t] }) (e : TypeId) (ht : P.underlying t = some (.slice e))
    (hinfo : (P.info? e).map (fun i => (i.zero, i.size, i.bytes)) = some (some (.int .u8 0), 1, 1))
    (B : Nat) (v : Value) (l : List UInt8) (hs : a.eval s = v) (hown : OwnsB u B e v l) (hB : B ≤ u.heap.size)
    (m c g : Nat) (news : List UInt8) (hx : a.eval x = .slice (some ⟨g, 0, none⟩) m c) (fr : Nat × Nat) (hg : u.heap[g]? = some (.cells (news.map byteV).toArray e fr)) (hm : news.length = m) (hpos : 0 < m)
    (hlen : l.length + m ≤ 140737488355328)
    (h : ∀ v' w', OwnsB w' B e v' (l ++ news) → Below B u w' → K (a.put o.dst v') w') :
    if Region.wanted o (yielded ops a.tmps) = true then Oper.wp P o a u K Q else E := by
  obtain ⟨i0, hi, hz0, hz1, hz2⟩ := info_parts hinfo
  subst hm
  refine step_append_lies u hgd s x t ho B e i0 (.int .u8 0) 1 1 ht hi hz0 hz1 hz2 rfl (by decide) v l.length (l.map byteV) hs hown ⟨g, 0, none⟩ news.length c (news.map byteV) hx (by simp) (World.news_of_block hg) byteV_one hpos (by unfold maxLen; omega) (by omega) hB u.heap.size rfl ?_
  intro g' cap w' hown' hgrow hat hlt
  refine h _ w' ?_ ?_
  · show w'.ownsRow B e 1 (.slice (some ⟨g', 0, none⟩) (l.length + news.length) cap) (l ++ news).length ((l ++ news).map byteV)
    rw [List.map_append, List.length_append]
    exact hown'
  · exact Below.grown (Below.refl B u) hgrow hB (fun k hk => (hown.lt k hk).1)

/-- 'string(b)' of bytes that the call made. -/
theorem run_string_own {P : Program} {w : World} {B : Nat} {e : TypeId} {v : Value} {l : List UInt8} (h : OwnsB w B e v l) (src dst : TypeId) (hs : P.underlying src = some (.slice e)) (he : P.underlying e = some (.int .u8)) (hd : P.underlying dst = some .string)
    (hne : l ≠ []) : (convert src dst v).run P w = .ok (.string (mk l)) w := by
  have hown := h
  rcases h.2 with ⟨_, h0⟩ | ⟨g, cap, cur, rfl, _⟩
  · exact absurd (List.eq_nil_of_length_eq_zero h0) hne
  · exact run_convert_bytes_back w src dst e ⟨g, 0, none⟩ cap l hs he hd (fun j hj => by
      have := World.ownsRow.cells hown (g := g) rfl j (byteV l[j]) (by rw [List.getElem?_map, List.getElem?_eq_getElem hj]; rfl)
      exact this)
/-- 'string(b)' of a row that the call made, also one of no bytes. -/
theorem run_string_own_any {P : Program} {w : World} {B : Nat} {e : TypeId} {v : Value} {l : List UInt8} (h : OwnsB w B e v l) (src dst : TypeId) (hs : P.underlying src = some (.slice e)) (he : P.underlying e = some (.int .u8)) (hd : P.underlying dst = some .string)
    (hne : v ≠ .slice none 0 0) : (convert src dst v).run P w = .ok (.string (mk l)) w := by
  have hown := h
  rcases h.2 with ⟨rfl, h0⟩ | ⟨g, cap, cur, rfl, _⟩
  · exact absurd rfl hne
  · exact run_convert_bytes_back w src dst e ⟨g, 0, none⟩ cap l hs he hd (fun j hj => by
      have := World.ownsRow.cells hown (g := g) rfl j (byteV l[j]) (by rw [List.getElem?_map, List.getElem?_eq_getElem hj]; rfl)
      exact this)
/-- 'string(b)' of whatever bytes of the call's own. -/
theorem run_string_own_all {P : Program} {w : World} {B : Nat} {e : TypeId} {v : Value} {l : List UInt8} (h : OwnsB w B e v l) (src dst : TypeId) (hs : P.underlying src = some (.slice e)) (he : P.underlying e = some (.int .u8)) (hd : P.underlying dst = some .string) :
    (convert src dst v).run P w = .ok (.string (mk l)) w := by
  by_cases hv : v = .slice none 0 0
  · have h0 : l = [] := by
      rcases h.2 with ⟨_, h0⟩ | ⟨g, cap, cur, hv', _⟩
      · exact List.eq_nil_of_length_eq_zero h0
      · rw [hv] at hv'; cases hv'
    subst hv h0
    rw [run_convert_bytes_string w src dst e none 0 0 hs he hd]
    simp [Conv.bytesToString]
    rfl
  · exact run_string_own_any h src dst hs he hd hv
end Go.Proofs.YtccajbgdlicbnaaDoor

/- A slice of bytes that is read (it came in, or the call made it, or it is a part of such a one; nil or not): told by the list of its bytes; its parts, its text, and what append makes of it. Nothing of the program is named here. -/
namespace Go.Proofs.YtccajbgdlicbnaaDoor
open Go.RowKit (wrap64 intOf Below)
set_option linter.unusedVariables false

/-- The slice (a, n, c) reads as the bytes L. -/
def BytesAt (w : World) (a : Option Addr) (n c : Nat) (L : List UInt8) : Prop :=
  L.length = n ∧ n ≤ c ∧ c ≤ maxLen ∧ (a = none → c = 0) ∧ (0 < n → ∃ g off, a = some ⟨g, off, none⟩ ∧ g < w.heap.size) ∧
  ∀ ad, a = some ad → ∀ j (h : j < L.length), w.cell? (ad.add j) = some (byteV L[j])

theorem BytesAt.nil (w : World) : BytesAt w none 0 0 [] := ⟨rfl, Nat.le_refl _, Nat.zero_le _, fun _ => rfl, fun h => absurd h (by omega), fun _ h => by cases h⟩
theorem BytesAt.below {w w' : World} {a : Option Addr} {n c : Nat} {L : List UInt8} {B : Nat} (h : BytesAt w a n c L) (hb : Below B w w') (hB : w.heap.size ≤ B) : BytesAt w' a n c L := by
  obtain ⟨h1, h2, h3, h4, h5, h6⟩ := h
  refine ⟨h1, h2, h3, h4, fun hn => ?_, fun ad ha j hj => ?_⟩
  · obtain ⟨g, off, e, hg⟩ := h5 hn
    exact ⟨g, off, e, Nat.lt_of_lt_of_le hg hb.size⟩
  · obtain ⟨g, off, e, hg⟩ := h5 (by omega)
    rw [ha] at e
    cases e
    rw [hb.cell (p := (⟨g, off, none⟩ : Addr).add j) (by rw [addr_block]; exact Nat.lt_of_lt_of_le hg hB)]
    exact h6 _ ha j hj
theorem BytesAt.drewN {w : World} {a : Option Addr} {n c : Nat} {L : List UInt8} (h : BytesAt w a n c L) (q : Nat) : BytesAt (w.drewN q) a n c L :=
  h.below (B := w.heap.size) ⟨rfl, rfl, rfl, Nat.le_refl _, fun _ _ => rfl⟩ (Nat.le_refl _)
/-- Where its cells lie, if there are any. -/
theorem BytesAt.cells {w : World} {a : Option Addr} {n c : Nat} {L : List UInt8} (h : BytesAt w a n c L) (hn : 0 < n) :
    ∃ g off, a = some ⟨g, off, none⟩ ∧ g < w.heap.size ∧ ∀ j (h : j < L.length), w.cell? ⟨g, off + j, none⟩ = some (byteV L[j]) := by
  obtain ⟨h1, h2, h3, h4, h5, h6⟩ := h
  obtain ⟨g, off, e, hg⟩ := h5 hn
  refine ⟨g, off, e, hg, fun j hj => ?_⟩
  have := h6 _ e j hj
  rwa [addr_plain] at this
/-- What the call made is read so. -/
theorem OwnsB.at {w : World} {B : Nat} {e : TypeId} {v : Value} {l : List UInt8} (h : OwnsB w B e v l) : ∃ a n c, v = .slice a n c ∧ BytesAt w a n c l := by
  have hown := h
  rcases h.2 with ⟨rfl, h0⟩ | ⟨g, cap, cur, rfl, hB, hg, h1, h2, _⟩
  · obtain rfl := List.eq_nil_of_length_eq_zero h0
    exact ⟨none, 0, 0, rfl, BytesAt.nil w⟩
  · refine ⟨_, _, cap, rfl, rfl, h1, h2, (fun h => by cases h), fun _ => ⟨g, 0, rfl, (hown.lt g rfl).2⟩, fun ad ha j hj => ?_⟩
    cases ha
    exact World.ownsRow.cells hown (g := g) rfl j (byteV l[j]) (by rw [List.getElem?_map, List.getElem?_eq_getElem hj]; rfl)

/-- Its text. -/
theorem run_text {P : Program} {w : World} {a : Option Addr} {n c : Nat} {L : List UInt8} (h : BytesAt w a n c L) (src dst e : TypeId) (hs : P.underlying src = some (.slice e)) (he : P.underlying e = some (.int .u8)) (hd : P.underlying dst = some .string) :
    (convert src dst (.slice a n c)).run P w = .ok (.string (mk L)) w := by
  obtain ⟨h1, h2, h3, h4, h5, h6⟩ := h
  subst h1
  cases a with
  | none =>
    have : c = 0 := h4 rfl
    have h0 : L = [] := List.eq_nil_of_length_eq_zero (by omega)
    subst h0
    rw [run_convert_bytes_string w src dst e none _ c hs he hd]
    simp [Conv.bytesToString]
    rfl
  | some ad => exact run_convert_bytes_back w src dst e ad c L hs he hd (fun j hj => h6 ad rfl j hj)

/-- The address from place k on. -/
def fromA (a : Option Addr) (c k : Nat) : Option Addr := if c = k then a else a.map (·.add k)
theorem fromA_some (a : Addr) (c k : Nat) (h : k < c) : fromA (some a) c k = some (a.add k) := by
  unfold fromA; rw [if_neg (by omega)]; rfl
theorem BytesAt.drop {w : World} {a : Option Addr} {n c : Nat} {L : List UInt8} (h : BytesAt w a n c L) (k : Nat) (hk : k ≤ n) : BytesAt w (fromA a c k) (n - k) (c - k) (L.drop k) := by
  obtain ⟨h1, h2, h3, h4, h5, h6⟩ := h
  refine ⟨by rw [List.length_drop, h1], by omega, by omega, fun ha => ?_, fun hn => ?_, fun ad ha j hj => ?_⟩
  · unfold fromA at ha
    split at ha
    · have := h4 ha; omega
    · cases a with
      | none => have := h4 rfl; omega
      | some x => cases ha
  · obtain ⟨g, off, e, hg⟩ := h5 (by omega)
    subst e
    rw [fromA_some _ _ _ (by omega), addr_plain]
    exact ⟨g, off + k, rfl, hg⟩
  · rw [List.length_drop] at hj
    obtain ⟨g, off, e, hg⟩ := h5 (by omega)
    subst e
    rw [fromA_some _ _ _ (by omega), addr_plain] at ha
    cases ha
    have := h6 _ rfl (k + j) (by omega)
    rw [addr_plain] at this ⊢
    rw [show off + k + j = off + (k + j) by omega, this, List.getElem_drop]
theorem BytesAt.take {w : World} {a : Option Addr} {n c : Nat} {L : List UInt8} (h : BytesAt w a n c L) (k : Nat) (hk : k ≤ n) : BytesAt w a k c (L.take k) := by
  obtain ⟨h1, h2, h3, h4, h5, h6⟩ := h
  refine ⟨by rw [List.length_take, h1]; omega, by omega, h3, h4, fun hn => h5 (by omega), fun ad ha j hj => ?_⟩
  rw [List.length_take] at hj
  rw [h6 ad ha j (by omega), List.getElem_take]

theorem size_of_one {P : Program} {e : TypeId} (h : (P.info? e).map (fun i => (i.zero, i.size, i.bytes)) = some (some (.int .u8 0), 1, 1)) (w : World) : (sizeOf e).run P w = .ok 1 w := by
  obtain ⟨i0, hi, hz0, hz1, hz2⟩ := info_parts h
  simp [sizeOf, typeInfo, hi, hz1]
theorem add_zero (a : Addr) : a.add 0 = a := by unfold Addr.add; simp
theorem elem_is {P : Program} {t e : TypeId} (ht : P.underlying t = some (.slice e)) : P.elem t = e := by simp [Program.elem, ht]
section
variable {P : Program} {t e : TypeId} (ht : P.underlying t = some (.slice e)) (hz : ∀ w, (sizeOf e).run P w = .ok 1 w)
theorem under_elem {P : Program} {t e : TypeId} (ht : P.underlying t = some (.slice e)) : P.underlying t = some (.slice (P.elem t)) := by rw [elem_is ht]; exact ht
include ht hz
/-- 'b[k:]'. -/
theorem run_from (a : Option Addr) (n c k : Nat) (hk : k ≤ n) (w : World) : (Instr.slice t (.slice a n c) (some (.int .i64 (k : Int))) none none).run P w = .ok (.slice (fromA a c k) (n - k) (c - k)) w := by
  rw [run_slice_l w t a n c (under_elem ht) .i64 k (by omega) (by omega), elem_is ht, hz w]
  simp [Result.andThen, sliced, fromA]
/-- 'b[:k]'. -/
theorem run_to (a : Option Addr) (n c k : Nat) (hk : k ≤ c) (w : World) : (Instr.slice t (.slice a n c) none (some (.int .i64 (k : Int))) none).run P w = .ok (.slice a k c) w := by
  rw [run_slice_h w t a n c (under_elem ht) .i64 k (by omega) (by omega), elem_is ht, hz w]
  cases a <;> simp [Result.andThen, sliced, add_zero]
/-- 'b[k:h]'. -/
theorem run_part (a : Option Addr) (n c k h : Nat) (hk : k ≤ h) (hh : h ≤ c) (w : World) : (Instr.slice t (.slice a n c) (some (.int .i64 (k : Int))) (some (.int .i64 (h : Int))) none).run P w = .ok (.slice (fromA a c k) (h - k) (c - k)) w := by
  rw [run_slice_lh w t a n c (under_elem ht) .i64 .i64 k h (by omega) (by omega) (by omega), elem_is ht, hz w]
  simp [Result.andThen, sliced, fromA]
end

/-- 'append(b, x...)': b the call's own, x whatever is read. -/
theorem wpList_append_read {P : Program} (w : World) {ops : Array Oper} {rest : List Oper} {o : Oper} {a : Act} {Q : Exit → Act → World → Prop} (hgd : o.guard = none) (s x : Operand) (t : TypeId)
    (ho : o.op = .call { callee := .builtin .append, args := #[s, x], argTypes := #[t, t] }) (e : TypeId) (ht : P.underlying t = some (.slice e))
    (hinfo : (P.info? e).map (fun i => (i.zero, i.size, i.bytes)) = some (some (.int .u8 0), 1, 1))
    (B : Nat) (v : Value) (l : List UInt8) (hs : a.eval s = v) (hown : OwnsB w B e v l) (hB : B ≤ w.heap.size)
    (xa : Option Addr) (m c : Nat) (news : List UInt8) (hx : a.eval x = .slice xa m c) (hat : BytesAt w xa m c news)
    (hlen : l.length + m ≤ 140737488355328)
    (h : ∀ va vn vc w', OwnsB w' B e (.slice va vn vc) (l ++ news) → BytesAt w' va vn vc (l ++ news) → Below B w w' → wpList P ops Q rest (a.put o.dst (.slice va vn vc)) w') : wpList P ops Q (o :: rest) a w := by
  obtain ⟨i0, hi, hz0, hz1, hz2⟩ := info_parts hinfo
  obtain ⟨h1, h2, h3, h4, h5, h6⟩ := hat
  subst h1
  cases xa with
  | none =>
    have : c = 0 := h4 rfl
    have h0 : news = [] := List.eq_nil_of_length_eq_zero (by omega)
    subst h0 this
    refine wpList_append_own_none hgd s x t ho B e i0 1 ht hi v l.length (l.map byteV) hs hown hx ?_
    obtain ⟨va, vn, vc, rfl, hat⟩ := hown.at
    exact h va vn vc w (by rw [List.append_nil]; exact hown) (by rw [List.append_nil]; exact hat) (Below.refl _ _)
  | some ad =>
    refine wpList_append_own _ hgd s x t ho B e i0 (.int .u8 0) 1 1 ht hi hz0 hz1 hz2 rfl (by decide) v l.length (l.map byteV) hs hown ad news.length c (news.map byteV) hx (by simp) (fun j u hu => ?_) byteV_one (by unfold maxLen; omega) (by omega) hB ?_
    · rw [List.getElem?_map] at hu
      obtain ⟨z, hz, rfl⟩ := Option.map_eq_some_iff.1 hu
      obtain ⟨hj, rfl⟩ := List.getElem?_eq_some_iff.1 hz
      exact h6 ad rfl j hj
    · intro v' w' hown' hgrow _
      have hown2 : OwnsB w' B e v' (l ++ news) := by
        show w'.ownsRow B e 1 v' (l ++ news).length ((l ++ news).map byteV)
        rw [List.map_append, List.length_append]
        exact hown'
      obtain ⟨va, vn, vc, rfl, hat⟩ := hown2.at
      exact h va vn vc w' hown2 hat (Below.grown (Below.refl B w) hgrow hB (fun k hk => (hown.lt k hk).1))
/-- An empty row that was just written out ('[]byte{}') is the call's own. -/
theorem OwnsB.empty (w : World) (e : TypeId) : OwnsB (w.alloc (.cells #[] e)) w.heap.size e (.slice (some ⟨w.heap.size, 0, none⟩) 0 0) [] :=
  OwnsB.built [] #[] 0 rfl (Nat.le_refl _) rfl (Nat.zero_le _)
theorem OwnsB.mono {w : World} {B B' : Nat} {e : TypeId} {v : Value} {l : List UInt8} (h : OwnsB w B e v l) (hB : B' ≤ B) : OwnsB w B' e v l := by
  refine ⟨h.1, ?_⟩
  rcases h.2 with hn | ⟨g, cap, cur, rfl, hg, rest⟩
  · exact .inl hn
  · exact .inr ⟨g, cap, cur, rfl, Nat.le_trans hB hg, rest⟩
end Go.Proofs.YtccajbgdlicbnaaDoor

/- A slice of numbers of 64 bits: one that is read, and one that the call made itself: told by the list of its numbers. Nothing of the program is named here. -/
namespace Go.Proofs.YtccajbgdlicbnaaDoor
open Go.RowKit (wrap64 intOf Below)
set_option linter.unusedVariables false

def numV (z : Int) : Value := .int .i64 z
theorem nth_is {Z : List Int} {j : Nat} (h : j < Z.length) : nth Z j = Z[j] := by
  unfold nth; rw [List.getD_eq_getElem?_getD, List.getElem?_eq_getElem h]; rfl
/-- The slice at a, of n numbers, reads as Z. -/
def NumsAt (w : World) (a : Option Addr) (n : Nat) (Z : List Int) : Prop :=
  Z.length = n ∧ (0 < n → ∃ g off, a = some ⟨g, off, none⟩ ∧ g < w.heap.size ∧ ∀ j (h : j < Z.length), w.cell? ⟨g, off + j, none⟩ = some (numV Z[j]))
theorem NumsAt.nil (w : World) (a : Option Addr) : NumsAt w a 0 [] := ⟨rfl, fun h => absurd h (by omega)⟩
theorem NumsAt.below {w w' : World} {a : Option Addr} {n : Nat} {Z : List Int} {B : Nat} (h : NumsAt w a n Z) (hb : Below B w w') (hB : w.heap.size ≤ B) : NumsAt w' a n Z := by
  refine ⟨h.1, fun hn => ?_⟩
  obtain ⟨g, off, e, hg, hc⟩ := h.2 hn
  refine ⟨g, off, e, Nat.lt_of_lt_of_le hg hb.size, fun j hj => ?_⟩
  rw [hb.cell (p := ⟨g, off + j, none⟩) (Nat.lt_of_lt_of_le hg hB)]
  exact hc j hj
theorem NumsAt.since {w w' : World} {a : Option Addr} {n : Nat} {Z : List Int} (h : NumsAt w a n Z) (hb : Below w.heap.size w w') : NumsAt w' a n Z := h.below hb (Nat.le_refl _)
theorem NumsAt.drewN {w : World} {a : Option Addr} {n : Nat} {Z : List Int} (h : NumsAt w a n Z) (q : Nat) : NumsAt (w.drewN q) a n Z :=
  h.below (B := w.heap.size) ⟨rfl, rfl, rfl, Nat.le_refl _, fun _ _ => rfl⟩ (Nat.le_refl _)
/-- What came in. -/
theorem IntsAt.nums {w : World} {v : Value} {Z : List Int} (h : IntsAt w v Z) : ∃ a c, v = .slice a Z.length c ∧ NumsAt w a Z.length Z := by
  rcases h with ⟨rfl, rfl⟩ | ⟨⟨b, off, spot⟩, c, rfl, hl, hlt, hc⟩
  · exact ⟨none, 0, rfl, NumsAt.nil w none⟩
  · refine ⟨_, c, rfl, rfl, fun hn => ?_⟩
    have hs : spot = none := by simpa [Addr.add] using World.cell?_spot (hc 0 hn)
    subst hs
    refine ⟨b, off, rfl, hlt 0 hn, fun j hj => ?_⟩
    have := hc j hj
    rw [addr_plain, nth_is hj] at this
    exact this
theorem CellsAt.nums {w : World} {g off : Nat} {Z : List Int} (h : CellsAt w g off Z) (hg : g < w.heap.size) : NumsAt w (some ⟨g, off, none⟩) Z.length Z :=
  ⟨rfl, fun _ => ⟨g, off, rfl, hg, fun j hj => by rw [h j hj, nth_is hj]; rfl⟩⟩

/-- The slice v is the call's own (from block B on) and holds the numbers Z. -/
def OwnsI (w : World) (B : Nat) (e : TypeId) (v : Value) (Z : List Int) : Prop := w.ownsRow B e 1 v Z.length (Z.map numV)
theorem OwnsI.lt {w : World} {B : Nat} {e : TypeId} {v : Value} {Z : List Int} (h : OwnsI w B e v Z) : ∀ k, v.ownBlock = some k → B ≤ k ∧ k < w.heap.size := World.ownsRow.lt h
theorem OwnsI.made {w : World} {B : Nat} {e : TypeId} (cur : Array Value) (cap : Nat) (hB : B ≤ w.heap.size) (hm : cap ≤ maxLen) (hs : cur.size = cap) : OwnsI (w.alloc (.cells cur e)) B e (.slice (some ⟨w.heap.size, 0, none⟩) 0 cap) [] :=
  World.ownsRow_made w cur cap hB hm (by rw [hs, Nat.mul_one])
theorem OwnsI.below {w w' : World} {B : Nat} {e : TypeId} {v : Value} {Z : List Int} (h : OwnsI w B e v Z) (hb : Below w.heap.size w w') : OwnsI w' B e v Z := by
  refine ⟨h.1, ?_⟩
  rcases h.2 with hn | ⟨g, cap, cur, rfl, hB, hg, rest⟩
  · exact .inl hn
  · refine .inr ⟨g, cap, cur, rfl, hB, ?_, rest⟩
    rw [hb.block g (Array.getElem?_eq_some_iff.1 hg).1]
    exact hg
theorem OwnsI.mono {w : World} {B B' : Nat} {e : TypeId} {v : Value} {Z : List Int} (h : OwnsI w B e v Z) (hB : B' ≤ B) : OwnsI w B' e v Z := by
  refine ⟨h.1, ?_⟩
  rcases h.2 with hn | ⟨g, cap, cur, rfl, hg, rest⟩
  · exact .inl hn
  · exact .inr ⟨g, cap, cur, rfl, Nat.le_trans hB hg, rest⟩
theorem OwnsI.nums {w : World} {B : Nat} {e : TypeId} {v : Value} {Z : List Int} (h : OwnsI w B e v Z) : ∃ a n c, v = .slice a n c ∧ NumsAt w a n Z := by
  have hown := h
  rcases h.2 with ⟨rfl, h0⟩ | ⟨g, cap, cur, rfl, hB, hg, h1, h2, _⟩
  · obtain rfl := List.eq_nil_of_length_eq_zero h0
    exact ⟨none, 0, 0, rfl, NumsAt.nil w none⟩
  · refine ⟨_, _, cap, rfl, rfl, fun _ => ⟨g, 0, rfl, (hown.lt g rfl).2, fun j hj => ?_⟩⟩
    have := World.ownsRow.cells hown (g := g) rfl j (numV Z[j]) (by rw [List.getElem?_map, List.getElem?_eq_getElem hj]; rfl)
    rwa [addr_plain] at this
/-- 'append(l, z)': a number behind the others. -/
theorem wpList_append_num {P : Program} (w : World) {ops : Array Oper} {rest : List Oper} {o : Oper} {a : Act} {Q : Exit → Act → World → Prop} (hgd : o.guard = none) (s x : Operand) (t : TypeId)
    (ho : o.op = .call { callee := .builtin .append, args := #[s, x], argTypes := #[t, t] }) (e : TypeId) (ht : P.underlying t = some (.slice e))
    (hinfo : (P.info? e).map (fun i => (i.zero, i.size, i.bytes)) = some (some (.int .i64 0), 1, 8))
    (B : Nat) (v : Value) (Z : List Int) (hs : a.eval s = v) (hown : OwnsI w B e v Z) (hB : B ≤ w.heap.size)
    (C : Array Value) (c g : Nat) (z : Int) (hx : a.eval x = .slice (some ⟨g, 0, none⟩) 1 c) (hg : g = w.heap.size) (hC : C = #[.int .i64 z])
    (hlen : (Z.length + 1) * 8 ≤ 140737488355328)
    (h : ∀ v' w', OwnsI w' B e v' (Z ++ [z]) → Below B w w' → wpList P ops Q rest (a.put o.dst v') w') : wpList P ops Q (o :: rest) a (w.alloc (.cells C e)) := by
  obtain ⟨i0, hi, hz0, hz1, hz2⟩ := info_parts hinfo
  subst hC hg
  refine wpList_append_own _ hgd s x t ho B e i0 (.int .i64 0) 1 8 ht hi hz0 hz1 hz2 rfl (by decide) v Z.length (Z.map numV) hs (World.ownsRow.alloc hown _) ⟨w.heap.size, 0, none⟩ 1 c [.int .i64 z] hx rfl (fun j u hu => ?_) (by intro u hu; simp at hu; subst hu; rfl) (by unfold maxLen; omega) hlen (by simp; omega) ?_
  · rw [addr_plain, Nat.zero_add, World.cell?_alloc_mark]
    simpa using hu
  · intro v' w' hown' hgrow _
    refine h v' w' ?_ ?_
    · show w'.ownsRow B e 1 v' (Z ++ [z]).length ((Z ++ [z]).map numV)
      rw [List.map_append, List.length_append]
      exact hown'
    · exact Below.grown ((Below.refl B w).alloc hB _) hgrow (by simp; omega) (fun k hk => (hown.lt k hk).1)

/-- 'append([]int64{}, l...)' as one step of a region that draws its order. -/
theorem step_copy_nums {P : Program} {u : World} {ops : Array Oper} {o : Oper} {a : Act} {K : Act → World → Prop} {Q : Exit → Act → World → Prop} {E : Prop} (hgd : o.guard = none) (s x : Operand) (t : TypeId)
    (ho : o.op = .call { callee := .builtin .append, args := #[s, x], argTypes := #[t, t] }) (e : TypeId) (ht : P.underlying t = some (.slice e))
    (hinfo : (P.info? e).map (fun i => (i.zero, i.size, i.bytes)) = some (some (.int .i64 0), 1, 8))
    (b : Addr) (hs : a.eval s = .slice (some b) 0 0) (xv : Value) (Z : List Int) (hx : a.eval x = xv) (hat : IntsAt u xv Z)
    (h : ∀ va n c w', NumsAt w' va n Z → Below u.heap.size u w' → K (a.put o.dst (.slice va n c)) w') :
    if Region.wanted o (yielded ops a.tmps) = true then Oper.wp P o a u K Q else E := by
  have hw : Region.wanted o (yielded ops a.tmps) = true := by simp [Region.wanted, hgd]
  rw [if_pos hw]
  obtain ⟨i0, hi, hz0, hz1, hz2⟩ := info_parts hinfo
  rcases hat with ⟨rfl, rfl⟩ | ⟨ad, c, rfl, hlen, _, hcell⟩
  · have hrun : (Builtin.append_ #[t, t] o.type #[.slice (some b) 0 0, .slice none 0 0]).run P u = .ok (.slice (some b) 0 0) u := by
      simp [Builtin.append_, run_underlying ht, sizeOf, typeInfo, hi, Builtin.lenOf, Builtin.firstCells, storeCells]
    unfold Oper.wp
    simp [execOp, ho, resolve, invoke, builtin, hs, hx, hrun, Result.andThen]
    exact h (some b) 0 0 u (NumsAt.nil u _) (Below.refl _ _)
  · by_cases h0 : Z.length = 0
    · have hZ := List.eq_nil_of_length_eq_zero h0
      subst hZ
      have hrun : (Builtin.append_ #[t, t] o.type #[.slice (some b) 0 0, .slice (some ad) 0 c]).run P u = .ok (.slice (some b) 0 0) u := by
        simp [Builtin.append_, run_underlying ht, sizeOf, typeInfo, hi, Builtin.lenOf, Builtin.firstCells, storeCells, loadCells, loadCellsFrom]
      unfold Oper.wp
      simp [execOp, ho, resolve, invoke, builtin, hs, hx, hrun, Result.andThen]
      exact h (some b) 0 0 u (NumsAt.nil u _) (Below.refl _ _)
    · have hrun := run_append_grow (P := P) (w := u) t o.type e i0 (.int .i64 0) ht hi hz0 b 0 0 [] (by simp) (fun j v hj => by simp at hj) ad Z.length c (Z.map numV) (by rw [hz1]; simp) (fun j y hy => by
        rw [List.getElem?_map] at hy
        obtain ⟨z, hz, rfl⟩ := Option.map_eq_some_iff.1 hy
        obtain ⟨hj, rfl⟩ := List.getElem?_eq_some_iff.1 hz
        rw [hcell j hj, nth_is hj]; rfl) (by omega) (by omega) (by rw [hz2]; exact growslice_fits (by omega) (by omega))
      have hnum : NumsAt (u.drew.alloc (.cells (#[] ++ (Z.map numV).toArray ++ Builtin.zeroCells (Value.int .i64 0).cells (grownCap u (0 + Z.length) 0 e - (0 + Z.length))) e)) (some ⟨u.heap.size, 0, none⟩) Z.length Z := by
        refine ⟨rfl, fun hn => ⟨u.heap.size, 0, rfl, by simp, fun j hj => ?_⟩⟩
        have hm := World.cell?_alloc_mark u.drew (#[] ++ (Z.map numV).toArray ++ Builtin.zeroCells (Value.int .i64 0).cells (grownCap u (0 + Z.length) 0 e - (0 + Z.length))) e (0, 0) j
        rw [Nat.zero_add j]
        refine Eq.trans hm ?_
        rw [Array.getElem?_append_left (by simpa using hj)]
        simp [hj]
      have hb : Below u.heap.size u (u.drew.alloc (.cells (#[] ++ (Z.map numV).toArray ++ Builtin.zeroCells (Value.int .i64 0).cells (grownCap u (0 + Z.length) 0 e - (0 + Z.length))) e)) := ((Below.refl u.heap.size u).drew).alloc (Nat.le_refl _) _
      have hk := h _ _ (grownCap u (0 + Z.length) 0 e) _ hnum hb
      have e0 : (0 : Nat) + Z.length = Z.length := Nat.zero_add _
      unfold Oper.wp
      simp only [execOp, ho, resolve, invoke, builtin, List.map_toArray, List.map_cons, List.map_nil, hs, hx, Sem.run_bind, Sem.run_pure, Result.andThen_ok, hrun]
      rw [e0] at hk ⊢
      first | exact hk | exact Or.inl hk
/-- The same as a step of a walk. -/
theorem wpList_copy_nums {P : Program} (w : World) {ops : Array Oper} {rest : List Oper} {o : Oper} {a : Act} {Q : Exit → Act → World → Prop} (hgd : o.guard = none) (s x : Operand) (t : TypeId)
    (ho : o.op = .call { callee := .builtin .append, args := #[s, x], argTypes := #[t, t] }) (e : TypeId) (ht : P.underlying t = some (.slice e))
    (hinfo : (P.info? e).map (fun i => (i.zero, i.size, i.bytes)) = some (some (.int .i64 0), 1, 8))
    (g0 : Nat) (hs : a.eval s = .slice (some ⟨g0, 0, none⟩) 0 0) (hg0 : w.heap[g0]? = some (.cells #[] e (0, 0))) (hlt0 : g0 < w.heap.size)
    (xv : Value) (Z : List Int) (hx : a.eval x = xv) (hat : IntsAt w xv Z)
    (h : ∀ va n c w', NumsAt w' va n Z → Below g0 w w' → wpList P ops Q rest (a.put o.dst (.slice va n c)) w') : wpList P ops Q (o :: rest) a w := by
  refine wpList_copy_ints w hgd s x t ho e ht hinfo g0 hs hg0 hlt0 xv Z hx hat ?_
  intro g cap w' hg hlt hn hm hc hb
  exact h _ _ _ w' (CellsAt.nums hc hlt) hb
end Go.Proofs.YtccajbgdlicbnaaDoor

/- Slices of numbers of 64 bits, more: appended to a row of the call's own from whatever is read; copied to a row that was just written out. Nothing of the program is named here. -/
namespace Go.Proofs.YtccajbgdlicbnaaDoor
open Go.RowKit (wrap64 intOf Below)
set_option linter.unusedVariables false

theorem NumsAt.at {w : World} {a : Option Addr} {n : Nat} {Z : List Int} (h : NumsAt w a n Z) (hn : 0 < n) : ∃ ad, a = some ad ∧ ∀ j (h : j < Z.length), w.cell? (ad.add j) = some (numV Z[j]) := by
  obtain ⟨g, off, rfl, _, hc⟩ := h.2 hn
  exact ⟨_, rfl, fun j hj => by rw [addr_plain]; exact hc j hj⟩
theorem OwnsI.read {w : World} {B : Nat} {e : TypeId} {a : Option Addr} {n c : Nat} {Z : List Int} (h : OwnsI w B e (.slice a n c) Z) : NumsAt w a n Z := by
  obtain ⟨a', n', c', he, hat⟩ := h.nums
  cases he
  exact hat
theorem OwnsI.empty (w : World) (e : TypeId) : OwnsI (w.alloc (.cells #[] e)) w.heap.size e (.slice (some ⟨w.heap.size, 0, none⟩) 0 0) [] :=
  OwnsI.made #[] 0 (Nat.le_refl _) (Nat.zero_le _) rfl

theorem OwnsI.laid {w : World} {e : TypeId} {n B : Nat} (hn : n = w.heap.size) (hB : B ≤ n) : OwnsI (w.alloc (.cells #[] e)) B e (.slice (some ⟨n, 0, none⟩) 0 0) [] := by
  subst hn; exact OwnsI.made #[] 0 hB (Nat.zero_le _) rfl
theorem OwnsI.setCell {w : World} {B : Nat} {e : TypeId} {v : Value} {Z : List Int} (h : OwnsI w B e v Z) (p : Addr) (x : Value) (hp : p.block < B) : OwnsI (w.setCell p x) B e v Z := by
  refine ⟨h.1, ?_⟩
  rcases h.2 with hn | ⟨g, cap, cur, rfl, hg, hh, rest⟩
  · exact .inl hn
  · refine .inr ⟨g, cap, cur, rfl, hg, ?_, rest⟩
    rw [Below.heap_setCell _ _ _ _ (by omega)]
    exact hh
/-- 'append(b, x...)': b the call's own, x whatever is read. -/
theorem wpList_append_nums {P : Program} (w : World) {ops : Array Oper} {rest : List Oper} {o : Oper} {a : Act} {Q : Exit → Act → World → Prop} (hgd : o.guard = none) (s x : Operand) (t : TypeId)
    (ho : o.op = .call { callee := .builtin .append, args := #[s, x], argTypes := #[t, t] }) (e : TypeId) (ht : P.underlying t = some (.slice e))
    (hinfo : (P.info? e).map (fun i => (i.zero, i.size, i.bytes)) = some (some (.int .i64 0), 1, 8))
    (B : Nat) (v : Value) (Z : List Int) (hs : a.eval s = v) (hown : OwnsI w B e v Z) (hB : B ≤ w.heap.size)
    (xa : Option Addr) (m c : Nat) (news : List Int) (hx : a.eval x = .slice xa m c) (hnil : xa = none → c = 0) (hat : NumsAt w xa m news)
    (hlen : (Z.length + m) * 8 ≤ 140737488355328)
    (h : ∀ va vn vc w', OwnsI w' B e (.slice va vn vc) (Z ++ news) → Below B w w' → wpList P ops Q rest (a.put o.dst (.slice va vn vc)) w') : wpList P ops Q (o :: rest) a w := by
  obtain ⟨i0, hi, hz0, hz1, hz2⟩ := info_parts hinfo
  have h1 := hat.1
  cases xa with
  | none =>
    have hm : m = 0 := by
      by_cases h0 : 0 < m
      · obtain ⟨g, off, he, _⟩ := hat.2 h0; cases he
      · omega
    have hc : c = 0 := hnil rfl
    subst hm hc
    have h0 : news = [] := List.eq_nil_of_length_eq_zero h1
    subst h0
    refine wpList_append_own_none hgd s x t ho B e i0 1 ht hi v Z.length (Z.map numV) hs hown hx ?_
    obtain ⟨va, vn, vc, rfl, hat⟩ := hown.nums
    exact h va vn vc w (by rw [List.append_nil]; exact hown) (Below.refl _ _)
  | some ad =>
    subst h1
    refine wpList_append_own _ hgd s x t ho B e i0 (.int .i64 0) 1 8 ht hi hz0 hz1 hz2 rfl (by decide) v Z.length (Z.map numV) hs hown ad news.length c (news.map numV) hx (by simp) (fun j u hu => ?_) (fun u hu => by obtain ⟨z, _, rfl⟩ := List.mem_map.1 hu; rfl) (by unfold maxLen; omega) hlen hB ?_
    · rw [List.getElem?_map] at hu
      obtain ⟨z, hz, rfl⟩ := Option.map_eq_some_iff.1 hu
      obtain ⟨hj, rfl⟩ := List.getElem?_eq_some_iff.1 hz
      obtain ⟨ad', he, hcell⟩ := hat.at (by omega)
      cases he
      exact hcell j hj
    · intro v' w' hown' hgrow _
      have hown2 : OwnsI w' B e v' (Z ++ news) := by
        show w'.ownsRow B e 1 v' (Z ++ news).length ((Z ++ news).map numV)
        rw [List.map_append, List.length_append]
        exact hown'
      obtain ⟨va, vn, vc, rfl, hat⟩ := hown2.nums
      exact h va vn vc w' hown2 (Below.grown (Below.refl B w) hgrow hB (fun k hk => (hown.lt k hk).1))

/-- 'append([]int{}, x...)': nothing that was there turns; what comes is new, or the empty row itself. -/
theorem run_copy_read {P : Program} (w : World) (t ty e : TypeId) (ht : P.underlying t = some (.slice e)) (hinfo : (P.info? e).map (fun i => (i.zero, i.size, i.bytes)) = some (some (.int .i64 0), 1, 8))
    (b : Addr) (xa : Option Addr) (m c : Nat) (Z : List Int) (hat : NumsAt w xa m Z) (hlen : m * 8 ≤ 140737488355328) :
    ∃ va vc w', (Builtin.append_ #[t, t] ty #[.slice (some b) 0 0, .slice xa m c]).run P w = .ok (.slice (some va) m vc) w' ∧ NumsAt w' (some va) m Z ∧ Below w.heap.size w w' := by
  obtain ⟨i0, hi, hz0, hz1, hz2⟩ := info_parts hinfo
  by_cases h0 : 0 < m
  · obtain ⟨ad, rfl, hcell⟩ := hat.at h0
    have h1 := hat.1
    subst h1
    have hrun := run_append_grow (P := P) (w := w) t ty e i0 (.int .i64 0) ht hi hz0 b 0 0 [] (by simp) (fun j v hj => by simp at hj) ad Z.length c (Z.map numV) (by rw [hz1]; simp) (fun j y hy => by
      rw [List.getElem?_map] at hy
      obtain ⟨z, hz, rfl⟩ := Option.map_eq_some_iff.1 hy
      obtain ⟨hj, rfl⟩ := List.getElem?_eq_some_iff.1 hz
      exact hcell j hj) (by omega) (by omega) (by rw [hz2]; exact growslice_fits (by omega) (by omega))
    have hnum : NumsAt (w.drew.alloc (.cells (#[] ++ (Z.map numV).toArray ++ Builtin.zeroCells (Value.int .i64 0).cells (grownCap w (0 + Z.length) 0 e - (0 + Z.length))) e)) (some ⟨w.heap.size, 0, none⟩) Z.length Z := by
      refine ⟨rfl, fun hn => ⟨w.heap.size, 0, rfl, by simp, fun j hj => ?_⟩⟩
      have hm := World.cell?_alloc_mark w.drew (#[] ++ (Z.map numV).toArray ++ Builtin.zeroCells (Value.int .i64 0).cells (grownCap w (0 + Z.length) 0 e - (0 + Z.length))) e (0, 0) j
      rw [Nat.zero_add j]
      refine Eq.trans hm ?_
      rw [Array.getElem?_append_left (by simpa using hj)]
      simp [hj]
    have e0 : (0 : Nat) + Z.length = Z.length := Nat.zero_add _
    rw [e0] at hrun hnum
    exact ⟨_, _, _, hrun, hnum, ((Below.refl w.heap.size w).drew).alloc (Nat.le_refl _) _⟩
  · obtain rfl : m = 0 := by omega
    have hZ := List.eq_nil_of_length_eq_zero hat.1
    subst hZ
    refine ⟨b, 0, w, ?_, NumsAt.nil w _, Below.refl _ _⟩
    cases xa <;> simp [Builtin.append_, run_underlying ht, sizeOf, typeInfo, hi, Builtin.lenOf, Builtin.firstCells, storeCells, loadCells, loadCellsFrom]
theorem wpList_copy_read {P : Program} (w : World) {ops : Array Oper} {rest : List Oper} {o : Oper} {a : Act} {Q : Exit → Act → World → Prop} (hgd : o.guard = none) (s x : Operand) (t : TypeId)
    (ho : o.op = .call { callee := .builtin .append, args := #[s, x], argTypes := #[t, t] }) (e : TypeId) (ht : P.underlying t = some (.slice e))
    (hinfo : (P.info? e).map (fun i => (i.zero, i.size, i.bytes)) = some (some (.int .i64 0), 1, 8))
    (b : Addr) (hs : a.eval s = .slice (some b) 0 0) (xa : Option Addr) (m c : Nat) (Z : List Int) (hx : a.eval x = .slice xa m c) (hat : NumsAt w xa m Z) (hlen : m * 8 ≤ 140737488355328)
    (h : ∀ va vc w', NumsAt w' (some va) m Z → Below w.heap.size w w' → wpList P ops Q rest (a.put o.dst (.slice (some va) m vc)) w') : wpList P ops Q (o :: rest) a w := by
  obtain ⟨va, vc, w', hrun, hn, hb⟩ := run_copy_read (P := P) w t o.type e ht hinfo b xa m c Z hat hlen
  refine wpList_plain hgd fun K hK => ?_
  unfold Oper.wp
  simp only [execOp, ho, resolve, invoke, builtin, List.map_toArray, List.map_cons, List.map_nil, hs, hx, Sem.run_bind, Sem.run_pure, Result.andThen_ok, hrun]
  exact hK _ _ (h va vc w' hn hb)
/-- The same as one step of a region that draws its order. -/
theorem step_copy_read {P : Program} {u : World} {ops : Array Oper} {o : Oper} {a : Act} {K : Act → World → Prop} {Q : Exit → Act → World → Prop} {E : Prop} (hgd : Region.wanted o (yielded ops a.tmps) = true) (s x : Operand) (t : TypeId)
    (ho : o.op = .call { callee := .builtin .append, args := #[s, x], argTypes := #[t, t] }) (e : TypeId) (ht : P.underlying t = some (.slice e))
    (hinfo : (P.info? e).map (fun i => (i.zero, i.size, i.bytes)) = some (some (.int .i64 0), 1, 8))
    (b : Addr) (hs : a.eval s = .slice (some b) 0 0) (xa : Option Addr) (m c : Nat) (Z : List Int) (hx : a.eval x = .slice xa m c) (hat : NumsAt u xa m Z) (hlen : m * 8 ≤ 140737488355328)
    (h : ∀ va vc w', NumsAt w' (some va) m Z → Below u.heap.size u w' → K (a.put o.dst (.slice (some va) m vc)) w') :
    if Region.wanted o (yielded ops a.tmps) = true then Oper.wp P o a u K Q else E := by
  rw [if_pos hgd]
  obtain ⟨va, vc, w', hrun, hn, hb⟩ := run_copy_read (P := P) u t o.type e ht hinfo b xa m c Z hat hlen
  have hk := h va vc w' hn hb
  unfold Oper.wp
  simp only [execOp, ho, resolve, invoke, builtin, List.map_toArray, List.map_cons, List.map_nil, hs, hx, Sem.run_bind, Sem.run_pure, Result.andThen_ok, hrun]
  first | exact hk | exact Or.inl hk
theorem below_alloc {w u : World} {o : Obj} (h : Below w.heap.size w u) : Below w.heap.size w (u.alloc o) := h.alloc h.size o
theorem below_drewN {B : Nat} {w u : World} (q : Nat) (h : Below B w u) : Below B w (u.drewN q) := h.trans ⟨rfl, rfl, rfl, Nat.le_refl _, fun _ _ => rfl⟩
end Go.Proofs.YtccajbgdlicbnaaDoor

/- Steps (api.Op) by value: what a walk needs of them; the statements' own copy of one (hallmarklaw04.own). -/
namespace Go.Proofs.YtccajbgdlicbnaaDoor
open Go.RowKit (wrap64 intOf Below)
set_option linter.unusedVariables false

theorem bcell {W w1 : World} (hb : Below W.heap.size W w1) : (∀ b o, b < W.heap.size → w1.cell? ⟨b, o, none⟩ = W.cell? ⟨b, o, none⟩) ∧ (∀ b o, b < W.heap.size → w1.frozen? ⟨b, o, none⟩ = W.frozen? ⟨b, o, none⟩) :=
  ⟨fun b o h => hb.cell (p := ⟨b, o, none⟩) h, fun b o h => hb.frozen (p := ⟨b, o, none⟩) h⟩
theorem info_int : (Tryd.prog.info? 3).map (fun i => (i.zero, i.size, i.bytes)) = some (some (.int .i64 0), 1, 8) := by kernel_rfl

/-- Two blocks that were just laid, a third behind them, and what has grown since. -/
theorem cell_laid {w w2 : World} {C0 C1 C2 : Array Value} {t0 t1 t2 : TypeId} (hb : Below (w.heap.size + 2) (((w.alloc (.cells C0 t0)).alloc (.cells C1 t1)).alloc (.cells C2 t2)) w2) :
    (∀ j, w2.cell? ⟨w.heap.size, j, none⟩ = C0[j]?) ∧ (∀ j, w2.cell? ⟨w.heap.size + 1, j, none⟩ = C1[j]?) ∧ (∀ j, w2.frozen? ⟨w.heap.size, j, none⟩ = false) ∧ (∀ j, w2.frozen? ⟨w.heap.size + 1, j, none⟩ = false) := by
  refine ⟨fun j => ?_, fun j => ?_, fun j => ?_, fun j => ?_⟩
  · rw [hb.cell (p := ⟨w.heap.size, j, none⟩) (by simp), World.cell?_alloc_lt _ _ _ (by simp <;> omega), World.cell?_alloc_lt _ _ _ (by simp), World.cell?_alloc_mark]
  · have h1 : w.heap.size + 1 = (w.alloc (.cells C0 t0)).heap.size := by simp
    rw [hb.cell (p := ⟨w.heap.size + 1, j, none⟩) (by simp), World.cell?_alloc_lt _ _ _ (by simp), h1, World.cell?_alloc_mark]
  · rw [hb.frozen (p := ⟨w.heap.size, j, none⟩) (by simp), RowKit.frozen?_alloc_cells, RowKit.frozen?_alloc_cells, World.frozen?_alloc_at _ _ _ _ rfl]
  · rw [hb.frozen (p := ⟨w.heap.size + 1, j, none⟩) (by simp), RowKit.frozen?_alloc_cells, World.frozen?_alloc_at _ _ _ _ (by simp)]

end Go.Proofs.YtccajbgdlicbnaaDoor

/- Layer 4, P4.1: package kind's Fields, walked: it reads the letters off its table. -/
namespace Go.Proofs.YtccajbgdlicbnaaDoor
open Go.RowKit (wrap64 intOf Below)
set_option linter.unusedVariables false

/-- The table of fields holds what it was laid with. -/
def FT (w : World) : Prop := ∀ k : Nat, k < 26 → w.cell? ⟨2, k, none⟩ = some (.string (mk (fieldsL (k : Int))))
theorem FT.lt {w : World} (h : FT w) : 2 < w.heap.size := World.block_lt_of_cell? _ _ (h 0 (by omega))
theorem FT.below {w w' : World} {B : Nat} (h : FT w) (hb : Below B w w') (hB : 2 < B) : FT w' := fun k hk => by
  rw [hb.cell (p := ⟨2, k, none⟩) hB]; exact h k hk
theorem FT.since {w w' : World} (h : FT w) (hb : Below w.heap.size w w') : FT w' := h.below hb h.lt

set_option maxRecDepth 100000 in
theorem kfields_any (K : Int) (w : World) (hft : FT w) :
    Calls Tryd.prog 31 #[.int .i64 K] w fun e w' => e = .returned (.string (mk (fieldsL K))) ∧ w = w' := by
  by_cases h0 : K < 0
  · have HF := Lib.hid (fields_none (K := K) (.inl h0))
    clear hft
    go_enter Tryd.func31, Tryd.ntmps31
    go_wp2
    go_ret
    exact ⟨by rw [HF.out]; rfl, rfl⟩
  · by_cases h1 : 25 < K
    · have HF := Lib.hid (fields_none (K := K) (.inr h1))
      have h0' : 0 ≤ K := by omega
      have h1' : 26 ≤ K := by omega
      clear hft h0
      go_enter Tryd.func31, Tryd.ntmps31
      go_wp2
      go_ret
      exact ⟨by rw [HF.out]; rfl, rfl⟩
    · obtain ⟨k, rfl⟩ := Int.eq_ofNat_of_zero_le (show 0 ≤ K by omega)
      have hk : k < 26 := by omega
      have hcell := hft k hk
      have h0' : ¬ ((k : Int) < 0) := by omega
      have h1' : ¬ (26 ≤ (k : Int)) := by omega
      clear hft h0 h1
      go_enter Tryd.func31, Tryd.ntmps31
      go_wp2
      go_ret
      exact ⟨rfl, rfl⟩
end Go.Proofs.YtccajbgdlicbnaaDoor

/- From a reading to a walk: a slice of bytes, or of numbers of 64 bits, that came in: what it reads as, and how much it is. Nothing of the program is named here. -/
namespace Go.Proofs.YtccajbgdlicbnaaDoor
open Go.ChangeShapes Go.WideShapes Go.ChangeAt Go.RowKit

section
variable {H : Type} {enc : TypeId × Value → H} {P : Program}

/-- How much a datum is that is a slice of numbers: as many as it has, at the least. -/
def SliceOf (k : IntKind) (n : Nat) (d : DataW H) : Prop := n = 0 ∨ ∃ (zs ys : List Int), d = .slice (lits k zs) (lits k ys) ∧ zs.length = n

theorem wf_u8_range {n : Int} (h : (Lit.int .u8 n).wf = true) : 0 ≤ n ∧ n ≤ 255 := by
  simp [Lit.wf, IntKind.min, IntKind.max, IntKind.signed, IntKind.bits] at h
  omega

/-- A slice of bytes that came in, opened. -/
theorem open_bytes_at {W : World} {v : Value} {d : DataW H} {p : List MemPlace} {t e : TypeId} {ts : List TypeId} {ds : List (DataW H)} {j : Nat} (ht : P.underlying t = some (.slice e)) (he : P.underlying e = some (.int .u8)) (hc : P.cellsOf e = 1) (h8 : P.bytesOf e = 1)
    (hv : Value.okWide P W .any 0 t v) (h : DataW.Trod enc P W 0 (fun _ => true) true t v d p) (hlt : ∀ x ∈ p, x.block < W.heap.size)
    (hsz : (DataW.weightsEach P ts ds).all (· ≤ reachBytes) = true) (hj : ts[j]? = some t) (hd : ds[j]? = some d) :
    ∃ (a : Option Addr) (n c : Nat) (L : List UInt8), v = .slice a n c ∧ BytesAt W a n c L ∧ n ≤ 140737488351232 ∧ SliceOf .u8 n d := by
  obtain ⟨a0, len, cap, rfl⟩ := okWide_slice ht hv
  obtain ⟨fuel, hf⟩ := h
  rcases open_ints ht he hc hf with ⟨hcs, hx⟩ | ⟨a, len', cap', zs, hcs, _, hl, hm, hz, hx, hcell, hwz⟩
  · simp [Value.cells] at hcs
    obtain ⟨rfl, rfl, rfl⟩ := hcs
    exact ⟨none, 0, 0, [], rfl, BytesAt.nil W, Nat.zero_le _, Or.inl rfl⟩
  · simp [Value.cells] at hcs
    obtain ⟨rfl, rfl, rfl⟩ := hcs
    simp only [Prod.mk.injEq] at hx
    obtain ⟨rfl, rfl⟩ := hx
    simp only [if_true] at hz
    have hr := sized_slice hsz hj hd ht
    rw [h8] at hr
    simp only [lits, List.length_map, List.length_take, List.length_drop, reachBytes] at hr
    refine ⟨some a, len, cap, (zs.take len).map fun n => UInt8.ofNat n.toNat, rfl, ⟨by simp; omega, hl, hm, (fun h => by cases h), fun hn => ?_, fun ad ha i hi => ?_⟩, by omega, Or.inr ⟨zs.take len, zs.drop len, rfl, by simp; omega⟩⟩
    · obtain ⟨b, off, spot⟩ := a
      have hs : spot = none := by simpa [Addr.add] using World.cell?_spot (hcell 0 (by omega))
      subst hs
      exact ⟨b, off, rfl, hlt (.cell b (off + 0)) (MemPlace.mem_row.2 ⟨0, by omega, rfl⟩)⟩
    · cases ha
      rw [List.length_map, List.length_take] at hi
      have hb := wf_u8_range (hwz (zs[i]'(by omega)) (List.getElem_mem _))
      rw [hcell i (by omega), List.getD_eq_getElem?_getD, List.getElem?_eq_getElem (by omega)]
      simp only [List.getElem_map, List.getElem_take, Option.getD_some, byteV, UInt8.toNat_ofNat']
      congr 2
      omega

/-- A slice of numbers of 64 bits that came in: how much it is. -/
theorem open_ints_sized {W : World} {v : Value} {d : DataW H} {p : List MemPlace} {t e : TypeId} {ts : List TypeId} {ds : List (DataW H)} {j : Nat} (ht : P.underlying t = some (.slice e)) (he : P.underlying e = some (.int .i64)) (hc : P.cellsOf e = 1) (h8 : P.bytesOf e = 8)
    (hv : Value.okWide P W .any 0 t v) (h : DataW.Trod enc P W 0 (fun _ => true) true t v d p) (hlt : ∀ x ∈ p, x.block < W.heap.size)
    (hsz : (DataW.weightsEach P ts ds).all (· ≤ reachBytes) = true) (hj : ts[j]? = some t) (hd : ds[j]? = some d) :
    ∃ zs : List Int, IntsAt W v zs ∧ (∀ i, -9223372036854775808 ≤ nth zs i ∧ nth zs i ≤ 9223372036854775807) ∧ SliceOf .i64 zs.length d := by
  obtain ⟨zs, hz, hb⟩ := open_ints_at ht he hc h8 hv h hlt hsz hj hd
  refine ⟨zs, hz, hb, ?_⟩
  obtain ⟨a0, len, cap, rfl⟩ := okWide_slice ht hv
  obtain ⟨fuel, hf⟩ := h
  have hlen : zs.length = len := by
    rcases hz with ⟨h1, h2⟩ | ⟨a, c, h1, _⟩
    · cases h1; rw [h2]; rfl
    · cases h1; rfl
  rcases open_ints ht he hc hf with ⟨hcs, hx⟩ | ⟨a, len', cap', ys, hcs, _, hl, hm, hyz, hx, hcell, hwz⟩
  · simp [Value.cells] at hcs
    obtain ⟨rfl, rfl, rfl⟩ := hcs
    exact Or.inl hlen
  · simp [Value.cells] at hcs
    obtain ⟨rfl, rfl, rfl⟩ := hcs
    simp only [Prod.mk.injEq] at hx
    obtain ⟨rfl, rfl⟩ := hx
    simp only [if_true] at hyz
    exact Or.inr ⟨ys.take len, ys.drop len, rfl, by simp; omega⟩
end
end Go.Proofs.YtccajbgdlicbnaaDoor

/- From a reading to a walk: a slice of numbers as a field, and a struct of the eight fields that a step (api.Op) has, that came in by value. Nothing of the program is named here. -/
namespace Go.Proofs.YtccajbgdlicbnaaDoor
open Go.ChangeShapes Go.WideShapes Go.ChangeAt Go.RowKit Go.Joins Go.Deep
set_option linter.unusedVariables false

section
variable {H : Type} {enc : TypeId × Value → H} {P : Program} {W : World}

/-- The weights of a struct's fields. -/
theorem sized_agg {ts : List TypeId} {ds : List (DataW H)} (hsz : (DataW.weightsEach P ts ds).all (· ≤ reachBytes) = true) {j : Nat} {t : TypeId} {fs : Array Field} {parts : List (DataW H)} (hj : ts[j]? = some t) (hd : ds[j]? = some (.agg parts)) (hs : P.underlying t = some (.struct fs)) :
    (DataW.weightsEach P (fs.toList.map (·.type)) parts).all (· ≤ reachBytes) = true := by
  rw [List.all_eq_true]
  intro n hn
  have := List.all_eq_true.1 hsz n (DataW.weights_mem_each hj hd n (by simp only [DataW.weights, hs]; exact hn))
  exact this

/-- A slice of numbers of 64 bits, as a field. -/
theorem open_nums_field {fuel : Nat} {t e : TypeId} {v : Value} {y : DataW H × List MemPlace} (ht : P.underlying t = some (.slice e)) (he : P.underlying e = some (.int .i64)) (hc : P.cellsOf e = 1) (h8 : P.bytesOf e = 8)
    (h : DataW.trod enc P W 0 (fun _ => true) true fuel t [v] = some y) (hlt : ∀ x ∈ y.2, x.block < W.heap.size) {ts : List TypeId} {ds : List (DataW H)} (hsz : (DataW.weightsEach P ts ds).all (· ≤ reachBytes) = true) {j : Nat} (hj : ts[j]? = some t) (hd : ds[j]? = some y.1) :
    ∃ (a : Option Addr) (n c : Nat) (Z : List Int), v = .slice a n c ∧ NumsAt W a n Z ∧ (a = none → c = 0) ∧ n * 8 ≤ 140737488351232 ∧ (∀ z ∈ Z, -9223372036854775808 ≤ z ∧ z ≤ 9223372036854775807) ∧ SliceOf .i64 n y.1 := by
  rcases open_ints ht he hc h with ⟨hcs, hx⟩ | ⟨a, len, cap, zs, hcs, _, hl, hm, hz, hx, hcell, hwz⟩
  · simp at hcs
    subst hcs
    exact ⟨none, 0, 0, [], rfl, NumsAt.nil W none, fun _ => rfl, by omega, (fun z hz => by cases hz), Or.inl rfl⟩
  · simp at hcs
    subst hcs hx
    simp only [if_true] at hz
    have hr := sized_slice hsz hj hd ht
    rw [h8] at hr
    simp only [lits, List.length_map, List.length_take, List.length_drop, reachBytes] at hr
    refine ⟨some a, len, cap, zs.take len, rfl, ⟨by simp; omega, fun hn => ?_⟩, (fun h => by cases h), by omega, fun z hz' => wf_i64_range (hwz z (List.mem_of_mem_take hz')), Or.inr ⟨zs.take len, zs.drop len, rfl, by simp; omega⟩⟩
    obtain ⟨b, off, spot⟩ := a
    have hs : spot = none := by simpa [Addr.add] using World.cell?_spot (hcell 0 (by omega))
    subst hs
    refine ⟨b, off, rfl, hlt (.cell b (off + 0)) (MemPlace.mem_row.2 ⟨0, by omega, rfl⟩), fun i hi => ?_⟩
    rw [List.length_take] at hi
    have := hcell i (by omega)
    rw [addr_plain, List.getD_eq_getElem?_getD, List.getElem?_eq_getElem (by omega)] at this
    rw [this, List.getElem_take]
    rfl

/-- A struct of eight fields of one cell each, by value. -/
theorem open_agg8 {r : Reach} {b0 base : Nat} {spare : Nat → Bool} {held : Bool} {t : TypeId} {f0 f1 f2 f3 f4 f5 f6 f7 : Field} {v : Value} {d : DataW H} {p : List MemPlace} (hs : P.underlying t = some (.struct #[f0, f1, f2, f3, f4, f5, f6, f7])) (hone : oneCellFields P #[f0, f1, f2, f3, f4, f5, f6, f7] = true) (hC : P.cellsOf t = 8)
    (hv : Value.okWide P W r b0 t v) (h : DataW.Trod enc P W base spare held t v d p) :
    ∃ (v0 v1 v2 v3 v4 v5 v6 v7 : Value) (y0 y1 y2 y3 y4 y5 y6 y7 : DataW H × List MemPlace) (n : Nat), v = .agg #[v0, v1, v2, v3, v4, v5, v6, v7] ∧ d = .agg [y0.1, y1.1, y2.1, y3.1, y4.1, y5.1, y6.1, y7.1] ∧
      p = y0.2 ++ (y1.2 ++ (y2.2 ++ (y3.2 ++ (y4.2 ++ (y5.2 ++ (y6.2 ++ y7.2)))))) ∧
      DataW.trod enc P W base spare held n f0.type [v0] = some y0 ∧ DataW.trod enc P W base spare held n f1.type [v1] = some y1 ∧ DataW.trod enc P W base spare held n f2.type [v2] = some y2 ∧ DataW.trod enc P W base spare held n f3.type [v3] = some y3 ∧
      DataW.trod enc P W base spare held n f4.type [v4] = some y4 ∧ DataW.trod enc P W base spare held n f5.type [v5] = some y5 ∧ DataW.trod enc P W base spare held n f6.type [v6] = some y6 ∧ DataW.trod enc P W base spare held n f7.type [v7] = some y7 := by
  obtain ⟨cs, rfl, hsz⟩ := okWide_struct hs hv
  obtain ⟨l⟩ := cs
  match l, hsz.trans hC with
  | [c0, c1, c2, c3, c4, c5, c6, c7], _ =>
    obtain ⟨fuel, hf⟩ := h
    obtain ⟨xs, n, _, hx, _, hlen, hg⟩ := DataW.trod_struct hs hf
    obtain ⟨o0, k0⟩ := hone_of hone 0 f0 rfl
    obtain ⟨o1, k1⟩ := hone_of hone 1 f1 rfl
    obtain ⟨o2, k2⟩ := hone_of hone 2 f2 rfl
    obtain ⟨o3, k3⟩ := hone_of hone 3 f3 rfl
    obtain ⟨o4, k4⟩ := hone_of hone 4 f4 rfl
    obtain ⟨o5, k5⟩ := hone_of hone 5 f5 rfl
    obtain ⟨o6, k6⟩ := hone_of hone 6 f6 rfl
    obtain ⟨o7, k7⟩ := hone_of hone 7 f7 rfl
    match xs, hlen with
    | [y0, y1, y2, y3, y4, y5, y6, y7], _ =>
      simp only [Prod.mk.injEq] at hx
      exact ⟨c0, c1, c2, c3, c4, c5, c6, c7, y0, y1, y2, y3, y4, y5, y6, y7, n, rfl, by simpa using hx.1, by simpa using hx.2, by simpa [Value.cells, o0, k0] using hg 0 f0 rfl, by simpa [Value.cells, o1, k1] using hg 1 f1 rfl, by simpa [Value.cells, o2, k2] using hg 2 f2 rfl, by simpa [Value.cells, o3, k3] using hg 3 f3 rfl, by simpa [Value.cells, o4, k4] using hg 4 f4 rfl, by simpa [Value.cells, o5, k5] using hg 5 f5 rfl, by simpa [Value.cells, o6, k6] using hg 6 f6 rfl, by simpa [Value.cells, o7, k7] using hg 7 f7 rfl⟩

/-- What a step that came in is: its numbers, its text, its list. -/
structure OpIn (W : World) (v : Value) (K A B C N : Int) (S : ByteArray) (la : Option Addr) (ln lc : Nat) (T : Bool) (L : List Int) : Prop where
  val : v = .agg #[.int .i64 K, .int .i64 A, .int .i64 B, .int .i64 C, .int .i64 N, .string S, .slice la ln lc, .bool T]
  rK : -9223372036854775808 ≤ K ∧ K ≤ 9223372036854775807
  rA : -9223372036854775808 ≤ A ∧ A ≤ 9223372036854775807
  rB : -9223372036854775808 ≤ B ∧ B ≤ 9223372036854775807
  rC : -9223372036854775808 ≤ C ∧ C ≤ 9223372036854775807
  rN : -9223372036854775808 ≤ N ∧ N ≤ 9223372036854775807
  sS : S.size ≤ 140737488351232
  at_ : NumsAt W la ln L
  nil_ : la = none → lc = 0
  len_ : ln * 8 ≤ 140737488351232
  rL : ∀ z ∈ L, -9223372036854775808 ≤ z ∧ z ≤ 9223372036854775807

theorem open_op {b0 : Nat} {t ti tn tS tl tb : TypeId} {f0 f1 f2 f3 f4 f5 f6 f7 : Field} {v : Value} {d : DataW H} {p : List MemPlace} (hs : P.underlying t = some (.struct #[f0, f1, f2, f3, f4, f5, f6, f7])) (hone : oneCellFields P #[f0, f1, f2, f3, f4, f5, f6, f7] = true) (hC : P.cellsOf t = 8)
    (e0 : f0.type = ti) (e1 : f1.type = ti) (e2 : f2.type = ti) (e3 : f3.type = ti) (e4 : f4.type = tn) (e5 : f5.type = tS) (e6 : f6.type = tl) (e7 : f7.type = tb)
    (hti : P.underlying ti = some (.int .i64)) (htn : P.underlying tn = some (.int .i64)) (htS : P.underlying tS = some .string) (htl : P.underlying tl = some (.slice ti)) (htb : P.underlying tb = some .bool) (hc : P.cellsOf ti = 1) (h8 : P.bytesOf ti = 8)
    (hv : Value.okWide P W .any b0 t v) (h : DataW.Trod enc P W 0 (fun _ => true) true t v d p) (hlt : ∀ x ∈ p, x.block < W.heap.size)
    {ts : List TypeId} {ds : List (DataW H)} (hsz : (DataW.weightsEach P ts ds).all (· ≤ reachBytes) = true) {j : Nat} (hj : ts[j]? = some t) (hd : ds[j]? = some d) :
    ∃ K A B C N S la ln lc T L, OpIn W v K A B C N S la ln lc T L := by
  obtain ⟨v0, v1, v2, v3, v4, v5, v6, v7, y0, y1, y2, y3, y4, y5, y6, y7, n, rfl, rfl, rfl, g0, g1, g2, g3, g4, g5, g6, g7⟩ := open_agg8 hs hone hC hv h
  have hw := sized_agg hsz hj hd hs
  simp only [List.map_cons, List.map_nil] at hw
  rw [e0] at g0; rw [e1] at g1; rw [e2] at g2; rw [e3] at g3; rw [e4] at g4; rw [e5] at g5; rw [e6] at g6; rw [e7] at g7
  obtain ⟨K, hk, hk', rK⟩ := DataW.trod_int hti g0
  obtain ⟨A, ha, ha', rA⟩ := DataW.trod_int hti g1
  obtain ⟨B, hb, hb', rB⟩ := DataW.trod_int hti g2
  obtain ⟨C, hcc, hcc', rC⟩ := DataW.trod_int hti g3
  obtain ⟨N, hN, hN', rN⟩ := DataW.trod_int htn g4
  obtain ⟨S, hS, hS', rS⟩ := DataW.trod_string htS g5
  obtain ⟨T, hT, hT'⟩ := DataW.trod_bool htb g7
  obtain ⟨la, ln, lc, L, rfl, h1, h2, h3, h4, h5⟩ := open_nums_field htl hti hc h8 g6 (fun x hx => hlt x (by simp [hx])) hw (j := 6) (by simp [e6]) rfl
  simp only [List.cons.injEq, and_true] at hk ha hb hcc hN hS hT
  subst hk ha hb hcc hN hS hT
  have hs5 := sized_string hw (j := 5) (bytes := S.data.toList) rfl (by rw [hS']; rfl)
  refine ⟨K, A, B, C, N, S, la, ln, lc, T, L, rfl, wf_i64_range rK, wf_i64_range rA, wf_i64_range rB, wf_i64_range rC, wf_i64_range rN, ?_, h1, h2, h3, h4⟩
  rw [list_len] at hs5
  simpa [reachBytes] using hs5
end
end Go.Proofs.YtccajbgdlicbnaaDoor

/- A program (api.Prog) that came in, read to its depth: what its lists hold, and that they hold it in each later world that keeps what lay. Nothing of the program is named here. -/
namespace Go.Proofs.YtccajbgdlicbnaaDoor
open Go.ChangeShapes Go.WideShapes Go.ChangeAt Go.RowKit Go.Joins Go.Deep
set_option linter.unusedVariables false

structure OpD where
  (K A B C N : Int) (S : ByteArray) (L : List Int) (T : Bool)
structure EndD where
  (K A To Else : Int) (L M : List Int)
structure BlockD where
  (params : List Int) (ops : List OpD) (fin : EndD)
structure FuncD where
  (ret : Int) (blocks : List BlockD)
structure SigD where
  (params : List Int) (ret : Int)
structure ClassD where
  (fields methods : List Int)
structure ProgD where
  (sigs : List SigD) (classes : List ClassD) (funcs : List FuncD)

def InR (z : Int) : Prop := -9223372036854775808 ≤ z ∧ z ≤ 9223372036854775807
/-- A slice of numbers, as a value. -/
def NumsV (W : World) (v : Value) (Z : List Int) : Prop :=
  ∃ a n c, v = .slice a n c ∧ NumsAt W a n Z ∧ (a = none → c = 0) ∧ n * 8 ≤ 140737488351232 ∧ ∀ z ∈ Z, InR z
/-- A slice of structs of k cells each, as a value. -/
def RowV {α : Type} (Q : World → List Value → α → Prop) (k : Nat) (W : World) (v : Value) (xs : List α) : Prop :=
  ∃ a n c, v = .slice a n c ∧ xs.length = n ∧ (a = none → c = 0) ∧ n ≤ 140737488351232 ∧ (0 < n → ∃ g off, a = some ⟨g, off, none⟩ ∧ g < W.heap.size ∧
    ∀ i (h : i < xs.length), ∃ cs, cs.length = k ∧ (∀ j (hj : j < cs.length), W.cell? ⟨g, off + i * k + j, none⟩ = some cs[j]) ∧ Q W cs xs[i])
def OpQ (W : World) (cs : List Value) (x : OpD) : Prop :=
  ∃ l, cs = [.int .i64 x.K, .int .i64 x.A, .int .i64 x.B, .int .i64 x.C, .int .i64 x.N, .string x.S, l, .bool x.T] ∧ InR x.K ∧ InR x.A ∧ InR x.B ∧ InR x.C ∧ InR x.N ∧ x.S.size ≤ 140737488351232 ∧ NumsV W l x.L
def EndQ (W : World) (cs : List Value) (x : EndD) : Prop :=
  ∃ l m, cs = [.int .i64 x.K, .int .i64 x.A, .int .i64 x.To, .int .i64 x.Else, l, m] ∧ InR x.K ∧ InR x.A ∧ InR x.To ∧ InR x.Else ∧ NumsV W l x.L ∧ NumsV W m x.M
def BlockQ (W : World) (cs : List Value) (x : BlockD) : Prop :=
  ∃ p o es, cs = p :: o :: es ∧ NumsV W p x.params ∧ RowV OpQ 8 W o x.ops ∧ EndQ W es x.fin
def FuncQ (W : World) (cs : List Value) (x : FuncD) : Prop := ∃ b, cs = [.int .i64 x.ret, b] ∧ InR x.ret ∧ RowV BlockQ 8 W b x.blocks
def SigQ (W : World) (cs : List Value) (x : SigD) : Prop := ∃ p, cs = [p, .int .i64 x.ret] ∧ NumsV W p x.params ∧ InR x.ret
def ClassQ (W : World) (cs : List Value) (x : ClassD) : Prop := ∃ f m, cs = [f, m] ∧ NumsV W f x.fields ∧ NumsV W m x.methods
def ProgQ (W : World) (cs : List Value) (x : ProgD) : Prop := ∃ s c f, cs = [s, c, f] ∧ RowV SigQ 2 W s x.sigs ∧ RowV ClassQ 2 W c x.classes ∧ RowV FuncQ 2 W f x.funcs

/-- What holds on wherever what lay is kept. -/
def Lasts {α : Type} (Q : World → List Value → α → Prop) : Prop := ∀ (W W' : World) (cs : List Value) (x : α), Below W.heap.size W W' → Q W cs x → Q W' cs x
theorem NumsV.since {W W' : World} {v : Value} {Z : List Int} (hb : Below W.heap.size W W') (h : NumsV W v Z) : NumsV W' v Z := by
  obtain ⟨a, n, c, e, hat, rest⟩ := h
  exact ⟨a, n, c, e, hat.since hb, rest⟩
theorem RowV.since {α : Type} {Q : World → List Value → α → Prop} (hQ : Lasts Q) {k : Nat} {W W' : World} {v : Value} {xs : List α} (hb : Below W.heap.size W W') (h : RowV Q k W v xs) : RowV Q k W' v xs := by
  obtain ⟨a, n, c, e, hl, hn, hm, hc⟩ := h
  refine ⟨a, n, c, e, hl, hn, hm, fun h0 => ?_⟩
  obtain ⟨g, off, ea, hg, hi⟩ := hc h0
  refine ⟨g, off, ea, Nat.lt_of_lt_of_le hg hb.size, fun i h => ?_⟩
  obtain ⟨cs, hk, hcs, hq⟩ := hi i h
  exact ⟨cs, hk, fun j hj => (hb.cell (p := ⟨g, off + i * k + j, none⟩) hg).trans (hcs j hj), hQ _ _ _ _ hb hq⟩
theorem OpQ.lasts : Lasts OpQ := fun _ _ _ _ hb ⟨l, e, h1, h2, h3, h4, h5, h6, h⟩ => ⟨l, e, h1, h2, h3, h4, h5, h6, h.since hb⟩
theorem EndQ.lasts : Lasts EndQ := fun _ _ _ _ hb ⟨l, m, e, h1, h2, h3, h4, h, h'⟩ => ⟨l, m, e, h1, h2, h3, h4, h.since hb, h'.since hb⟩
theorem BlockQ.lasts : Lasts BlockQ := fun _ _ _ _ hb ⟨p, o, es, e, h1, h2, h3⟩ => ⟨p, o, es, e, h1.since hb, h2.since OpQ.lasts hb, EndQ.lasts _ _ _ _ hb h3⟩
theorem FuncQ.lasts : Lasts FuncQ := fun _ _ _ _ hb ⟨b, e, h1, h2⟩ => ⟨b, e, h1, h2.since BlockQ.lasts hb⟩
theorem SigQ.lasts : Lasts SigQ := fun _ _ _ _ hb ⟨p, e, h1, h2⟩ => ⟨p, e, h1.since hb, h2⟩
theorem ClassQ.lasts : Lasts ClassQ := fun _ _ _ _ hb ⟨f, m, e, h1, h2⟩ => ⟨f, m, e, h1.since hb, h2.since hb⟩
theorem ProgQ.lasts : Lasts ProgQ := fun _ _ _ _ hb ⟨s, c, f, e, h1, h2, h3⟩ => ⟨s, c, f, e, h1.since SigQ.lasts hb, h2.since ClassQ.lasts hb, h3.since FuncQ.lasts hb⟩

section
variable {H : Type} {enc : TypeId × Value → H} {P : Program}
/-- A datum that is as small as each argument is. -/
def Fits (P : Program) (t : TypeId) (d : DataW H) : Prop := (d.weights P t).all (· ≤ reachBytes) = true
theorem Fits.of_each {ts : List TypeId} {ds : List (DataW H)} (h : (DataW.weightsEach P ts ds).all (· ≤ reachBytes) = true) {j : Nat} {t : TypeId} {d : DataW H} (hj : ts[j]? = some t) (hd : ds[j]? = some d) : Fits P t d := by
  unfold Fits
  rw [List.all_eq_true]
  exact fun n hn => List.all_eq_true.1 h n (DataW.weights_mem_each hj hd n hn)
theorem Fits.each {t : TypeId} {d : DataW H} (h : Fits P t d) : (DataW.weightsEach P [t] [d]).all (· ≤ reachBytes) = true := by
  simpa [DataW.weightsEach, Fits] using h
theorem Fits.part {t : TypeId} {fs : Array Field} {parts : List (DataW H)} (hs : P.underlying t = some (.struct fs)) (h : Fits P t (.agg parts)) {j : Nat} {f : Field} {d : DataW H} (hf : fs[j]? = some f) (hd : parts[j]? = some d) : Fits P f.type d := by
  have h1 := sized_agg h.each (j := 0) rfl rfl hs
  exact Fits.of_each h1 (by simp [List.getElem?_map, hf]) hd
theorem weights_mem_all {e : TypeId} {ds : List (DataW H)} {d : DataW H} (hd : d ∈ ds) {n : Nat} (hn : n ∈ d.weights P e) : n ∈ DataW.weightsAll P e ds := by
  induction ds with
  | nil => cases hd
  | cons x r ih =>
    simp only [DataW.weightsAll, List.mem_append]
    rcases List.mem_cons.1 hd with rfl | h
    · exact .inl hn
    · exact .inr (ih h)
theorem Fits.elem {t e : TypeId} {elems spare : List (DataW H)} (ht : P.underlying t = some (.slice e)) (h : Fits P t (.slice elems spare)) {d : DataW H} (hd : d ∈ elems) : Fits P e d := by
  unfold Fits at h ⊢
  rw [List.all_eq_true] at h ⊢
  intro n hn
  refine h n ?_
  simp only [DataW.weights, ht, List.mem_cons, List.mem_append]
  exact .inr (.inl (weights_mem_all hd hn))

/-- Whatever reads as a type's datum is a Q. -/
def Opens {α : Type} (enc : TypeId × Value → H) (P : Program) (t : TypeId) (Q : World → List Value → α → Prop) : Prop :=
  ∀ {W : World} {fuel : Nat} {cs : List Value} {y : DataW H × List MemPlace}, DataW.trod enc P W 0 (fun _ => true) true fuel t cs = some y → (∀ x ∈ y.2, x.block < W.heap.size) → Fits P t y.1 → ∃ x : α, Q W cs x
theorem list_of {α : Type} {R : Nat → α → Prop} : ∀ n : Nat, (∀ i, i < n → ∃ x, R i x) → ∃ xs : List α, xs.length = n ∧ ∀ i (h : i < xs.length), R i xs[i]
  | 0, _ => ⟨[], rfl, fun i h => absurd h (by simp)⟩
  | n + 1, h => by
    obtain ⟨xs, hl, hx⟩ := list_of n (fun i hi => h i (by omega))
    obtain ⟨x, hr⟩ := h n (by omega)
    refine ⟨xs ++ [x], by simp [hl], fun i hi => ?_⟩
    by_cases hi' : i < xs.length
    · rw [List.getElem_append_left hi']; exact hx i hi'
    · have : i = n := by simp [hl] at hi; omega
      subst this
      rw [List.getElem_append_right (by omega)]
      simpa using hr
theorem opens_row {α : Type} {Q : World → List Value → α → Prop} {t e : TypeId} {k : Nat} (ht : P.underlying t = some (.slice e)) (hk : P.cellsOf e = k) (h0 : 0 < k) (hby : 0 < P.bytesOf e) (hQ : Opens enc P e Q) : Opens enc P t (fun W cs xs => ∃ v, cs = [v] ∧ RowV Q k W v xs) := by
  intro W fuel cs y h hlt hfit
  subst hk
  rcases open_slice ht h with ⟨rfl, rfl⟩ | ⟨a, len, cap, m, n, D, Pl, rfl, hb, hl, hm, hmm, rfl, hi⟩
  · exact ⟨[], _, rfl, none, 0, 0, rfl, rfl, fun _ => rfl, by omega, fun h => absurd h (by omega)⟩
  · simp only [if_true] at hmm
    have hw := sized_slice hfit.each (j := 0) rfl rfl ht
    simp only [List.length_map, List.length_range, reachBytes] at hw
    have hlen : len ≤ 140737488351232 := by
      have h1 : len * 1 ≤ (len + (m - len)) * P.bytesOf e := Nat.mul_le_mul (by omega) hby
      omega
    obtain ⟨xs, hxl, hxs⟩ := list_of (R := fun (i : Nat) (x : α) => ∃ cs : List Value, cs.length = P.cellsOf e ∧ (∀ j (hj : j < cs.length), W.cell? ((a.add (i * P.cellsOf e)).add j) = some cs[j]) ∧ Q W cs x) len (fun i hi' => by
      obtain ⟨cs', hc, htr⟩ := hi i (by omega)
      obtain ⟨_, hcl, hcat⟩ := World.cells?_some hc
      have hmem : D i ∈ (List.range len).map D := List.mem_map.2 ⟨i, List.mem_range.2 hi', rfl⟩
      obtain ⟨x, hx⟩ := hQ htr (fun p hp => hlt p (List.mem_append_right _ (List.mem_flatMap.2 ⟨i, List.mem_range.2 (by omega), hp⟩))) (hfit.elem ht hmem)
      exact ⟨x, cs', hcl, fun j hj => by rw [hcat j (by omega), List.getElem?_eq_getElem hj], hx⟩)
    refine ⟨xs, _, rfl, some a, len, cap, rfl, hxl, (fun h => by cases h), hlen, fun hpos => ?_⟩
    obtain ⟨b, off, spot⟩ := a
    have hs : spot = none := by
      obtain ⟨cs0, hcl0, hc0, _⟩ := hxs 0 (by omega)
      have := World.cell?_spot (hc0 0 (by omega))
      simpa [Addr.add] using this
    subst hs
    refine ⟨b, off, rfl, hlt (.cell b (off + 0)) (List.mem_append_left _ (MemPlace.mem_row.2 ⟨0, Nat.mul_pos (by omega) h0, rfl⟩)), fun i h => ?_⟩
    obtain ⟨cs, hcl, hc, hq⟩ := hxs i h
    refine ⟨cs, hcl, fun j hj => ?_, hq⟩
    have := hc j hj
    rw [addr_plain, addr_plain] at this
    exact this
theorem opens_nums {t e : TypeId} (ht : P.underlying t = some (.slice e)) (he : P.underlying e = some (.int .i64)) (hc : P.cellsOf e = 1) (h8 : P.bytesOf e = 8) : Opens enc P t (fun W cs Z => ∃ v, cs = [v] ∧ NumsV W v Z) := by
  intro W fuel cs y h hlt hfit
  have hone : ∃ v, cs = [v] := by
    rcases open_slice ht h with ⟨rfl, _⟩ | ⟨a, len, cap, _, _, _, _, rfl, _⟩ <;> exact ⟨_, rfl⟩
  obtain ⟨v, rfl⟩ := hone
  obtain ⟨a, n, c, Z, e1, h1, h2, h3, h4, _⟩ := open_nums_field ht he hc h8 h hlt hfit.each (j := 0) rfl rfl
  exact ⟨Z, v, rfl, a, n, c, e1, h1, h2, h3, h4⟩
theorem opens_int {t : TypeId} (ht : P.underlying t = some (.int .i64)) : Opens enc P t (fun W cs z => cs = [.int .i64 z] ∧ InR z) := by
  intro W fuel cs y h _ _
  obtain ⟨n, h1, _, h3⟩ := DataW.trod_int ht h
  exact ⟨n, h1, wf_i64_range h3⟩
theorem opens_text {t : TypeId} (ht : P.underlying t = some .string) : Opens enc P t (fun W cs s => cs = [.string s] ∧ s.size ≤ 140737488351232) := by
  intro W fuel cs y h _ hfit
  obtain ⟨s, h1, h2, _⟩ := DataW.trod_string ht h
  have := sized_string hfit.each (j := 0) (bytes := s.data.toList) rfl (by rw [h2]; rfl)
  rw [list_len] at this
  exact ⟨s, h1, by simpa [reachBytes] using this⟩
theorem opens_bool {t : TypeId} (ht : P.underlying t = some .bool) : Opens enc P t (fun W cs b => cs = [.bool b]) := by
  intro W fuel cs y h _ _
  obtain ⟨b, h1, _⟩ := DataW.trod_bool ht h
  exact ⟨b, h1⟩
/-- A part of a struct. -/
theorem opens_part {α : Type} {Q : World → List Value → α → Prop} {t : TypeId} {fs : Array Field} {W : World} {fuel : Nat} {cs : List Value} {y : DataW H × List MemPlace} (hs : P.underlying t = some (.struct fs)) (h : DataW.trod enc P W 0 (fun _ => true) true fuel t cs = some y) (hlt : ∀ x ∈ y.2, x.block < W.heap.size) (hfit : Fits P t y.1)
    (j : Nat) {f : Field} (hf : fs[j]? = some f) {o k : Nat} (ho : f.offset = o) (hk : P.cellsOf f.type = k) {u : TypeId} (hu : f.type = u) (hQ : Opens enc P u Q) : ∃ x, Q W ((cs.drop o).take k) x := by
  subst ho hk hu
  obtain ⟨xs, n, _, rfl, hcl, hxl, hg⟩ := DataW.trod_struct hs h
  have hj : j < xs.length := by rw [hxl]; exact (Array.getElem?_eq_some_iff.1 hf).1
  have hx : xs[j]? = some xs[j] := List.getElem?_eq_getElem hj
  have h1 := (hg j f hf).trans hx
  exact hQ h1 (fun p hp => hlt p (List.mem_flatMap.2 ⟨xs[j], List.getElem_mem _, hp⟩)) (hfit.part hs hf (by rw [List.getElem?_map, hx]; rfl))
theorem struct_len {t : TypeId} {fs : Array Field} {W : World} {fuel : Nat} {cs : List Value} {y : DataW H × List MemPlace} (hs : P.underlying t = some (.struct fs)) (h : DataW.trod enc P W 0 (fun _ => true) true fuel t cs = some y) : cs.length = P.cellsOf t := by
  obtain ⟨xs, n, _, _, hcl, _⟩ := DataW.trod_struct hs h
  exact hcl
end
end Go.Proofs.YtccajbgdlicbnaaDoor

/- Layer 2, plain: a text in parts (P2.1, P2.4). Nothing of the program is named here. -/
namespace Go.Proofs.YtccajbgdlicbnaaDoor
set_option linter.unusedVariables false

/-- The parts, joined. -/
def joined (ps : List ByteArray) : List UInt8 := (ps.map fun p => p.data.toList).flatten
theorem joined_nil : joined [] = [] := rfl
theorem joined_cons (p : ByteArray) (ps : List ByteArray) : joined (p :: ps) = p.data.toList ++ joined ps := rfl
theorem joined_append (a b : List ByteArray) : joined (a ++ b) = joined a ++ joined b := by simp [joined]
theorem joined_snoc (a : List ByteArray) (p : ByteArray) : joined (a ++ [p]) = joined a ++ p.data.toList := by simp [joined]

/-- ps are L's parts of N bytes each, the last one what is left. -/
def CutOf (L : List UInt8) (N : Nat) (ps : List ByteArray) : Prop :=
  joined ps = L ∧ (∀ j (h : j < ps.length), 0 < ps[j].size ∧ ps[j].size ≤ N) ∧ ∀ j (h : j + 1 < ps.length), ps[j].size = N
/-- All parts so far have N bytes. -/
def CutAll (L : List UInt8) (N : Nat) (ps : List ByteArray) (x : List UInt8) : Prop := joined ps ++ x = L ∧ ∀ j (h : j < ps.length), ps[j].size = N
theorem CutAll.start (L : List UInt8) (N : Nat) : CutAll L N [] L := ⟨rfl, fun j h => by simp at h⟩
theorem joined_len {N : Nat} : ∀ (ps : List ByteArray), (∀ j (h : j < ps.length), ps[j].size = N) → (joined ps).length = ps.length * N
  | [], _ => by simp [joined_nil]
  | p :: ps, h => by
    rw [joined_cons, List.length_append, joined_len ps (fun j hj => by have := h (j + 1) (by simp; omega); simpa using this)]
    have h0 := h 0 (by simp)
    simp only [List.getElem_cons_zero] at h0
    rw [list_len, h0, List.length_cons, Nat.add_mul, Nat.one_mul, Nat.add_comm]
theorem CutAll.len {L : List UInt8} {N : Nat} {ps : List ByteArray} {x : List UInt8} (hN : 1 ≤ N) (h : CutAll L N ps x) : ps.length + x.length ≤ L.length := by
  have h1 := congrArg List.length h.1
  rw [List.length_append, joined_len ps h.2] at h1
  have := Nat.le_mul_of_pos_right ps.length hN
  omega
theorem CutAll.step {L : List UInt8} {N : Nat} {ps : List ByteArray} {x p q : ByteArray} (h : CutAll L N ps x.data.toList) (hx : x.data.toList = p.data.toList ++ q.data.toList) (hp : p.size = N) : CutAll L N (ps ++ [p]) q.data.toList := by
  refine ⟨by rw [joined_snoc, List.append_assoc, ← hx]; exact h.1, fun j hj => ?_⟩
  simp only [List.length_append, List.length_cons, List.length_nil] at hj
  by_cases hjl : j < ps.length
  · rw [List.getElem_append_left hjl]; exact h.2 j hjl
  · have : j = ps.length := by omega
    subst this
    simpa using hp
theorem CutAll.fin_nil {L : List UInt8} {N : Nat} {ps : List ByteArray} (hN : 1 ≤ N) (h : CutAll L N ps []) : CutOf L N ps :=
  ⟨by rw [← List.append_nil (joined ps)]; exact h.1, fun j hj => by have := h.2 j hj; omega, fun j hj => h.2 j (by omega)⟩
theorem CutAll.fin {L : List UInt8} {N : Nat} {ps : List ByteArray} {x : ByteArray} (h : CutAll L N ps x.data.toList) (h0 : 0 < x.size) (hx : x.size ≤ N) : CutOf L N (ps ++ [x]) := by
  refine ⟨by rw [joined_snoc]; exact h.1, fun j hj => ?_, fun j hj => ?_⟩
  · simp only [List.length_append, List.length_cons, List.length_nil] at hj
    by_cases hjl : j < ps.length
    · rw [List.getElem_append_left hjl]; have := h.2 j hjl; omega
    · have : j = ps.length := by omega
      subst this
      simpa using ⟨h0, hx⟩
  · simp only [List.length_append, List.length_cons, List.length_nil] at hj
    rw [List.getElem_append_left (by omega)]
    exact h.2 j (by omega)
/-- How far the first parts reach. -/
def upTo (ps : List ByteArray) (j : Nat) : Nat := (joined (ps.take j)).length
theorem upTo_zero (ps : List ByteArray) : upTo ps 0 = 0 := rfl
theorem upTo_succ (ps : List ByteArray) (j : Nat) (h : j < ps.length) : upTo ps (j + 1) = upTo ps j + ps[j].size := by
  unfold upTo
  rw [List.take_succ_eq_append_getElem h, joined_snoc, List.length_append, list_len]
theorem upTo_all (ps : List ByteArray) : upTo ps ps.length = (joined ps).length := by unfold upTo; rw [List.take_length]
theorem CutOf.at_end {L : List UInt8} {N : Nat} {ps : List ByteArray} (h : CutOf L N ps) : upTo ps ps.length = L.length := by rw [upTo_all, h.1]
theorem CutOf.part {s : ByteArray} {N : Nat} {ps : List ByteArray} (h : CutOf s.data.toList N ps) (j : Nat) (hj : j < ps.length) :
    upTo ps j + ps[j].size ≤ s.size ∧ s.extract (upTo ps j) (upTo ps j + ps[j].size) = ps[j] := by
  have e : s.data.toList = joined (ps.take j) ++ (ps[j].data.toList ++ joined (ps.drop (j + 1))) := by
    rw [← h.1, ← joined_cons, ← List.drop_eq_getElem_cons hj, ← joined_append, List.take_append_drop]
  constructor
  · have := congrArg List.length e
    rw [list_len, List.length_append, List.length_append, list_len] at this
    unfold upTo; omega
  · apply ByteArray.ext
    apply Array.toList_inj.1
    rw [Lib.extract_data, e]
    unfold upTo
    rw [List.drop_left, Nat.add_sub_cancel_left, ← list_len, List.take_left]
end Go.Proofs.YtccajbgdlicbnaaDoor

/- Layer 2, P2.1 and P2.4: text.Cut, walked, and what the statement TextCuts asks of it. -/
namespace Go.Proofs.YtccajbgdlicbnaaDoor
open Go.RowKit (wrap64 intOf Below)
set_option linter.unusedVariables false

theorem info_str : (Tryd.prog.info? 9).map (fun i => (i.zero, i.size, i.bytes)) = some (some (.string ⟨#[]⟩), 1, 16) := by kernel_rfl

/-- The slice v is the call's own (from block B on) and holds the texts l. -/
def OwnsS (w : World) (B : Nat) (e : TypeId) (v : Value) (l : List ByteArray) : Prop := w.ownsRow B e 1 v l.length (l.map Value.string)
theorem OwnsS.nil (w : World) (B : Nat) (e : TypeId) : OwnsS w B e (.slice none 0 0) [] := World.ownsRow_nil w B e 1
theorem OwnsS.lt {w : World} {B : Nat} {e : TypeId} {v : Value} {l : List ByteArray} (h : OwnsS w B e v l) : ∀ k, v.ownBlock = some k → B ≤ k ∧ k < w.heap.size := World.ownsRow.lt h
/-- Texts of the call's own, behind it: where they lie. -/
def StrsAt (w : World) (g : Nat) (l : List ByteArray) : Prop := ∀ j (h : j < l.length), w.cell? ⟨g, j, none⟩ = some (.string l[j])
theorem OwnsS.shape {w : World} {B : Nat} {e : TypeId} {v : Value} {l : List ByteArray} (h : OwnsS w B e v l) :
    (v = .slice none 0 0 ∧ l = []) ∨ ∃ g c, v = .slice (some ⟨g, 0, none⟩) l.length c ∧ l.length ≤ c ∧ c ≤ maxLen ∧ g < w.heap.size ∧ StrsAt w g l := by
  have hown := h
  rcases h.2 with ⟨rfl, h0⟩ | ⟨g, cap, cur, rfl, _, hg, h1, h2, _⟩
  · exact Or.inl ⟨rfl, List.eq_nil_of_length_eq_zero h0⟩
  · refine Or.inr ⟨g, cap, rfl, h1, h2, (hown.lt g rfl).2, fun j hj => ?_⟩
    have := World.ownsRow.cells hown (g := g) rfl j (.string l[j]) (by rw [List.getElem?_map, List.getElem?_eq_getElem hj]; rfl)
    have hadd : (⟨g, 0, none⟩ : Addr).add j = ⟨g, j, none⟩ := by unfold Addr.add; split <;> simp_all
    rwa [hadd] at this
theorem str_one {l : List ByteArray} : ∀ u ∈ l.map Value.string, u.oneCell' = true := by
  intro u hu
  obtain ⟨c, _, rfl⟩ := List.mem_map.1 hu
  rfl
/-- 'append(l, s)': a text behind the others. -/
theorem wpList_append_str {P : Program} (w : World) {ops : Array Oper} {rest : List Oper} {o : Oper} {a : Act} {Q : Exit → Act → World → Prop} (hgd : o.guard = none) (s x : Operand) (t : TypeId)
    (ho : o.op = .call { callee := .builtin .append, args := #[s, x], argTypes := #[t, t] }) (e : TypeId) (ht : P.underlying t = some (.slice e))
    (hinfo : (P.info? e).map (fun i => (i.zero, i.size, i.bytes)) = some (some (.string ⟨#[]⟩), 1, 16))
    (B : Nat) (v : Value) (l : List ByteArray) (hs : a.eval s = v) (hown : OwnsS w B e v l) (hB : B ≤ w.heap.size)
    (C : Array Value) (c g : Nat) (p : ByteArray) (hx : a.eval x = .slice (some ⟨g, 0, none⟩) 1 c) (hg : g = w.heap.size) (hC : C = #[.string p])
    (hlen : (l.length + 1) * 16 ≤ 140737488355328)
    (h : ∀ v' w', OwnsS w' B e v' (l ++ [p]) → Below B w w' → wpList P ops Q rest (a.put o.dst v') w') : wpList P ops Q (o :: rest) a (w.alloc (.cells C e)) := by
  obtain ⟨i0, hi, hz0, hz1, hz2⟩ := info_parts hinfo
  subst hC hg
  refine wpList_append_own _ hgd s x t ho B e i0 (.string ⟨#[]⟩) 1 16 ht hi hz0 hz1 hz2 rfl (by decide) v l.length (l.map Value.string) hs (World.ownsRow.alloc hown _) ⟨w.heap.size, 0, none⟩ 1 c [.string p] hx rfl (fun j u hu => ?_) (by intro u hu; simp at hu; subst hu; rfl) (by unfold maxLen; omega) hlen (by simp; omega) ?_
  · have hadd : (⟨w.heap.size, 0, none⟩ : Addr).add j = ⟨w.heap.size, j, none⟩ := by unfold Addr.add; split <;> simp_all
    rw [hadd, World.cell?_alloc_mark]
    simpa using hu
  · intro v' w' hown' hgrow _
    refine h v' w' ?_ ?_
    · show w'.ownsRow B e 1 v' (l ++ [p]).length ((l ++ [p]).map Value.string)
      rw [List.map_append, List.length_append]
      exact hown'
    · exact Below.grown ((Below.refl B w).alloc hB _) hgrow (by simp; omega) (fun k hk => (hown.lt k hk).1)

def sizeV2 : Value → Nat | .string t => t.size | _ => 0
def CutPost (L : List UInt8) (N : Nat) (w : World) (e : Ending) (w' : World) : Prop :=
  ∃ (v : Value) (ps : List ByteArray), e = .returned v ∧ CutOf L N ps ∧ OwnsS w' w.heap.size 9 v ps ∧ Below w.heap.size w w'

theorem split_at (x : ByteArray) (n : Nat) (h : n ≤ x.size) : x.data.toList = (x.extract 0 n).data.toList ++ (x.extract n x.size).data.toList ∧ (x.extract 0 n).size = n ∧ (x.extract n x.size).size = x.size - n := by
  have e1 : (x.extract 0 n).data.toList = x.data.toList.take n := by rw [Lib.extract_data]; simp
  have e2 : (x.extract n x.size).data.toList = x.data.toList.drop n := Lib.extract_to_end x n
  refine ⟨by rw [e1, e2, List.take_append_drop], ?_, ?_⟩
  · rw [← list_len, e1, List.length_take, list_len]; omega
  · rw [← list_len, e2, List.length_drop, list_len]

end Go.Proofs.YtccajbgdlicbnaaDoor

/- Layer 2, P2.2: text.Quote, walked: it makes the quote of whatever text. -/
namespace Go.Proofs.YtccajbgdlicbnaaDoor
open Go.RowKit (wrap64 intOf Below)
set_option linter.unusedVariables false

theorem info_u8 : (Tryd.prog.info? 5).map (fun i => (i.zero, i.size, i.bytes)) = some (some (.int .u8 0), 1, 1) := by kernel_rfl

theorem marks_any (n : Int) (w : World) (h0 : 0 ≤ n) (h1 : n ≤ 255) :
    Calls Tryd.prog 69 #[.int .u8 n] w fun e w' => e = .returned (.bool (markI n)) ∧ w = w' := by
  go_enter Tryd.func69, Tryd.ntmps69
  go_wp2
  all_goals go_ret
  all_goals refine ⟨?_, rfl⟩
  all_goals simp_all [markI]
theorem shown_any (n : Int) (w : World) (h0 : 0 ≤ n) (h1 : n ≤ 255) :
    Calls Tryd.prog 70 #[.int .u8 n] w fun e w' => e = .returned (.bool (shownI n)) ∧ w = w' := by
  go_enter Tryd.func70, Tryd.ntmps70
  go_wp2
  all_goals go_ret
  all_goals refine ⟨?_, rfl⟩
  all_goals first | (simp_all [shownI]; done) | (simp_all [shownI]; omega)

theorem take_snoc (s : ByteArray) (k : Nat) (h : k < s.size) : s.data.toList.take (k + 1) = s.data.toList.take k ++ [s[k]] := by
  rw [List.take_succ_eq_append_getElem (by rw [list_len]; exact h)]; rfl
theorem own_step {w : World} {B : Nat} {e : TypeId} {v : Value} {s : ByteArray} {k : Nat} {news : List UInt8} (h : k < s.size) (hn : enc s[k] = news) (hown : OwnsB w B e v ((34 :: encs (s.data.toList.take k)) ++ news)) :
    OwnsB w B e v (34 :: encs (s.data.toList.take (k + 1))) := by
  rw [take_snoc s k h, encs_snoc, hn]; exact hown
theorem room_step {s : ByteArray} {k : Nat} (hs : s.size ≤ 35184372088832) (h : k ≤ s.size) : (34 :: encs (s.data.toList.take k)).length ≤ 3 * k + 1 := by
  have := (encs_len (s.data.toList.take k)).2
  have h2 : (s.data.toList.take k).length ≤ k := List.length_take_le _ _
  simp only [List.length_cons]
  omega

theorem and15 (c : UInt8) : bits BinOp.and IntKind.u8 (c.toNat : Int) 15 = (c.toNat : Int) % 16 := by
  revert c; apply bytes_all; decide +kernel
theorem digit_at (n : Nat) (h : n < 16) (w : World) : (Instr.index 9 (.string ⟨#[48, 49, 50, 51, 52, 53, 54, 55, 56, 57, 97, 98, 99, 100, 101, 102]⟩) (.int .u8 (n : Int))).run Tryd.prog w = .ok (.int .u8 ((digit n).toNat : Int)) w := by
  have H : ∀ k : Fin 16, ((⟨#[48, 49, 50, 51, 52, 53, 54, 55, 56, 57, 97, 98, 99, 100, 101, 102]⟩ : ByteArray)[k.val]'(k.isLt)).toNat = (digit k.val).toNat := by decide +kernel
  have h0 : (0 : Int) ≤ (n : Int) := Int.natCast_nonneg _
  have h1 : (n : Int) < 16 := by omega
  go_simp
  have := H ⟨n, h⟩
  simp at this ⊢
  exact congrArg (fun k : Nat => (k : Int)) this

theorem quote_any (s : ByteArray) (w : World) (hs : s.size ≤ 35184372088832) :
    Calls Tryd.prog 53 #[.string s] w fun e w' => e = .returned (.string (mk (quoteL s.data.toList))) ∧ Below w.heap.size w w' := by
  obtain ⟨i0, hi, hz0, hz1, hz2⟩ := info_parts info_u8
  have hmk : ∀ u : World, (Instr.makeSlice 53 (.int .i64 0) (.int .i64 ((s.size : Int) + 2))).run Tryd.prog u =
      .ok (.slice (some ⟨u.heap.size, 0, none⟩) 0 (s.size + 2)) (u.alloc (.cells (madeCells #[.int .u8 0] (s.size + 2)) 5)) := fun u => by
    have h := run_make (P := Tryd.prog) u 53 5 i0 (.int .u8 0) Tryd.underlying53 hi hz0 .i64 .i64 0 ((s.size : Int) + 2) (by omega) (by omega) (by rw [hz2]; omega) (by omega)
    have e : ((s.size : Int) + 2).toNat = s.size + 2 := by omega
    rw [e] at h
    simpa [hz1, Value.cells] using h
  clear hz0 hz1 hz2 hi
  go_enter Tryd.func53, Tryd.ntmps53
  go_wp2_with (at_builtin; (refine wpList_append_bytes _ rfl _ _ 53 rfl 5 Tryd.underlying53 info_u8 w.heap.size (.slice (some ⟨w.heap.size, 0, none⟩) 0 (s.size + 2)) [] rfl (OwnsB.made _ _ (Nat.le_refl _) (by unfold maxLen; omega) (by simp [size_madeCells])) (by simp) _ 1 1 _ [34] rfl (by simp) rfl rfl (by simp) ?_); intro v1 w1 hown1 hb1 hz1)
  have HB1 := Lib.hid (((Below.refl w.heap.size w).alloc (Nat.le_refl _) (.cells (madeCells #[.int .u8 0] (s.size + 2)) 5)).trans hb1)
  have HO1 := Lib.hid hown1
  clear hown1 hb1 hz1 hmk
  go_loopw [3, 15] (fun v i wr => ∃ k : Nat, k ≤ s.size ∧ i = .int .i64 k ∧ RowKit.Hid (OwnsB wr w.heap.size 5 v (34 :: encs (s.data.toList.take k))) ∧ RowKit.Hid (Below w.heap.size w wr)) (fun _ i _ => s.size - (intOf i).toNat)
  case atStart => exact ⟨0, Nat.zero_le _, rfl, HO1, HB1⟩
  case round =>
    obtain ⟨k, hk, rfl, HO, HB⟩ := hrel
    have hsz := HB.out.size
    have hrm := room_step hs hk
    by_cases hlt : k < s.size
    · have hc1 := s[k].toNat_lt
      cases hm : mark s[k]
      · cases hsh : shown s[k]
        · have hN := Lib.hid (enc_hex hsh)
          have hm2 : markI (s[k].toNat : Int) = false := hm
          have hs2 : shownI (s[k].toNat : Int) = false := hsh
          clear hm hsh
          go_wp2_with (first | (go_at_call 69; (with_reducible refine (marks_any _ _ (by omega) (by omega)).mono ?_); rintro e w' ⟨rfl, rfl⟩) | (go_at_call 70; (with_reducible refine (shown_any _ _ (by omega) (by omega)).mono ?_); rintro e w' ⟨rfl, rfl⟩))
          have ha15 := and15 s[k]
          have hd1 : ∀ w, (Instr.index 9 (.string ⟨#[48, 49, 50, 51, 52, 53, 54, 55, 56, 57, 97, 98, 99, 100, 101, 102]⟩) (.int .u8 ((s[k].toNat : Int) / 16))).run Tryd.prog w = .ok (.int .u8 ((digit (s[k].toNat / 16)).toNat : Int)) w := digit_at (s[k].toNat / 16) (by omega)
          have hd2 : ∀ w, (Instr.index 9 (.string ⟨#[48, 49, 50, 51, 52, 53, 54, 55, 56, 57, 97, 98, 99, 100, 101, 102]⟩) (.int .u8 ((s[k].toNat : Int) % 16))).run Tryd.prog w = .ok (.int .u8 ((digit (s[k].toNat % 16)).toNat : Int)) w := digit_at (s[k].toNat % 16) (by omega)
          go_region_held3 (fun _ => True) (trivial) ((refine step_append_bytes (by rfl) _ _ 53 (by rfl) 5 Tryd.underlying53 info_u8 w.heap.size _ _ (by rfl) ((HO.out.alloc _).drew) (by simp; omega) 3 3 _ [92, digit (s[k].toNat / 16), digit (s[k].toNat % 16)] (by rfl) _ (heap_alloc_new wr _) rfl (by decide) (by omega) ?_; intro v2 w2 hown2 hb2))
          all_goals
            have HO2 := Lib.hid (own_step hlt hN.out hown2)
            have HB2 := Lib.hid (HB.out.trans ((((Below.refl w.heap.size wr).alloc hsz _).drew).trans hb2))
            clear hown2 hb2 hd1 hd2 ha15
            go_wp2
            go_roundw
            case rel => exact ⟨k + 1, by omega, by go_num, HO2, HB2⟩
            case measure => simp [intOf]; omega
        · have hN := Lib.hid (enc_plain hm hsh)
          have hm2 : markI (s[k].toNat : Int) = false := hm
          have hs2 : shownI (s[k].toNat : Int) = true := hsh
          clear hm hsh
          go_wp2_with (first | (go_at_call 69; (with_reducible refine (marks_any _ _ (by omega) (by omega)).mono ?_); rintro e w' ⟨rfl, rfl⟩) | (go_at_call 70; (with_reducible refine (shown_any _ _ (by omega) (by omega)).mono ?_); rintro e w' ⟨rfl, rfl⟩) | (at_builtin; refine wpList_append_bytes _ rfl _ _ 53 rfl 5 Tryd.underlying53 info_u8 w.heap.size _ _ rfl HO.out hsz _ 1 1 _ [s[k]] rfl (by simp) rfl rfl (by omega) ?_; intro v2 w2 hown2 hb2 hz2))
          have HO2 := Lib.hid (own_step hlt hN.out hown2)
          have HB2 := Lib.hid (HB.out.trans hb2)
          clear hown2 hb2 hz2
          go_wp2
          go_roundw
          case rel => exact ⟨k + 1, by omega, by go_num, HO2, HB2⟩
          case measure => simp [intOf]; omega
      · have hN := Lib.hid (enc_mark hm)
        have hm2 : markI (s[k].toNat : Int) = true := hm
        clear hm
        go_wp2_with (first | (go_at_call 69; (with_reducible refine (marks_any _ _ (by omega) (by omega)).mono ?_); rintro e w' ⟨rfl, rfl⟩) | (at_builtin; refine wpList_append_bytes _ rfl _ _ 53 rfl 5 Tryd.underlying53 info_u8 w.heap.size _ _ rfl HO.out hsz _ 2 2 _ [92, s[k]] rfl (by simp) rfl rfl (by omega) ?_; intro v2 w2 hown2 hb2 hz2))
        have HO2 := Lib.hid (own_step hlt hN.out hown2)
        have HB2 := Lib.hid (HB.out.trans hb2)
        clear hown2 hb2 hz2
        go_wp2
        go_roundw
        case rel => exact ⟨k + 1, by omega, by go_num, HO2, HB2⟩
        case measure => simp [intOf]; omega
    · obtain rfl : k = s.size := by omega
      have hrun := fun (v : Value) (u : World) (h : OwnsB u w.heap.size 5 v ((34 :: encs (s.data.toList.take s.size)) ++ [34])) => run_string_own (P := Tryd.prog) h 53 9 Tryd.underlying53 Tryd.underlying5 Tryd.underlying9 (by simp)
      have hq : (34 :: encs (s.data.toList.take s.size)) ++ [34] = quoteL s.data.toList := by
        rw [List.take_of_length_le (by rw [list_len]; exact Nat.le_refl _)]; rfl
      rw [hq] at hrun
      have HR := Lib.hid hrun
      have HQ := Lib.hid hq
      clear hrun hq
      go_wp2_with (at_builtin; refine wpList_append_bytes _ rfl _ _ 53 rfl 5 Tryd.underlying53 info_u8 w.heap.size _ _ rfl HO.out hsz _ 1 1 _ [34] rfl (by simp) rfl rfl (by omega) ?_; intro v2 w2 hown2 hb2 hz2; rw [HQ.out] at hown2; have hr2 := HR.out v2 w2 hown2; have HB2 := Lib.hid (HB.out.trans hb2); clear hown2 hb2 hz2)
      go_ret
      exact ⟨rfl, HB2.out⟩
end Go.Proofs.YtccajbgdlicbnaaDoor

/- Layer 2, P2.2: the document's own Quote, walked: it makes the quote of whatever text, as text.Quote does. -/
namespace Go.Proofs.YtccajbgdlicbnaaDoor
open Go.RowKit (wrap64 intOf Below)
set_option linter.unusedVariables false

theorem digit_val (n : Nat) (h : n < 16) : ((digit n).toNat : Int) = if n < 10 then 48 + (n : Int) else 87 + (n : Int) := by
  have H : ∀ k : Fin 16, ((digit k.val).toNat : Int) = if k.val < 10 then 48 + (k.val : Int) else 87 + (k.val : Int) := by decide +kernel
  exact H ⟨n, h⟩
theorem digit_ref (n : Nat) (w : World) (h : n < 16) :
    Calls Tryd.prog 62 #[.int .u8 (n : Int)] w fun e w' => e = .returned (.int .u8 ((digit n).toNat : Int)) ∧ w = w' := by
  have hv := Lib.hid (digit_val n h)
  have h0 : (0 : Int) ≤ (n : Int) := Int.natCast_nonneg _
  have h1 : (n : Int) < 16 := by omega
  by_cases h10 : n < 10
  · go_enter Tryd.func62, Tryd.ntmps62
    go_wp2
    all_goals go_ret
    all_goals refine ⟨?_, rfl⟩
    all_goals rw [hv.out, if_pos h10]
    all_goals first | rfl | (congr 2; simp; omega)
  · go_enter Tryd.func62, Tryd.ntmps62
    go_wp2
    all_goals go_ret
    all_goals refine ⟨?_, rfl⟩
    all_goals rw [hv.out, if_neg h10]
    all_goals first | rfl | (congr 2; simp; omega)
theorem digit_hi (c : UInt8) (w : World) :
    Calls Tryd.prog 62 #[.int .u8 ((c.toNat : Int) / 16)] w fun e w' => e = .returned (.int .u8 ((digit (c.toNat / 16)).toNat : Int)) ∧ w = w' := by
  have := c.toNat_lt
  exact digit_ref (c.toNat / 16) w (by omega)
theorem digit_lo (c : UInt8) (w : World) :
    Calls Tryd.prog 62 #[.int .u8 ((c.toNat : Int) % 16)] w fun e w' => e = .returned (.int .u8 ((digit (c.toNat % 16)).toNat : Int)) ∧ w = w' := by
  have := c.toNat_lt
  exact digit_ref (c.toNat % 16) w (by omega)

theorem mark_parts {n : Int} (h : markI n = false) : (n == 34) = false ∧ (n == 92) = false := by
  simpa [markI] using h
theorem shown_parts {n : Int} (h : shownI n = true) : decide (n < 32) = false ∧ decide (126 < n) = false := by
  simp [shownI] at h
  constructor
  · simp; omega
  · simp; omega
theorem hidden_parts {n : Int} (h : shownI n = false) : n < 32 ∨ (¬ n < 32 ∧ 126 < n) := by
  simp [shownI] at h
  omega

theorem ref_quote (s : ByteArray) (w : World) (hs : s.size ≤ 35184372088832) :
    Calls Tryd.prog 44 #[.string s] w fun e w' => e = .returned (.string (mk (quoteL s.data.toList))) ∧ Below w.heap.size w w' := by
  go_enter Tryd.func44, Tryd.ntmps44
  go_wp2
  go_loopw [3, 4] (fun v i wr => ∃ k : Nat, k ≤ s.size ∧ i = .int .i64 k ∧ RowKit.Hid (OwnsB wr w.heap.size 5 v (34 :: encs (s.data.toList.take k))) ∧ RowKit.Hid (Below w.heap.size w wr)) (fun _ i _ => s.size - (intOf i).toNat)
  case atStart => exact ⟨0, Nat.zero_le _, rfl, Lib.hid (OwnsB.built [34] _ 1 rfl (Nat.le_refl _) rfl (by unfold maxLen; omega)), Lib.hid ((Below.refl _ _).alloc (Nat.le_refl _) _)⟩
  case round =>
    obtain ⟨k, hk, rfl, HO, HB⟩ := hrel
    have hsz := HB.out.size
    have hrm := room_step hs hk
    by_cases hlt : k < s.size
    · have hc1 := s[k].toNat_lt
      cases hm : mark s[k]
      · cases hsh : shown s[k]
        · have hN := Lib.hid (enc_hex hsh)
          obtain ⟨hm1, hm2⟩ := mark_parts hm
          have hp := hidden_parts hsh
          clear hm hsh
          rcases hp with hp | ⟨hp0, hp⟩
          all_goals
            go_wp2_with (first | (go_at_call 62; (with_reducible (first | refine (digit_hi s[k] _).mono ?_ | refine (digit_lo s[k] _).mono ?_)); rintro e w' ⟨rfl, rfl⟩) | (at_builtin; refine wpList_append_bytes _ rfl _ _ 53 rfl 5 Tryd.underlying53 info_u8 w.heap.size _ _ rfl HO.out hsz _ 3 3 _ [92, digit (s[k].toNat / 16), digit (s[k].toNat % 16)] rfl (by simp) rfl rfl (by omega) ?_; intro v2 w2 hown2 hb2 hz2))
            have HO2 := Lib.hid (own_step hlt hN.out hown2)
            have HB2 := Lib.hid (HB.out.trans hb2)
            clear hown2 hb2 hz2
            go_wp2
            go_roundw
            case rel => exact ⟨k + 1, by omega, by go_num, HO2, HB2⟩
            case measure => simp [intOf]; omega
        · have hN := Lib.hid (enc_plain hm hsh)
          obtain ⟨hm1, hm2⟩ := mark_parts hm
          obtain ⟨hp1, hp2⟩ := shown_parts hsh
          clear hm hsh
          go_wp2_with (at_builtin; refine wpList_append_bytes _ rfl _ _ 53 rfl 5 Tryd.underlying53 info_u8 w.heap.size _ _ rfl HO.out hsz _ 1 1 _ [s[k]] rfl (by simp) rfl rfl (by omega) ?_; intro v2 w2 hown2 hb2 hz2)
          have HO2 := Lib.hid (own_step hlt hN.out hown2)
          have HB2 := Lib.hid (HB.out.trans hb2)
          clear hown2 hb2 hz2
          go_wp2
          go_roundw
          case rel => exact ⟨k + 1, by omega, by go_num, HO2, HB2⟩
          case measure => simp [intOf]; omega
      · have hN := Lib.hid (enc_mark hm)
        have hp : ((s[k].toNat : Int) == 34) = true ∨ (((s[k].toNat : Int) == 34) = false ∧ ((s[k].toNat : Int) == 92) = true) := by
          have hm' : markI (s[k].toNat : Int) = true := hm
          unfold markI at hm'
          cases h34 : ((s[k].toNat : Int) == 34)
          · rw [h34] at hm'; exact Or.inr ⟨rfl, by simpa using hm'⟩
          · exact Or.inl rfl
        clear hm
        rcases hp with hp | ⟨hp0, hp⟩
        all_goals
          go_wp2_with (at_builtin; refine wpList_append_bytes _ rfl _ _ 53 rfl 5 Tryd.underlying53 info_u8 w.heap.size _ _ rfl HO.out hsz _ 2 2 _ [92, s[k]] rfl (by simp) rfl rfl (by omega) ?_; intro v2 w2 hown2 hb2 hz2)
          have HO2 := Lib.hid (own_step hlt hN.out hown2)
          have HB2 := Lib.hid (HB.out.trans hb2)
          clear hown2 hb2 hz2
          go_wp2
          go_roundw
          case rel => exact ⟨k + 1, by omega, by go_num, HO2, HB2⟩
          case measure => simp [intOf]; omega
    · obtain rfl : k = s.size := by omega
      have hrun := fun (v : Value) (u : World) (h : OwnsB u w.heap.size 5 v ((34 :: encs (s.data.toList.take s.size)) ++ [34])) => run_string_own (P := Tryd.prog) h 53 9 Tryd.underlying53 Tryd.underlying5 Tryd.underlying9 (by simp)
      have hq : (34 :: encs (s.data.toList.take s.size)) ++ [34] = quoteL s.data.toList := by
        rw [List.take_of_length_le (by rw [list_len]; exact Nat.le_refl _)]; rfl
      rw [hq] at hrun
      have HR := Lib.hid hrun
      have HQ := Lib.hid hq
      clear hrun hq
      go_wp2_with (at_builtin; refine wpList_append_bytes _ rfl _ _ 53 rfl 5 Tryd.underlying53 info_u8 w.heap.size _ _ rfl HO.out hsz _ 1 1 _ [34] rfl (by simp) rfl rfl (by omega) ?_; intro v2 w2 hown2 hb2 hz2; rw [HQ.out] at hown2; have hr2 := HR.out v2 w2 hown2; have HB2 := Lib.hid (HB.out.trans hb2); clear hown2 hb2 hz2)
      go_ret
      exact ⟨rfl, HB2.out⟩
end Go.Proofs.YtccajbgdlicbnaaDoor

/- Layer 3, plain: which bytes a number is, and which number bytes begin with (P3.1), on lists of bytes; that there is one form (P3.3), and no beginning (P3.4); likewise texts and lists (P3.2). Nothing of the program is named here. -/
namespace Go.Proofs.YtccajbgdlicbnaaDoor
set_option linter.unusedVariables false

/-- A number without a sign, for one with a sign, and back. -/
def zz (n : Int) : Nat := if n < 0 then (2 * (-1 - n) + 1).toNat else (2 * n).toNat
def unzz (z : Nat) : Int := if z % 2 = 1 then -1 - ((z / 2 : Nat) : Int) else ((z / 2 : Nat) : Int)
theorem unzz_zz (n : Int) : unzz (zz n) = n := by
  unfold unzz zz
  split <;> split <;> omega
theorem zz_unzz (z : Nat) : zz (unzz z) = z := by
  unfold unzz zz
  split <;> split <;> omega
theorem zz_lt {n : Int} (h0 : -9223372036854775808 ≤ n) (h1 : n ≤ 9223372036854775807) : zz n < 18446744073709551616 := by
  unfold zz; split <;> omega
theorem unzz_in {z : Nat} (h : z < 18446744073709551616) : -9223372036854775808 ≤ unzz z ∧ unzz z ≤ 9223372036854775807 := by
  unfold unzz; split <;> omega

/-- The bytes of z, seven bits each, the least first; f: how many may go on. -/
def putF : Nat → Nat → List UInt8
  | 0, z => [UInt8.ofNat z]
  | f + 1, z => if z < 128 then [UInt8.ofNat z] else UInt8.ofNat (z % 128 + 128) :: putF f (z / 128)
def putL (n : Int) : List UInt8 := putF 9 (zz n)
/-- What bytes begin with: the number, how many bytes that are, and 0; or 0, 0 and the error. i bytes have been read, they came to a. -/
def takeL : List UInt8 → Nat → Nat → Int × Nat × Int
  | [], _, _ => (0, 0, 3)
  | c :: r, i, a => if (i = 9 ∧ 1 < c.toNat) ∨ (0 < i ∧ c.toNat = 0) then (0, 0, 4) else
      if c.toNat < 128 then (unzz (a + c.toNat % 128 * 128 ^ i), i + 1, 0) else takeL r (i + 1) (a + c.toNat % 128 * 128 ^ i)

theorem putF_pos (f z : Nat) : 1 ≤ (putF f z).length := by
  cases f with
  | zero => simp [putF]
  | succ f => unfold putF; split <;> simp
theorem putF_len (f z : Nat) : (putF f z).length ≤ f + 1 := by
  induction f generalizing z with
  | zero => simp [putF]
  | succ f ih =>
    unfold putF
    split
    · simp
    · have := ih (z / 128); simp only [List.length_cons]; omega
theorem putL_pos (n : Int) : 1 ≤ (putL n).length := putF_pos _ _
theorem putL_len (n : Int) : (putL n).length ≤ 10 := putF_len 9 _

theorem byte_nat (n : Nat) (h : n < 256) : (UInt8.ofNat n).toNat = n := by simp; omega
theorem pow9 : (128 : Nat) ^ 9 = 9223372036854775808 := by decide
theorem pow_le {i : Nat} (h : i ≤ 9) : 128 ^ i ≤ 9223372036854775808 := by
  rw [← pow9]; exact Nat.pow_le_pow_right (by decide) h
theorem pow_step {i : Nat} (h : i ≤ 8) : 128 ^ i * 128 ≤ 9223372036854775808 := by
  rw [← Nat.pow_succ]; exact pow_le (by omega)
theorem pow_pos' (i : Nat) : 0 < 128 ^ i := Nat.pow_pos (by decide)

theorem split_num (z p : Nat) : z % 128 * p + z / 128 * (p * 128) = z * p := by
  have h : z = 128 * (z / 128) + z % 128 := by omega
  have hh : z % 128 * p + z / 128 * (p * 128) = (128 * (z / 128) + z % 128) * p := by
    rw [Nat.add_mul, Nat.mul_comm p 128, ← Nat.mul_assoc, Nat.mul_comm (z / 128) 128]; omega
  rw [← h] at hh
  exact hh

/-- Taking what was put, whatever is behind. -/
theorem take_put (f : Nat) : ∀ (z i a : Nat) (X : List UInt8), i + f = 9 → z * 128 ^ i < 18446744073709551616 → (i = 0 ∨ z ≠ 0) →
    takeL (putF f z ++ X) i a = (unzz (a + z * 128 ^ i), i + (putF f z).length, 0) := by
  induction f with
  | zero =>
    intro z i a X hi hz h0
    obtain rfl : i = 9 := by omega
    rw [pow9] at hz
    obtain rfl : z = 1 := by omega
    simp [putF, takeL]
  | succ f ih =>
    intro z i a X hi hz h0
    have hi9 : ¬ i = 9 := by omega
    by_cases hs : z < 128
    · have hb : (UInt8.ofNat z).toNat = z := byte_nat z (by omega)
      have hbad : ¬ ((i = 9 ∧ 1 < (UInt8.ofNat z).toNat) ∨ (0 < i ∧ (UInt8.ofNat z).toNat = 0)) := by rw [hb]; omega
      have hm : z % 128 = z := Nat.mod_eq_of_lt hs
      unfold putF
      rw [if_pos hs]
      simp only [List.cons_append, List.nil_append, takeL]
      rw [if_neg hbad, hb, if_pos hs, hm]
      simp
    · have hb : (UInt8.ofNat (z % 128 + 128)).toNat = z % 128 + 128 := byte_nat _ (by omega)
      have hbad : ¬ ((i = 9 ∧ 1 < (UInt8.ofNat (z % 128 + 128)).toNat) ∨ (0 < i ∧ (UInt8.ofNat (z % 128 + 128)).toNat = 0)) := by rw [hb]; omega
      have hsp := split_num z (128 ^ i)
      have hlt : ¬ z % 128 + 128 < 128 := by omega
      have hmod : (z % 128 + 128) % 128 = z % 128 := by omega
      unfold putF
      rw [if_neg hs]
      simp only [List.cons_append, takeL]
      rw [if_neg hbad, hb, if_neg hlt, hmod, ih (z / 128) (i + 1) _ X (by omega) (by rw [Nat.pow_succ]; omega) (by right; omega), Nat.pow_succ, Nat.add_assoc, hsp]
      simp only [List.length_cons, Prod.mk.injEq, and_true, true_and]
      omega

/-- A beginning that is not the whole ends too early. -/
theorem take_cut (f : Nat) : ∀ (z i a j : Nat), i + f = 9 → z * 128 ^ i < 18446744073709551616 → (i = 0 ∨ z ≠ 0) → j < (putF f z).length →
    takeL ((putF f z).take j) i a = (0, 0, 3) := by
  induction f with
  | zero =>
    intro z i a j hi hz h0 hj
    obtain rfl : j = 0 := by simpa [putF] using hj
    simp [takeL]
  | succ f ih =>
    intro z i a j hi hz h0 hj
    by_cases hs : z < 128
    · unfold putF at hj ⊢
      rw [if_pos hs] at hj ⊢
      obtain rfl : j = 0 := by simpa using hj
      simp [takeL]
    · have hb : (UInt8.ofNat (z % 128 + 128)).toNat = z % 128 + 128 := byte_nat _ (by omega)
      have hbad : ¬ ((i = 9 ∧ 1 < (UInt8.ofNat (z % 128 + 128)).toNat) ∨ (0 < i ∧ (UInt8.ofNat (z % 128 + 128)).toNat = 0)) := by rw [hb]; omega
      have hsp := split_num z (128 ^ i)
      have hlt : ¬ z % 128 + 128 < 128 := by omega
      unfold putF at hj ⊢
      rw [if_neg hs] at hj ⊢
      cases j with
      | zero => simp [takeL]
      | succ j =>
        simp only [List.take_succ_cons, takeL]
        rw [if_neg hbad, hb, if_neg hlt]
        exact ih (z / 128) (i + 1) _ j (by omega) (by rw [Nat.pow_succ]; omega) (by right; omega) (by simpa using hj)

/-- What was taken is what the number is put as. -/
theorem take_sound : ∀ (L : List UInt8) (i a : Nat) (m : Int) (k : Nat), i ≤ 9 → a < 128 ^ i → takeL L i a = (m, k, 0) →
    i + 1 ≤ k ∧ k - i ≤ L.length ∧ k ≤ 10 ∧ ∃ z, L.take (k - i) = putF (9 - i) z ∧ m = unzz (a + z * 128 ^ i) ∧ a + z * 128 ^ i < 18446744073709551616 ∧ (0 < i → z ≠ 0)
  | [], i, a, m, k, _, _, h => by simp [takeL] at h
  | c :: r, i, a, m, k, hi, ha, h => by
    unfold takeL at h
    by_cases hbad : (i = 9 ∧ 1 < c.toNat) ∨ (0 < i ∧ c.toNat = 0)
    · rw [if_pos hbad] at h; simp at h
    · rw [if_neg hbad] at h
      have hc := c.toNat_lt
      have hp := pow_le hi
      have hpp := pow_pos' i
      by_cases hs : c.toNat < 128
      · rw [if_pos hs] at h
        simp only [Prod.mk.injEq, and_true] at h
        obtain ⟨rfl, rfl⟩ := h
        have hm : c.toNat % 128 = c.toNat := Nat.mod_eq_of_lt hs
        have hone : i + 1 - i = 1 := by omega
        refine ⟨Nat.le_refl _, by simp, by omega, c.toNat, ?_, by rw [hm], ?_, by omega⟩
        · rw [hone]
          simp only [List.take_succ_cons, List.take_zero]
          have hbk : UInt8.ofNat c.toNat = c := by simp
          cases hf : 9 - i with
          | zero => unfold putF; rw [hbk]
          | succ f => unfold putF; rw [if_pos hs, hbk]
        · by_cases h9 : i = 9
          · subst h9
            have h1 : c.toNat ≤ 1 := by omega
            have : c.toNat * 128 ^ 9 ≤ 1 * 128 ^ 9 := Nat.mul_le_mul_right _ h1
            rw [pow9] at this ha ⊢
            omega
          · have h8 := pow_step (i := i) (by omega)
            have : c.toNat * 128 ^ i ≤ 127 * 128 ^ i := Nat.mul_le_mul_right _ (by omega)
            omega
      · rw [if_neg hs] at h
        have h8 : i ≤ 8 := by omega
        have ha2 : a + c.toNat % 128 * 128 ^ i < 128 ^ (i + 1) := by
          have : c.toNat % 128 * 128 ^ i ≤ 127 * 128 ^ i := Nat.mul_le_mul_right _ (by omega)
          rw [Nat.pow_succ]
          omega
        obtain ⟨k1, k2, k3, z, e1, e2, e3, e4⟩ := take_sound r (i + 1) _ m k (by omega) ha2 h
        have hz := e4 (by omega)
        have hdm : (c.toNat % 128 + 128 * z) % 128 = c.toNat % 128 ∧ (c.toNat % 128 + 128 * z) / 128 = z := by omega
        have hsp := split_num (c.toNat % 128 + 128 * z) (128 ^ i)
        rw [hdm.1, hdm.2] at hsp
        rw [Nat.pow_succ, Nat.add_assoc, hsp] at e2 e3
        refine ⟨by omega, by simp only [List.length_cons]; omega, k3, c.toNat % 128 + 128 * z, ?_, e2, e3, by omega⟩
        obtain ⟨d, rfl⟩ : ∃ d, k = i + 1 + d := ⟨k - (i + 1), by omega⟩
        have hk1 : i + 1 + d - i = d + 1 := by omega
        have hk2 : i + 1 + d - (i + 1) = d := by omega
        have hf : 9 - i = (8 - i) + 1 := by omega
        have hf2 : 9 - (i + 1) = 8 - i := by omega
        rw [hk2, hf2] at e1
        rw [hk1, hf]
        unfold putF
        rw [if_neg (by omega), hdm.1, hdm.2, List.take_succ_cons, e1]
        congr 1
        have hcc : c.toNat % 128 + 128 = c.toNat := by omega
        rw [hcc]; simp

/-- A taking gives, or fails. -/
theorem take_cases : ∀ (L : List UInt8) (i a : Nat), (∃ m k, takeL L i a = (m, k, 0)) ∨ takeL L i a = (0, 0, 3) ∨ takeL L i a = (0, 0, 4)
  | [], _, _ => Or.inr (Or.inl rfl)
  | c :: r, i, a => by
    unfold takeL
    split
    · exact Or.inr (Or.inr rfl)
    · split
      · exact Or.inl ⟨_, _, rfl⟩
      · exact take_cases r _ _

/-- The bytes L begin with the number m, in k bytes. -/
def Gives (L : List UInt8) (m : Int) (k : Nat) : Prop := takeL L 0 0 = (m, k, 0)
/-- They begin with none, for the reason e. -/
def Fails (L : List UInt8) (e : Int) : Prop := takeL L 0 0 = (0, 0, e) ∧ (e = 3 ∨ e = 4)
theorem gives_or_fails (L : List UInt8) : (∃ m k, Gives L m k) ∨ ∃ e, Fails L e := by
  rcases take_cases L 0 0 with h | h | h
  · exact Or.inl h
  · exact Or.inr ⟨3, h, Or.inl rfl⟩
  · exact Or.inr ⟨4, h, Or.inr rfl⟩
theorem gives_put {n : Int} (h0 : -9223372036854775808 ≤ n) (h1 : n ≤ 9223372036854775807) (X : List UInt8) : Gives (putL n ++ X) n (putL n).length := by
  have h := take_put 9 (zz n) 0 0 X rfl (by have := zz_lt h0 h1; simpa using this) (Or.inl rfl)
  unfold Gives putL
  rw [h]
  simp [unzz_zz]
theorem fails_cut {n : Int} (h0 : -9223372036854775808 ≤ n) (h1 : n ≤ 9223372036854775807) (j : Nat) (hj : j < (putL n).length) : Fails ((putL n).take j) 3 :=
  ⟨take_cut 9 (zz n) 0 0 j rfl (by have := zz_lt h0 h1; simpa using this) (Or.inl rfl) hj, Or.inl rfl⟩
theorem Gives.put {L : List UInt8} {m : Int} {k : Nat} (h : Gives L m k) : 1 ≤ k ∧ k ≤ 10 ∧ k ≤ L.length ∧ L.take k = putL m ∧ -9223372036854775808 ≤ m ∧ m ≤ 9223372036854775807 := by
  obtain ⟨k1, k2, k3, z, e1, e2, e3, _⟩ := take_sound L 0 0 m k (by omega) (by simp) h
  simp only [Nat.sub_zero, Nat.pow_zero, Nat.mul_one, Nat.zero_add] at e1 e2 e3 k2 k1
  refine ⟨k1, k3, k2, ?_, ?_⟩
  · rw [e1, e2]; unfold putL; rw [zz_unzz]
  · rw [e2]; exact unzz_in e3
theorem Gives.same {L : List UInt8} {m m' : Int} {k k' : Nat} (h : Gives L m k) (h' : Gives L m' k') : m = m' ∧ k = k' := by
  have := h.symm.trans h'
  simp only [Prod.mk.injEq, and_true] at this
  exact this
end Go.Proofs.YtccajbgdlicbnaaDoor

/- What is kept when all but some blocks may have turned ('Off'); blocks that are known by their cells; a store of what lies there already. Nothing of the program is named here. -/
namespace Go.Proofs.YtccajbgdlicbnaaDoor
open Go.RowKit (wrap64 intOf Below)
set_option linter.unusedVariables false

structure Off (X : Nat → Prop) (w w' : World) : Prop where
  os : w'.os = w.os
  tape : w'.tape = w.tape
  output : w'.output = w.output
  size : w.heap.size ≤ w'.heap.size
  block : ∀ k, k < w.heap.size → ¬ X k → w'.heap[k]? = w.heap[k]?
section
variable {X Y : Nat → Prop} {a b c w w' : World}
theorem Off.refl (X : Nat → Prop) (w : World) : Off X w w := ⟨rfl, rfl, rfl, Nat.le_refl _, fun _ _ _ => rfl⟩
theorem Off.trans (h : Off X a b) (k : Off X b c) : Off X a c :=
  ⟨k.os.trans h.os, k.tape.trans h.tape, k.output.trans h.output, Nat.le_trans h.size k.size, fun i hi hx => (k.block i (Nat.lt_of_lt_of_le hi h.size) hx).trans (h.block i hi hx)⟩
/-- The second step may turn what has been made since, too. -/
theorem Off.trans_new (h : Off X a b) (k : Off Y b c) (hY : ∀ i, Y i → X i ∨ a.heap.size ≤ i) : Off X a c :=
  ⟨k.os.trans h.os, k.tape.trans h.tape, k.output.trans h.output, Nat.le_trans h.size k.size, fun i hi hx => (k.block i (Nat.lt_of_lt_of_le hi h.size) (fun hy => by rcases hY i hy with h' | h' <;> first | exact hx h' | omega)).trans (h.block i hi hx)⟩
theorem Off.mono (h : Off X a b) (hY : ∀ i, i < a.heap.size → X i → Y i) : Off Y a b :=
  ⟨h.os, h.tape, h.output, h.size, fun i hi hy => h.block i hi (fun hx => hy (hY i hi hx))⟩
theorem Off.of_below {B : Nat} (h : Below B a b) (hB : ∀ i, B ≤ i → i < a.heap.size → X i) : Off X a b :=
  ⟨h.os, h.tape, h.output, h.size, fun i hi hx => h.block i (Nat.lt_of_not_le fun h' => hx (hB i h' hi))⟩
theorem Off.since (h : Below a.heap.size a b) : Off X a b := Off.of_below h (fun i h1 h2 => absurd h2 (by omega))
theorem Off.below {B : Nat} (h : Off X a b) (hB : B ≤ a.heap.size) (hX : ∀ i, X i → B ≤ i) : Below B a b :=
  ⟨h.os, h.tape, h.output, h.size, fun i hi => h.block i (by omega) (fun hx => by have := hX i hx; omega)⟩
theorem Off.drew (h : Off X a b) : Off X a b.drew := ⟨h.os, h.tape, h.output, h.size, h.block⟩
theorem Off.drewN (h : Off X a b) (n : Nat) : Off X a (b.drewN n) := ⟨h.os, h.tape, h.output, h.size, h.block⟩
theorem Off.alloc (h : Off X a b) (o : Obj) : Off X a (b.alloc o) := h.trans (Off.since ((Below.refl _ _).alloc (Nat.le_refl _) o))
theorem Off.setCell (h : Off X a b) {p : Addr} (hp : X p.block ∨ a.heap.size ≤ p.block) (u : Value) : Off X a (b.setCell p u) :=
  ⟨h.os, h.tape, h.output, by simp only [World.setCell, Array.size_modify]; exact h.size, fun k hk hx => (Below.heap_setCell _ _ _ _ (fun e => by subst e; rcases hp with h' | h' <;> first | exact hx h' | omega)).trans (h.block k hk hx)⟩
theorem Off.grown {row : Option Nat} (h : Off X a b) (hg : b.grownBy c row) (hr : ∀ k, row = some k → X k ∨ a.heap.size ≤ k) : Off X a c :=
  h.trans_new (Y := fun k => row = some k) ⟨hg.os, hg.tape, hg.output, hg.size, fun k hk hx => hg.block k hk (fun e => hx e.symm)⟩ (fun i hi => hr i hi)
theorem Off.cell (h : Off X a b) {p : Addr} (hp : p.block < a.heap.size) (hx : ¬ X p.block) : b.cell? p = a.cell? p := World.cell?_of_block (h.block _ hp hx)
theorem Off.frozen (h : Off X a b) {p : Addr} (hp : p.block < a.heap.size) (hx : ¬ X p.block) : b.frozen? p = a.frozen? p := World.frozen?_of_block (h.block _ hp hx)
end

/-- A store of what lies there already turns nothing. -/
theorem setCell_same {w : World} {p : Addr} {v : Value} (h : w.cell? p = some v) : w.setCell p v = w := by
  have hh : (w.setCell p v).heap = w.heap := by
    apply Array.ext
    · simp [World.setCell]
    · intro i h1 h2
      simp only [World.setCell, Array.getElem_modify]
      split
      · rename_i he
        subst he
        unfold World.cell? at h
        rw [Array.getElem?_eq_getElem h2] at h
        revert h
        split
        · rename_i c e f hc
          intro h
          simp only [Option.some.injEq] at hc
          rw [hc]
          split at h
          · cases h
          · rename_i hs
            simp only [hs, if_false, Bool.false_eq_true]
            congr 1
            obtain ⟨hlt, rfl⟩ := Array.getElem?_eq_some_iff.1 h
            rw [Array.setIfInBounds_def, dif_pos hlt, Array.set_getElem_self]
        · intro h; cases h
      · rfl
  cases w
  simp only [World.setCell] at hh ⊢
  rw [hh]

/-- Block g's cells from off on are cs, and may be written. -/
def WinAt (w : World) (g off : Nat) (cs : List Value) : Prop :=
  ∃ cur T, w.heap[g]? = some (.cells cur T (0, 0)) ∧ ∀ j (h : j < cs.length), cur[off + j]? = some cs[j]
section
variable {w w' : World} {g off : Nat} {cs : List Value}
theorem WinAt.cell (h : WinAt w g off cs) {j : Nat} (hj : j < cs.length) : w.cell? ⟨g, off + j, none⟩ = some cs[j] := by
  obtain ⟨cur, T, hg, hc⟩ := h
  simp only [World.cell?, hg, Option.isSome_none, Bool.false_eq_true, if_false]
  exact hc j hj
theorem WinAt.free (h : WinAt w g off cs) (o : Nat) : w.frozen? ⟨g, o, none⟩ = false := by
  obtain ⟨cur, T, hg, hc⟩ := h
  simp [World.frozen?, hg]
theorem WinAt.lt (h : WinAt w g off cs) : g < w.heap.size := by
  obtain ⟨cur, T, hg, hc⟩ := h
  exact (Array.getElem?_eq_some_iff.1 hg).1
theorem WinAt.kept (h : WinAt w g off cs) (hb : w'.heap[g]? = w.heap[g]?) : WinAt w' g off cs := by
  obtain ⟨cur, T, hg, hc⟩ := h
  exact ⟨cur, T, hb.trans hg, hc⟩
theorem WinAt.stays {X : Nat → Prop} (h : WinAt w g off cs) (ho : Off X w w') (hx : ¬ X g) : WinAt w' g off cs := h.kept (ho.block g h.lt hx)
/-- A part of it. -/
theorem WinAt.part (h : WinAt w g off cs) (k n : Nat) (hk : k + n ≤ cs.length) : WinAt w g (off + k) ((cs.drop k).take n) := by
  obtain ⟨cur, T, hg, hc⟩ := h
  refine ⟨cur, T, hg, fun j hj => ?_⟩
  simp only [List.length_take, List.length_drop] at hj
  rw [Nat.add_assoc, hc (k + j) (by omega)]
  simp
end
theorem flatten_at {α : Type} {k : Nat} : ∀ (css : List (List α)), (∀ cs ∈ css, cs.length = k) → ∀ i (hi : i < css.length) j (hj : j < css[i].length), css.flatten[i * k + j]? = some css[i][j]
  | [], _, i, hi, _, _ => by simp at hi
  | cs :: css, hk, 0, hi, j, hj => by
    simp only [List.getElem_cons_zero] at hj
    simp only [List.flatten_cons, Nat.zero_mul, Nat.zero_add, List.getElem_cons_zero]
    rw [List.getElem?_append_left hj, List.getElem?_eq_getElem hj]
  | cs :: css, hk, i + 1, hi, j, hj => by
    have h0 : cs.length = k := hk cs (by simp)
    simp only [List.getElem_cons_succ] at hj
    have ih := flatten_at css (fun c hc => hk c (by simp [hc])) i (by simpa using hi) j hj
    simp only [List.flatten_cons, List.getElem_cons_succ]
    rw [List.getElem?_append_right (by rw [h0, Nat.succ_mul]; omega), h0, show (i + 1) * k + j - k = i * k + j by rw [Nat.succ_mul]; omega]
    exact ih
theorem flatten_len {α : Type} {k : Nat} : ∀ (css : List (List α)), (∀ cs ∈ css, cs.length = k) → css.flatten.length = css.length * k
  | [], _ => by simp
  | cs :: css, hk => by
    have ih := flatten_len css (fun c hc => hk c (by simp [hc]))
    simp only [List.flatten_cons, List.length_append, List.length_cons, ih, hk cs (by simp), Nat.succ_mul]
    omega
/-- A row of the call's own, element by element: block, and where. -/
theorem ownsRow_win {w : World} {base : Nat} {e : TypeId} {k : Nat} {v : Value} {n : Nat} {css : List (List Value)} (h : w.ownsRow base e k v n css.flatten) (hk : ∀ cs ∈ css, cs.length = k) {g : Nat} (hg : v.ownBlock = some g) {i : Nat} (hi : i < css.length) : WinAt w g (i * k) css[i] := by
  rcases h.2 with ⟨rfl, _⟩ | ⟨g', cap, cur, rfl, _, hgg, _, _, _, htake⟩
  · simp [Value.ownBlock] at hg
  · simp [Value.ownBlock] at hg
    subst hg
    refine ⟨cur, e, hgg, fun j hj => ?_⟩
    have hlen : css[i].length = k := hk _ (List.getElem_mem hi)
    have hfl := flatten_at css hk i hi j hj
    rw [← htake, List.getElem?_take] at hfl
    split at hfl
    · simpa using hfl
    · cases hfl
end Go.Proofs.YtccajbgdlicbnaaDoor

/- A program (api.Prog) in memory of the call's own, to its depth: what its lists hold, and in which blocks these lie. -/
namespace Go.Proofs.YtccajbgdlicbnaaDoor
open Go.RowKit (wrap64 intOf Below)
set_option linter.unusedVariables false

/-- A slice of numbers of the call's own, in a block of S. -/
def NumsO (w : World) (S : Nat → Prop) (v : Value) (Z : List Int) : Prop :=
  OwnsI w 0 3 v Z ∧ (∀ b, v.ownBlock = some b → S b) ∧ Z.length * 8 ≤ 140737488351232 ∧ ∀ z ∈ Z, InR z
/-- A slice of structs of k cells each, of the call's own. -/
def RowO {α : Type} (T k : Nat) (Q : World → (Nat → Prop) → List Value → α → Prop) (w : World) (S : Nat → Prop) (v : Value) (xs : List α) : Prop :=
  ∃ css : List (List Value), w.ownsRow 0 T k v xs.length css.flatten ∧ css.length = xs.length ∧ (∀ cs ∈ css, cs.length = k) ∧ (∀ b, v.ownBlock = some b → S b) ∧ xs.length ≤ 140737488351232 ∧
    ∀ i (h : i < xs.length) (h' : i < css.length), Q w (fun b => S b ∧ v.ownBlock ≠ some b) css[i] xs[i]
def OpO (w : World) (S : Nat → Prop) (cs : List Value) (x : OpD) : Prop :=
  ∃ l, cs = [.int .i64 x.K, .int .i64 x.A, .int .i64 x.B, .int .i64 x.C, .int .i64 x.N, .string x.S, l, .bool x.T] ∧ InR x.K ∧ InR x.A ∧ InR x.B ∧ InR x.C ∧ InR x.N ∧ x.S.size ≤ 140737488351232 ∧ NumsO w S l x.L
def EndO (w : World) (S : Nat → Prop) (cs : List Value) (x : EndD) : Prop :=
  ∃ l m, cs = [.int .i64 x.K, .int .i64 x.A, .int .i64 x.To, .int .i64 x.Else, l, m] ∧ InR x.K ∧ InR x.A ∧ InR x.To ∧ InR x.Else ∧ NumsO w S l x.L ∧ NumsO w S m x.M
def BlockO (w : World) (S : Nat → Prop) (cs : List Value) (x : BlockD) : Prop :=
  ∃ p o es, cs = p :: o :: es ∧ NumsO w S p x.params ∧ RowO 50 8 OpO w S o x.ops ∧ EndO w S es x.fin
def FuncO (w : World) (S : Nat → Prop) (cs : List Value) (x : FuncD) : Prop := ∃ b, cs = [.int .i64 x.ret, b] ∧ InR x.ret ∧ RowO 48 8 BlockO w S b x.blocks
def SigO (w : World) (S : Nat → Prop) (cs : List Value) (x : SigD) : Prop := ∃ p, cs = [p, .int .i64 x.ret] ∧ NumsO w S p x.params ∧ InR x.ret
def ClassO (w : World) (S : Nat → Prop) (cs : List Value) (x : ClassD) : Prop := ∃ f m, cs = [f, m] ∧ NumsO w S f x.fields ∧ NumsO w S m x.methods
def ProgO (w : World) (S : Nat → Prop) (cs : List Value) (x : ProgD) : Prop := ∃ s c f, cs = [s, c, f] ∧ RowO 41 2 SigO w S s x.sigs ∧ RowO 43 2 ClassO w S c x.classes ∧ RowO 34 2 FuncO w S f x.funcs

/-- What keeps the blocks of S keeps what is read of them; and S may grow by blocks that are not there. -/
def Holds {α : Type} (Q : World → (Nat → Prop) → List Value → α → Prop) : Prop :=
  ∀ (w w' : World) (S S' : Nat → Prop) (cs : List Value) (x : α), (∀ b, b < w.heap.size → S b → w'.heap[b]? = w.heap[b]? ∧ S' b) → Q w S cs x → Q w' S' cs x
theorem ownsRow_heap {w w' : World} {base e k : Nat} {v : Value} {n : Nat} {xs : List Value} (h : w.ownsRow base e k v n xs) (hb : ∀ b, v.ownBlock = some b → b < w.heap.size → w'.heap[b]? = w.heap[b]?) : w'.ownsRow base e k v n xs := by
  refine ⟨h.1, ?_⟩
  rcases h.2 with hn | ⟨g, cap, cur, rfl, hg, hh, rest⟩
  · exact .inl hn
  · exact .inr ⟨g, cap, cur, rfl, hg, by rw [hb g rfl (Array.getElem?_eq_some_iff.1 hh).1]; exact hh, rest⟩
theorem NumsO.holds {w w' : World} {S S' : Nat → Prop} {v : Value} {Z : List Int} (hb : ∀ b, b < w.heap.size → S b → w'.heap[b]? = w.heap[b]? ∧ S' b) (h : NumsO w S v Z) : NumsO w' S' v Z := by
  obtain ⟨h1, h2, h3⟩ := h
  exact ⟨ownsRow_heap h1 (fun b hv hlt => (hb b hlt (h2 b hv)).1), fun b hv => (hb b (h1.lt b hv).2 (h2 b hv)).2, h3⟩
theorem RowO.holds {α : Type} {T k : Nat} {Q : World → (Nat → Prop) → List Value → α → Prop} (hQ : Holds Q) {w w' : World} {S S' : Nat → Prop} {v : Value} {xs : List α} (hb : ∀ b, b < w.heap.size → S b → w'.heap[b]? = w.heap[b]? ∧ S' b) (h : RowO T k Q w S v xs) : RowO T k Q w' S' v xs := by
  obtain ⟨css, h1, h2, h3, h4, h5, h6⟩ := h
  exact ⟨css, ownsRow_heap h1 (fun b hv hlt => (hb b hlt (h4 b hv)).1), h2, h3, fun b hv => (hb b (h1.lt b hv).2 (h4 b hv)).2, h5, fun i hi hi' => hQ _ _ _ _ _ _ (fun b hlt hs => ⟨(hb b hlt hs.1).1, (hb b hlt hs.1).2, hs.2⟩) (h6 i hi hi')⟩
theorem OpO.holds : Holds OpO := fun _ _ _ _ _ _ hb ⟨l, e, h1, h2, h3, h4, h5, h6, h⟩ => ⟨l, e, h1, h2, h3, h4, h5, h6, h.holds hb⟩
theorem EndO.holds : Holds EndO := fun _ _ _ _ _ _ hb ⟨l, m, e, h1, h2, h3, h4, h, h'⟩ => ⟨l, m, e, h1, h2, h3, h4, h.holds hb, h'.holds hb⟩
theorem BlockO.holds : Holds BlockO := fun _ _ _ _ _ _ hb ⟨p, o, es, e, h1, h2, h3⟩ => ⟨p, o, es, e, h1.holds hb, h2.holds OpO.holds hb, EndO.holds _ _ _ _ _ _ hb h3⟩
theorem FuncO.holds : Holds FuncO := fun _ _ _ _ _ _ hb ⟨b, e, h1, h2⟩ => ⟨b, e, h1, h2.holds BlockO.holds hb⟩
theorem SigO.holds : Holds SigO := fun _ _ _ _ _ _ hb ⟨p, e, h1, h2⟩ => ⟨p, e, h1.holds hb, h2⟩
theorem ClassO.holds : Holds ClassO := fun _ _ _ _ _ _ hb ⟨f, m, e, h1, h2⟩ => ⟨f, m, e, h1.holds hb, h2.holds hb⟩
theorem ProgO.holds : Holds ProgO := fun _ _ _ _ _ _ hb ⟨s, c, f, e, h1, h2, h3⟩ => ⟨s, c, f, e, h1.holds SigO.holds hb, h2.holds ClassO.holds hb, h3.holds FuncO.holds hb⟩
theorem Holds.off {α : Type} {Q : World → (Nat → Prop) → List Value → α → Prop} (hQ : Holds Q) {X : Nat → Prop} {w w' : World} {S : Nat → Prop} {cs : List Value} {x : α} (h : Q w S cs x) (ho : Off X w w') (hx : ∀ b, S b → ¬ X b) : Q w' S cs x :=
  hQ _ _ _ _ _ _ (fun b hlt hs => ⟨ho.block b hlt (hx b hs), hs⟩) h
theorem Holds.wider {α : Type} {Q : World → (Nat → Prop) → List Value → α → Prop} (hQ : Holds Q) {w : World} {S S' : Nat → Prop} {cs : List Value} {x : α} (h : Q w S cs x) (hs : ∀ b, b < w.heap.size → S b → S' b) : Q w S' cs x :=
  hQ _ _ _ _ _ _ (fun b hlt hh => ⟨rfl, hs b hlt hh⟩) h
theorem NumsO.off {X : Nat → Prop} {w w' : World} {S : Nat → Prop} {v : Value} {Z : List Int} (h : NumsO w S v Z) (ho : Off X w w') (hx : ∀ b, S b → ¬ X b) : NumsO w' S v Z :=
  h.holds (fun b hlt hs => ⟨ho.block b hlt (hx b hs), hs⟩)
theorem NumsO.wider {w : World} {S S' : Nat → Prop} {v : Value} {Z : List Int} (h : NumsO w S v Z) (hs : ∀ b, b < w.heap.size → S b → S' b) : NumsO w S' v Z :=
  h.holds (fun b hlt hh => ⟨rfl, hs b hlt hh⟩)
theorem RowO.off {α : Type} {T k : Nat} {Q : World → (Nat → Prop) → List Value → α → Prop} (hQ : Holds Q) {X : Nat → Prop} {w w' : World} {S : Nat → Prop} {v : Value} {xs : List α} (h : RowO T k Q w S v xs) (ho : Off X w w') (hx : ∀ b, S b → ¬ X b) : RowO T k Q w' S v xs :=
  h.holds hQ (fun b hlt hs => ⟨ho.block b hlt (hx b hs), hs⟩)
theorem RowO.wider {α : Type} {T k : Nat} {Q : World → (Nat → Prop) → List Value → α → Prop} (hQ : Holds Q) {w : World} {S S' : Nat → Prop} {v : Value} {xs : List α} (h : RowO T k Q w S v xs) (hs : ∀ b, b < w.heap.size → S b → S' b) : RowO T k Q w S' v xs :=
  h.holds hQ (fun b hlt hh => ⟨rfl, hs b hlt hh⟩)

/-- What is the call's own is read as what came in is. -/
def ReadsAs {α : Type} (Q : World → (Nat → Prop) → List Value → α → Prop) (R : World → List Value → α → Prop) : Prop := ∀ (w : World) (S : Nat → Prop) (cs : List Value) (x : α), Q w S cs x → R w cs x
theorem NumsO.reads {w : World} {S : Nat → Prop} {v : Value} {Z : List Int} (h : NumsO w S v Z) : NumsV w v Z := by
  obtain ⟨h1, h2, h3, h4⟩ := h
  obtain ⟨a, n, c, rfl, hat⟩ := h1.nums
  refine ⟨a, n, c, rfl, hat, fun ha => ?_, by rw [← hat.1]; exact h3, h4⟩
  subst ha
  rcases h1.2 with ⟨he, _⟩ | ⟨g, cap, cur, he, _⟩
  · cases he; rfl
  · cases he
theorem RowO.reads {α : Type} {T k : Nat} {Q : World → (Nat → Prop) → List Value → α → Prop} {R : World → List Value → α → Prop} (hR : ReadsAs Q R) {w : World} {S : Nat → Prop} {v : Value} {xs : List α} (h : RowO T k Q w S v xs) : RowV R k w v xs := by
  obtain ⟨css, h1, h2, h3, h4, h5, h6⟩ := h
  have hown := h1
  rcases h1.2 with ⟨rfl, h0⟩ | ⟨g, cap, cur, rfl, hB, hg, hc1, hc2, _⟩
  · exact ⟨none, 0, 0, rfl, h0, fun _ => rfl, by omega, fun h => absurd h (by omega)⟩
  · refine ⟨_, _, cap, rfl, rfl, (fun h => by cases h), by omega, fun _ => ⟨g, 0, rfl, (Array.getElem?_eq_some_iff.1 hg).1, fun i hi => ?_⟩⟩
    have hi' : i < css.length := by omega
    refine ⟨css[i], h3 _ (List.getElem_mem hi'), fun j hj => ?_, hR _ _ _ _ (h6 i hi hi')⟩
    rw [Nat.zero_add]
    exact (ownsRow_win hown h3 rfl hi').cell hj
theorem OpO.reads : ReadsAs OpO OpQ := fun _ _ _ _ ⟨l, e, h1, h2, h3, h4, h5, h6, h⟩ => ⟨l, e, h1, h2, h3, h4, h5, h6, h.reads⟩
theorem EndO.reads : ReadsAs EndO EndQ := fun _ _ _ _ ⟨l, m, e, h1, h2, h3, h4, h, h'⟩ => ⟨l, m, e, h1, h2, h3, h4, h.reads, h'.reads⟩
theorem BlockO.reads : ReadsAs BlockO BlockQ := fun _ _ _ _ ⟨p, o, es, e, h1, h2, h3⟩ => ⟨p, o, es, e, h1.reads, h2.reads OpO.reads, EndO.reads _ _ _ _ h3⟩
theorem FuncO.reads : ReadsAs FuncO FuncQ := fun _ _ _ _ ⟨b, e, h1, h2⟩ => ⟨b, e, h1, h2.reads BlockO.reads⟩
theorem SigO.reads : ReadsAs SigO SigQ := fun _ _ _ _ ⟨p, e, h1, h2⟩ => ⟨p, e, h1.reads, h2⟩
theorem ClassO.reads : ReadsAs ClassO ClassQ := fun _ _ _ _ ⟨f, m, e, h1, h2⟩ => ⟨f, m, e, h1.reads, h2.reads⟩
theorem ProgO.reads : ReadsAs ProgO ProgQ := fun _ _ _ _ ⟨s, c, f, e, h1, h2, h3⟩ => ⟨s, c, f, e, h1.reads SigO.reads, h2.reads ClassO.reads, h3.reads FuncO.reads⟩
end Go.Proofs.YtccajbgdlicbnaaDoor

/- Layer 3, P3.1: wire.Put and the document's Put, walked: they are the bytes ahead, and the number's. -/
namespace Go.Proofs.YtccajbgdlicbnaaDoor
open Go.RowKit (wrap64 intOf Below)
set_option linter.unusedVariables false

theorem size_u8 (w : World) : (sizeOf 5).run Tryd.prog w = .ok 1 w := size_of_one info_u8 w

/-- A slice of bytes of the call's own comes back. -/
def BytesPost (B : Nat) (L : List UInt8) (w : World) (e : Ending) (w' : World) : Prop :=
  ∃ va vn vc, e = .returned (.slice va vn vc) ∧ OwnsB w' B 5 (.slice va vn vc) L ∧ Below B w w'
theorem OwnsB.read {w : World} {B : Nat} {e : TypeId} {a : Option Addr} {n c : Nat} {l : List UInt8} (h : OwnsB w B e (.slice a n c) l) : BytesAt w a n c l := by
  obtain ⟨a', n', c', he, hat⟩ := h.at
  cases he
  exact hat

/-- A byte that goes on, and the last one. -/
def goOn (y : Nat) : UInt8 := UInt8.ofNat (y % 128 + 128)
theorem goOn_or (y : Nat) : bits BinOp.or IntKind.u8 ((y : Int) % 256) 128 = ((goOn y).toNat : Int) := by
  have H : ∀ k : Fin 256, bits BinOp.or IntKind.u8 (k.val : Int) 128 = ((k.val % 128 + 128 : Nat) : Int) := by decide +kernel
  have h := H ⟨y % 256, by omega⟩
  have e1 : ((y : Int) % 256) = (((y % 256 : Nat)) : Int) := by omega
  have e2 : y % 256 % 128 = y % 128 := by omega
  rw [e1, h]
  unfold goOn
  rw [byte_nat _ (by omega)]
  simp only
  rw [e2]
/-- y is left, and f more bytes may come. -/
def Room (f y : Nat) : Prop := f ≤ 9 ∧ y * 128 ^ (9 - f) < 18446744073709551616
theorem Room.start {n : Int} (h0 : -9223372036854775808 ≤ n) (h1 : n ≤ 9223372036854775807) : Room 9 (zz n) := ⟨Nat.le_refl _, by have := zz_lt h0 h1; simpa using this⟩
theorem Room.more {f y : Nat} (h : Room f y) (hy : 128 ≤ y) : ∃ g, f = g + 1 ∧ putF f y = goOn y :: putF g (y / 128) ∧ Room g (y / 128) := by
  obtain ⟨h1, h2⟩ := h
  cases f with
  | zero => rw [show 9 - 0 = 9 from rfl, pow9] at h2; omega
  | succ g =>
    refine ⟨g, rfl, ?_, by omega, ?_⟩
    · conv => lhs; unfold putF
      rw [if_neg (by omega)]
      rfl
    · have := split_num y (128 ^ (9 - (g + 1)))
      have e : 9 - g = 9 - (g + 1) + 1 := by omega
      rw [e, Nat.pow_succ]
      omega
theorem Room.le {f y : Nat} (h : Room f y) : y ≤ 18446744073709551615 := by
  have h1 := h.2
  have h2 := pow_pos' (9 - f)
  have h3 : y * 1 ≤ y * 128 ^ (9 - f) := Nat.mul_le_mul_left y h2
  omega
theorem Room.last {f y : Nat} (hy : y < 128) : putF f y = [UInt8.ofNat y] := by
  cases f with
  | zero => rfl
  | succ f => unfold putF; rw [if_pos hy]

theorem goOn_rem (y : Nat) : (128 : Int) + (y : Int) % 128 = ((goOn y).toNat : Int) := by
  unfold goOn
  rw [byte_nat _ (by omega)]
  omega

set_option maxRecDepth 100000 in
theorem ref_put (a : Option Addr) (n c : Nat) (L : List UInt8) (m : Int) (w : World) (hat : BytesAt w a n c L) (hn : n + 10 ≤ 140737488355328) (h0 : -9223372036854775808 ≤ m) (h1 : m ≤ 9223372036854775807) :
    Calls Tryd.prog 63 #[.slice a n c, .int .i64 m] w (BytesPost w.heap.size (L ++ putL m) w) := by
  have HLn : L.length + 10 ≤ 140737488355328 := by rw [hat.1]; exact hn
  have HA := Lib.hid hat
  clear hat
  by_cases hneg : m < 0
  all_goals
    have hz : (if m < 0 then 2 * (-1 - m) + 1 else 2 * m) = (zz m : Int) := by unfold zz; split <;> omega
    first | rw [if_pos hneg] at hz | rw [if_neg hneg] at hz
    have HZ := Lib.hid hz
    go_enter Tryd.func63, Tryd.ntmps63
    go_wp2_with (at_builtin; refine wpList_append_read _ rfl _ _ 53 rfl 5 Tryd.underlying53 info_u8 w.heap.size _ [] rfl (OwnsB.empty w 5) (by simp) a n c L rfl (HA.out.below ((Below.refl w.heap.size w).alloc (Nat.le_refl _) _) (Nat.le_refl _)) (by simp; omega) ?_; intro va vn vc w2 hown2 hat2 hb2; have HO := Lib.hid hown2; have HB0 := Lib.hid (((Below.refl w.heap.size w).alloc (Nat.le_refl _) (.cells #[] 5)).trans hb2); clear hown2 hat2 hb2)
    go_loopw [5, 6] (fun bv zv wr => ∃ (f y : Nat) (pre : List UInt8), zv = .int .u64 (y : Int) ∧ pre.length ≤ 9 - f ∧ RowKit.Hid (Room f y) ∧ RowKit.Hid (pre ++ putF f y = putL m) ∧ RowKit.Hid (OwnsB wr w.heap.size 5 bv (L ++ pre)) ∧ RowKit.Hid (Below w.heap.size w wr)) (fun _ zv _ => (intOf zv).toNat)
    case atStart => exact ⟨9, zz m, [], rfl, Nat.zero_le _, Lib.hid (Room.start h0 h1), Lib.hid rfl, Lib.hid (by rw [List.append_nil]; exact HO.out), HB0⟩
    case round =>
      obtain ⟨f, y, pre, rfl, hpl, HR, HP, HW, HB⟩ := hrel
      have hsz := HB.out.size
      have hyle := HR.out.le
      by_cases hlt : 128 ≤ y
      · obtain ⟨g, rfl, hput, hroom⟩ := HR.out.more hlt
        have hg : g + 1 ≤ 9 := HR.out.1
        have hor := goOn_rem y
        have HQ : RowKit.Hid ((pre ++ [goOn y]) ++ putF g (y / 128) = putL m) := Lib.hid (by rw [← HP.out, hput, List.append_assoc]; rfl)
        have HM := Lib.hid hroom
        have HL : RowKit.Hid ((L ++ pre).length + 1 ≤ 140737488355328) := Lib.hid (by rw [List.length_append]; omega)
        have HC : RowKit.Hid (#[Value.int .u8 (128 + (y : Int) % 128)] = ([goOn y].map byteV).toArray) := Lib.hid (by rw [hor]; rfl)
        clear hput hroom hor
        go_wp2_with (at_builtin; refine wpList_append_bytes _ rfl _ _ 53 rfl 5 Tryd.underlying53 info_u8 w.heap.size _ (L ++ pre) rfl HW.out (by omega) _ 1 1 _ [goOn y] rfl (by simp) HC.out rfl HL.out ?_; intro v2 w2 hown2 hb2 hz2)
        have HW2 : RowKit.Hid (OwnsB w2 w.heap.size 5 v2 (L ++ (pre ++ [goOn y]))) := Lib.hid (by rw [← List.append_assoc]; exact hown2)
        have HB2 := Lib.hid (HB.out.trans hb2)
        clear hown2 hb2 hz2
        go_wp2
        go_roundw
        case rel => exact ⟨g, y / 128, pre ++ [goOn y], by go_num, by simp; omega, HM, HQ, HW2, HB2⟩
        case measure => simp [intOf]; omega
      · have hlast : putF f y = [UInt8.ofNat y] := Room.last (by omega)
        have HQ : RowKit.Hid (pre ++ [UInt8.ofNat y] = putL m) := Lib.hid (by rw [← HP.out, hlast])
        have HL : RowKit.Hid ((L ++ pre).length + 1 ≤ 140737488355328) := Lib.hid (by rw [List.length_append]; omega)
        have HC : RowKit.Hid (#[Value.int .u8 (y : Int)] = ([UInt8.ofNat y].map byteV).toArray) := Lib.hid (by simp [byteV]; omega)
        clear hlast
        go_wp2_with (at_builtin; refine wpList_append_bytes _ rfl _ _ 53 rfl 5 Tryd.underlying53 info_u8 w.heap.size _ (L ++ pre) rfl HW.out (by omega) _ 1 1 _ [UInt8.ofNat y] rfl (by simp) HC.out rfl HL.out ?_; intro v2 w2 hown2 hb2 hz2)
        rw [List.append_assoc, HQ.out] at hown2
        obtain ⟨va3, vn3, vc3, rfl, hat⟩ := hown2.at
        have HB2 := Lib.hid (HB.out.trans hb2)
        go_ret
        exact ⟨va3, vn3, vc3, rfl, hown2, HB2.out⟩
end Go.Proofs.YtccajbgdlicbnaaDoor

/- Layer 3, P3.1: wire.first and the document's Take, walked: which number bytes begin with, or why none. -/
namespace Go.Proofs.YtccajbgdlicbnaaDoor
open Go.RowKit (wrap64 intOf Below)
set_option linter.unusedVariables false

theorem drop_at {L : List UInt8} {k : Nat} (h : k < L.length) : L.drop k = L[k] :: L.drop (k + 1) := List.drop_eq_getElem_cons h
theorem step_bad {L : List UInt8} {k z : Nat} (h : k < L.length) (hb : (k = 9 ∧ 1 < L[k].toNat) ∨ (0 < k ∧ L[k].toNat = 0)) : takeL (L.drop k) k z = (0, 0, 4) := by
  rw [drop_at h]; unfold takeL; rw [if_pos hb]
theorem step_last {L : List UInt8} {k z : Nat} (h : k < L.length) (hb : ¬ ((k = 9 ∧ 1 < L[k].toNat) ∨ (0 < k ∧ L[k].toNat = 0))) (hs : L[k].toNat < 128) : takeL (L.drop k) k z = (unzz (z + L[k].toNat % 128 * 128 ^ k), k + 1, 0) := by
  rw [drop_at h]; unfold takeL; rw [if_neg hb, if_pos hs]
theorem step_more {L : List UInt8} {k z : Nat} (h : k < L.length) (hb : ¬ ((k = 9 ∧ 1 < L[k].toNat) ∨ (0 < k ∧ L[k].toNat = 0))) (hs : ¬ L[k].toNat < 128) : takeL (L.drop k) k z = takeL (L.drop (k + 1)) (k + 1) (z + L[k].toNat % 128 * 128 ^ k) := by
  rw [drop_at h]; conv => lhs; unfold takeL
  rw [if_neg hb, if_neg hs]
theorem step_end {L : List UInt8} {k z : Nat} (h : L.length ≤ k) : takeL (L.drop k) k z = (0, 0, 3) := by
  rw [List.drop_eq_nil_of_le h]; rfl

theorem low7 (c : UInt8) : bits BinOp.andNot IntKind.u8 (c.toNat : Int) 128 = (c.toNat : Int) % 128 := by
  revert c; apply bytes_all; decide +kernel
/-- What has come, and seven bits more. -/
def joined7 (z c k : Nat) : Nat := z + c % 128 * 128 ^ k
theorem joined_lt {z c k : Nat} (hz : z < 128 ^ k) (hk : k ≤ 9) (hb : k = 9 → c ≤ 1) : joined7 z c k < 18446744073709551616 := by
  unfold joined7
  have hp := pow_le hk
  by_cases h9 : k = 9
  · subst h9
    have : c % 128 * 128 ^ 9 ≤ 1 * 128 ^ 9 := Nat.mul_le_mul_right _ (by have := hb rfl; omega)
    rw [pow9] at this hz ⊢
    omega
  · have h8 := pow_step (i := k) (by omega)
    have : c % 128 * 128 ^ k ≤ 127 * 128 ^ k := Nat.mul_le_mul_right _ (by omega)
    omega
theorem joined_next {z c k : Nat} (hz : z < 128 ^ k) : joined7 z c k < 128 ^ (k + 1) := by
  unfold joined7
  have : c % 128 * 128 ^ k ≤ 127 * 128 ^ k := Nat.mul_le_mul_right _ (by omega)
  rw [Nat.pow_succ]
  omega
theorem two_pow7 (k : Nat) : (2 : Nat) ^ (7 * k) = 128 ^ k := by rw [Nat.pow_mul]
theorem joined_or {z c k : Nat} (hz : z < 128 ^ k) (hk : k ≤ 9) (hb : k = 9 → c ≤ 1) :
    bits BinOp.or IntKind.u64 (z : Int) (IntKind.u64.wrap ((c : Int) % 128 * 2 ^ (7 * k))) = (joined7 z c k : Int) := by
  have hj := joined_lt hz hk hb
  have e1 : ((c : Int) % 128 * 2 ^ (7 * k)) = ((c % 128 * 128 ^ k : Nat) : Int) := by
    rw [Int.natCast_mul, ← two_pow7, Int.natCast_pow]
    rfl
  have hlt : c % 128 * 128 ^ k < 18446744073709551616 := by unfold joined7 at hj; omega
  have hz2 : z < 18446744073709551616 := by unfold joined7 at hj; omega
  rw [e1, IntWalk.u64_in _ ⟨by omega, by omega⟩, bits_or_u64_nat _ _ hz2 hlt]
  unfold joined7
  congr 1
  rw [← two_pow7] at hz ⊢
  rw [Nat.mul_comm, Nat.or_comm, ← Nat.two_pow_add_eq_or_of_lt hz, Nat.add_comm]

def FirstPost (L : List UInt8) (w : World) (e : Ending) (w' : World) : Prop := ∃ m k er, takeL L 0 0 = (m, k, er) ∧ e = .returned (.tuple #[.int .i64 m, .int .i64 (k : Int), .int .i64 er]) ∧ w = w'

end Go.Proofs.YtccajbgdlicbnaaDoor

/- Layer 3, P3.1: the document's Take, walked: which number bytes begin with, or why none. -/
namespace Go.Proofs.YtccajbgdlicbnaaDoor
open Go.RowKit (wrap64 intOf Below)
set_option linter.unusedVariables false

theorem wrap_mul7 {c k p : Nat} (hp : p = 128 ^ k) (hk : k ≤ 9) (hb : k = 9 → c ≤ 1) : IntKind.u64.wrap ((c : Int) % 128 * (p : Int)) = (c : Int) % 128 * (p : Int) := by
  have e : ((c : Int) % 128 * (p : Int)) = ((c % 128 * 128 ^ k : Nat) : Int) := by rw [Int.natCast_mul, hp]; rfl
  have hj := joined_lt (z := 0) (c := c) (k := k) (pow_pos' k) hk hb
  unfold joined7 at hj
  rw [e, IntWalk.u64_in _ ⟨by omega, by omega⟩]
theorem wrap_add7 {z c k p : Nat} (hp : p = 128 ^ k) (hz : z < 128 ^ k) (hk : k ≤ 9) (hb : k = 9 → c ≤ 1) : IntKind.u64.wrap ((z : Int) + (c : Int) % 128 * (p : Int)) = (joined7 z c k : Int) := by
  have e : ((c : Int) % 128 * (p : Int)) = ((c % 128 * 128 ^ k : Nat) : Int) := by rw [Int.natCast_mul, hp]; rfl
  have hj := joined_lt (z := z) (c := c) (k := k) hz hk hb
  unfold joined7 at hj ⊢
  rw [e, IntWalk.u64_in _ ⟨by omega, by omega⟩]
  omega

end Go.Proofs.YtccajbgdlicbnaaDoor

/- Layer 3, P3.1, P3.3, P3.4: wire.Take, walked, and what the statements WirePuts, WireTakes and WireCuts ask. -/
namespace Go.Proofs.YtccajbgdlicbnaaDoor
open Go.RowKit (wrap64 intOf Below)
set_option linter.unusedVariables false

def TakePost (m : Int) (R : List UInt8) (w : World) (e : Ending) (w' : World) : Prop :=
  ∃ va vn vc, e = .returned (.tuple #[.int .i64 m, .slice va vn vc, .int .i64 0]) ∧ OwnsB w' w.heap.size 5 (.slice va vn vc) R ∧ Below w.heap.size w w'

theorem slice_from (a : Option Addr) (n c k : Nat) (hk : k ≤ n) (u : World) : (Instr.slice 53 (.slice a n c) (some (.int .i64 (k : Int))) none none).run Tryd.prog u = .ok (.slice (fromA a c k) (n - k) (c - k)) u :=
  run_from Tryd.underlying53 size_u8 a n c k hk u
theorem slice_to (a : Option Addr) (n c k : Nat) (hk : k ≤ c) (u : World) : (Instr.slice 53 (.slice a n c) none (some (.int .i64 (k : Int))) none).run Tryd.prog u = .ok (.slice a k c) u :=
  run_to Tryd.underlying53 size_u8 a n c k hk u
theorem text_of {w : World} {a : Option Addr} {n c : Nat} {L : List UInt8} (h : BytesAt w a n c L) : (convert 53 9 (.slice a n c)).run Tryd.prog w = .ok (.string (mk L)) w :=
  run_text h 53 9 5 Tryd.underlying53 Tryd.underlying5 Tryd.underlying9

theorem put64 : putL 64 = [128, 1] := by decide +kernel
theorem gives64 : Gives [128, 1] 64 2 := by
  have := gives_put (n := 64) (by decide) (by decide) []
  rw [List.append_nil, put64] at this
  exact this
theorem text64 {w : World} {B : Nat} {a : Option Addr} {n c : Nat} (h : OwnsB w B 5 (.slice a n c) [128, 1]) : (convert 53 9 (.slice a n c)).run Tryd.prog w = .ok (.string ⟨#[128, 1]⟩) w := text_of h.read
theorem OwnsB.len {w : World} {B : Nat} {e : TypeId} {a : Option Addr} {n c : Nat} {l : List UInt8} (h : OwnsB w B e (.slice a n c) l) : l.length = n := h.read.1

end Go.Proofs.YtccajbgdlicbnaaDoor

/- Layer 3, P3.1, P3.3: what the statement WirePuts asks, walked. -/
namespace Go.Proofs.YtccajbgdlicbnaaDoor
open Go.RowKit (wrap64 intOf Below)
set_option linter.unusedVariables false

theorem keepB {w u w' : World} (h1 : Below w.heap.size w u) (h2 : Below u.heap.size u w') : Below w.heap.size w w' := h1.trans (h2.mono h1.size)
theorem BytesAt.since {w w' : World} {a : Option Addr} {n c : Nat} {L : List UInt8} (h : BytesAt w a n c L) (hb : Below w.heap.size w w') : BytesAt w' a n c L := h.below hb (Nat.le_refl _)

end Go.Proofs.YtccajbgdlicbnaaDoor

/- Layer 3, P3.2: how many there are (wire.count and the document's Count), and texts as bytes (PutText, TakeText, and the document's), walked. -/
namespace Go.Proofs.YtccajbgdlicbnaaDoor
open Go.RowKit (wrap64 intOf Below)
set_option linter.unusedVariables false

/-- 'append(b, s...)' of a text: b the call's own. -/
theorem wpList_append_text {P : Program} (w : World) {ops : Array Oper} {rest : List Oper} {o : Oper} {a : Act} {Q : Exit → Act → World → Prop} (hgd : o.guard = none) (sl x : Operand) (t u : TypeId)
    (ho : o.op = .call { callee := .builtin .append, args := #[sl, x], argTypes := #[t, u] }) (e : TypeId) (ht : P.underlying t = some (.slice e)) (hu : P.underlying u = some .string)
    (hinfo : (P.info? e).map (fun i => (i.zero, i.size, i.bytes)) = some (some (.int .u8 0), 1, 1))
    (B : Nat) (v : Value) (l : List UInt8) (hs : a.eval sl = v) (hown : OwnsB w B e v l) (hB : B ≤ w.heap.size) (s : ByteArray) (hx : a.eval x = .string s)
    (hlen : l.length + s.size ≤ 140737488355328)
    (h : ∀ va vn vc w', OwnsB w' B e (.slice va vn vc) (l ++ s.data.toList) → Below B w w' → wpList P ops Q rest (a.put o.dst (.slice va vn vc)) w') : wpList P ops Q (o :: rest) a w := by
  obtain ⟨i0, hi, hz0, hz1, hz2⟩ := info_parts hinfo
  refine Lib.wpList_append_own_string w hgd sl x t u ho B e i0 ht hu hi hz0 hz1 hz2 v l.length (l.map byteV) hs hown s hx (by unfold maxLen; omega) hlen hB ?_
  intro v' w' hown' hgrow _
  have hown2 : OwnsB w' B e v' (l ++ s.data.toList) := by
    show w'.ownsRow B e 1 v' (l ++ s.data.toList).length ((l ++ s.data.toList).map byteV)
    rw [List.map_append, List.length_append, list_len]
    exact hown'
  obtain ⟨va, vn, vc, rfl, _⟩ := hown2.at
  exact h va vn vc w' hown2 (Below.grown (Below.refl B w) hgrow hB (fun k hk => (hown.lt k hk).1))

/-- A text as bytes. -/
def putT (s : ByteArray) : List UInt8 := putL (s.size : Int) ++ s.data.toList
theorem putT_len (s : ByteArray) : (putT s).length ≤ 10 + s.size := by
  unfold putT; rw [List.length_append, list_len]; have := putL_len (s.size : Int); omega

theorem ref_put_text (a : Option Addr) (n c : Nat) (L : List UInt8) (s : ByteArray) (w : World) (hat : BytesAt w a n c L) (hn : n + (10 + s.size) ≤ 140737488355328) :
    Calls Tryd.prog 74 #[.slice a n c, .string s] w (BytesPost w.heap.size (L ++ putT s) w) := by
  have HA := Lib.hid hat
  have hl := hat.1
  have HL2 : RowKit.Hid ((L ++ putL (s.size : Int)).length + s.size ≤ 140737488355328) := Lib.hid (by rw [List.length_append, hl]; have := putL_len (s.size : Int); omega)
  clear hat hl
  go_enter Tryd.func74, Tryd.ntmps74
  go_wp2_with fail
  refine (ref_put _ _ _ L (s.size : Int) _ HA.out (by omega) (by omega) (by omega)).mono ?_
  rintro e w2 ⟨va2, vn2, vc2, rfl, hown2, hb2⟩
  have HB2 := Lib.hid hb2
  have HO2 := Lib.hid hown2
  clear hb2 hown2
  go_wp2_with (at_builtin; refine wpList_append_text _ rfl _ _ 53 9 rfl 5 Tryd.underlying53 Tryd.underlying9 info_u8 w.heap.size _ _ rfl HO2.out HB2.out.size s rfl HL2.out ?_; intro va3 vn3 vc3 w3 hown3 hb3)
  rw [List.append_assoc] at hown3
  go_ret
  exact ⟨va3, vn3, vc3, rfl, hown3, HB2.out.trans hb3⟩

/-- The bytes begin with m, in k bytes, and that is at most most. -/
def Counts (L : List UInt8) (most : Int) (m k : Nat) : Prop := Gives L (m : Int) k ∧ (m : Int) ≤ most
/-- They don't, for the reason er. -/
def NoCount (L : List UInt8) (most : Int) (er : Int) : Prop := Fails L er ∨ ∃ m k, Gives L m k ∧ ((m < 0 ∧ er = 4) ∨ (0 ≤ m ∧ most < m ∧ er = 2))
theorem counts_or (L : List UInt8) (most : Int) : (∃ m k, Counts L most m k) ∨ ∃ er, NoCount L most er := by
  rcases gives_or_fails L with ⟨m, k, h⟩ | ⟨er, h⟩
  · by_cases h0 : m < 0
    · exact Or.inr ⟨4, Or.inr ⟨m, k, h, Or.inl ⟨h0, rfl⟩⟩⟩
    · by_cases h1 : most < m
      · exact Or.inr ⟨2, Or.inr ⟨m, k, h, Or.inr ⟨by omega, h1, rfl⟩⟩⟩
      · obtain ⟨M, rfl⟩ := Int.eq_ofNat_of_zero_le (show 0 ≤ m by omega)
        exact Or.inl ⟨M, k, h, by omega⟩
  · exact Or.inr ⟨er, Or.inl h⟩
theorem NoCount.err {L : List UInt8} {most er : Int} (h : NoCount L most er) : er = 2 ∨ er = 3 ∨ er = 4 := by
  rcases h with h | ⟨m, k, _, ⟨_, h⟩ | ⟨_, _, h⟩⟩
  · exact Or.inr h.2
  · exact Or.inr (Or.inr h)
  · exact Or.inl h
theorem Counts.in {L : List UInt8} {most : Int} {m k : Nat} (h : Counts L most m k) : 1 ≤ k ∧ k ≤ L.length ∧ m ≤ 9223372036854775807 := by
  have := h.1.put
  omega

def SomeNo (er : Int) (w : World) (e : Ending) (w' : World) : Prop := ∃ x y : Int, e = .returned (.tuple #[.int .i64 x, .int .i64 y, .int .i64 er]) ∧ w = w'
def TextPost (S R : List UInt8) (w : World) (e : Ending) (w' : World) : Prop :=
  ∃ va vn vc, e = .returned (.tuple #[.string (mk S), .slice va vn vc, .int .i64 0]) ∧ OwnsB w' w.heap.size 5 (.slice va vn vc) R ∧ Below w.heap.size w w'

/-- Why a text is not taken. -/
def NoText (L : List UInt8) (most : Int) (er : Int) : Prop := NoCount L most er ∨ ∃ m k, Counts L most m k ∧ L.length - k < m ∧ er = 3
theorem text_or (L : List UInt8) (most : Int) : (∃ m k, Counts L most m k ∧ m ≤ L.length - k) ∨ ∃ er, NoText L most er := by
  rcases counts_or L most with ⟨m, k, h⟩ | ⟨er, h⟩
  · by_cases hm : m ≤ L.length - k
    · exact Or.inl ⟨m, k, h, hm⟩
    · exact Or.inr ⟨3, Or.inr ⟨m, k, h, by omega, rfl⟩⟩
  · exact Or.inr ⟨er, Or.inl h⟩
theorem NoText.err {L : List UInt8} {most er : Int} (h : NoText L most er) : er = 2 ∨ er = 3 ∨ er = 4 := by
  rcases h with h | ⟨m, k, _, _, h⟩
  · exact h.err
  · exact Or.inr (Or.inl h)

theorem slice_part (a : Option Addr) (n c k m : Nat) (h : k + m ≤ c) (u : World) : (Instr.slice 53 (.slice a n c) (some (.int .i64 (k : Int))) (some (.int .i64 ((k : Int) + (m : Int)))) none).run Tryd.prog u = .ok (.slice (fromA a c k) m (c - k)) u := by
  have := run_part Tryd.underlying53 size_u8 a n c k (k + m) (by omega) h u
  rw [Nat.add_sub_cancel_left] at this
  exact this
end Go.Proofs.YtccajbgdlicbnaaDoor

/- 'append(l, x)': a struct behind the others, of the call's own. Nothing of the program is named here but the types of what is listed. -/
namespace Go.Proofs.YtccajbgdlicbnaaDoor
open Go.RowKit (wrap64 intOf Below)
set_option linter.unusedVariables false

/-- Where the cells of a list lie, if there are any. -/
theorem RowV.cells {α : Type} {Q : World → List Value → α → Prop} {k : Nat} {w : World} {v : Value} {xs : List α} (h : RowV Q k w v xs) :
    ∃ (a : Option Addr) (c g off : Nat), v = .slice a xs.length c ∧ (a = none → c = 0) ∧ xs.length ≤ 140737488351232 ∧ (0 < xs.length → a = some ⟨g, off, none⟩ ∧ g < w.heap.size ∧
      ∀ i (h : i < xs.length), ∃ cs : List Value, cs.length = k ∧ (∀ j (hj : j < cs.length), w.cell? ⟨g, off + i * k + j, none⟩ = some cs[j]) ∧ Q w cs xs[i]) := by
  obtain ⟨a, n, c, rfl, hl, hnil, hcap, hpos⟩ := h
  subst hl
  by_cases h0 : 0 < xs.length
  · obtain ⟨g, off, e1, e2, e3⟩ := hpos h0
    exact ⟨a, c, g, off, rfl, hnil, hcap, fun _ => ⟨e1, e2, e3⟩⟩
  · exact ⟨a, c, 0, 0, rfl, hnil, hcap, fun h => absurd h h0⟩
/-- In blocks from B on. -/
def From (B : Nat) : Nat → Prop := fun b => B ≤ b
theorem From.mono {B B' : Nat} (h : B ≤ B') (b : Nat) : From B' b → From B b := fun hb => Nat.le_trans h hb
theorem ownsRow_base {w : World} {base base' e k : Nat} {v : Value} {n : Nat} {xs : List Value} (h : w.ownsRow base e k v n xs) (hb : ∀ b, v.ownBlock = some b → base' ≤ b) : w.ownsRow base' e k v n xs := by
  refine ⟨h.1, ?_⟩
  rcases h.2 with hn | ⟨g, cap, cur, rfl, hg, rest⟩
  · exact .inl hn
  · exact .inr ⟨g, cap, cur, rfl, hb g rfl, rest⟩
theorem RowO.none {α : Type} {T k : Nat} {Q : World → (Nat → Prop) → List Value → α → Prop} (w : World) (S : Nat → Prop) : RowO T k Q w S (.slice none 0 0) ([] : List α) :=
  ⟨[], World.ownsRow_nil _ _ _ _, rfl, (fun cs h => by cases h), (fun b h => by cases h), Nat.zero_le _, fun i h _ => absurd h (by simp)⟩
theorem RowO.own {α : Type} {T k : Nat} {Q : World → (Nat → Prop) → List Value → α → Prop} {w : World} {S : Nat → Prop} {v : Value} {xs : List α} (h : RowO T k Q w S v xs) {b : Nat} (hb : v.ownBlock = some b) : S b ∧ b < w.heap.size := by
  obtain ⟨css, h1, h2, h3, h4, h5, h6⟩ := h
  exact ⟨h4 b hb, (h1.lt b hb).2⟩

theorem wpList_append_elem {P : Program} (w : World) {ops : Array Oper} {rest : List Oper} {o : Oper} {a : Act} {Q' : Exit → Act → World → Prop} (hgd : o.guard = none) (s x : Operand) (t : TypeId)
    (ho : o.op = .call { callee := .builtin .append, args := #[s, x], argTypes := #[t, t] }) (e : TypeId) (ht : P.underlying t = some (.slice e)) (z : Value) (k bytes : Nat)
    (hinfo : (P.info? e).map (fun i => (i.zero, i.size, i.bytes)) = some (some z, k, bytes)) (hzs : z.cells.size = k) (hk : 0 < k) (hby : bytes ≤ 1000)
    {α : Type} {Q : World → (Nat → Prop) → List Value → α → Prop} (hQ : Holds Q) (B : Nat) (v : Value) (xs : List α) (hs : a.eval s = v) (hrow : RowO e k Q w (From B) v xs) (hB : B ≤ w.heap.size)
    (C : Array Value) (c g : Nat) (hx : a.eval x = .slice (some ⟨g, 0, none⟩) 1 c) (hg : g = w.heap.size) (hC : C.size = k) (h1 : ∀ u ∈ C.toList, u.oneCell' = true)
    (y : α) (B' : Nat) (hy : Q w (From B') C.toList y) (hBB : B ≤ B') (hfar : ∀ b, v.ownBlock = some b → b < B') (hn : xs.length ≤ 100000)
    (h : ∀ va vn vc w', RowO e k Q w' (From B) (.slice va vn vc) (xs ++ [y]) → Below B w w' → wpList P ops Q' rest (a.put o.dst (.slice va vn vc)) w') : wpList P ops Q' (o :: rest) a (w.alloc (.cells C e)) := by
  obtain ⟨i0, hi, hz0, hz1, hz2⟩ := info_parts hinfo
  subst hg
  have hrow' := hrow
  obtain ⟨css, r1, r2, r3, r4, r5, r6⟩ := hrow
  have hown := ownsRow_base r1 (base' := B) (fun b hb => r4 b hb)
  refine wpList_append_lies _ hgd s x t ho B e i0 z k bytes ht hi hz0 hz1 hz2 hzs hk v xs.length css.flatten hs (World.ownsRow.alloc hown _) ⟨w.heap.size, 0, none⟩ 1 c C.toList hx (by simp [hC]) (World.news_of_block (heap_alloc_new w _)) h1 (by omega) (by unfold maxLen; omega) (Nat.le_trans (Nat.mul_le_mul (show xs.length + 1 ≤ 100001 by omega) hby) (by decide)) (by simp; omega) (w.heap.size + 1) (by simp) ?_
  intro g' cap w' hown' hgrow hat hlt
  have hkeep : ∀ b, b < w.heap.size → v.ownBlock ≠ some b → w'.heap[b]? = w.heap[b]? := fun b hb hne => (hgrow.block b (by simp; omega) (fun e => hne e.symm)).trans (heap_alloc_old w _ hb)
  have hne' : ∀ b, b < w.heap.size → v.ownBlock ≠ some b → g' ≠ b := fun b hb hne e => by
    subst e
    rcases hat with h' | h'
    · exact hne h'
    · omega
  have hgB : B ≤ g' := by
    rcases hat with h' | h'
    · exact r4 g' h'
    · omega
  refine h _ _ _ w' ⟨css ++ [C.toList], ?_, by simp [r2], ?_, ?_, by simp; omega, ?_⟩ ?_
  · rw [List.flatten_append, List.length_append]
    simpa using ownsRow_base hown' (base' := 0) (fun _ _ => Nat.zero_le _)
  · intro cs hcs
    rcases List.mem_append.1 hcs with h' | h'
    · exact r3 cs h'
    · simp only [List.mem_singleton] at h'; subst h'; simpa using hC
  · intro b hb
    simp only [Value.ownBlock, Option.some.injEq] at hb
    subst hb
    exact hgB
  · intro i hi1 hi2
    by_cases hii : i < xs.length
    · have hic : i < css.length := by omega
      rw [List.getElem_append_left hic, List.getElem_append_left hii]
      exact hQ _ _ _ _ _ _ (fun b hb hS => ⟨hkeep b hb hS.2, hS.1, by simp only [Value.ownBlock, ne_eq, Option.some.injEq]; exact hne' b hb hS.2⟩) (r6 i hii hic)
    · have hie : i = xs.length := by simp at hi1; omega
      subst hie
      rw [List.getElem_append_right (by omega), List.getElem_append_right (by omega)]
      simp only [r2, Nat.sub_self, List.getElem_cons_zero]
      refine hQ _ _ _ _ _ _ (fun b hb hS => ?_) hy
      have hnb : v.ownBlock ≠ some b := fun e => by have := hfar b e; have h2 : B' ≤ b := hS; omega
      exact ⟨hkeep b hb hnb, Nat.le_trans hBB hS, by simp only [Value.ownBlock, ne_eq, Option.some.injEq]; exact hne' b hb hnb⟩
  · exact Below.grown ((Below.refl B w).alloc hB _) hgrow (by simp; omega) (fun k hk => r4 k hk)
end Go.Proofs.YtccajbgdlicbnaaDoor

/- Layer 6, P6.4, plain: what stands between blanks, commas and brackets can be told apart; numbers, quotes and lists. Nothing of the program is named here. -/
namespace Go.Proofs.YtccajbgdlicbnaaDoor
set_option linter.unusedVariables false

/-- What ends a word. -/
def sepB (c : UInt8) : Bool := c == 32 || c == 40 || c == 41 || c == 44 || c == 93 || c == 10
def Beh (r : List UInt8) : Prop := ∃ c t, r = c :: t ∧ sepB c = true
def Tok (x : List UInt8) : Prop := ∀ c ∈ x, sepB c = false
theorem tok_cut : ∀ {x y r s : List UInt8}, Tok x → Tok y → Beh r → Beh s → x ++ r = y ++ s → x = y ∧ r = s
  | [], [], _, _, _, _, _, _, h => ⟨rfl, h⟩
  | [], d :: y, r, s, _, hy, ⟨c, t, hr, hc⟩, _, h => by
    subst hr
    simp only [List.nil_append, List.cons_append, List.cons.injEq] at h
    have := hy d (by simp)
    rw [← h.1, hc] at this
    cases this
  | c :: x, [], r, s, hx, _, _, ⟨d, t, hs, hd⟩, h => by
    subst hs
    simp only [List.nil_append, List.cons_append, List.cons.injEq] at h
    have := hx c (by simp)
    rw [h.1, hd] at this
    cases this
  | c :: x, d :: y, r, s, hx, hy, hr, hs, h => by
    simp only [List.cons_append, List.cons.injEq] at h
    obtain ⟨e1, e2⟩ := tok_cut (fun c hc => hx c (by simp [hc])) (fun c hc => hy c (by simp [hc])) hr hs h.2
    exact ⟨by rw [h.1, e1], e2⟩
theorem beh_cons {c : UInt8} (t : List UInt8) (h : sepB c = true) : Beh (c :: t) := ⟨c, t, rfl, h⟩

def isD (c : UInt8) : Bool := decide (48 ≤ c.toNat) && decide (c.toNat ≤ 57)
theorem dec_isD : ∀ (m u : Nat), u ≤ m → ∀ c ∈ Lib.decDigits u, isD c = true
  | m, u, hm => by
    have hd : ∀ n : Fin 10, isD (UInt8.ofNat (48 + n.val)) = true := by decide
    by_cases h : u < 10
    · rw [Lib.decDigits, dif_pos h]
      intro c hc
      simp only [List.mem_singleton] at hc
      subst hc
      exact hd ⟨u, h⟩
    · cases m with
      | zero => omega
      | succ m =>
        have := dec_isD m (u / 10) (by omega)
        rw [Lib.decDigits, dif_neg h]
        intro c hc
        rw [List.mem_append, List.mem_singleton] at hc
        rcases hc with hc | rfl
        · exact this c hc
        · exact hd ⟨u % 10, by omega⟩
def valD (l : List UInt8) : Nat := l.foldl (fun n c => 10 * n + (c.toNat - 48)) 0
theorem val_dec : ∀ (m u : Nat), u ≤ m → valD (Lib.decDigits u) = u
  | m, u, hm => by
    by_cases h : u < 10
    · rw [Lib.decDigits, dif_pos h]
      simp only [valD, List.foldl_cons, List.foldl_nil, UInt8.toNat_ofNat']
      omega
    · cases m with
      | zero => omega
      | succ m =>
        have := val_dec m (u / 10) (by omega)
        rw [Lib.decDigits, dif_neg h]
        unfold valD at this ⊢
        rw [List.foldl_append, this]
        simp only [List.foldl_cons, List.foldl_nil, UInt8.toNat_ofNat']
        omega
theorem dec_inj {u v : Nat} (h : Lib.decDigits u = Lib.decDigits v) : u = v := by
  rw [← val_dec u u (Nat.le_refl _), h, val_dec v v (Nat.le_refl _)]
theorem dec_no45 (u : Nat) (t : List UInt8) : Lib.decDigits u ≠ 45 :: t := by
  intro h
  have := dec_isD u u (Nat.le_refl _) 45 (by rw [h]; simp)
  revert this
  decide
theorem dec_some (u : Nat) : Lib.decDigits u ≠ [] := by
  rw [Lib.decDigits]
  split <;> simp
theorem itoa_inj {a b : Int} (h : Lib.itoa a = Lib.itoa b) : a = b := by
  unfold Lib.itoa at h
  split at h <;> split at h
  · have := dec_inj (List.cons.inj h).2; omega
  · exact absurd h.symm (dec_no45 _ _)
  · exact absurd h (dec_no45 _ _)
  · have := dec_inj h; omega
theorem itoa_some (a : Int) : Lib.itoa a ≠ [] := by
  unfold Lib.itoa
  split
  · simp
  · exact dec_some _
theorem isD_sep (c : UInt8) : isD c = true → sepB c = false := by
  revert c; apply bytes_all; decide +kernel
theorem itoa_tok (a : Int) : Tok (Lib.itoa a) := by
  unfold Lib.itoa
  split
  · intro c hc
    rw [List.mem_cons] at hc
    rcases hc with rfl | hc
    · decide
    · exact isD_sep c (dec_isD _ _ (Nat.le_refl _) c hc)
  · intro c hc
    exact isD_sep c (dec_isD _ _ (Nat.le_refl _) c hc)
/-- A number begins with a digit or a dash. -/
theorem itoa_head (a : Int) : ∃ c t, Lib.itoa a = c :: t ∧ (c = 45 ∨ isD c = true) := by
  unfold Lib.itoa
  split
  · exact ⟨_, _, rfl, .inl rfl⟩
  · cases h : Lib.decDigits a.toNat with
    | nil => exact absurd h (dec_some _)
    | cons c t => exact ⟨c, t, rfl, .inr (dec_isD _ _ (Nat.le_refl _) c (by rw [h]; simp))⟩

/-- A quote ends where it ends. -/
theorem enc_no34 (c : UInt8) (r : List UInt8) (t : List UInt8) : enc c ++ r ≠ 34 :: t := by
  intro h
  have h1 : ∀ c : UInt8, (enc c).head? ≠ some 34 := by apply bytes_all; decide +kernel
  have h2 := h1 c
  cases he : enc c with
  | nil => exact enc_ne c he
  | cons d x =>
    rw [he] at h h2
    simp only [List.cons_append, List.cons.injEq] at h
    simp [h.1] at h2
theorem encs_cut : ∀ {a b r s : List UInt8}, encs a ++ 34 :: r = encs b ++ 34 :: s → a = b ∧ r = s
  | [], [], r, s, h => by simpa [encs_nil] using h
  | [], d :: b, r, s, h => by
    rw [encs_nil, encs_cons, List.nil_append, List.append_assoc] at h
    exact absurd h.symm (enc_no34 _ _ _)
  | c :: a, [], r, s, h => by
    rw [encs_nil, encs_cons, List.nil_append, List.append_assoc] at h
    exact absurd h (enc_no34 _ _ _)
  | c :: a, d :: b, r, s, h => by
    rw [encs_cons, encs_cons, List.append_assoc, List.append_assoc] at h
    obtain ⟨e1, e2⟩ := enc_cancel h
    obtain ⟨e3, e4⟩ := encs_cut e2
    exact ⟨by rw [e1, e3], e4⟩
theorem quote_cut {a b r s : List UInt8} (h : quoteL a ++ r = quoteL b ++ s) : a = b ∧ r = s := by
  unfold quoteL at h
  simp only [List.cons_append, List.append_assoc, List.cons.injEq, true_and, List.nil_append] at h
  exact encs_cut h

/-- What ends a list. -/
def Cl (r : List UInt8) : Prop := ∃ t, r = 41 :: t ∨ r = 93 :: t
theorem Cl.beh {r : List UInt8} (h : Cl r) : Beh r := by
  obtain ⟨t, rfl | rfl⟩ := h <;> exact beh_cons _ (by decide)
theorem tail_beh (X : List (List UInt8)) {r : List UInt8} (h : Cl r) : Beh (Lib.joinTail [44] X ++ r) := by
  cases X with
  | nil => exact h.beh
  | cons x X => exact beh_cons _ (by decide)
section
variable {T : Int → List UInt8} {P : Int → Prop} (hT : ∀ z, P z → Tok (T z)) (hi : ∀ a b, P a → P b → T a = T b → a = b)
include hT hi
theorem tail_cut : ∀ {Y Z : List Int} {r s : List UInt8}, (∀ z ∈ Y, P z) → (∀ z ∈ Z, P z) → Cl r → Cl s → Lib.joinTail [44] (Y.map T) ++ r = Lib.joinTail [44] (Z.map T) ++ s → Y = Z ∧ r = s
  | [], [], _, _, _, _, _, _, h => ⟨rfl, h⟩
  | [], z :: Z, r, s, _, _, ⟨t, hr⟩, _, h => by
    simp only [List.map_cons, List.map_nil, Lib.joinTail, List.flatten_nil, List.nil_append, List.flatten_cons, List.cons_append, List.append_assoc] at h
    rcases hr with rfl | rfl <;> (simp at h)
  | y :: Y, [], r, s, _, _, _, ⟨t, hs⟩, h => by
    simp only [List.map_cons, List.map_nil, Lib.joinTail, List.flatten_nil, List.nil_append, List.flatten_cons, List.cons_append, List.append_assoc] at h
    rcases hs with rfl | rfl <;> (simp at h)
  | y :: Y, z :: Z, r, s, hY, hZ, hr, hs, h => by
    have e : ∀ (x : Int) (X : List Int) (r : List UInt8), Lib.joinTail [44] ((x :: X).map T) ++ r = 44 :: (T x ++ (Lib.joinTail [44] (X.map T) ++ r)) := by intro x X r; simp [Lib.joinTail]
    rw [e, e] at h
    obtain ⟨e1, e2⟩ := tok_cut (hT y (hY y (by simp))) (hT z (hZ z (by simp))) (tail_beh _ hr) (tail_beh _ hs) (List.cons.inj h).2
    obtain ⟨e3, e4⟩ := tail_cut (fun x hx => hY x (by simp [hx])) (fun x hx => hZ x (by simp [hx])) hr hs e2
    exact ⟨by rw [hi y z (hY y (by simp)) (hZ z (by simp)) e1, e3], e4⟩
theorem join_cut (hne : ∀ z, P z → T z ≠ []) : ∀ {Y Z : List Int} {r s : List UInt8}, (∀ z ∈ Y, P z) → (∀ z ∈ Z, P z) → Cl r → Cl s → Lib.join (Y.map T) [44] ++ r = Lib.join (Z.map T) [44] ++ s → Y = Z ∧ r = s
  | [], [], _, _, _, _, _, _, h => ⟨rfl, h⟩
  | [], z :: Z, r, s, _, hZ, hr, _, h => by
    rw [List.map_cons, Lib.join_cons, List.map_nil, Lib.join_nil, List.nil_append, List.append_assoc] at h
    cases ht : T z with
    | nil => exact absurd ht (hne z (hZ z (by simp)))
    | cons c t =>
      have hc := hT z (hZ z (by simp)) c (by rw [ht]; simp)
      obtain ⟨t', hr⟩ := hr
      rw [ht] at h
      rcases hr with rfl | rfl <;> (simp only [List.cons_append, List.cons.injEq] at h; rw [← h.1] at hc; exact absurd hc (by decide))
  | y :: Y, [], r, s, hY, _, _, hs, h => by
    rw [List.map_cons, Lib.join_cons, List.map_nil, Lib.join_nil, List.nil_append, List.append_assoc] at h
    cases ht : T y with
    | nil => exact absurd ht (hne y (hY y (by simp)))
    | cons c t =>
      have hc := hT y (hY y (by simp)) c (by rw [ht]; simp)
      obtain ⟨t', hs⟩ := hs
      rw [ht] at h
      rcases hs with rfl | rfl <;> (simp only [List.cons_append, List.cons.injEq] at h; rw [h.1] at hc; exact absurd hc (by decide))
  | y :: Y, z :: Z, r, s, hY, hZ, hr, hs, h => by
    rw [List.map_cons, Lib.join_cons, List.map_cons, Lib.join_cons, List.append_assoc, List.append_assoc] at h
    obtain ⟨e1, e2⟩ := tok_cut (hT y (hY y (by simp))) (hT z (hZ z (by simp))) (tail_beh _ hr) (tail_beh _ hs) h
    obtain ⟨e3, e4⟩ := tail_cut hT hi (fun x hx => hY x (by simp [hx])) (fun x hx => hZ x (by simp [hx])) hr hs e2
    exact ⟨by rw [hi y z (hY y (by simp)) (hZ z (by simp)) e1, e3], e4⟩
end
end Go.Proofs.YtccajbgdlicbnaaDoor
