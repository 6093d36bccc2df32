/- What each sign of layer 1 comes to, as the document's chapter says it, in plain words: the value 'arV', and whether there is one, 'arOk'; and that the document's bits come to these. Nothing of the program is named here. -/
import Derived.Test.YtkomjcmjhabpnaaWordPlain
namespace Go.Proofs.Ytkomjcmjhabpnaa
open Go.RowKit (wrap64)

def tv (b : Bool) : Int := if b then 1 else 0
def arV (s a b : Int) : Int :=
  if s = 0 then wrap64 (a + b) else if s = 1 then wrap64 (a - b) else if s = 2 then wrap64 (a * b)
  else if s = 3 then (if b = 0 then 0 else wrap64 (a.tdiv b)) else if s = 4 then (if b = 0 then 0 else a.tmod b)
  else if s = 5 then bits .and .i64 a b else if s = 6 then bits .or .i64 a b else if s = 7 then bits .xor .i64 a b
  else if s = 8 then shu a (b % 64).toNat else if s = 9 then shd a (b % 64).toNat
  else if s = 10 then tv (decide (a < b)) else if s = 11 then tv (decide (a ≤ b)) else if s = 12 then tv (a == b) else if s = 13 then tv (a != b) else 0
def arOk (s b : Int) : Bool := decide (0 ≤ s ∧ s ≤ 13) && !((s == 3 || s == 4) && b == 0)

theorem bits_range (op : BinOp) (a b : Int) : -9223372036854775808 ≤ bits op .i64 a b ∧ bits op .i64 a b ≤ 9223372036854775807 := by
  unfold bits
  rw [IntKind.wrap_i64]
  omega
theorem td_nat (n m : Nat) : ((n : Int)).tdiv (m : Int) = ((n / m : Nat) : Int) := rfl
theorem tm_nat (n m : Nat) : ((n : Int)).tmod (m : Int) = ((n % m : Nat) : Int) := rfl
theorem tdiv_case (a b : Int) : a.tdiv b = if (a < 0) = (b < 0) then ((a.natAbs / b.natAbs : Nat) : Int) else -((a.natAbs / b.natAbs : Nat) : Int) := by
  rcases Int.natAbs_eq a with ha | ha <;> rcases Int.natAbs_eq b with hb | hb <;> generalize a.natAbs = n at ha ⊢ <;> generalize b.natAbs = m at hb ⊢ <;> subst ha <;> subst hb
  · rw [if_pos (by simp; omega)]; exact td_nat n m
  · rw [Int.tdiv_neg, td_nat]
    by_cases hm : m = 0
    · subst hm; simp
    · rw [if_neg (by simp; omega)]
  · rw [Int.neg_tdiv, td_nat]
    by_cases hn : n = 0
    · subst hn; simp
    · rw [if_neg (by simp; omega)]
  · rw [Int.neg_tdiv, Int.tdiv_neg, td_nat, Int.neg_neg]
    by_cases hn : n = 0
    · subst hn; simp
    · by_cases hm : m = 0
      · subst hm; simp
      · rw [if_pos (by simp; omega)]
theorem tmod_case (a b : Int) : a.tmod b = if a < 0 then -((a.natAbs % b.natAbs : Nat) : Int) else ((a.natAbs % b.natAbs : Nat) : Int) := by
  rcases Int.natAbs_eq a with ha | ha <;> rcases Int.natAbs_eq b with hb | hb <;> generalize a.natAbs = n at ha ⊢ <;> generalize b.natAbs = m at hb ⊢ <;> subst ha <;> subst hb
  · rw [if_neg (by omega)]; exact tm_nat n m
  · rw [if_neg (by omega), Int.tmod_neg]; exact tm_nat n m
  · rw [Int.neg_tmod, tm_nat]
    by_cases hn : n = 0
    · subst hn; simp
    · rw [if_pos (by omega)]
  · rw [Int.neg_tmod, Int.tmod_neg, tm_nat]
    by_cases hn : n = 0
    · subst hn; simp
    · rw [if_pos (by omega)]

/-! ### The document's bits come to these -/
theorem v_sum (a b : Int) : wrap64 (sum64 (u64n a) (u64n b) : Int) = wrap64 (a + b) := by unfold wrap64 sum64 u64n; omega
theorem v_sub (a b : Int) : wrap64 (sum64 (u64n a) (neg64 (u64n b)) : Int) = wrap64 (a - b) := by unfold wrap64 sum64 neg64 u64n; omega
theorem wrap64_mod (n : Int) : wrap64 (n % 18446744073709551616) = wrap64 n := by unfold wrap64; omega
theorem u64n_cast (x : Int) : (u64n x : Int) = x % 18446744073709551616 := by unfold u64n; omega
theorem v_mul (a b : Int) : wrap64 (mul64 (u64n a) (u64n b) : Int) = wrap64 (a * b) := by
  unfold mul64
  rw [Int.natCast_emod, Int.natCast_mul, u64n_cast, u64n_cast]
  rw [show ((18446744073709551616 : Nat) : Int) = 18446744073709551616 from rfl, ← Int.mul_emod, wrap64_mod]
theorem v_quo_same (a b : Int) (h : (a < 0) = (b < 0)) : wrap64 (qt a.natAbs b.natAbs : Int) = wrap64 (a.tdiv b) := by unfold qt; rw [tdiv_case, if_pos h]
theorem neg_wrap (n : Nat) (h : n < 18446744073709551616) : wrap64 (neg64 n : Int) = wrap64 (-(n : Int)) := by unfold wrap64 neg64; omega
theorem v_quo_other (a b : Int) (ha : a.natAbs < 18446744073709551616) (h : ¬ (a < 0) = (b < 0)) : wrap64 (neg64 (qt a.natAbs b.natAbs) : Int) = wrap64 (a.tdiv b) := by
  unfold qt; rw [tdiv_case, if_neg h, neg_wrap _ (Nat.lt_of_le_of_lt (Nat.div_le_self _ _) ha)]
theorem tmod_range (a b : Int) (h : -9223372036854775808 ≤ a ∧ a ≤ 9223372036854775807) : -9223372036854775808 ≤ a.tmod b ∧ a.tmod b ≤ 9223372036854775807 := by
  rw [tmod_case]
  have := Nat.mod_le a.natAbs b.natAbs
  split <;> omega
theorem v_rem_up (a b : Int) (h : -9223372036854775808 ≤ a ∧ a ≤ 9223372036854775807) (hs : ¬ a < 0) : wrap64 (rs a.natAbs b.natAbs : Int) = a.tmod b := by
  unfold rs
  have hr := tmod_range a b h
  rw [tmod_case, if_neg hs] at hr ⊢
  exact wrap64_id _ hr
theorem v_rem_down (a b : Int) (h : -9223372036854775808 ≤ a ∧ a ≤ 9223372036854775807) (hs : a < 0) : wrap64 (neg64 (rs a.natAbs b.natAbs) : Int) = a.tmod b := by
  unfold rs
  have hr := tmod_range a b h
  have hl := Nat.mod_le a.natAbs b.natAbs
  rw [tmod_case, if_pos hs] at hr ⊢
  rw [neg_wrap _ (by omega)]
  exact wrap64_id _ hr
theorem v_and (a b : Int) : wrap64 (bitop 5 (u64n a) (u64n b) : Int) = bits .and .i64 a b := by
  show _ = IntKind.i64.wrap _
  rw [IntWalk.i64_left, BitVec.toNat_and, BitVec.toNat_ofInt, BitVec.toNat_ofInt]; rfl
theorem v_or (a b : Int) : wrap64 (bitop 6 (u64n a) (u64n b) : Int) = bits .or .i64 a b := by
  show _ = IntKind.i64.wrap _
  rw [IntWalk.i64_left, BitVec.toNat_or, BitVec.toNat_ofInt, BitVec.toNat_ofInt]; rfl
theorem v_xor (a b : Int) : wrap64 (bitop 7 (u64n a) (u64n b) : Int) = bits .xor .i64 a b := by
  show _ = IntKind.i64.wrap _
  rw [IntWalk.i64_left, BitVec.toNat_xor, BitVec.toNat_ofInt, BitVec.toNat_ofInt]; rfl
theorem and_63 (b : Int) : bits .and .u64 (u64n b : Int) 63 = b % 64 := by
  have h := bits_and_u64_nat (u64n b) 63 (u64n_lt b) (by decide)
  rw [show ((63 : Nat) : Int) = (63 : Int) from rfl] at h
  rw [h, show (63 : Nat) = 2 ^ 6 - 1 by decide, Nat.and_two_pow_sub_one_eq_mod]
  unfold u64n; omega
theorem places_nat (b : Int) : u64n b % 64 = (b % 64).toNat := by unfold u64n; omega
theorem tv_same (a b : Int) (h : -9223372036854775808 ≤ a ∧ a ≤ 9223372036854775807) (g : -9223372036854775808 ≤ b ∧ b ≤ 9223372036854775807) : ((u64n a : Int) == (u64n b : Int)) = (a == b) := by
  rw [Bool.eq_iff_iff]; simp; unfold u64n; omega
def InR (x : Int) : Prop := -9223372036854775808 ≤ x ∧ x ≤ 9223372036854775807
theorem InR.ite {c : Prop} [Decidable c] {x y : Int} (hx : InR x) (hy : InR y) : InR (if c then x else y) := by split <;> assumption
theorem InR.w64 (n : Int) : InR (wrap64 n) := by unfold InR wrap64; omega
theorem InR.tv (c : Bool) : InR (tv c) := by cases c <;> exact ⟨by decide, by decide⟩
theorem InR.zero : InR 0 := ⟨by decide, by decide⟩
theorem arV_range (s a b : Int) (h : -9223372036854775808 ≤ a ∧ a ≤ 9223372036854775807) : -9223372036854775808 ≤ arV s a b ∧ arV s a b ≤ 9223372036854775807 := by
  show InR (arV s a b)
  unfold arV
  refine InR.ite (InR.w64 _) (InR.ite (InR.w64 _) (InR.ite (InR.w64 _) (InR.ite (InR.ite InR.zero (InR.w64 _)) (InR.ite (InR.ite InR.zero (tmod_range a b h)) ?_))))
  refine InR.ite (bits_range _ a b) (InR.ite (bits_range _ a b) (InR.ite (bits_range _ a b) (InR.ite (shu_bd a _) (InR.ite (shd_bd a _ h) ?_))))
  exact InR.ite (InR.tv _) (InR.ite (InR.tv _) (InR.ite (InR.tv _) (InR.ite (InR.tv _) InR.zero)))
end Go.Proofs.Ytkomjcmjhabpnaa
