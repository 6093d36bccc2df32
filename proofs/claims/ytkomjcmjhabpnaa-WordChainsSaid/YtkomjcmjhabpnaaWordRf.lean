/- The document's own reckoning of layer 1, walked: it answers, for whatever sign and whatever two numbers of 64 bits, the same value and truth as the chapter gives in plain words. -/
import Derived.Test.YtkomjcmjhabpnaaWordVal
import Derived.Test.YtkomjcmjhabpnaaWordRefB
import Derived.Test.YtkomjcmjhabpnaaWordRefC
import Derived.Test.YtkomjcmjhabpnaaWordRefD
namespace Go.Proofs.Ytkomjcmjhabpnaa
open Go.RowKit (wrap64 intOf)
theorem ret_two {x y : Int} {p q : Bool} (h : x = y) (g : p = q) : Ending.returned (.tuple #[.int .i64 x, .bool p]) = .returned (.tuple #[.int .i64 y, .bool q]) := by rw [h, g]
theorem truth_tv (b : Bool) (w : World) :
    Calls Try.prog 30 #[.bool b] w fun e w' => e = .returned (.int .i64 (tv b)) ∧ w = w' := truth_any b w
theorem ra_0 (a b : Int) (w : World) (ha : -9223372036854775808 ≤ a ∧ a ≤ 9223372036854775807) (hb : -9223372036854775808 ≤ b ∧ b ≤ 9223372036854775807) :
    Calls Try.prog 19 #[.int .i64 0, .int .i64 a, .int .i64 b] w fun e w' => e = .returned (.tuple #[.int .i64 (arV 0 a b), .bool (arOk 0 b)]) ∧ w = w' := by
  obtain ⟨ha0, ha1⟩ := ha
  obtain ⟨hb0, hb1⟩ := hb
  have wa := wrap_u64n a
  have wb := wrap_u64n b
  have la := u64n_lt a
  have lb := u64n_lt b
  go_enter Try.func19, Try.ntmps19
  go_wp2_with (go_at_call 23; (with_reducible refine (plus_any (u64n a) (u64n b) _ la lb).mono ?_); rintro e w' ⟨rfl, rfl⟩)
  go_ret2
  exact ⟨ret_two (v_sum a b) rfl, rfl⟩
theorem ra_1 (a b : Int) (w : World) (ha : -9223372036854775808 ≤ a ∧ a ≤ 9223372036854775807) (hb : -9223372036854775808 ≤ b ∧ b ≤ 9223372036854775807) :
    Calls Try.prog 19 #[.int .i64 1, .int .i64 a, .int .i64 b] w fun e w' => e = .returned (.tuple #[.int .i64 (arV 1 a b), .bool (arOk 1 b)]) ∧ w = w' := by
  obtain ⟨ha0, ha1⟩ := ha
  obtain ⟨hb0, hb1⟩ := hb
  have wa := wrap_u64n a
  have wb := wrap_u64n b
  have la := u64n_lt a
  have lb := u64n_lt b
  go_enter Try.func19, Try.ntmps19
  go_wp2_with (first | (go_at_call 24; (with_reducible refine (minus_any (u64n b) _ lb).mono ?_); rintro e w' ⟨rfl, rfl⟩) | (go_at_call 23; (with_reducible refine (plus_any (u64n a) (neg64 (u64n b)) _ la (neg64_lt _)).mono ?_); rintro e w' ⟨rfl, rfl⟩))
  go_ret2
  exact ⟨ret_two (v_sub a b) rfl, rfl⟩
theorem ra_2 (a b : Int) (w : World) (ha : -9223372036854775808 ≤ a ∧ a ≤ 9223372036854775807) (hb : -9223372036854775808 ≤ b ∧ b ≤ 9223372036854775807) :
    Calls Try.prog 19 #[.int .i64 2, .int .i64 a, .int .i64 b] w fun e w' => e = .returned (.tuple #[.int .i64 (arV 2 a b), .bool (arOk 2 b)]) ∧ w = w' := by
  obtain ⟨ha0, ha1⟩ := ha
  obtain ⟨hb0, hb1⟩ := hb
  have wa := wrap_u64n a
  have wb := wrap_u64n b
  have la := u64n_lt a
  have lb := u64n_lt b
  go_enter Try.func19, Try.ntmps19
  go_wp2_with (go_at_call 25; (with_reducible refine (times_any (u64n a) (u64n b) _ la lb).mono ?_); rintro e w' ⟨rfl, rfl⟩)
  go_ret2
  exact ⟨ret_two (v_mul a b) rfl, rfl⟩
theorem ra_5 (a b : Int) (w : World) (ha : -9223372036854775808 ≤ a ∧ a ≤ 9223372036854775807) (hb : -9223372036854775808 ≤ b ∧ b ≤ 9223372036854775807) :
    Calls Try.prog 19 #[.int .i64 5, .int .i64 a, .int .i64 b] w fun e w' => e = .returned (.tuple #[.int .i64 (arV 5 a b), .bool (arOk 5 b)]) ∧ w = w' := by
  obtain ⟨ha0, ha1⟩ := ha
  obtain ⟨hb0, hb1⟩ := hb
  have wa := wrap_u64n a
  have wb := wrap_u64n b
  have la := u64n_lt a
  have lb := u64n_lt b
  go_enter Try.func19, Try.ntmps19
  go_wp2_with (go_at_call 28; (with_reducible refine (bits_5 (u64n a) (u64n b) _ la lb).mono ?_); rintro e w' ⟨rfl, rfl⟩)
  go_ret2
  exact ⟨ret_two (v_and a b) rfl, rfl⟩
theorem ra_6 (a b : Int) (w : World) (ha : -9223372036854775808 ≤ a ∧ a ≤ 9223372036854775807) (hb : -9223372036854775808 ≤ b ∧ b ≤ 9223372036854775807) :
    Calls Try.prog 19 #[.int .i64 6, .int .i64 a, .int .i64 b] w fun e w' => e = .returned (.tuple #[.int .i64 (arV 6 a b), .bool (arOk 6 b)]) ∧ w = w' := by
  obtain ⟨ha0, ha1⟩ := ha
  obtain ⟨hb0, hb1⟩ := hb
  have wa := wrap_u64n a
  have wb := wrap_u64n b
  have la := u64n_lt a
  have lb := u64n_lt b
  go_enter Try.func19, Try.ntmps19
  go_wp2_with (go_at_call 28; (with_reducible refine (bits_6 (u64n a) (u64n b) _ la lb).mono ?_); rintro e w' ⟨rfl, rfl⟩)
  go_ret2
  exact ⟨ret_two (v_or a b) rfl, rfl⟩
theorem ra_7 (a b : Int) (w : World) (ha : -9223372036854775808 ≤ a ∧ a ≤ 9223372036854775807) (hb : -9223372036854775808 ≤ b ∧ b ≤ 9223372036854775807) :
    Calls Try.prog 19 #[.int .i64 7, .int .i64 a, .int .i64 b] w fun e w' => e = .returned (.tuple #[.int .i64 (arV 7 a b), .bool (arOk 7 b)]) ∧ w = w' := by
  obtain ⟨ha0, ha1⟩ := ha
  obtain ⟨hb0, hb1⟩ := hb
  have wa := wrap_u64n a
  have wb := wrap_u64n b
  have la := u64n_lt a
  have lb := u64n_lt b
  go_enter Try.func19, Try.ntmps19
  go_wp2_with (go_at_call 28; (with_reducible refine (bits_7 (u64n a) (u64n b) _ la lb).mono ?_); rintro e w' ⟨rfl, rfl⟩)
  go_ret2
  exact ⟨ret_two (v_xor a b) rfl, rfl⟩
theorem ra_8 (a b : Int) (w : World) (ha : -9223372036854775808 ≤ a ∧ a ≤ 9223372036854775807) (hb : -9223372036854775808 ≤ b ∧ b ≤ 9223372036854775807) :
    Calls Try.prog 19 #[.int .i64 8, .int .i64 a, .int .i64 b] w fun e w' => e = .returned (.tuple #[.int .i64 (arV 8 a b), .bool (arOk 8 b)]) ∧ w = w' := by
  obtain ⟨ha0, ha1⟩ := ha
  obtain ⟨hb0, hb1⟩ := hb
  have wa := wrap_u64n a
  have wb := wrap_u64n b
  have la := u64n_lt a
  have lb := u64n_lt b
  have hk : u64n b % 64 < 64 := Nat.mod_lt _ (by decide)
  go_enter Try.func19, Try.ntmps19
  go_wp2_with (go_at_call 29; (with_reducible refine (up_any a _ _ ⟨ha0, ha1⟩ (u64n b % 64) (by simp) hk).mono ?_); rintro e w' ⟨rfl, rfl⟩)
  go_ret2
  exact ⟨ret_two (by rw [places_nat]; rfl) rfl, rfl⟩
theorem ra_9 (a b : Int) (w : World) (ha : -9223372036854775808 ≤ a ∧ a ≤ 9223372036854775807) (hb : -9223372036854775808 ≤ b ∧ b ≤ 9223372036854775807) :
    Calls Try.prog 19 #[.int .i64 9, .int .i64 a, .int .i64 b] w fun e w' => e = .returned (.tuple #[.int .i64 (arV 9 a b), .bool (arOk 9 b)]) ∧ w = w' := by
  obtain ⟨ha0, ha1⟩ := ha
  obtain ⟨hb0, hb1⟩ := hb
  have wa := wrap_u64n a
  have wb := wrap_u64n b
  have la := u64n_lt a
  have lb := u64n_lt b
  have hk : u64n b % 64 < 64 := Nat.mod_lt _ (by decide)
  go_enter Try.func19, Try.ntmps19
  go_wp2_with (go_at_call 29; (with_reducible refine (down_any a _ _ ⟨ha0, ha1⟩ (u64n b % 64) (by simp) hk).mono ?_); rintro e w' ⟨rfl, rfl⟩)
  go_ret2
  exact ⟨ret_two (by rw [places_nat]; rfl) rfl, rfl⟩
theorem ra_10 (a b : Int) (w : World) (ha : -9223372036854775808 ≤ a ∧ a ≤ 9223372036854775807) (hb : -9223372036854775808 ≤ b ∧ b ≤ 9223372036854775807) :
    Calls Try.prog 19 #[.int .i64 10, .int .i64 a, .int .i64 b] w fun e w' => e = .returned (.tuple #[.int .i64 (arV 10 a b), .bool (arOk 10 b)]) ∧ w = w' := by
  obtain ⟨ha0, ha1⟩ := ha
  obtain ⟨hb0, hb1⟩ := hb
  have wa := wrap_u64n a
  have wb := wrap_u64n b
  have la := u64n_lt a
  have lb := u64n_lt b
  go_enter Try.func19, Try.ntmps19
  go_wp2_with (first | (go_at_call 31; (with_reducible refine (less_any a b _ ha0 ha1 hb0 hb1).mono ?_); rintro e w' ⟨rfl, rfl⟩) | (go_at_call 30; (with_reducible refine (truth_tv _ _).mono ?_); rintro e w' ⟨rfl, rfl⟩))
  go_ret2
  exact ⟨ret_two rfl rfl, rfl⟩
theorem ra_11 (a b : Int) (w : World) (ha : -9223372036854775808 ≤ a ∧ a ≤ 9223372036854775807) (hb : -9223372036854775808 ≤ b ∧ b ≤ 9223372036854775807) :
    Calls Try.prog 19 #[.int .i64 11, .int .i64 a, .int .i64 b] w fun e w' => e = .returned (.tuple #[.int .i64 (arV 11 a b), .bool (arOk 11 b)]) ∧ w = w' := by
  obtain ⟨ha0, ha1⟩ := ha
  obtain ⟨hb0, hb1⟩ := hb
  have wa := wrap_u64n a
  have wb := wrap_u64n b
  have la := u64n_lt a
  have lb := u64n_lt b
  go_enter Try.func19, Try.ntmps19
  go_wp2_with (first | (go_at_call 31; (with_reducible refine (less_any b a _ hb0 hb1 ha0 ha1).mono ?_); rintro e w' ⟨rfl, rfl⟩) | (go_at_call 30; (with_reducible refine (truth_tv _ _).mono ?_); rintro e w' ⟨rfl, rfl⟩))
  go_ret2
  exact ⟨ret_two (by show tv _ = tv (decide (a ≤ b)); congr 1; rw [Bool.eq_iff_iff]; simp) rfl, rfl⟩
theorem ra_12 (a b : Int) (w : World) (ha : -9223372036854775808 ≤ a ∧ a ≤ 9223372036854775807) (hb : -9223372036854775808 ≤ b ∧ b ≤ 9223372036854775807) :
    Calls Try.prog 19 #[.int .i64 12, .int .i64 a, .int .i64 b] w fun e w' => e = .returned (.tuple #[.int .i64 (arV 12 a b), .bool (arOk 12 b)]) ∧ w = w' := by
  obtain ⟨ha0, ha1⟩ := ha
  obtain ⟨hb0, hb1⟩ := hb
  have wa := wrap_u64n a
  have wb := wrap_u64n b
  have la := u64n_lt a
  have lb := u64n_lt b
  go_enter Try.func19, Try.ntmps19
  go_wp2_with (go_at_call 30; (with_reducible refine (truth_tv _ _).mono ?_); rintro e w' ⟨rfl, rfl⟩)
  go_ret2
  exact ⟨ret_two (by show tv _ = tv (a == b); rw [tv_same a b ⟨ha0, ha1⟩ ⟨hb0, hb1⟩]) rfl, rfl⟩
theorem ra_13 (a b : Int) (w : World) (ha : -9223372036854775808 ≤ a ∧ a ≤ 9223372036854775807) (hb : -9223372036854775808 ≤ b ∧ b ≤ 9223372036854775807) :
    Calls Try.prog 19 #[.int .i64 13, .int .i64 a, .int .i64 b] w fun e w' => e = .returned (.tuple #[.int .i64 (arV 13 a b), .bool (arOk 13 b)]) ∧ w = w' := by
  obtain ⟨ha0, ha1⟩ := ha
  obtain ⟨hb0, hb1⟩ := hb
  have wa := wrap_u64n a
  have wb := wrap_u64n b
  have la := u64n_lt a
  have lb := u64n_lt b
  go_enter Try.func19, Try.ntmps19
  go_wp2_with (go_at_call 30; (with_reducible refine (truth_tv _ _).mono ?_); rintro e w' ⟨rfl, rfl⟩)
  go_ret2
  exact ⟨ret_two (by show tv _ = tv (a != b); unfold bne; rw [tv_same a b ⟨ha0, ha1⟩ ⟨hb0, hb1⟩]) rfl, rfl⟩
theorem ra_3_nil (a : Int) (w : World) :
    Calls Try.prog 19 #[.int .i64 3, .int .i64 a, .int .i64 0] w fun e w' => e = .returned (.tuple #[.int .i64 (arV 3 a 0), .bool (arOk 3 0)]) ∧ w = w' := by
  go_enter Try.func19, Try.ntmps19
  go_wp2
  go_ret2
  exact ⟨ret_two rfl rfl, rfl⟩
theorem ra_3_up_up (a b : Int) (w : World) (ha : -9223372036854775808 ≤ a ∧ a ≤ 9223372036854775807) (hb : -9223372036854775808 ≤ b ∧ b ≤ 9223372036854775807) (hz : ¬ b = 0) (hsa : ¬ a < 0) (hsb : ¬ b < 0) :
    Calls Try.prog 19 #[.int .i64 3, .int .i64 a, .int .i64 b] w fun e w' => e = .returned (.tuple #[.int .i64 (arV 3 a b), .bool (arOk 3 b)]) ∧ w = w' := by
  obtain ⟨ha0, ha1⟩ := ha
  obtain ⟨hb0, hb1⟩ := hb
  have da : decide (a < 0) = false := decide_eq_false hsa
  have db : decide (b < 0) = false := decide_eq_false hsb
  have hz0 : (b == 0) = false := by simpa using hz
  have hq : qt a.natAbs b.natAbs < 18446744073709551616 := Nat.lt_of_le_of_lt (qt_le _ _) (by omega)
  have hr : rs a.natAbs b.natAbs < 18446744073709551616 := Nat.lt_of_le_of_lt (rs_le _ _) (by omega)
  go_enter Try.func19, Try.ntmps19
  go_wp2_with (first | (go_at_call 27; (with_reducible refine (size_any a _ ha0 ha1).mono ?_); rintro e w' ⟨rfl, rfl⟩) | (go_at_call 27; (with_reducible refine (size_any b _ hb0 hb1).mono ?_); rintro e w' ⟨rfl, rfl⟩) | (go_at_call 26; (with_reducible refine (divide_any a.natAbs b.natAbs _ (by omega) (by omega) (by omega)).mono ?_); rintro e w' ⟨rfl, rfl⟩))
  go_ret2
  exact ⟨ret_two (by show _ = (if b = 0 then 0 else wrap64 (a.tdiv b)); rw [if_neg hz]; exact v_quo_same a b (by simp; omega)) (by unfold arOk; simp [hz]), rfl⟩
theorem ra_3_up_down (a b : Int) (w : World) (ha : -9223372036854775808 ≤ a ∧ a ≤ 9223372036854775807) (hb : -9223372036854775808 ≤ b ∧ b ≤ 9223372036854775807) (hz : ¬ b = 0) (hsa : ¬ a < 0) (hsb : b < 0) :
    Calls Try.prog 19 #[.int .i64 3, .int .i64 a, .int .i64 b] w fun e w' => e = .returned (.tuple #[.int .i64 (arV 3 a b), .bool (arOk 3 b)]) ∧ w = w' := by
  obtain ⟨ha0, ha1⟩ := ha
  obtain ⟨hb0, hb1⟩ := hb
  have da : decide (a < 0) = false := decide_eq_false hsa
  have db : decide (b < 0) = true := decide_eq_true hsb
  have hz0 : (b == 0) = false := by simpa using hz
  have hq : qt a.natAbs b.natAbs < 18446744073709551616 := Nat.lt_of_le_of_lt (qt_le _ _) (by omega)
  have hr : rs a.natAbs b.natAbs < 18446744073709551616 := Nat.lt_of_le_of_lt (rs_le _ _) (by omega)
  go_enter Try.func19, Try.ntmps19
  go_wp2_with (first | (go_at_call 27; (with_reducible refine (size_any a _ ha0 ha1).mono ?_); rintro e w' ⟨rfl, rfl⟩) | (go_at_call 27; (with_reducible refine (size_any b _ hb0 hb1).mono ?_); rintro e w' ⟨rfl, rfl⟩) | (go_at_call 26; (with_reducible refine (divide_any a.natAbs b.natAbs _ (by omega) (by omega) (by omega)).mono ?_); rintro e w' ⟨rfl, rfl⟩) | (go_at_call 24; (with_reducible refine (minus_any (qt a.natAbs b.natAbs) _ hq).mono ?_); rintro e w' ⟨rfl, rfl⟩))
  go_ret2
  exact ⟨ret_two (by show _ = (if b = 0 then 0 else wrap64 (a.tdiv b)); rw [if_neg hz]; exact v_quo_other a b (by omega) (by simp; omega)) (by unfold arOk; simp [hz]), rfl⟩
theorem ra_3_down_up (a b : Int) (w : World) (ha : -9223372036854775808 ≤ a ∧ a ≤ 9223372036854775807) (hb : -9223372036854775808 ≤ b ∧ b ≤ 9223372036854775807) (hz : ¬ b = 0) (hsa : a < 0) (hsb : ¬ b < 0) :
    Calls Try.prog 19 #[.int .i64 3, .int .i64 a, .int .i64 b] w fun e w' => e = .returned (.tuple #[.int .i64 (arV 3 a b), .bool (arOk 3 b)]) ∧ w = w' := by
  obtain ⟨ha0, ha1⟩ := ha
  obtain ⟨hb0, hb1⟩ := hb
  have da : decide (a < 0) = true := decide_eq_true hsa
  have db : decide (b < 0) = false := decide_eq_false hsb
  have hz0 : (b == 0) = false := by simpa using hz
  have hq : qt a.natAbs b.natAbs < 18446744073709551616 := Nat.lt_of_le_of_lt (qt_le _ _) (by omega)
  have hr : rs a.natAbs b.natAbs < 18446744073709551616 := Nat.lt_of_le_of_lt (rs_le _ _) (by omega)
  go_enter Try.func19, Try.ntmps19
  go_wp2_with (first | (go_at_call 27; (with_reducible refine (size_any a _ ha0 ha1).mono ?_); rintro e w' ⟨rfl, rfl⟩) | (go_at_call 27; (with_reducible refine (size_any b _ hb0 hb1).mono ?_); rintro e w' ⟨rfl, rfl⟩) | (go_at_call 26; (with_reducible refine (divide_any a.natAbs b.natAbs _ (by omega) (by omega) (by omega)).mono ?_); rintro e w' ⟨rfl, rfl⟩) | (go_at_call 24; (with_reducible refine (minus_any (qt a.natAbs b.natAbs) _ hq).mono ?_); rintro e w' ⟨rfl, rfl⟩) | (go_at_call 24; (with_reducible refine (minus_any (rs a.natAbs b.natAbs) _ hr).mono ?_); rintro e w' ⟨rfl, rfl⟩))
  go_ret2
  exact ⟨ret_two (by show _ = (if b = 0 then 0 else wrap64 (a.tdiv b)); rw [if_neg hz]; exact v_quo_other a b (by omega) (by simp; omega)) (by unfold arOk; simp [hz]), rfl⟩
theorem ra_3_down_down (a b : Int) (w : World) (ha : -9223372036854775808 ≤ a ∧ a ≤ 9223372036854775807) (hb : -9223372036854775808 ≤ b ∧ b ≤ 9223372036854775807) (hz : ¬ b = 0) (hsa : a < 0) (hsb : b < 0) :
    Calls Try.prog 19 #[.int .i64 3, .int .i64 a, .int .i64 b] w fun e w' => e = .returned (.tuple #[.int .i64 (arV 3 a b), .bool (arOk 3 b)]) ∧ w = w' := by
  obtain ⟨ha0, ha1⟩ := ha
  obtain ⟨hb0, hb1⟩ := hb
  have da : decide (a < 0) = true := decide_eq_true hsa
  have db : decide (b < 0) = true := decide_eq_true hsb
  have hz0 : (b == 0) = false := by simpa using hz
  have hq : qt a.natAbs b.natAbs < 18446744073709551616 := Nat.lt_of_le_of_lt (qt_le _ _) (by omega)
  have hr : rs a.natAbs b.natAbs < 18446744073709551616 := Nat.lt_of_le_of_lt (rs_le _ _) (by omega)
  go_enter Try.func19, Try.ntmps19
  go_wp2_with (first | (go_at_call 27; (with_reducible refine (size_any a _ ha0 ha1).mono ?_); rintro e w' ⟨rfl, rfl⟩) | (go_at_call 27; (with_reducible refine (size_any b _ hb0 hb1).mono ?_); rintro e w' ⟨rfl, rfl⟩) | (go_at_call 26; (with_reducible refine (divide_any a.natAbs b.natAbs _ (by omega) (by omega) (by omega)).mono ?_); rintro e w' ⟨rfl, rfl⟩) | (go_at_call 24; (with_reducible refine (minus_any (rs a.natAbs b.natAbs) _ hr).mono ?_); rintro e w' ⟨rfl, rfl⟩))
  go_ret2
  exact ⟨ret_two (by show _ = (if b = 0 then 0 else wrap64 (a.tdiv b)); rw [if_neg hz]; exact v_quo_same a b (by simp; omega)) (by unfold arOk; simp [hz]), rfl⟩
theorem ra_4_nil (a : Int) (w : World) :
    Calls Try.prog 19 #[.int .i64 4, .int .i64 a, .int .i64 0] w fun e w' => e = .returned (.tuple #[.int .i64 (arV 4 a 0), .bool (arOk 4 0)]) ∧ w = w' := by
  go_enter Try.func19, Try.ntmps19
  go_wp2
  go_ret2
  exact ⟨ret_two rfl rfl, rfl⟩
theorem ra_4_up_up (a b : Int) (w : World) (ha : -9223372036854775808 ≤ a ∧ a ≤ 9223372036854775807) (hb : -9223372036854775808 ≤ b ∧ b ≤ 9223372036854775807) (hz : ¬ b = 0) (hsa : ¬ a < 0) (hsb : ¬ b < 0) :
    Calls Try.prog 19 #[.int .i64 4, .int .i64 a, .int .i64 b] w fun e w' => e = .returned (.tuple #[.int .i64 (arV 4 a b), .bool (arOk 4 b)]) ∧ w = w' := by
  obtain ⟨ha0, ha1⟩ := ha
  obtain ⟨hb0, hb1⟩ := hb
  have da : decide (a < 0) = false := decide_eq_false hsa
  have db : decide (b < 0) = false := decide_eq_false hsb
  have hz0 : (b == 0) = false := by simpa using hz
  have hq : qt a.natAbs b.natAbs < 18446744073709551616 := Nat.lt_of_le_of_lt (qt_le _ _) (by omega)
  have hr : rs a.natAbs b.natAbs < 18446744073709551616 := Nat.lt_of_le_of_lt (rs_le _ _) (by omega)
  go_enter Try.func19, Try.ntmps19
  go_wp2_with (first | (go_at_call 27; (with_reducible refine (size_any a _ ha0 ha1).mono ?_); rintro e w' ⟨rfl, rfl⟩) | (go_at_call 27; (with_reducible refine (size_any b _ hb0 hb1).mono ?_); rintro e w' ⟨rfl, rfl⟩) | (go_at_call 26; (with_reducible refine (divide_any a.natAbs b.natAbs _ (by omega) (by omega) (by omega)).mono ?_); rintro e w' ⟨rfl, rfl⟩))
  go_ret2
  exact ⟨ret_two (by show _ = (if b = 0 then 0 else a.tmod b); rw [if_neg hz]; exact v_rem_up a b ⟨ha0, ha1⟩ (by omega)) (by unfold arOk; simp [hz]), rfl⟩
theorem ra_4_up_down (a b : Int) (w : World) (ha : -9223372036854775808 ≤ a ∧ a ≤ 9223372036854775807) (hb : -9223372036854775808 ≤ b ∧ b ≤ 9223372036854775807) (hz : ¬ b = 0) (hsa : ¬ a < 0) (hsb : b < 0) :
    Calls Try.prog 19 #[.int .i64 4, .int .i64 a, .int .i64 b] w fun e w' => e = .returned (.tuple #[.int .i64 (arV 4 a b), .bool (arOk 4 b)]) ∧ w = w' := by
  obtain ⟨ha0, ha1⟩ := ha
  obtain ⟨hb0, hb1⟩ := hb
  have da : decide (a < 0) = false := decide_eq_false hsa
  have db : decide (b < 0) = true := decide_eq_true hsb
  have hz0 : (b == 0) = false := by simpa using hz
  have hq : qt a.natAbs b.natAbs < 18446744073709551616 := Nat.lt_of_le_of_lt (qt_le _ _) (by omega)
  have hr : rs a.natAbs b.natAbs < 18446744073709551616 := Nat.lt_of_le_of_lt (rs_le _ _) (by omega)
  go_enter Try.func19, Try.ntmps19
  go_wp2_with (first | (go_at_call 27; (with_reducible refine (size_any a _ ha0 ha1).mono ?_); rintro e w' ⟨rfl, rfl⟩) | (go_at_call 27; (with_reducible refine (size_any b _ hb0 hb1).mono ?_); rintro e w' ⟨rfl, rfl⟩) | (go_at_call 26; (with_reducible refine (divide_any a.natAbs b.natAbs _ (by omega) (by omega) (by omega)).mono ?_); rintro e w' ⟨rfl, rfl⟩) | (go_at_call 24; (with_reducible refine (minus_any (qt a.natAbs b.natAbs) _ hq).mono ?_); rintro e w' ⟨rfl, rfl⟩))
  go_ret2
  exact ⟨ret_two (by show _ = (if b = 0 then 0 else a.tmod b); rw [if_neg hz]; exact v_rem_up a b ⟨ha0, ha1⟩ (by omega)) (by unfold arOk; simp [hz]), rfl⟩
theorem ra_4_down_up (a b : Int) (w : World) (ha : -9223372036854775808 ≤ a ∧ a ≤ 9223372036854775807) (hb : -9223372036854775808 ≤ b ∧ b ≤ 9223372036854775807) (hz : ¬ b = 0) (hsa : a < 0) (hsb : ¬ b < 0) :
    Calls Try.prog 19 #[.int .i64 4, .int .i64 a, .int .i64 b] w fun e w' => e = .returned (.tuple #[.int .i64 (arV 4 a b), .bool (arOk 4 b)]) ∧ w = w' := by
  obtain ⟨ha0, ha1⟩ := ha
  obtain ⟨hb0, hb1⟩ := hb
  have da : decide (a < 0) = true := decide_eq_true hsa
  have db : decide (b < 0) = false := decide_eq_false hsb
  have hz0 : (b == 0) = false := by simpa using hz
  have hq : qt a.natAbs b.natAbs < 18446744073709551616 := Nat.lt_of_le_of_lt (qt_le _ _) (by omega)
  have hr : rs a.natAbs b.natAbs < 18446744073709551616 := Nat.lt_of_le_of_lt (rs_le _ _) (by omega)
  go_enter Try.func19, Try.ntmps19
  go_wp2_with (first | (go_at_call 27; (with_reducible refine (size_any a _ ha0 ha1).mono ?_); rintro e w' ⟨rfl, rfl⟩) | (go_at_call 27; (with_reducible refine (size_any b _ hb0 hb1).mono ?_); rintro e w' ⟨rfl, rfl⟩) | (go_at_call 26; (with_reducible refine (divide_any a.natAbs b.natAbs _ (by omega) (by omega) (by omega)).mono ?_); rintro e w' ⟨rfl, rfl⟩) | (go_at_call 24; (with_reducible refine (minus_any (qt a.natAbs b.natAbs) _ hq).mono ?_); rintro e w' ⟨rfl, rfl⟩) | (go_at_call 24; (with_reducible refine (minus_any (rs a.natAbs b.natAbs) _ hr).mono ?_); rintro e w' ⟨rfl, rfl⟩))
  go_ret2
  exact ⟨ret_two (by show _ = (if b = 0 then 0 else a.tmod b); rw [if_neg hz]; exact v_rem_down a b ⟨ha0, ha1⟩ hsa) (by unfold arOk; simp [hz]), rfl⟩
theorem ra_4_down_down (a b : Int) (w : World) (ha : -9223372036854775808 ≤ a ∧ a ≤ 9223372036854775807) (hb : -9223372036854775808 ≤ b ∧ b ≤ 9223372036854775807) (hz : ¬ b = 0) (hsa : a < 0) (hsb : b < 0) :
    Calls Try.prog 19 #[.int .i64 4, .int .i64 a, .int .i64 b] w fun e w' => e = .returned (.tuple #[.int .i64 (arV 4 a b), .bool (arOk 4 b)]) ∧ w = w' := by
  obtain ⟨ha0, ha1⟩ := ha
  obtain ⟨hb0, hb1⟩ := hb
  have da : decide (a < 0) = true := decide_eq_true hsa
  have db : decide (b < 0) = true := decide_eq_true hsb
  have hz0 : (b == 0) = false := by simpa using hz
  have hq : qt a.natAbs b.natAbs < 18446744073709551616 := Nat.lt_of_le_of_lt (qt_le _ _) (by omega)
  have hr : rs a.natAbs b.natAbs < 18446744073709551616 := Nat.lt_of_le_of_lt (rs_le _ _) (by omega)
  go_enter Try.func19, Try.ntmps19
  go_wp2_with (first | (go_at_call 27; (with_reducible refine (size_any a _ ha0 ha1).mono ?_); rintro e w' ⟨rfl, rfl⟩) | (go_at_call 27; (with_reducible refine (size_any b _ hb0 hb1).mono ?_); rintro e w' ⟨rfl, rfl⟩) | (go_at_call 26; (with_reducible refine (divide_any a.natAbs b.natAbs _ (by omega) (by omega) (by omega)).mono ?_); rintro e w' ⟨rfl, rfl⟩) | (go_at_call 24; (with_reducible refine (minus_any (rs a.natAbs b.natAbs) _ hr).mono ?_); rintro e w' ⟨rfl, rfl⟩))
  go_ret2
  exact ⟨ret_two (by show _ = (if b = 0 then 0 else a.tmod b); rw [if_neg hz]; exact v_rem_down a b ⟨ha0, ha1⟩ hsa) (by unfold arOk; simp [hz]), rfl⟩
theorem ra_no (s a b : Int) (w : World) (hs : ¬ (0 ≤ s ∧ s ≤ 13)) :
    Calls Try.prog 19 #[.int .i64 s, .int .i64 a, .int .i64 b] w fun e w' => e = .returned (.tuple #[.int .i64 (arV s a b), .bool (arOk s b)]) ∧ w = w' := by
  have e1 : arV s a b = 0 := by
    unfold arV
    iterate 14 rw [if_neg (by omega)]
  have e2 : arOk s b = false := by unfold arOk; simp [hs]
  rw [e1, e2]
  clear e1 e2
  have t0 : (s == 0) = false := by simp; omega
  have t1 : (s == 1) = false := by simp; omega
  have t2 : (s == 2) = false := by simp; omega
  have t3 : (s == 3) = false := by simp; omega
  have t4 : (s == 4) = false := by simp; omega
  have t5 : (s == 5) = false := by simp; omega
  have t6 : (s == 6) = false := by simp; omega
  have t7 : (s == 7) = false := by simp; omega
  have t8 : (s == 8) = false := by simp; omega
  have t9 : (s == 9) = false := by simp; omega
  have t10 : (s == 10) = false := by simp; omega
  have t11 : (s == 11) = false := by simp; omega
  have t12 : (s == 12) = false := by simp; omega
  have t13 : (s == 13) = false := by simp; omega
  go_enter Try.func19, Try.ntmps19
  go_wp2
  go_ret2
  exact ⟨rfl, rfl⟩
theorem ra_any (s a b : Int) (w : World) (ha : -9223372036854775808 ≤ a ∧ a ≤ 9223372036854775807) (hb : -9223372036854775808 ≤ b ∧ b ≤ 9223372036854775807) :
    Calls Try.prog 19 #[.int .i64 s, .int .i64 a, .int .i64 b] w fun e w' => e = .returned (.tuple #[.int .i64 (arV s a b), .bool (arOk s b)]) ∧ w = w' := by
  rcases (show (s = 0 ∨ s = 1 ∨ s = 2 ∨ s = 3 ∨ s = 4 ∨ s = 5 ∨ s = 6 ∨ s = 7 ∨ s = 8 ∨ s = 9 ∨ s = 10 ∨ s = 11 ∨ s = 12 ∨ s = 13) ∨ ¬ (0 ≤ s ∧ s ≤ 13) by omega) with (rfl | rfl | rfl | rfl | rfl | rfl | rfl | rfl | rfl | rfl | rfl | rfl | rfl | rfl) | hs
  · exact ra_0 a b w ha hb
  · exact ra_1 a b w ha hb
  · exact ra_2 a b w ha hb
  · by_cases hz : b = 0
    · subst hz; exact ra_3_nil a w
    · by_cases hsa : a < 0 <;> by_cases hsb : b < 0
      · exact ra_3_down_down a b w ha hb hz hsa hsb
      · exact ra_3_down_up a b w ha hb hz hsa hsb
      · exact ra_3_up_down a b w ha hb hz hsa hsb
      · exact ra_3_up_up a b w ha hb hz hsa hsb
  · by_cases hz : b = 0
    · subst hz; exact ra_4_nil a w
    · by_cases hsa : a < 0 <;> by_cases hsb : b < 0
      · exact ra_4_down_down a b w ha hb hz hsa hsb
      · exact ra_4_down_up a b w ha hb hz hsa hsb
      · exact ra_4_up_down a b w ha hb hz hsa hsb
      · exact ra_4_up_up a b w ha hb hz hsa hsb
  · exact ra_5 a b w ha hb
  · exact ra_6 a b w ha hb
  · exact ra_7 a b w ha hb
  · exact ra_8 a b w ha hb
  · exact ra_9 a b w ha hb
  · exact ra_10 a b w ha hb
  · exact ra_11 a b w ha hb
  · exact ra_12 a b w ha hb
  · exact ra_13 a b w ha hb
  · exact ra_no s a b w hs
end Go.Proofs.Ytkomjcmjhabpnaa
