/- The document's sizes, orders and shifts for layer 1, walked: a number without its sign; which of two numbers is less, by the highest bit that is another one; a shift by one bit, again and again. Whatever the numbers of 64 bits. -/
import Derived.Test.YtkomjcmjhabpnaaWordRefA
namespace Go.Proofs.Ytkomjcmjhabpnaa
open Go.RowKit (wrap64 intOf)

theorem size_any (a : Int) (w : World) (h0 : -9223372036854775808 ≤ a) (h1 : a ≤ 9223372036854775807) :
    Calls Try.prog 27 #[.int .i64 a] w fun e w' => e = .returned (.int .u64 a.natAbs) ∧ w = w' := by
  by_cases h : a < 0
  · have hw := wrap_u64n a
    have hl := u64n_lt a
    go_enter Try.func27, Try.ntmps27
    go_wp2_with (go_at_call 24; refine (minus_any _ _ (by assumption)).mono ?_; rintro e w' ⟨rfl, rfl⟩)
    go_ret
    exact ⟨ret_int (by rw [size_neg a h0 h]), rfl⟩
  · go_enter Try.func27, Try.ntmps27
    go_wp2
    go_ret
    exact ⟨ret_int (by omega), rfl⟩

theorem truth_any (b : Bool) (w : World) :
    Calls Try.prog 30 #[.bool b] w fun e w' => e = .returned (.int .i64 (if b then 1 else 0)) ∧ w = w' := by
  cases b
  · go_enter Try.func30, Try.ntmps30
    go_wp2
    go_ret
    exact ⟨rfl, rfl⟩
  · go_enter Try.func30, Try.ntmps30
    go_wp2
    go_ret
    exact ⟨rfl, rfl⟩

theorem less_any (a b : Int) (w : World) (h0 : -9223372036854775808 ≤ a) (h1 : a ≤ 9223372036854775807) (h2 : -9223372036854775808 ≤ b) (h3 : b ≤ 9223372036854775807) :
    Calls Try.prog 31 #[.int .i64 a, .int .i64 b] w fun e w' => e = .returned (.bool (decide (a < b))) ∧ w = w' := by
  have hx := xor_flip a h0 h1
  have hy := xor_flip b h2 h3
  have lx := flip_lt a h1
  have ly := flip_lt b h3
  have HE := Lib.hid (flip_less a b h0 h2)
  go_enter Try.func31, Try.ntmps31
  go_wp2
  clear hx hy
  go_loop [7] (fun t => (t = .int .i64 (-1) ∧ flip a = flip b) ∨ ∃ j : Nat, j < 64 ∧ t = .int .i64 j ∧ flip a / 2 ^ (j + 1) = flip b / 2 ^ (j + 1)) (fun t => (intOf t + 1).toNat)
  case atStart => exact Or.inr ⟨63, by omega, rfl, by rw [Nat.div_eq_of_lt lx, Nat.div_eq_of_lt ly]⟩
  case round =>
    rcases hrel with ⟨rfl, hsame⟩ | ⟨j, hj, rfl, hup⟩
    · have HS := Lib.hid hsame
      clear hsame
      go_wp2
      go_ret
      exact ⟨(by rw [← HE.out, decide_eq_false (by rw [HS.out]; omega)] : Ending.returned (.bool false) = .returned (.bool (decide (a < b)))), rfl⟩
    · have HU := Lib.hid hup
      clear hup
      have b1 := bit_le (flip a) j
      have b2 := bit_le (flip b) j
      by_cases hb : bit (flip a) j = bit (flip b) j
      · have HB := Lib.hid hb
        have ht : ((bit (flip a) j : Int) != (bit (flip b) j : Int)) = false := by simp [hb]
        clear hb
        go_wp2_with (go_at_call 32; refine (bit_any _ _ _ (by assumption) (by assumption)).mono ?_; rintro e w' ⟨rfl, rfl⟩)
        go_round
        case rel =>
          have hd := same_down (flip a) (flip b) j HU.out HB.out
          by_cases hz : j = 0
          · subst hz
            exact Or.inl ⟨rfl, by simpa using hd⟩
          · exact Or.inr ⟨j - 1, by omega, val_int (by omega), by rw [show j - 1 + 1 = j by omega]; exact hd⟩
        case measure => simp [intOf]
      · have HB := Lib.hid hb
        have ht : ((bit (flip a) j : Int) != (bit (flip b) j : Int)) = true := by simp; omega
        clear hb
        go_wp2_with (go_at_call 32; refine (bit_any _ _ _ (by assumption) (by assumption)).mono ?_; rintro e w' ⟨rfl, rfl⟩)
        go_ret
        have hfin : ((bit (flip b) j : Int) == 1) = decide (a < b) := by
          rw [← HE.out, less_at _ _ _ HU.out HB.out, Bool.eq_iff_iff]
          simp; omega
        exact ⟨(by rw [hfin] : Ending.returned (.bool ((bit (flip b) j : Int) == 1)) = .returned (.bool (decide (a < b)))), rfl⟩

theorem up_any (a n : Int) (w : World) (h : -9223372036854775808 ≤ a ∧ a ≤ 9223372036854775807) (m : Nat) (hn : n = m) (hm : m < 64) :
    Calls Try.prog 29 #[.int .i64 a, .int .i64 n, .bool true] w fun e w' => e = .returned (.int .i64 (shu a m)) ∧ w = w' := by
  subst hn
  go_enter Try.func29, Try.ntmps29
  go_wp2
  go_loop [0, 7] (fun v t => ∃ k : Nat, k ≤ m ∧ t = .int .i64 k ∧ v = .int .i64 (shu a k)) (fun _ t => m - (intOf t).toNat)
  case atStart => exact ⟨0, by omega, rfl, by rw [shu_zero a h]⟩
  case round =>
    obtain ⟨k, hk, rfl, rfl⟩ := hrel
    have bd := shu_bd a k
    by_cases hlt : k < m
    · have hw := wrap_u64n (shu a k)
      have hl := u64n_lt (shu a k)
      go_wp2_with (go_at_call 23; refine (plus_any _ _ _ (by assumption) (by assumption)).mono ?_; rintro e w' ⟨rfl, rfl⟩)
      go_round
      case rel => exact ⟨k + 1, by omega, by go_num, val_int (shu_step a k)⟩
      case measure => simp [intOf]; omega
    · obtain rfl : k = m := by omega
      go_wp2
      go_ret
      exact ⟨rfl, rfl⟩

theorem down_any (a n : Int) (w : World) (h : -9223372036854775808 ≤ a ∧ a ≤ 9223372036854775807) (m : Nat) (hn : n = m) (hm : m < 64) :
    Calls Try.prog 29 #[.int .i64 a, .int .i64 n, .bool false] w fun e w' => e = .returned (.int .i64 (shd a m)) ∧ w = w' := by
  subst hn
  go_enter Try.func29, Try.ntmps29
  go_wp2
  go_loop [0, 7] (fun v t => ∃ k : Nat, k ≤ m ∧ t = .int .i64 k ∧ v = .int .i64 (shd a k)) (fun _ t => m - (intOf t).toNat)
  case atStart => exact ⟨0, by omega, rfl, by rw [shd_zero a]⟩
  case round =>
    obtain ⟨k, hk, rfl, rfl⟩ := hrel
    have bd := shd_bd a k h
    by_cases hlt : k < m
    · have hw := wrap_u64n (shd a k)
      have hl := u64n_lt (shd a k)
      go_wp2
      go_round
      case rel => exact ⟨k + 1, by omega, by go_num, val_int (by rw [shd_succ]; exact half_step _ bd)⟩
      case measure => simp [intOf]; omega
    · obtain rfl : k = m := by omega
      go_wp2
      go_ret
      exact ⟨rfl, rfl⟩
end Go.Proofs.Ytkomjcmjhabpnaa
