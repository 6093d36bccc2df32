/- The document's quotient and rest for layer 1, walked bit by bit. Whatever the number of 64 bits without a sign; the divisor at least 1, at most 2^63. -/
import Derived.Test.YtkomjcmjhabpnaaWordRefA
namespace Go.Proofs.Ytkomjcmjhabpnaa
open Go.RowKit (wrap64 intOf)

theorem divide_any (a d : Nat) (w : World) (ha : a < 18446744073709551616) (hd : 1 ≤ d) (hd2 : d ≤ 9223372036854775808) :
    Calls Try.prog 26 #[.int .u64 a, .int .u64 d] w fun e w' => e = .returned (.tuple #[.int .u64 (qt a d), .int .u64 (rs a d)]) ∧ w = w' := by
  have e1 : qt a d = dq a d 0 := by unfold qt dq; rw [Nat.pow_zero, Nat.div_one]
  have e2 : rs a d = dr a d 0 := by unfold rs dr; rw [Nat.pow_zero, Nat.div_one]
  rw [e1, e2]
  clear e1 e2
  go_enter Try.func26, Try.ntmps26
  go_wp2
  go_loop [6, 7, 8] (fun q r t => ∃ k : Nat, k ≤ 64 ∧ t = .int .i64 ((k : Int) - 1) ∧ q = .int .u64 (dq a d k) ∧ r = .int .u64 (dr a d k)) (fun _ _ t => (intOf t + 1).toNat)
  case atStart =>
    have h0 : a / 2 ^ 64 = 0 := Nat.div_eq_of_lt ha
    exact ⟨64, by omega, rfl, by unfold dq; rw [h0, Nat.zero_div]; rfl, by unfold dr; rw [h0, Nat.zero_mod]; rfl⟩
  case round =>
    obtain ⟨k, hk, rfl, rfl, rfl⟩ := hrel
    by_cases hz : k = 0
    · subst hz
      go_wp2
      go_ret2
      exact ⟨rfl, rfl⟩
    · obtain ⟨j, rfl⟩ : ∃ j, k = j + 1 := ⟨k - 1, by omega⟩
      have ej : (((j + 1 : Nat) : Int) - 1) = (j : Int) := by omega
      rw [ej]
      clear ej
      have hr := dr_lt a d (j + 1) hd
      have hq := dq_lt a d j ha
      have hb := bit_le a j
      have o1 := or_low (dr a d (j + 1)) (bit a j) (by omega) hb
      have o2 := or_low (dq a d (j + 1)) 1 hq (by omega)
      have hover : decide ((9223372036854775808 : Int) ≤ (dr a d (j + 1) : Int)) = false := by rw [decide_eq_false]; omega
      have hl := sub_neg (dn a d j) d hd
      have hdn : dn a d j < 18446744073709551616 := by unfold dn; omega
      by_cases hn : dr a d (j + 1) * 2 + bit a j < d
      · have HD := Lib.hid (d_no a d j hd hn)
        clear hl hdn
        go_wp2_with (go_at_call 32; (with_reducible refine (bit_any a j _ ha (by omega)).mono ?_); rintro e w' ⟨rfl, rfl⟩)
        go_round
        case rel => exact ⟨j, by omega, rfl, val_int (by rw [HD.out.1]; omega), val_int (by rw [HD.out.2]; unfold dn; omega)⟩
        case measure => simp [intOf]
      · have HD := Lib.hid (d_yes a d j hd (by unfold dn; omega))
        have HS := Lib.hid (hl (by unfold dn; omega) hdn)
        clear hl
        have hdn2 : ((dr a d (j + 1) : Int) * 2 + (bit a j : Int)) = (dn a d j : Int) := by unfold dn; omega
        have HN := Lib.hid hdn2
        clear hdn2
        go_wp2_with (first | (go_at_call 32; (with_reducible refine (bit_any a j _ ha (by omega)).mono ?_); rintro e w' ⟨rfl, rfl⟩) | (go_at_call 24; (with_reducible refine (minus_any d _ (by omega)).mono ?_); rintro e w' ⟨rfl, rfl⟩) | (go_at_call 23; rw [HN.out]; (with_reducible refine (plus_any (dn a d j) (neg64 d) _ hdn (neg64_lt d)).mono ?_); rintro e w' ⟨rfl, rfl⟩))
        go_round
        case rel => exact ⟨j, by omega, rfl, val_int (by rw [HD.out.1]; omega), val_int (by rw [HD.out.2, HS.out])⟩
        case measure => simp [intOf]
end Go.Proofs.Ytkomjcmjhabpnaa
