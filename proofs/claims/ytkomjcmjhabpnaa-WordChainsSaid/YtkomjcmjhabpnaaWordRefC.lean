/- The document's and, or, xor and its quotient and rest for layer 1, walked bit by bit. Whatever the numbers of 64 bits without a sign; the divisor at least 1, at most 2^63. -/
import Derived.Test.YtkomjcmjhabpnaaWordRefB
namespace Go.Proofs.Ytkomjcmjhabpnaa
open Go.RowKit (wrap64 intOf)

theorem bit_one (a i : Nat) (w : World) (ha : a < 18446744073709551616) (hi : i < 64) (h : Go.RowKit.Hid (bit a i = 1)) :
    Calls Try.prog 32 #[.int .u64 a, .int .i64 i] w fun e w' => e = .returned (.int .u64 1) ∧ w = w' :=
  (bit_any a i w ha hi).mono fun _ _ ⟨he, hw⟩ => ⟨by rw [he, h.out]; rfl, hw⟩
theorem bit_nil (a i : Nat) (w : World) (ha : a < 18446744073709551616) (hi : i < 64) (h : Go.RowKit.Hid (bit a i = 0)) :
    Calls Try.prog 32 #[.int .u64 a, .int .i64 i] w fun e w' => e = .returned (.int .u64 0) ∧ w = w' :=
  (bit_any a i w ha hi).mono fun _ _ ⟨he, hw⟩ => ⟨by rw [he, h.out]; rfl, hw⟩

theorem bits_5 (a b : Nat) (w : World) (ha : a < 18446744073709551616) (hb : b < 18446744073709551616) :
    Calls Try.prog 28 #[.int .i64 5, .int .u64 a, .int .u64 b] w fun e w' => e = .returned (.int .u64 (bitop 5 a b)) ∧ w = w' := by
  go_enter Try.func28, Try.ntmps28
  go_wp2
  go_loop [7, 8] (fun o t => ∃ i : Nat, i ≤ 64 ∧ t = .int .i64 i ∧ o = .int .u64 (bo 5 a b i)) (fun _ t => 64 - (intOf t).toNat)
  case atStart => exact ⟨0, by omega, rfl, by rw [bo_zero]; rfl⟩
  case round =>
    obtain ⟨i, hi, rfl, rfl⟩ := hrel
    by_cases hlt : i < 64
    · have ba := bit_le a i
      have bb := bit_le b i
      rcases (show bit a i = 0 ∨ bit a i = 1 by omega) with h1 | h1 <;> rcases (show bit b i = 0 ∨ bit b i = 1 by omega) with h2 | h2
      all_goals
        have hv2 := bitop_bit 5 a b i
        simp only [h1, h2, if_true, if_false, Nat.reduceEqDiff, Nat.reduceMul, Nat.reduceAdd, Nat.reduceDiv, Nat.reduceMod] at hv2
        have H1 := Lib.hid h1
        have H2 := Lib.hid h2
        clear h1 h2
        have HV := Lib.hid hv2
        clear hv2 ba bb
        go_wp2_with (go_at_call 32; (first | (with_reducible refine (bit_one a i _ ha hlt H1).mono ?_) | (with_reducible refine (bit_nil a i _ ha hlt H1).mono ?_) | (with_reducible refine (bit_one b i _ hb hlt H2).mono ?_) | (with_reducible refine (bit_nil b i _ hb hlt H2).mono ?_)); rintro e w' ⟨rfl, rfl⟩)
        go_round
        case rel => first | exact ⟨i + 1, by omega, by go_num, by rw [bo_no _ _ _ _ HV.out]⟩ | (refine ⟨i + 1, by omega, by go_num, ?_⟩; rw [← bo_yes _ _ _ _ hlt HV.out])
        case measure => simp [intOf]; omega
    · obtain rfl : i = 64 := by omega
      go_wp2
      go_ret
      exact ⟨ret_int (by rw [bo_end _ a b ha hb]), rfl⟩
theorem bits_6 (a b : Nat) (w : World) (ha : a < 18446744073709551616) (hb : b < 18446744073709551616) :
    Calls Try.prog 28 #[.int .i64 6, .int .u64 a, .int .u64 b] w fun e w' => e = .returned (.int .u64 (bitop 6 a b)) ∧ w = w' := by
  go_enter Try.func28, Try.ntmps28
  go_wp2
  go_loop [7, 8] (fun o t => ∃ i : Nat, i ≤ 64 ∧ t = .int .i64 i ∧ o = .int .u64 (bo 6 a b i)) (fun _ t => 64 - (intOf t).toNat)
  case atStart => exact ⟨0, by omega, rfl, by rw [bo_zero]; rfl⟩
  case round =>
    obtain ⟨i, hi, rfl, rfl⟩ := hrel
    by_cases hlt : i < 64
    · have ba := bit_le a i
      have bb := bit_le b i
      rcases (show bit a i = 0 ∨ bit a i = 1 by omega) with h1 | h1 <;> rcases (show bit b i = 0 ∨ bit b i = 1 by omega) with h2 | h2
      all_goals
        have hv2 := bitop_bit 6 a b i
        simp only [h1, h2, if_true, if_false, Nat.reduceEqDiff, Nat.reduceMul, Nat.reduceAdd, Nat.reduceDiv, Nat.reduceMod] at hv2
        have H1 := Lib.hid h1
        have H2 := Lib.hid h2
        clear h1 h2
        have HV := Lib.hid hv2
        clear hv2 ba bb
        go_wp2_with (go_at_call 32; (first | (with_reducible refine (bit_one a i _ ha hlt H1).mono ?_) | (with_reducible refine (bit_nil a i _ ha hlt H1).mono ?_) | (with_reducible refine (bit_one b i _ hb hlt H2).mono ?_) | (with_reducible refine (bit_nil b i _ hb hlt H2).mono ?_)); rintro e w' ⟨rfl, rfl⟩)
        go_round
        case rel => first | exact ⟨i + 1, by omega, by go_num, by rw [bo_no _ _ _ _ HV.out]⟩ | (refine ⟨i + 1, by omega, by go_num, ?_⟩; rw [← bo_yes _ _ _ _ hlt HV.out])
        case measure => simp [intOf]; omega
    · obtain rfl : i = 64 := by omega
      go_wp2
      go_ret
      exact ⟨ret_int (by rw [bo_end _ a b ha hb]), rfl⟩
theorem bits_7 (a b : Nat) (w : World) (ha : a < 18446744073709551616) (hb : b < 18446744073709551616) :
    Calls Try.prog 28 #[.int .i64 7, .int .u64 a, .int .u64 b] w fun e w' => e = .returned (.int .u64 (bitop 7 a b)) ∧ w = w' := by
  go_enter Try.func28, Try.ntmps28
  go_wp2
  go_loop [7, 8] (fun o t => ∃ i : Nat, i ≤ 64 ∧ t = .int .i64 i ∧ o = .int .u64 (bo 7 a b i)) (fun _ t => 64 - (intOf t).toNat)
  case atStart => exact ⟨0, by omega, rfl, by rw [bo_zero]; rfl⟩
  case round =>
    obtain ⟨i, hi, rfl, rfl⟩ := hrel
    by_cases hlt : i < 64
    · have ba := bit_le a i
      have bb := bit_le b i
      rcases (show bit a i = 0 ∨ bit a i = 1 by omega) with h1 | h1 <;> rcases (show bit b i = 0 ∨ bit b i = 1 by omega) with h2 | h2
      all_goals
        have hv2 := bitop_bit 7 a b i
        simp only [h1, h2, if_false, Nat.reduceEqDiff, Nat.reduceMul, Nat.reduceAdd, Nat.reduceDiv, Nat.reduceMod] at hv2
        have H1 := Lib.hid h1
        have H2 := Lib.hid h2
        clear h1 h2
        have HV := Lib.hid hv2
        clear hv2 ba bb
        go_wp2_with (go_at_call 32; (first | (with_reducible refine (bit_one a i _ ha hlt H1).mono ?_) | (with_reducible refine (bit_nil a i _ ha hlt H1).mono ?_) | (with_reducible refine (bit_one b i _ hb hlt H2).mono ?_) | (with_reducible refine (bit_nil b i _ hb hlt H2).mono ?_)); rintro e w' ⟨rfl, rfl⟩)
        go_round
        case rel => first | exact ⟨i + 1, by omega, by go_num, by rw [bo_no _ _ _ _ HV.out]⟩ | (refine ⟨i + 1, by omega, by go_num, ?_⟩; rw [← bo_yes _ _ _ _ hlt HV.out])
        case measure => simp [intOf]; omega
    · obtain rfl : i = 64 := by omega
      go_wp2
      go_ret
      exact ⟨ret_int (by rw [bo_end _ a b ha hb]), rfl⟩
end Go.Proofs.Ytkomjcmjhabpnaa
