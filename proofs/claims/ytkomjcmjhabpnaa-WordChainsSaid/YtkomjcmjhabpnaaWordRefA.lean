/- The document's bits and sums for layer 1, walked: a bit of a number, a sum by carries, the number with the other sign, a product, a size. Whatever the numbers of 64 bits. -/
import Derived.Test.YtkomjcmjhabpnaaRows
import Derived.Test.YtkomjcmjhabpnaaWordPlain
import Derived.WalkKit
import Derived.ProofKit
import Derived.OpenShut
import Derived.Lib.Hide
namespace Go.Proofs.Ytkomjcmjhabpnaa
open Go.RowKit (wrap64 intOf)

theorem ret_int {k : IntKind} {a b : Int} (h : a = b) : Ending.returned (.int k a) = .returned (.int k b) := by rw [h]
theorem val_int {k : IntKind} {a b : Int} (h : a = b) : Value.int k a = .int k b := by rw [h]

theorem bit_any (a i : Nat) (w : World) (_ha : a < 18446744073709551616) (hi : i < 64) :
    Calls Try.prog 32 #[.int .u64 a, .int .i64 i] w fun e w' => e = .returned (.int .u64 (bit a i)) ∧ w = w' := by
  go_enter Try.func32, Try.ntmps32
  go_wp2
  go_ret
  refine ⟨ret_int ?_, rfl⟩
  unfold bit
  rw [pow_cast, ← Int.natCast_ediv, Int.tmod_eq_emod_of_nonneg (Int.natCast_nonneg _)]
  rfl

theorem plus_any (a b : Nat) (w : World) (ha : a < 18446744073709551616) (hb : b < 18446744073709551616) :
    Calls Try.prog 23 #[.int .u64 a, .int .u64 b] w fun e w' => e = .returned (.int .u64 (sum64 a b)) ∧ w = w' := by
  go_enter Try.func23, Try.ntmps23
  go_wp2
  go_loop [5, 6, 7] (fun o c t => ∃ i : Nat, i ≤ 64 ∧ t = .int .i64 i ∧ o = .int .u64 (po a b i) ∧ c = .int .u64 (pc a b i)) (fun _ _ t => 64 - (intOf t).toNat)
  case atStart => exact ⟨0, by omega, rfl, by rw [po_zero]; rfl, by rw [pc_zero]; rfl⟩
  case round =>
    obtain ⟨i, hi, rfl, rfl, rfl⟩ := hrel
    have h1 := bit_le a i
    have h2 := bit_le b i
    have h3 := pc_le a b i
    by_cases hlt : i < 64
    · go_wp2_with (go_at_call 32; refine (bit_any _ _ _ (by assumption) (by assumption)).mono ?_; rintro e w' ⟨rfl, rfl⟩)
      go_round
      case rel => exact ⟨i + 1, by omega, by go_num, val_int (p_or a b i hlt), val_int (p_carry a b i)⟩
      case measure => simp [intOf]; omega
    · obtain rfl : i = 64 := by omega
      go_wp2
      go_ret
      exact ⟨ret_int (by rw [po_end a b ha hb]), rfl⟩

theorem minus_any (a : Nat) (w : World) (ha : a < 18446744073709551616) :
    Calls Try.prog 24 #[.int .u64 a] w fun e w' => e = .returned (.int .u64 (neg64 a)) ∧ w = w' := by
  have hx := xor_ones a ha
  go_enter Try.func24, Try.ntmps24
  go_wp2_with (go_at_call 23; refine (plus_any (18446744073709551615 - a) 1 _ (by omega) (by omega)).mono ?_; rintro e w' ⟨rfl, rfl⟩)
  go_ret
  exact ⟨ret_int (by rw [minus_nat a ha]), rfl⟩

theorem times_any (a b : Nat) (w : World) (_ha : a < 18446744073709551616) (hb : b < 18446744073709551616) :
    Calls Try.prog 25 #[.int .u64 a, .int .u64 b] w fun e w' => e = .returned (.int .u64 (mul64 a b)) ∧ w = w' := by
  go_enter Try.func25, Try.ntmps25
  go_wp2
  go_loop [5, 6] (fun o t => ∃ i : Nat, i ≤ 64 ∧ t = .int .i64 i ∧ o = .int .u64 (pt a b i)) (fun _ t => 64 - (intOf t).toNat)
  case atStart => exact ⟨0, by omega, rfl, by rw [pt_zero]; rfl⟩
  case round =>
    obtain ⟨i, hi, rfl, rfl⟩ := hrel
    have h1 := pt_lt a b i
    by_cases hlt : i < 64
    · have hw : IntKind.u64.wrap ((a : Int) * 2 ^ i) = ((a * 2 ^ i % 18446744073709551616 : Nat) : Int) := shl_wrap a i
      have hm : a * 2 ^ i % 18446744073709551616 < 18446744073709551616 := Nat.mod_lt _ (by decide)
      have hb1 := bit_le b i
      by_cases hbit : bit b i = 1
      · have hy := pt_yes a b i hbit
        have hb2 : ((bit b i : Int) == 1) = true := by rw [hbit]; rfl
        have HW := Lib.hid hw; clear hw
        have HY := Lib.hid hy; clear hy
        have HM := Lib.hid hm; clear hm
        have HB := Lib.hid hbit; clear hbit
        go_wp2_with (first | (go_at_call 32; refine (bit_any _ _ _ (by assumption) (by assumption)).mono ?_; rintro e w' ⟨rfl, rfl⟩) | (go_at_call 23; rw [HW.out]; refine (plus_any _ _ _ (by assumption) HM.out).mono ?_; rintro e w' ⟨rfl, rfl⟩))
        go_round
        case rel => exact ⟨i + 1, by omega, by go_num, val_int (by rw [HY.out])⟩
        case measure => simp [intOf]; omega
      · have hb0 : bit b i = 0 := by omega
        have hy := pt_no a b i hb0
        have hb2 : ((bit b i : Int) == 1) = false := by rw [hb0]; rfl
        have HY := Lib.hid hy; clear hy
        have HB := Lib.hid hb0; clear hb0 hbit
        clear hw hm
        go_wp2_with (go_at_call 32; refine (bit_any _ _ _ (by assumption) (by assumption)).mono ?_; rintro e w' ⟨rfl, rfl⟩)
        go_round
        case rel => exact ⟨i + 1, by omega, by go_num, val_int (by rw [HY.out])⟩
        case measure => simp [intOf]; omega
    · obtain rfl : i = 64 := by omega
      go_wp2
      go_ret
      exact ⟨ret_int (by rw [pt_end a b hb]), rfl⟩
end Go.Proofs.Ytkomjcmjhabpnaa
