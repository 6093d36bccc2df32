/- The document's bits and sums for layer 1, walked: a bit of a number, a sum by carries, the number with the other sign, a size. Whatever the numbers of 64 bits. -/
import Derived.Test.YtfnkmigcklmghaaDoorRows
import Derived.Test.YtfnkmigcklmghaaDoorWordPlain
import Derived.WalkKit
import Derived.ProofKit
import Derived.OpenShut
import Derived.Lib.Hide
namespace Go.Proofs.YtfnkmigcklmghaaDoor
open Go.RowKit (wrap64 intOf)

theorem ret_int {k : IntKind} {a b : Int} (h : a = b) : Ending.returned (.int k a) = .returned (.int k b) := by rw [h]
theorem val_int {k : IntKind} {a b : Int} (h : a = b) : Value.int k a = .int k b := by rw [h]

theorem bit_any (a i : Nat) (w : World) (_ha : a < 18446744073709551616) (hi : i < 64) :
    Calls Tryd.prog 117 #[.int .u64 a, .int .i64 i] w fun e w' => e = .returned (.int .u64 (bit a i)) ∧ w = w' := by
  go_enter Tryd.func117, Tryd.ntmps117
  go_wp2
  go_ret
  refine ⟨ret_int ?_, rfl⟩
  unfold bit
  rw [pow_cast, ← Int.natCast_ediv, Int.tmod_eq_emod_of_nonneg (Int.natCast_nonneg _)]
  rfl

theorem plus_any (a b : Nat) (w : World) (ha : a < 18446744073709551616) (hb : b < 18446744073709551616) :
    Calls Tryd.prog 108 #[.int .u64 a, .int .u64 b] w fun e w' => e = .returned (.int .u64 (sum64 a b)) ∧ w = w' := by
  go_enter Tryd.func108, Tryd.ntmps108
  go_wp2
  go_loop [5, 6, 7] (fun o c t => ∃ i : Nat, i ≤ 64 ∧ t = .int .i64 i ∧ o = .int .u64 (po a b i) ∧ c = .int .u64 (pc a b i)) (fun _ _ t => 64 - (intOf t).toNat)
  case atStart => exact ⟨0, by omega, rfl, by rw [po_zero]; rfl, by rw [pc_zero]; rfl⟩
  case round =>
    obtain ⟨i, hi, rfl, rfl, rfl⟩ := hrel
    have h1 := bit_le a i
    have h2 := bit_le b i
    have h3 := pc_le a b i
    by_cases hlt : i < 64
    · go_wp2_with (go_at_call 117; refine (bit_any _ _ _ (by assumption) (by assumption)).mono ?_; rintro e w' ⟨rfl, rfl⟩)
      go_round
      case rel => exact ⟨i + 1, by omega, by go_num, val_int (p_or a b i hlt), val_int (p_carry a b i)⟩
      case measure => simp [intOf]; omega
    · obtain rfl : i = 64 := by omega
      go_wp2
      go_ret
      exact ⟨ret_int (by rw [po_end a b ha hb]), rfl⟩

theorem minus_any (a : Nat) (w : World) (ha : a < 18446744073709551616) :
    Calls Tryd.prog 96 #[.int .u64 a] w fun e w' => e = .returned (.int .u64 (neg64 a)) ∧ w = w' := by
  have hx := xor_ones a ha
  go_enter Tryd.func96, Tryd.ntmps96
  go_wp2_with (go_at_call 108; refine (plus_any (18446744073709551615 - a) 1 _ (by omega) (by omega)).mono ?_; rintro e w' ⟨rfl, rfl⟩)
  go_ret
  exact ⟨ret_int (by rw [minus_nat a ha]), rfl⟩

theorem size_any (a : Int) (w : World) (h0 : -9223372036854775808 ≤ a) (h1 : a ≤ 9223372036854775807) :
    Calls Tryd.prog 72 #[.int .i64 a] w fun e w' => e = .returned (.int .u64 a.natAbs) ∧ w = w' := by
  by_cases h : a < 0
  · have hw := wrap_u64n a
    have hl := u64n_lt a
    go_enter Tryd.func72, Tryd.ntmps72
    go_wp2_with (go_at_call 96; refine (minus_any _ _ (by assumption)).mono ?_; rintro e w' ⟨rfl, rfl⟩)
    go_ret
    exact ⟨ret_int (by rw [size_neg a h0 h]), rfl⟩
  · go_enter Tryd.func72, Tryd.ntmps72
    go_wp2
    go_ret
    exact ⟨ret_int (by omega), rfl⟩

end Go.Proofs.YtfnkmigcklmghaaDoor
