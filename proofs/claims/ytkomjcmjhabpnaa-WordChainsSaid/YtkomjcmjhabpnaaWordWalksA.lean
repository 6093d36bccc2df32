/- The statements of layer 1 on numbers, walked: each returns true for whatever numbers of 64 bits, and leaves the world as it was. -/
import Derived.Test.YtkomjcmjhabpnaaWordFacts
import Derived.Test.YtkomjcmjhabpnaaWordSame
namespace Go.Proofs.Ytkomjcmjhabpnaa
open Go.RowKit (wrap64 intOf)
abbrev Bd (a : Int) : Prop := -9223372036854775808 ≤ a ∧ a ≤ 9223372036854775807

theorem sums_walk (a b : Int) (w : World) (ha : Bd a) (hb : Bd b) :
    Calls Try.prog 3 #[.int .i64 a, .int .i64 b] w fun e w' => e = .returned (.bool true) ∧ w = w' := by
  have o := ok_s 0 b (by decide)
  have F1 := Lib.hid (sums_back a b ha)
  have F2 := Lib.hid (sums_turn a b)
  go_enter Try.func3, Try.ntmps3
  go_wp2_with (first | (go_at_call 12; (with_reducible refine (wa_any 0 a b _).mono ?_); rintro e w' ⟨rfl, rfl⟩) | (go_at_call 13; (with_reducible refine (same_any _ a b _ ha hb).mono ?_); rintro e w' ⟨rfl, rfl⟩) | (go_at_call 14; (with_reducible refine (is_yes 1 (arV 0 a b) b a _ (ok_s _ _ (by decide)) F1.out).mono ?_); rintro e w' ⟨rfl, rfl⟩) | (go_at_call 14; (with_reducible refine (is_yes 0 b a (arV 0 a b) _ (ok_s _ _ (by decide)) F2.out).mono ?_); rintro e w' ⟨rfl, rfl⟩) | (go_at_call 14; (with_reducible refine (is_yes 0 4611686018427387904 4611686018427387904 (-9223372036854775808) _ (ok_s _ _ (by decide)) c_add).mono ?_); rintro e w' ⟨rfl, rfl⟩))
  go_ret
  exact ⟨rfl, rfl⟩
theorem products_walk (a b : Int) (w : World) (ha : Bd a) (hb : Bd b) :
    Calls Try.prog 4 #[.int .i64 a, .int .i64 b] w fun e w' => e = .returned (.bool true) ∧ w = w' := by
  have o := ok_s 2 b (by decide)
  have F1 := Lib.hid (products_turn a b)
  go_enter Try.func4, Try.ntmps4
  go_wp2_with (first | (go_at_call 12; (with_reducible refine (wa_any 2 a b _).mono ?_); rintro e w' ⟨rfl, rfl⟩) | (go_at_call 13; (with_reducible refine (same_any _ a b _ ha hb).mono ?_); rintro e w' ⟨rfl, rfl⟩) | (go_at_call 14; (with_reducible refine (is_yes 2 b a (arV 2 a b) _ (ok_s _ _ (by decide)) F1.out).mono ?_); rintro e w' ⟨rfl, rfl⟩) | (go_at_call 14; (with_reducible refine (is_yes 2 4611686018427387904 2 (-9223372036854775808) _ (ok_s _ _ (by decide)) c_mul2).mono ?_); rintro e w' ⟨rfl, rfl⟩))
  go_ret
  exact ⟨rfl, rfl⟩
theorem bits_walk (a b : Int) (w : World) (ha : Bd a) (hb : Bd b) :
    Calls Try.prog 6 #[.int .i64 a, .int .i64 b] w fun e w' => e = .returned (.bool true) ∧ w = w' := by
  go_enter Try.func6, Try.ntmps6
  go_wp2_with (first | (go_at_call 13; (with_reducible refine (same_any _ a b _ ha hb).mono ?_); rintro e w' ⟨rfl, rfl⟩) | (go_at_call 14; (with_reducible refine (is_yes 8 1 65 2 _ (ok_s _ _ (by decide)) c_shl).mono ?_); rintro e w' ⟨rfl, rfl⟩) | (go_at_call 14; (with_reducible refine (is_yes 9 (-2) 1 (-1) _ (ok_s _ _ (by decide)) c_shr).mono ?_); rintro e w' ⟨rfl, rfl⟩))
  go_ret
  exact ⟨rfl, rfl⟩
theorem rests_walk (a b : Int) (w : World) (ha : Bd a) (hb : Bd b) :
    Calls Try.prog 5 #[.int .i64 a, .int .i64 b] w fun e w' => e = .returned (.bool true) ∧ w = w' := by
  by_cases hz : b = 0
  · subst hz
    have o3 : arOk 3 0 = false := rfl
    have o4 : arOk 4 0 = false := rfl
    go_enter Try.func5, Try.ntmps5
    go_wp2_with (first | (go_at_call 12; (with_reducible refine (wa_any 3 a 0 _).mono ?_); rintro e w' ⟨rfl, rfl⟩) | (go_at_call 12; (with_reducible refine (wa_any 4 a 0 _).mono ?_); rintro e w' ⟨rfl, rfl⟩) | (go_at_call 12; (with_reducible refine (wa_any 2 _ _ _).mono ?_); rintro e w' ⟨rfl, rfl⟩) | (go_at_call 13; (with_reducible refine (same_any _ a 0 _ ha hb).mono ?_); rintro e w' ⟨rfl, rfl⟩) | (go_at_call 14; (with_reducible refine (is_yes 3 (-7) 2 (-3) _ (ok_d _ _ (by decide)) c_div).mono ?_); rintro e w' ⟨rfl, rfl⟩) | (go_at_call 14; (with_reducible refine (is_yes 4 (-7) 2 (-1) _ (ok_d _ _ (by decide)) c_rem).mono ?_); rintro e w' ⟨rfl, rfl⟩))
    go_ret
    exact ⟨rfl, rfl⟩
  · have o3 := ok_d 3 b ⟨Or.inl rfl, hz⟩
    have o4 := ok_d 4 b ⟨Or.inr rfl, hz⟩
    have o2 := ok_s 2 b (by decide)
    have F := Lib.hid (rests a b ha hz)
    have hz0 : (b != 0) = true := by simpa using hz
    clear hz
    go_enter Try.func5, Try.ntmps5
    go_wp2_with (first | (go_at_call 12; (with_reducible refine (wa_any 3 a b _).mono ?_); rintro e w' ⟨rfl, rfl⟩) | (go_at_call 12; (with_reducible refine (wa_any 4 a b _).mono ?_); rintro e w' ⟨rfl, rfl⟩) | (go_at_call 12; (with_reducible refine (wa_any 2 _ _ _).mono ?_); rintro e w' ⟨rfl, rfl⟩) | (go_at_call 13; (with_reducible refine (same_any _ a b _ ha hb).mono ?_); rintro e w' ⟨rfl, rfl⟩) | (go_at_call 14; (with_reducible refine (is_yes 0 (arV 2 (arV 3 a b) b) (arV 4 a b) a _ (ok_s _ _ (by decide)) F.out).mono ?_); rintro e w' ⟨rfl, rfl⟩) | (go_at_call 14; (with_reducible refine (is_yes 3 (-7) 2 (-3) _ (ok_d _ _ (by decide)) c_div).mono ?_); rintro e w' ⟨rfl, rfl⟩) | (go_at_call 14; (with_reducible refine (is_yes 4 (-7) 2 (-1) _ (ok_d _ _ (by decide)) c_rem).mono ?_); rintro e w' ⟨rfl, rfl⟩))
    go_ret
    exact ⟨rfl, rfl⟩
theorem spreads_walk (a b c : Int) (w : World) :
    Calls Try.prog 9 #[.int .i64 a, .int .i64 b, .int .i64 c] w fun e w' => e = .returned (.bool true) ∧ w = w' := by
  have o := ok_s 0 (arV 2 b c) (by decide)
  have F1 := Lib.hid (spreads a b c)
  go_enter Try.func9, Try.ntmps9
  go_wp2_with (first | (go_at_call 12; (with_reducible refine (wa_any 0 a b _).mono ?_); rintro e w' ⟨rfl, rfl⟩) | (go_at_call 12; (with_reducible refine (wa_any 2 a c _).mono ?_); rintro e w' ⟨rfl, rfl⟩) | (go_at_call 12; (with_reducible refine (wa_any 2 b c _).mono ?_); rintro e w' ⟨rfl, rfl⟩) | (go_at_call 12; (with_reducible refine (wa_any 0 (arV 2 a c) (arV 2 b c) _).mono ?_); rintro e w' ⟨rfl, rfl⟩) | (go_at_call 14; (with_reducible refine (is_yes 2 (arV 0 a b) c (arV 0 (arV 2 a c) (arV 2 b c)) _ (ok_s _ _ (by decide)) F1.out).mono ?_); rintro e w' ⟨rfl, rfl⟩) | (go_at_call 14; (with_reducible refine (is_yes 2 3 5 15 _ (ok_s _ _ (by decide)) c_mul).mono ?_); rintro e w' ⟨rfl, rfl⟩))
  go_ret
  exact ⟨rfl, rfl⟩
theorem orders_walk (a b : Int) (w : World) (ha : Bd a) (hb : Bd b) :
    Calls Try.prog 7 #[.int .i64 a, .int .i64 b] w fun e w' => e = .returned (.bool true) ∧ w = w' := by
  rcases one_of a b with ⟨-, h1, h2, h3, h4, h5⟩ | ⟨-, h1, h2, h3, h4, h5⟩ | ⟨-, h1, h2, h3, h4, h5⟩
  all_goals
    have H4 := Lib.hid h4
    have H5 := Lib.hid h5
    clear h4 h5
    go_enter Try.func7, Try.ntmps7
    go_wp2_with (first | (go_at_call 12; (with_reducible refine (wa_any 10 a b _).mono ?_); rintro e w' ⟨rfl, rfl⟩) | (go_at_call 12; (with_reducible refine (wa_any 10 b a _).mono ?_); rintro e w' ⟨rfl, rfl⟩) | (go_at_call 12; (with_reducible refine (wa_any 12 a b _).mono ?_); rintro e w' ⟨rfl, rfl⟩) | (go_at_call 13; (with_reducible refine (same_any _ a b _ ha hb).mono ?_); rintro e w' ⟨rfl, rfl⟩) | (go_at_call 14; (with_reducible refine (is_yes 11 a b _ _ (ok_s _ _ (by decide)) H4.out).mono ?_); rintro e w' ⟨rfl, rfl⟩) | (go_at_call 14; (with_reducible refine (is_yes 13 a b _ _ (ok_s _ _ (by decide)) H5.out).mono ?_); rintro e w' ⟨rfl, rfl⟩))
    go_ret
    exact ⟨rfl, rfl⟩
end Go.Proofs.Ytkomjcmjhabpnaa
