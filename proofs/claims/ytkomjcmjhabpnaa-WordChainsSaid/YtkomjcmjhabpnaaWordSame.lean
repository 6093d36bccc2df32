/- What the statements of layer 1 ask of the program again and again, walked: a sign comes to what the document says; a sign comes to a given number. -/
import Derived.Test.YtkomjcmjhabpnaaWordAr
import Derived.Test.YtkomjcmjhabpnaaWordRf
import Derived.RowKit3
namespace Go.Proofs.Ytkomjcmjhabpnaa
open Go.RowKit (wrap64 intOf)
theorem beq_self (a : Int) : (a == a) = true := by simp
theorem same_any (s a b : Int) (w : World) (ha : -9223372036854775808 ≤ a ∧ a ≤ 9223372036854775807) (hb : -9223372036854775808 ≤ b ∧ b ≤ 9223372036854775807) :
    Calls Try.prog 13 #[.int .i64 s, .int .i64 a, .int .i64 b] w fun e w' => e = .returned (.bool true) ∧ w = w' := by
  go_enter Try.func13, Try.ntmps13
  go_wp2_with (first | (go_at_call 12; (with_reducible refine (wa_any s a b _).mono ?_); rintro e w' ⟨rfl, rfl⟩) | (go_at_call 19; (with_reducible refine (ra_any s a b _ ha hb).mono ?_); rintro e w' ⟨rfl, rfl⟩))
  go_ret
  exact ⟨rfl, rfl⟩
theorem is_yes (s a b c : Int) (w : World) (h1 : arOk s b = true) (h2 : arV s a b = c) :
    Calls Try.prog 14 #[.int .i64 s, .int .i64 a, .int .i64 b, .int .i64 c] w fun e w' => e = .returned (.bool true) ∧ w = w' := by
  subst h2
  go_enter Try.func14, Try.ntmps14
  go_wp2_with (go_at_call 12; (with_reducible refine (wa_any s a b _).mono ?_); rintro e w' ⟨rfl, rfl⟩)
  go_ret
  exact ⟨rfl, rfl⟩
end Go.Proofs.Ytkomjcmjhabpnaa
