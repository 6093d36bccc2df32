/- The program's own reckoning of layer 1, walked: word.Arith answers, for whatever sign and whatever two numbers of 64 bits, the value and the truth that the chapter gives. -/
import Derived.Test.YtkomjcmjhabpnaaRows
import Derived.Test.YtkomjcmjhabpnaaWordVal
import Derived.WalkKit
import Derived.ProofKit
import Derived.OpenShut
import Derived.Lib.Hide
namespace Go.Proofs.Ytkomjcmjhabpnaa
open Go.RowKit (wrap64 intOf)
theorem ret_num {k : IntKind} {a b : Int} (h : a = b) : Ending.returned (.int k a) = .returned (.int k b) := by rw [h]
theorem ret_pair {x y : Int} {p q : Bool} (h : x = y) (g : p = q) : Ending.returned (.tuple #[.int .i64 x, .bool p]) = .returned (.tuple #[.int .i64 y, .bool q]) := by rw [h, g]

theorem w_truth (b : Bool) (w : World) :
    Calls Try.prog 22 #[.bool b] w fun e w' => e = .returned (.int .i64 (tv b)) ∧ w = w' := by
  cases b
  all_goals
    go_enter Try.func22, Try.ntmps22
    go_wp2
    go_ret
    exact ⟨rfl, rfl⟩
theorem w_places (b : Int) (w : World) :
    Calls Try.prog 21 #[.int .i64 b] w fun e w' => e = .returned (.int .u64 (b % 64)) ∧ w = w' := by
  have h := wrap_u64n b
  have g := and_63 b
  go_enter Try.func21, Try.ntmps21
  go_wp2
  go_ret
  exact ⟨rfl, rfl⟩
theorem wa_0 (a b : Int) (w : World) :
    Calls Try.prog 12 #[.int .i64 0, .int .i64 a, .int .i64 b] w fun e w' => e = .returned (.tuple #[.int .i64 (arV 0 a b), .bool (arOk 0 b)]) ∧ w = w' := by
  go_enter Try.func12, Try.ntmps12
  go_wp2
  go_ret2
  exact ⟨ret_pair rfl rfl, rfl⟩
theorem wa_1 (a b : Int) (w : World) :
    Calls Try.prog 12 #[.int .i64 1, .int .i64 a, .int .i64 b] w fun e w' => e = .returned (.tuple #[.int .i64 (arV 1 a b), .bool (arOk 1 b)]) ∧ w = w' := by
  go_enter Try.func12, Try.ntmps12
  go_wp2
  go_ret2
  exact ⟨ret_pair rfl rfl, rfl⟩
theorem wa_2 (a b : Int) (w : World) :
    Calls Try.prog 12 #[.int .i64 2, .int .i64 a, .int .i64 b] w fun e w' => e = .returned (.tuple #[.int .i64 (arV 2 a b), .bool (arOk 2 b)]) ∧ w = w' := by
  go_enter Try.func12, Try.ntmps12
  go_wp2
  go_ret2
  exact ⟨ret_pair rfl rfl, rfl⟩
theorem wa_5 (a b : Int) (w : World) :
    Calls Try.prog 12 #[.int .i64 5, .int .i64 a, .int .i64 b] w fun e w' => e = .returned (.tuple #[.int .i64 (arV 5 a b), .bool (arOk 5 b)]) ∧ w = w' := by
  go_enter Try.func12, Try.ntmps12
  go_wp2
  go_ret2
  exact ⟨ret_pair rfl rfl, rfl⟩
theorem wa_6 (a b : Int) (w : World) :
    Calls Try.prog 12 #[.int .i64 6, .int .i64 a, .int .i64 b] w fun e w' => e = .returned (.tuple #[.int .i64 (arV 6 a b), .bool (arOk 6 b)]) ∧ w = w' := by
  go_enter Try.func12, Try.ntmps12
  go_wp2
  go_ret2
  exact ⟨ret_pair rfl rfl, rfl⟩
theorem wa_7 (a b : Int) (w : World) :
    Calls Try.prog 12 #[.int .i64 7, .int .i64 a, .int .i64 b] w fun e w' => e = .returned (.tuple #[.int .i64 (arV 7 a b), .bool (arOk 7 b)]) ∧ w = w' := by
  go_enter Try.func12, Try.ntmps12
  go_wp2
  go_ret2
  exact ⟨ret_pair rfl rfl, rfl⟩
theorem wa_3 (a b : Int) (w : World) (hb : ¬ b = 0) :
    Calls Try.prog 12 #[.int .i64 3, .int .i64 a, .int .i64 b] w fun e w' => e = .returned (.tuple #[.int .i64 (arV 3 a b), .bool (arOk 3 b)]) ∧ w = w' := by
  go_enter Try.func12, Try.ntmps12
  go_wp2
  go_ret2
  exact ⟨ret_pair (by show _ = (if b = 0 then 0 else wrap64 (a.tdiv b)); rw [if_neg hb]) (by unfold arOk; simp [hb]), rfl⟩
theorem wa_4 (a b : Int) (w : World) (hb : ¬ b = 0) :
    Calls Try.prog 12 #[.int .i64 4, .int .i64 a, .int .i64 b] w fun e w' => e = .returned (.tuple #[.int .i64 (arV 4 a b), .bool (arOk 4 b)]) ∧ w = w' := by
  go_enter Try.func12, Try.ntmps12
  go_wp2
  go_ret2
  exact ⟨ret_pair (by show _ = (if b = 0 then 0 else a.tmod b); rw [if_neg hb]) (by unfold arOk; simp [hb]), rfl⟩
theorem wa_3_nil (a : Int) (w : World) :
    Calls Try.prog 12 #[.int .i64 3, .int .i64 a, .int .i64 0] w fun e w' => e = .returned (.tuple #[.int .i64 (arV 3 a 0), .bool (arOk 3 0)]) ∧ w = w' := by
  go_enter Try.func12, Try.ntmps12
  go_wp2
  go_ret2
  exact ⟨ret_pair rfl rfl, rfl⟩
theorem wa_4_nil (a : Int) (w : World) :
    Calls Try.prog 12 #[.int .i64 4, .int .i64 a, .int .i64 0] w fun e w' => e = .returned (.tuple #[.int .i64 (arV 4 a 0), .bool (arOk 4 0)]) ∧ w = w' := by
  go_enter Try.func12, Try.ntmps12
  go_wp2
  go_ret2
  exact ⟨ret_pair rfl rfl, rfl⟩
theorem wa_8 (a b : Int) (w : World) :
    Calls Try.prog 12 #[.int .i64 8, .int .i64 a, .int .i64 b] w fun e w' => e = .returned (.tuple #[.int .i64 (arV 8 a b), .bool (arOk 8 b)]) ∧ w = w' := by
  have h0 : 0 ≤ b % 64 := by omega
  have h1 : b % 64 ≤ 64 := by omega
  go_enter Try.func12, Try.ntmps12
  go_wp2_with (go_at_call 21; (with_reducible refine (w_places b _).mono ?_); rintro e w' ⟨rfl, rfl⟩)
  go_ret2
  exact ⟨ret_pair rfl rfl, rfl⟩
theorem wa_9 (a b : Int) (w : World) :
    Calls Try.prog 12 #[.int .i64 9, .int .i64 a, .int .i64 b] w fun e w' => e = .returned (.tuple #[.int .i64 (arV 9 a b), .bool (arOk 9 b)]) ∧ w = w' := by
  have h0 : 0 ≤ b % 64 := by omega
  have h1 : b % 64 ≤ 64 := by omega
  go_enter Try.func12, Try.ntmps12
  go_wp2_with (go_at_call 21; (with_reducible refine (w_places b _).mono ?_); rintro e w' ⟨rfl, rfl⟩)
  go_ret2
  exact ⟨ret_pair rfl rfl, rfl⟩
theorem wa_10 (a b : Int) (w : World) :
    Calls Try.prog 12 #[.int .i64 10, .int .i64 a, .int .i64 b] w fun e w' => e = .returned (.tuple #[.int .i64 (arV 10 a b), .bool (arOk 10 b)]) ∧ w = w' := by
  go_enter Try.func12, Try.ntmps12
  go_wp2_with (go_at_call 22; (with_reducible refine (w_truth _ _).mono ?_); rintro e w' ⟨rfl, rfl⟩)
  go_ret2
  exact ⟨ret_pair rfl rfl, rfl⟩
theorem wa_11 (a b : Int) (w : World) :
    Calls Try.prog 12 #[.int .i64 11, .int .i64 a, .int .i64 b] w fun e w' => e = .returned (.tuple #[.int .i64 (arV 11 a b), .bool (arOk 11 b)]) ∧ w = w' := by
  go_enter Try.func12, Try.ntmps12
  go_wp2_with (go_at_call 22; (with_reducible refine (w_truth _ _).mono ?_); rintro e w' ⟨rfl, rfl⟩)
  go_ret2
  exact ⟨ret_pair rfl rfl, rfl⟩
theorem wa_12 (a b : Int) (w : World) :
    Calls Try.prog 12 #[.int .i64 12, .int .i64 a, .int .i64 b] w fun e w' => e = .returned (.tuple #[.int .i64 (arV 12 a b), .bool (arOk 12 b)]) ∧ w = w' := by
  go_enter Try.func12, Try.ntmps12
  go_wp2_with (go_at_call 22; (with_reducible refine (w_truth _ _).mono ?_); rintro e w' ⟨rfl, rfl⟩)
  go_ret2
  exact ⟨ret_pair rfl rfl, rfl⟩
theorem wa_13 (a b : Int) (w : World) :
    Calls Try.prog 12 #[.int .i64 13, .int .i64 a, .int .i64 b] w fun e w' => e = .returned (.tuple #[.int .i64 (arV 13 a b), .bool (arOk 13 b)]) ∧ w = w' := by
  go_enter Try.func12, Try.ntmps12
  go_wp2_with (go_at_call 22; (with_reducible refine (w_truth _ _).mono ?_); rintro e w' ⟨rfl, rfl⟩)
  go_ret2
  exact ⟨ret_pair rfl rfl, rfl⟩
theorem wa_no (s a b : Int) (w : World) (hs : ¬ (0 ≤ s ∧ s ≤ 13)) :
    Calls Try.prog 12 #[.int .i64 s, .int .i64 a, .int .i64 b] w fun e w' => e = .returned (.tuple #[.int .i64 (arV s a b), .bool (arOk s b)]) ∧ w = w' := by
  have e1 : arV s a b = 0 := by
    unfold arV
    iterate 14 rw [if_neg (by omega)]
  have e2 : arOk s b = false := by unfold arOk; simp [hs]
  rw [e1, e2]
  clear e1 e2
  have t0 : (s == 0) = false := by simp; omega
  have t1 : (s == 1) = false := by simp; omega
  have t2 : (s == 2) = false := by simp; omega
  have t3 : (s == 3) = false := by simp; omega
  have t4 : (s == 4) = false := by simp; omega
  have t5 : (s == 5) = false := by simp; omega
  have t6 : (s == 6) = false := by simp; omega
  have t7 : (s == 7) = false := by simp; omega
  have t8 : (s == 8) = false := by simp; omega
  have t9 : (s == 9) = false := by simp; omega
  have t10 : (s == 10) = false := by simp; omega
  have t11 : (s == 11) = false := by simp; omega
  have t12 : (s == 12) = false := by simp; omega
  have t13 : (s == 13) = false := by simp; omega
  go_enter Try.func12, Try.ntmps12
  go_wp2
  go_ret2
  exact ⟨rfl, rfl⟩
theorem sign_cases (s : Int) : (s = 0 ∨ s = 1 ∨ s = 2 ∨ s = 3 ∨ s = 4 ∨ s = 5 ∨ s = 6 ∨ s = 7 ∨ s = 8 ∨ s = 9 ∨ s = 10 ∨ s = 11 ∨ s = 12 ∨ s = 13) ∨ ¬ (0 ≤ s ∧ s ≤ 13) := by omega
theorem wa_any (s a b : Int) (w : World) :
    Calls Try.prog 12 #[.int .i64 s, .int .i64 a, .int .i64 b] w fun e w' => e = .returned (.tuple #[.int .i64 (arV s a b), .bool (arOk s b)]) ∧ w = w' := by
  rcases sign_cases s with (rfl | rfl | rfl | rfl | rfl | rfl | rfl | rfl | rfl | rfl | rfl | rfl | rfl | rfl) | hs
  · exact wa_0 a b w
  · exact wa_1 a b w
  · exact wa_2 a b w
  · by_cases hb : b = 0
    · subst hb; exact wa_3_nil a w
    · exact wa_3 a b w hb
  · by_cases hb : b = 0
    · subst hb; exact wa_4_nil a w
    · exact wa_4 a b w hb
  · exact wa_5 a b w
  · exact wa_6 a b w
  · exact wa_7 a b w
  · exact wa_8 a b w
  · exact wa_9 a b w
  · exact wa_10 a b w
  · exact wa_11 a b w
  · exact wa_12 a b w
  · exact wa_13 a b w
  · exact wa_no s a b w hs
end Go.Proofs.Ytkomjcmjhabpnaa
