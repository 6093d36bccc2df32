/- The statements of layer 1 on signs and on shifts, walked: which signs there are and of which type what comes is; a shift up is a product with a power of two, and the one down undoes it. -/
import Derived.Test.YtkomjcmjhabpnaaWordWalksA
namespace Go.Proofs.Ytkomjcmjhabpnaa
open Go.RowKit (wrap64 intOf)

/-- The type of what a sign comes to. -/
def tlV (s : Int) : Int := if 0 ≤ s ∧ s ≤ 13 then (if 10 ≤ s then 1 else 0) else -1
theorem tl_no (s : Int) (w : World) (hs : ¬ (0 ≤ s ∧ s ≤ 13)) :
    Calls Try.prog 16 #[.int .i64 s] w fun e w' => e = .returned (.int .i64 (tlV s)) ∧ w = w' := by
  have e1 : tlV s = -1 := by unfold tlV; rw [if_neg hs]
  rw [e1]
  clear e1
  have t0 : (s == 0) = false := by simp; omega
  have t1 : (s == 1) = false := by simp; omega
  have t2 : (s == 2) = false := by simp; omega
  have t3 : (s == 3) = false := by simp; omega
  have t4 : (s == 4) = false := by simp; omega
  have t5 : (s == 5) = false := by simp; omega
  have t6 : (s == 6) = false := by simp; omega
  have t7 : (s == 7) = false := by simp; omega
  have t8 : (s == 8) = false := by simp; omega
  have t9 : (s == 9) = false := by simp; omega
  have t10 : (s == 10) = false := by simp; omega
  have t11 : (s == 11) = false := by simp; omega
  have t12 : (s == 12) = false := by simp; omega
  have t13 : (s == 13) = false := by simp; omega
  go_enter Try.func16, Try.ntmps16
  go_wp2
  go_ret
  exact ⟨rfl, rfl⟩
theorem tl_any (s : Int) (w : World) :
    Calls Try.prog 16 #[.int .i64 s] w fun e w' => e = .returned (.int .i64 (tlV s)) ∧ w = w' := by
  rcases sign_cases s with (rfl | rfl | rfl | rfl | rfl | rfl | rfl | rfl | rfl | rfl | rfl | rfl | rfl | rfl) | hs
  case inr => exact tl_no s w hs
  all_goals
    go_enter Try.func16, Try.ntmps16
    go_wp2
    go_ret
    exact ⟨rfl, rfl⟩
theorem can_any (s : Int) (w : World) :
    Calls Try.prog 15 #[.int .i64 s] w fun e w' => e = .returned (.bool (tlV s != -1)) ∧ w = w' := by
  go_enter Try.func15, Try.ntmps15
  go_wp2_with (go_at_call 16; (with_reducible refine (tl_any s _).mono ?_); rintro e w' ⟨rfl, rfl⟩)
  go_ret
  exact ⟨rfl, rfl⟩
theorem can_yes (s : Int) (w : World) (h : 0 ≤ s ∧ s ≤ 13) :
    Calls Try.prog 15 #[.int .i64 s] w fun e w' => e = .returned (.bool true) ∧ w = w' := by
  have e : (tlV s != -1) = true := by unfold tlV; rw [if_pos h]; split <;> rfl
  have c := can_any s w
  rw [e] at c
  exact c
theorem can_no (s : Int) (w : World) (h : ¬ (0 ≤ s ∧ s ≤ 13)) :
    Calls Try.prog 15 #[.int .i64 s] w fun e w' => e = .returned (.bool false) ∧ w = w' := by
  have e : (tlV s != -1) = false := by unfold tlV; rw [if_neg h]; rfl
  have c := can_any s w
  rw [e] at c
  exact c
theorem rt_any (s : Int) (w : World) :
    Calls Try.prog 17 #[.int .i64 s] w fun e w' => e = .returned (.int .i64 (tlV s)) ∧ w = w' := by
  rcases (show s < 0 ∨ 13 < s ∨ (10 ≤ s ∧ s ≤ 13) ∨ (0 ≤ s ∧ s < 10) by omega) with h | h | h | h
  · have e1 : tlV s = -1 := by unfold tlV; rw [if_neg (by omega)]
    rw [e1]
    clear e1
    go_enter Try.func17, Try.ntmps17
    go_wp2
    go_ret
    exact ⟨rfl, rfl⟩
  · have e1 : tlV s = -1 := by unfold tlV; rw [if_neg (by omega)]
    rw [e1]
    clear e1
    go_enter Try.func17, Try.ntmps17
    go_wp2
    go_ret
    exact ⟨rfl, rfl⟩
  · have e1 : tlV s = 1 := by unfold tlV; rw [if_pos (by omega), if_pos (by omega)]
    rw [e1]
    clear e1
    go_enter Try.func17, Try.ntmps17
    go_wp2
    go_ret
    exact ⟨rfl, rfl⟩
  · have e1 : tlV s = 0 := by unfold tlV; rw [if_pos (by omega), if_neg (by omega)]
    rw [e1]
    clear e1
    go_enter Try.func17, Try.ntmps17
    go_wp2
    go_ret
    exact ⟨rfl, rfl⟩
theorem signs_walk (s a b : Int) (w : World) :
    Calls Try.prog 8 #[.int .i64 s, .int .i64 a, .int .i64 b] w fun e w' => e = .returned (.bool true) ∧ w = w' := by
  have t10 : (tlV 10 == 1) = true := rfl
  rcases (show s < 0 ∨ 13 < s ∨ (0 ≤ s ∧ s ≤ 13) by omega) with h | h | h
  · have hn : ¬ (0 ≤ s ∧ s ≤ 13) := by omega
    have e1 : arV s a b = 0 := by
      unfold arV
      iterate 14 rw [if_neg (by omega)]
    have e2 : arOk s b = false := by unfold arOk; simp [hn]
    have HN := Lib.hid hn
    clear hn
    go_enter Try.func8, Try.ntmps8
    go_wp2_with (first | (go_at_call 12; (with_reducible refine (wa_any s a b _).mono ?_); rintro e w' ⟨rfl, rfl⟩) | (go_at_call 15; (with_reducible refine (can_no s _ HN.out).mono ?_); rintro e w' ⟨rfl, rfl⟩) | (go_at_call 15; (with_reducible refine (can_yes 13 _ (by decide)).mono ?_); rintro e w' ⟨rfl, rfl⟩) | (go_at_call 16; (with_reducible refine (tl_any _ _).mono ?_); rintro e w' ⟨rfl, rfl⟩) | (go_at_call 17; (with_reducible refine (rt_any _ _).mono ?_); rintro e w' ⟨rfl, rfl⟩))
    go_ret
    exact ⟨rfl, rfl⟩
  · have hn : ¬ (0 ≤ s ∧ s ≤ 13) := by omega
    have e1 : arV s a b = 0 := by
      unfold arV
      iterate 14 rw [if_neg (by omega)]
    have e2 : arOk s b = false := by unfold arOk; simp [hn]
    have HN := Lib.hid hn
    clear hn
    go_enter Try.func8, Try.ntmps8
    go_wp2_with (first | (go_at_call 12; (with_reducible refine (wa_any s a b _).mono ?_); rintro e w' ⟨rfl, rfl⟩) | (go_at_call 15; (with_reducible refine (can_no s _ HN.out).mono ?_); rintro e w' ⟨rfl, rfl⟩) | (go_at_call 15; (with_reducible refine (can_yes 13 _ (by decide)).mono ?_); rintro e w' ⟨rfl, rfl⟩) | (go_at_call 16; (with_reducible refine (tl_any _ _).mono ?_); rintro e w' ⟨rfl, rfl⟩) | (go_at_call 17; (with_reducible refine (rt_any _ _).mono ?_); rintro e w' ⟨rfl, rfl⟩))
    go_ret
    exact ⟨rfl, rfl⟩
  · have H := Lib.hid h
    obtain ⟨h0, h1⟩ := h
    go_enter Try.func8, Try.ntmps8
    go_wp2_with (first | (go_at_call 12; (with_reducible refine (wa_any s a b _).mono ?_); rintro e w' ⟨rfl, rfl⟩) | (go_at_call 15; (with_reducible refine (can_yes s _ H.out).mono ?_); rintro e w' ⟨rfl, rfl⟩) | (go_at_call 15; (with_reducible refine (can_yes 13 _ (by decide)).mono ?_); rintro e w' ⟨rfl, rfl⟩) | (go_at_call 16; (with_reducible refine (tl_any _ _).mono ?_); rintro e w' ⟨rfl, rfl⟩) | (go_at_call 17; (with_reducible refine (rt_any _ _).mono ?_); rintro e w' ⟨rfl, rfl⟩))
    go_ret
    exact ⟨rfl, rfl⟩

theorem shifts_walk (a : Int) (v : Int) (w : World) (ha : Bd a) (hv : 0 ≤ v ∧ v ≤ 255) :
    Calls Try.prog 11 #[.int .i64 a, .int .u8 v] w fun e w' => e = .returned (.bool true) ∧ w = w' := by
  obtain ⟨n, rfl⟩ := Int.eq_ofNat_of_zero_le hv.1
  have hk : n % 63 < 63 := Nat.mod_lt _ (by decide)
  have o := ok_s 2 (2 ^ (n % 63)) (by decide)
  have hp := pow_in (n % 63) hk
  have G1 := Lib.hid (show arV 8 a ((n : Int) % 63) = arV 2 a (2 ^ (n % 63)) from up_mul a (n % 63) hk)
  have G2 := Lib.hid (show arV 8 a ((n : Int) % 63 + 64) = arV 2 a (2 ^ (n % 63)) from up_mul_on a (n % 63) hk)
  have G3 := Lib.hid (show arV 9 (arV 8 (a / 2 ^ (n % 63)) ((n : Int) % 63)) ((n : Int) % 63) = a / 2 ^ (n % 63) from down_up a (n % 63) ha hk)
  have G4 := Lib.hid (show arV 9 a ((n : Int) % 63) = a / 2 ^ (n % 63) from down_is a (n % 63) hk)
  go_enter Try.func11, Try.ntmps11
  go_wp2_with (first | (go_at_call 12; (with_reducible refine (wa_any 2 a (2 ^ (n % 63)) _).mono ?_); rintro e w' ⟨rfl, rfl⟩) | (go_at_call 12; (with_reducible refine (wa_any 8 (a / 2 ^ (n % 63)) ((n : Int) % 63) _).mono ?_); rintro e w' ⟨rfl, rfl⟩) | (go_at_call 14; (with_reducible refine (is_yes 8 a ((n : Int) % 63) (arV 2 a (2 ^ (n % 63))) _ (ok_s _ _ (by decide)) G1.out).mono ?_); rintro e w' ⟨rfl, rfl⟩) | (go_at_call 14; (with_reducible refine (is_yes 8 a ((n : Int) % 63 + 64) (arV 2 a (2 ^ (n % 63))) _ (ok_s _ _ (by decide)) G2.out).mono ?_); rintro e w' ⟨rfl, rfl⟩) | (go_at_call 14; (with_reducible refine (is_yes 9 (arV 8 (a / 2 ^ (n % 63)) ((n : Int) % 63)) ((n : Int) % 63) (a / 2 ^ (n % 63)) _ (ok_s _ _ (by decide)) G3.out).mono ?_); rintro e w' ⟨rfl, rfl⟩) | (go_at_call 14; (with_reducible refine (is_yes 9 a ((n : Int) % 63) (a / 2 ^ (n % 63)) _ (ok_s _ _ (by decide)) G4.out).mono ?_); rintro e w' ⟨rfl, rfl⟩))
  go_ret
  exact ⟨rfl, rfl⟩
end Go.Proofs.Ytkomjcmjhabpnaa
