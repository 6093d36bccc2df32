/- Layer 4, P4.3: what stands on layer 1: which signs there are (as in layer 1's own texts); among and sign of package kind. -/
import Derived.Test.YtgkcbaakdphigaaDoorKindGen
namespace Go.Proofs.YtgkcbaakdphigaaDoor
open Go.RowKit (wrap64 intOf Below)
set_option linter.unusedVariables false

theorem sign_cases (s : Int) : (s = 0 ∨ s = 1 ∨ s = 2 ∨ s = 3 ∨ s = 4 ∨ s = 5 ∨ s = 6 ∨ s = 7 ∨ s = 8 ∨ s = 9 ∨ s = 10 ∨ s = 11 ∨ s = 12 ∨ s = 13) ∨ ¬ (0 ≤ s ∧ s ≤ 13) := by omega
/-- The type of what a sign comes to. -/
def tlV (s : Int) : Int := if 0 ≤ s ∧ s ≤ 13 then (if 10 ≤ s then 1 else 0) else -1
theorem tl_no (s : Int) (w : World) (hs : ¬ (0 ≤ s ∧ s ≤ 13)) :
    Calls Tryd.prog 42 #[.int .i64 s] w fun e w' => e = .returned (.int .i64 (tlV s)) ∧ w = w' := by
  have e1 : tlV s = -1 := by unfold tlV; rw [if_neg hs]
  rw [e1]
  clear e1
  have t0 : (s == 0) = false := by simp; omega
  have t1 : (s == 1) = false := by simp; omega
  have t2 : (s == 2) = false := by simp; omega
  have t3 : (s == 3) = false := by simp; omega
  have t4 : (s == 4) = false := by simp; omega
  have t5 : (s == 5) = false := by simp; omega
  have t6 : (s == 6) = false := by simp; omega
  have t7 : (s == 7) = false := by simp; omega
  have t8 : (s == 8) = false := by simp; omega
  have t9 : (s == 9) = false := by simp; omega
  have t10 : (s == 10) = false := by simp; omega
  have t11 : (s == 11) = false := by simp; omega
  have t12 : (s == 12) = false := by simp; omega
  have t13 : (s == 13) = false := by simp; omega
  go_enter Tryd.func42, Tryd.ntmps42
  go_wp2
  go_ret
  exact ⟨rfl, rfl⟩
theorem tl_any (s : Int) (w : World) :
    Calls Tryd.prog 42 #[.int .i64 s] w fun e w' => e = .returned (.int .i64 (tlV s)) ∧ w = w' := by
  rcases sign_cases s with (rfl | rfl | rfl | rfl | rfl | rfl | rfl | rfl | rfl | rfl | rfl | rfl | rfl | rfl) | hs
  case inr => exact tl_no s w hs
  all_goals
    go_enter Tryd.func42, Tryd.ntmps42
    go_wp2
    go_ret
    exact ⟨rfl, rfl⟩
theorem can_any (s : Int) (w : World) :
    Calls Tryd.prog 43 #[.int .i64 s] w fun e w' => e = .returned (.bool (tlV s != -1)) ∧ w = w' := by
  go_enter Tryd.func43, Tryd.ntmps43
  go_wp2_with (go_at_call 42; (with_reducible refine (tl_any s _).mono ?_); rintro e w' ⟨rfl, rfl⟩)
  go_ret
  exact ⟨rfl, rfl⟩
theorem can_yes (s : Int) (w : World) (h : 0 ≤ s ∧ s ≤ 13) :
    Calls Tryd.prog 43 #[.int .i64 s] w fun e w' => e = .returned (.bool true) ∧ w = w' := by
  have e : (tlV s != -1) = true := by unfold tlV; rw [if_pos h]; split <;> rfl
  have c := can_any s w
  rw [e] at c
  exact c
theorem can_no (s : Int) (w : World) (h : ¬ (0 ≤ s ∧ s ≤ 13)) :
    Calls Tryd.prog 43 #[.int .i64 s] w fun e w' => e = .returned (.bool false) ∧ w = w' := by
  have e : (tlV s != -1) = false := by unfold tlV; rw [if_neg h]; rfl
  have c := can_any s w
  rw [e] at c
  exact c
theorem rt_any (s : Int) (w : World) :
    Calls Tryd.prog 41 #[.int .i64 s] w fun e w' => e = .returned (.int .i64 (tlV s)) ∧ w = w' := by
  rcases (show s < 0 ∨ 13 < s ∨ (10 ≤ s ∧ s ≤ 13) ∨ (0 ≤ s ∧ s < 10) by omega) with h | h | h | h
  · have e1 : tlV s = -1 := by unfold tlV; rw [if_neg (by omega)]
    rw [e1]
    clear e1
    go_enter Tryd.func41, Tryd.ntmps41
    go_wp2
    go_ret
    exact ⟨rfl, rfl⟩
  · have e1 : tlV s = -1 := by unfold tlV; rw [if_neg (by omega)]
    rw [e1]
    clear e1
    go_enter Tryd.func41, Tryd.ntmps41
    go_wp2
    go_ret
    exact ⟨rfl, rfl⟩
  · have e1 : tlV s = 1 := by unfold tlV; rw [if_pos (by omega), if_pos (by omega)]
    rw [e1]
    clear e1
    go_enter Tryd.func41, Tryd.ntmps41
    go_wp2
    go_ret
    exact ⟨rfl, rfl⟩
  · have e1 : tlV s = 0 := by unfold tlV; rw [if_pos (by omega), if_neg (by omega)]
    rw [e1]
    clear e1
    go_enter Tryd.func41, Tryd.ntmps41
    go_wp2
    go_ret
    exact ⟨rfl, rfl⟩

/-- Whether n is one of so many. -/
def inB (n m : Int) : Bool := decide (0 ≤ n ∧ n < m)
theorem among_any (n m : Int) (w : World) : Calls Tryd.prog 36 #[.int .i64 n, .int .i64 m] w fun e w' => e = .returned (.bool (inB n m)) ∧ w = w' := by
  by_cases h0 : 0 ≤ n
  · by_cases h1 : n < m
    · have HB := Lib.hid (show inB n m = true from decide_eq_true ⟨h0, h1⟩)
      go_enter Tryd.func36, Tryd.ntmps36
      go_wp2
      go_ret
      exact ⟨by rw [HB.out]; rfl, rfl⟩
    · have HB := Lib.hid (show inB n m = false from decide_eq_false (fun h => h1 h.2))
      have h1' : m ≤ n := by omega
      go_enter Tryd.func36, Tryd.ntmps36
      go_wp2
      go_ret
      exact ⟨by rw [HB.out]; rfl, rfl⟩
  · have HB := Lib.hid (show inB n m = false from decide_eq_false (fun h => h0 h.1))
    have h0' : n < 0 := by omega
    go_enter Tryd.func36, Tryd.ntmps36
    go_wp2
    go_ret
    exact ⟨by rw [HB.out]; rfl, rfl⟩
theorem sign_any (n : Int) (w : World) : Calls Tryd.prog 37 #[.int .i64 n] w fun e w' => e = .returned (.tuple #[.int .i64 (tlV n), .bool (decide (0 ≤ n ∧ n ≤ 13))]) ∧ w = w' := by
  by_cases h : 0 ≤ n ∧ n ≤ 13
  · have HB := Lib.hid (decide_eq_true h)
    go_enter Tryd.func37, Tryd.ntmps37
    go_wp2_with (first | (go_at_call 42; (with_reducible refine (tl_any n _).mono ?_); rintro e w' ⟨rfl, rfl⟩) | (go_at_call 43; (with_reducible refine (can_yes n _ h).mono ?_); rintro e w' ⟨rfl, rfl⟩))
    refine bodyPost_ret (v := .tuple #[.int .i64 (tlV n), .bool (decide (0 ≤ n ∧ n ≤ 13))]) (by rw [HB.out]; simp [results, Tryd.results37, go_sem]) rfl ⟨rfl, rfl⟩
  · have HB := Lib.hid (decide_eq_false h)
    go_enter Tryd.func37, Tryd.ntmps37
    go_wp2_with (first | (go_at_call 42; (with_reducible refine (tl_any n _).mono ?_); rintro e w' ⟨rfl, rfl⟩) | (go_at_call 43; (with_reducible refine (can_no n _ h).mono ?_); rintro e w' ⟨rfl, rfl⟩))
    refine bodyPost_ret (v := .tuple #[.int .i64 (tlV n), .bool (decide (0 ≤ n ∧ n ≤ 13))]) (by rw [HB.out]; simp [results, Tryd.results37, go_sem]) rfl ⟨rfl, rfl⟩
end Go.Proofs.YtgkcbaakdphigaaDoor
