/- Layer 4, P4.3: package kind's Type, walked. -/
import Derived.Test.YtgkcbaakdphigaaDoorKindGen
namespace Go.Proofs.YtgkcbaakdphigaaDoor
open Go.RowKit (wrap64 intOf Below)
set_option linter.unusedVariables false

/-- Whether t is a type, where there are n classes. -/
def typB (n : Nat) (t : Int) : Bool := decide ((0 ≤ t ∧ t ≤ 5) ∨ (6 ≤ t ∧ t - 6 < n))
theorem typB_yes {n : Nat} {t : Int} (h : (0 ≤ t ∧ t ≤ 5) ∨ (6 ≤ t ∧ t - 6 < n)) : typB n t = true := decide_eq_true h
theorem typB_no {n : Nat} {t : Int} (h : ¬ ((0 ≤ t ∧ t ≤ 5) ∨ (6 ≤ t ∧ t - 6 < n))) : typB n t = false := decide_eq_false h
theorem ktype_five (w : World) : Calls Tryd.prog 25 #[.pointer none, .int .i64 5] w fun e w' => e = .returned (.bool true) ∧ Below w.heap.size w w' := by
  go_enter Tryd.func25, Tryd.ntmps25
  go_wp2
  go_ret
  exact ⟨rfl, Below.refl _ _⟩
theorem ktype_six (w : World) : Calls Tryd.prog 25 #[.pointer none, .int .i64 6] w fun e w' => e = .returned (.bool false) ∧ w = w' := by
  go_enter Tryd.func25, Tryd.ntmps25
  go_wp2
  go_ret
  exact ⟨rfl, rfl⟩
theorem ktype_any (g : Nat) (ca : Option Addr) (cn cc : Nat) (t : Int) (w : World) (hc : w.cell? ⟨g, 1, none⟩ = some (.slice ca cn cc)) (ht : -9223372036854775808 ≤ t ∧ t ≤ 9223372036854775807) (hn : cn ≤ 140737488355328) :
    Calls Tryd.prog 25 #[.pointer (some ⟨g, 0, none⟩), .int .i64 t] w fun e w' => e = .returned (.bool (typB cn t)) ∧ w = w' := by
  obtain ⟨ht0, ht1⟩ := ht
  by_cases h0 : t < 0
  · have HT := Lib.hid (typB_no (n := cn) (t := t) (by omega))
    have HD := Lib.hid (decide_eq_false (show ¬ 0 ≤ t by omega))
    have h6 : t < 6 := by omega
    go_enter Tryd.func25, Tryd.ntmps25
    go_wp2
    go_ret
    exact ⟨by rw [HT.out]; show Ending.returned (.bool (decide (0 ≤ t))) = _; rw [HD.out], rfl⟩
  · by_cases h5 : t ≤ 5
    · have HT := Lib.hid (typB_yes (n := cn) (t := t) (by omega))
      have h0' : 0 ≤ t := by omega
      have h6 : t < 6 := by omega
      go_enter Tryd.func25, Tryd.ntmps25
      go_wp2
      all_goals go_ret
      all_goals exact ⟨by rw [HT.out]; rfl, rfl⟩
    · have h6 : 6 ≤ t := by omega
      by_cases hl : t - 6 < cn
      · have HT := Lib.hid (typB_yes (n := cn) (t := t) (by omega))
        go_enter Tryd.func25, Tryd.ntmps25
        go_wp2
        all_goals go_ret
        all_goals exact ⟨by rw [HT.out]; rfl, rfl⟩
      · have HT := Lib.hid (typB_no (n := cn) (t := t) (by omega))
        go_enter Tryd.func25, Tryd.ntmps25
        go_wp2
        all_goals go_ret
        all_goals exact ⟨by rw [HT.out]; rfl, rfl⟩
end Go.Proofs.YtgkcbaakdphigaaDoor
