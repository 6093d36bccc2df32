/- Layer 4, P4.3: the document's Type, and what the statement KindTypes asks, walked out of the contracts of package kind's calls. -/
import Derived.Test.YtgkcbaakdphigaaDoorKindLives
namespace Go.Proofs.YtgkcbaakdphigaaDoor
open Go.RowKit (wrap64 intOf Below)
set_option linter.unusedVariables false

theorem type_any (g : Nat) (ca : Option Addr) (cn cc : Nat) (t : Int) (w : World) (hc : w.cell? ⟨g, 1, none⟩ = some (.slice ca cn cc)) (ht : -9223372036854775808 ≤ t ∧ t ≤ 9223372036854775807) (hn : cn ≤ 140737488355328) :
    Calls Tryd.prog 26 #[.pointer (some ⟨g, 0, none⟩), .int .i64 t] w fun e w' => e = .returned (.bool (typB cn t)) ∧ w = w' := by
  obtain ⟨ht0, ht1⟩ := ht
  by_cases h0 : t < 0
  · have HT := Lib.hid (typB_no (n := cn) (t := t) (by omega))
    go_enter Tryd.func26, Tryd.ntmps26
    go_wp2
    all_goals go_ret
    all_goals exact ⟨by rw [HT.out]; rfl, rfl⟩
  · by_cases h5 : t ≤ 5
    · have HT := Lib.hid (typB_yes (n := cn) (t := t) (by omega))
      have h0' : 0 ≤ t := by omega
      go_enter Tryd.func26, Tryd.ntmps26
      go_wp2
      all_goals go_ret
      all_goals exact ⟨by rw [HT.out]; rfl, rfl⟩
    · have h6 : 6 ≤ t := by omega
      by_cases hl : t - 6 < cn
      · have HT := Lib.hid (typB_yes (n := cn) (t := t) (by omega))
        go_enter Tryd.func26, Tryd.ntmps26
        go_wp2
        all_goals go_ret
        all_goals exact ⟨by rw [HT.out]; rfl, rfl⟩
      · have HT := Lib.hid (typB_no (n := cn) (t := t) (by omega))
        go_enter Tryd.func26, Tryd.ntmps26
        go_wp2
        all_goals go_ret
        all_goals exact ⟨by rw [HT.out]; rfl, rfl⟩
theorem ktypes_walk (v0 v2 : Value) (ca : Option Addr) (cn cc : Nat) (t : Int) (w : World) (hft : FT w) (ht : -9223372036854775808 ≤ t ∧ t ≤ 9223372036854775807) (hn : cn ≤ 140737488355328) :
    Calls Tryd.prog 7 #[.agg #[v0, .slice ca cn cc, v2], .int .i64 t] w fun e w' => e = .returned (.bool true) ∧ Below w.heap.size w w' := by
  have HC : RowKit.Hid (∀ C0 : Array Value, C0[1]? = some (.slice ca cn cc) → ((w.alloc (.cells C0 39))).cell? ⟨w.heap.size, 1, none⟩ = some (.slice ca cn cc)) := Lib.hid (fun C0 h => by rw [World.cell?_alloc_mark]; exact h)
  have HW : RowKit.Hid (∀ C0 : Array Value, Below w.heap.size w (w.alloc (.cells C0 39))) := Lib.hid (fun C0 => (Below.refl _ _).alloc (Nat.le_refl _) _)
  have HFT := Lib.hid hft
  clear hft
  go_enter Tryd.func7, Tryd.ntmps7
  go_wp2_with fail
  refine (ktype_any w.heap.size ca cn cc t _ (HC.out _ rfl) ht hn).mono ?_
  rintro e w1 ⟨rfl, rfl⟩
  go_wp2_with fail
  refine (type_any w.heap.size ca cn cc t _ (HC.out _ rfl) ht hn).mono ?_
  rintro e w1 ⟨rfl, rfl⟩
  go_wp2_with fail
  refine (ktype_six _).mono ?_
  rintro e w1 ⟨rfl, rfl⟩
  go_wp2_with fail
  refine (klives_any _ (HFT.out.since (HW.out _))).mono ?_
  rintro e w2 ⟨rfl, hb2⟩
  have HB2 := Lib.hid (keepN (HW.out _) (Nat.le_refl _) hb2)
  clear hb2
  go_wp2_with fail
  go_ret
  exact ⟨rfl, HB2.out⟩
end Go.Proofs.YtgkcbaakdphigaaDoor
