/- Layer 4, P4.1: package kind's Fields, walked: it reads the letters off its table. -/
import Derived.Test.YtfnkmigcklmghaaDoorKindPlain
import Derived.Test.YtfnkmigcklmghaaDoorOps
namespace Go.Proofs.YtfnkmigcklmghaaDoor
open Go.RowKit (wrap64 intOf Below)
set_option linter.unusedVariables false

/-- The table of fields holds what it was laid with. -/
def FT (w : World) : Prop := ∀ k : Nat, k < 26 → w.cell? ⟨2, k, none⟩ = some (.string (mk (fieldsL (k : Int))))
theorem FT.lt {w : World} (h : FT w) : 2 < w.heap.size := World.block_lt_of_cell? _ _ (h 0 (by omega))
theorem FT.below {w w' : World} {B : Nat} (h : FT w) (hb : Below B w w') (hB : 2 < B) : FT w' := fun k hk => by
  rw [hb.cell (p := ⟨2, k, none⟩) hB]; exact h k hk
theorem FT.since {w w' : World} (h : FT w) (hb : Below w.heap.size w w') : FT w' := h.below hb h.lt

set_option maxRecDepth 100000 in
theorem kfields_any (K : Int) (w : World) (hft : FT w) :
    Calls Tryd.prog 36 #[.int .i64 K] w fun e w' => e = .returned (.string (mk (fieldsL K))) ∧ w = w' := by
  by_cases h0 : K < 0
  · have HF := Lib.hid (fields_none (K := K) (.inl h0))
    clear hft
    go_enter Tryd.func36, Tryd.ntmps36
    go_wp2
    go_ret
    exact ⟨by rw [HF.out]; rfl, rfl⟩
  · by_cases h1 : 25 < K
    · have HF := Lib.hid (fields_none (K := K) (.inr h1))
      have h0' : 0 ≤ K := by omega
      have h1' : 26 ≤ K := by omega
      clear hft h0
      go_enter Tryd.func36, Tryd.ntmps36
      go_wp2
      go_ret
      exact ⟨by rw [HF.out]; rfl, rfl⟩
    · obtain ⟨k, rfl⟩ := Int.eq_ofNat_of_zero_le (show 0 ≤ K by omega)
      have hk : k < 26 := by omega
      have hcell := hft k hk
      have h0' : ¬ ((k : Int) < 0) := by omega
      have h1' : ¬ (26 ≤ (k : Int)) := by omega
      clear hft h0 h1
      go_enter Tryd.func36, Tryd.ntmps36
      go_wp2
      go_ret
      exact ⟨rfl, rfl⟩
end Go.Proofs.YtfnkmigcklmghaaDoor
