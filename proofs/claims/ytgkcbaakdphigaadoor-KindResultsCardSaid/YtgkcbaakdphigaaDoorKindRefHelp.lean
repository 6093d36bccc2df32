/- Layer 4, P4.3: what the document's result at a program's parts asks for. (Its text: by wip/gen/refres3.py.) -/
import Derived.Test.YtgkcbaakdphigaaDoorKindWants
import Derived.Test.YtgkcbaakdphigaaDoorKindFlagsL
import Derived.BigQuiet
namespace Go.Proofs.YtgkcbaakdphigaaDoor
open Go.RowKit (wrap64 intOf Below)
set_option linter.unusedVariables false

theorem NumsAt.drop {w : World} {a : Option Addr} {n c : Nat} {L : List Int} (h : NumsAt w a n L) (hc : n ≤ c) (k : Nat) (hk : k ≤ n) : NumsAt w (fromA a c k) (n - k) (L.drop k) := by
  refine ⟨by rw [List.length_drop, h.1], fun hn => ?_⟩
  obtain ⟨g, off, rfl, hg, hcell⟩ := h.2 (by omega)
  refine ⟨g, off + k, by rw [fromA_some _ _ _ (by omega), addr_plain], hg, fun j hj => ?_⟩
  rw [List.length_drop] at hj
  rw [List.getElem_drop, Nat.add_assoc]
  exact hcell (k + j) (by omega)
theorem size_int : ∀ w, (sizeOf 3).run Tryd.prog w = .ok 1 w := fun w => by
  obtain ⟨i0, hi, hz0, hz1, hz2⟩ := info_parts info_int
  simp [sizeOf, typeInfo, hi, hz1]
/-- A callee that draws, in the second of two regions. -/
theorem quiet_add_of {P : Program} {f : FuncId} {args : Array Value} {w : World} {a n : Nat} {v : Value} (h : Calls P f args (w.drewN (a + n)) fun e w' => e = .returned v ∧ ∃ m, w' = (w.drewN (a + n)).drewN m) :
    Calls P f args (w.drewN (a + n)) fun e w'' => e = .returned v ∧ ∃ m, w'' = w.drewN (a + m) :=
  h.mono fun _ _ ⟨he, m, hm⟩ => ⟨he, n + m, by rw [hm, World.drewN_drewN, Nat.add_assoc]⟩
end Go.Proofs.YtgkcbaakdphigaaDoor
