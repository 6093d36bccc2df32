/- Layer 4: the table of fields, out of the row's own condition; and a world for the witness in which it lies. -/
import Derived.Test.YtdchhfdmingnaaaDoorFT0
import Derived.Test.YtdchhfdmingnaaaDoorRows
import Derived.Lib.LaidTab
import Derived.Deep.DeepHandedRow
namespace Go.Proofs.YtdchhfdmingnaaaDoor
open Go.ChangeShapes Go.WideShapes Go.ChangeAt Go.RowKit
set_option linter.unusedVariables false
def strData {H : Type} (ls : List (List UInt8)) : DataW H := .agg (ls.map fun l => .lit (.string l))
theorem cells_of_strs {H : Type} {enc : TypeId × Value → H} {P : Program} {w : World} {base : Nat} {sp : Nat → Bool} {held : Bool} {fuel : Nat} {t e : TypeId} {n : Nat} {cs : List Value} {ls : List (List UInt8)} {p : List MemPlace}
    (ht : P.underlying t = some (.array n e)) (he : P.underlying e = some .string) (hce : P.cellsOf e = 1) (hct : P.cellsOf t = n)
    (h : DataW.trod enc P w base sp held fuel t cs = some (strData ls, p)) : cs = ls.map fun l => Value.string (mk l) := by
  cases fuel with
  | zero => simp [DataW.trod] at h
  | succ fuel =>
    simp only [DataW.trod, ht, hce, hct, Nat.mul_one] at h
    split at h
    · rename_i hl
      obtain ⟨xs, hm, hx⟩ := Option.map_eq_some_iff.1 h
      have hxs : xs.map (·.1) = ls.map fun l => (DataW.lit (.string l) : DataW H) := by
        have := congrArg Prod.fst hx
        simpa [strData] using this
      have hxl : xs.length = n := by simpa using Lib.mapM_length hm
      have hll : ls.length = n := by
        have := congrArg List.length hxs
        simp at this
        omega
      apply List.ext_getElem?
      intro i
      by_cases hi : i < n
      · obtain ⟨b, hb, hf⟩ := Lib.mapM_at hm i i (by simp [hi])
        obtain ⟨S, hc, hS, _⟩ := DataW.trod_string he hf
        have h1 : cs[i]? = some (.string S) := by
          have := congrArg (·[0]?) hc
          simpa [List.getElem?_take, List.getElem?_drop] using this
        have h2 : (xs.map (·.1))[i]? = some (DataW.lit (.string S.data.toList) : DataW H) := by simp [hb, hS]
        rw [hxs] at h2
        simp only [List.getElem?_map, Option.map_eq_some_iff, DataW.lit.injEq, Lit.string.injEq] at h2
        obtain ⟨l, hl', rfl⟩ := h2
        simp [h1, hl', mk_of]
      · rw [List.getElem?_eq_none (by omega), List.getElem?_eq_none (by simp; omega)]
    · cases h
theorem gFields : Tryd.prog.globalNamed "hallmark/kind.fields" = some 0 := by kernel_rfl
theorem gFieldsType : (Tryd.prog.globals[0]?).map (·.type) = some 129 := by kernel_rfl
theorem cellsTable : Tryd.prog.cellsOf 129 = 26 := by kernel_rfl
theorem cellsText : Tryd.prog.cellsOf 9 = 1 := by kernel_rfl
theorem laid_data : (Rows.laid_hallmark_kind_fields : DataW Unit) = strData ((List.range 26).map fun k : Nat => fieldsL (k : Int)) := by kernel_rfl
theorem ft_of_laid {W : World} (h : laidMet Tryd.prog [("hallmark/kind.fields", Rows.laid_hallmark_kind_fields)] W) : FT W := by
  rw [laid_data] at h
  obtain ⟨ps, ⟨g', t', cs, fuel, p, q, hg', ht', hvar, hd, _, _⟩, _⟩ := h
  obtain rfl := Option.some.inj (gFields.symm.trans hg')
  obtain rfl := Option.some.inj (gFieldsType.symm.trans ht')
  have hcs := cells_of_strs Tryd.underlying129 Tryd.underlying9 cellsText cellsTable hd
  intro k hk
  rw [World.var?_cell gFields hvar k, ← Array.getElem?_toList, hcs]
  simp [hk]
def cellsFor : DataW Unit → Array Value
  | .agg parts => (parts.map fun d => match d with | .lit (.string l) => Value.string (mk l) | _ => Value.bool false).toArray
  | _ => #[]
noncomputable def laidWorld (os : Os) : World :=
  { World.holding Tryd.prog os ⟨#[], #[], []⟩ with heap := (World.holding Tryd.prog os ⟨#[], #[], []⟩).heap.modify 0 fun
    | .cells _ t frozen => .cells (cellsFor Rows.laid_hallmark_kind_fields) t frozen
    | o => o }
end Go.Proofs.YtdchhfdmingnaaaDoor
