/- Layer 6: the tables that package show and the library count by, out of a row's own condition; and a world for the witness in which they lie. -/
import Derived.Test.YtccajbgdlicbnaaDoorQLaidK
import Derived.Test.YtccajbgdlicbnaaDoorQT3

namespace Go.Proofs.YtccajbgdlicbnaaDoor
open Go.ChangeShapes Go.WideShapes Go.ChangeAt Go.RowKit
set_option linter.unusedVariables false

theorem lv_skip {P : Program} {W : World} {n : String} {d : DataW Unit} {rest : List (String × DataW Unit)} {ps : List MemPlace} (h : DataW.LaidVars P W ((n, d) :: rest) ps) : ∃ q, DataW.LaidVars P W rest q := by
  obtain ⟨_, _, _, _, _, q, _, _, _, _, hr, _⟩ := h
  exact ⟨q, hr⟩
theorem lv_strs {P : Program} {W : World} {name : String} {ls : List (List UInt8)} {rest : List (String × DataW Unit)} {ps : List MemPlace} {g : Nat} {t e : TypeId} {n : Nat}
    (hg : P.globalNamed name = some g) (hty : (P.globals[g]?).map (·.type) = some t) (ht : P.underlying t = some (.array n e)) (he : P.underlying e = some .string) (hce : P.cellsOf e = 1) (hct : P.cellsOf t = n)
    (h : DataW.LaidVars P W ((name, strData ls) :: rest) ps) : StrTab g ls W := by
  obtain ⟨g', t', cs, fuel, p, q, hg', ht', hvar, hd, _, _⟩ := h
  obtain rfl := Option.some.inj (hg.symm.trans hg')
  obtain rfl := Option.some.inj (hty.symm.trans ht')
  have hcs := cells_of_strs ht he hce hct hd
  intro k hk
  rw [World.var?_cell hg hvar k, ← Array.getElem?_toList, hcs]
  simp [hk]
theorem lv_ints {P : Program} {W : World} {name : String} {k : IntKind} {zs : List Int} {rest : List (String × DataW Unit)} {ps : List MemPlace} {g : Nat} {t e : TypeId} {n : Nat}
    (hg : P.globalNamed name = some g) (hty : (P.globals[g]?).map (·.type) = some t) (ht : P.underlying t = some (.array n e)) (he : P.underlying e = some (.int k)) (hce : P.cellsOf e = 1) (hct : P.cellsOf t = n)
    (h : DataW.LaidVars P W ((name, Lib.tabData k zs) :: rest) ps) : Lib.TabIs P W name k zs := by
  obtain ⟨g', t', cs, fuel, p, q, hg', ht', hvar, hd, _, _⟩ := h
  obtain rfl := Option.some.inj (hg.symm.trans hg')
  obtain rfl := Option.some.inj (hty.symm.trans ht')
  unfold Lib.TabIs
  rw [hvar, ← Lib.cells_of_tab ht he hce hct hd]
theorem gPowType : (Tryd.prog.globals[4]?).map (·.type) = some 124 := by kernel_rfl
theorem cellsPow : Tryd.prog.cellsOf 124 = 20 := by kernel_rfl
theorem cellsU64 : Tryd.prog.cellsOf 101 = 1 := by kernel_rfl
theorem gSteps : Tryd.prog.globalNamed "hallmark/show.stepNames" = some 1 := by kernel_rfl
theorem gStepsType : (Tryd.prog.globals[1]?).map (·.type) = some 93 := by kernel_rfl
theorem gSigns : Tryd.prog.globalNamed "hallmark/show.signNames" = some 3 := by kernel_rfl
theorem gSignsType : (Tryd.prog.globals[3]?).map (·.type) = some 114 := by kernel_rfl
theorem cellsSigns : Tryd.prog.cellsOf 114 = 14 := by kernel_rfl
theorem gTypes : Tryd.prog.globalNamed "hallmark/show.typeNames" = some 0 := by kernel_rfl
theorem gTypesType : (Tryd.prog.globals[0]?).map (·.type) = some 79 := by kernel_rfl
theorem cellsTypes : Tryd.prog.cellsOf 79 = 7 := by kernel_rfl
theorem pow_data : (Rows.laid_internal_strconv_uint64pow10 : DataW Unit) = Lib.tabData .u64 Lib.pow10Tab := by kernel_rfl
theorem steps_data : (Rows.laid_hallmark_show_stepNames : DataW Unit) = strData stepNames := by kernel_rfl
theorem signs_data : (Rows.laid_hallmark_show_signNames : DataW Unit) = strData signNames := by kernel_rfl
theorem types_data : (Rows.laid_hallmark_show_typeNames : DataW Unit) = strData typeNames := by kernel_rfl
theorem ft_of_strs {W : World} (h : StrTab 2 ((List.range 26).map fun k : Nat => fieldsL (k : Int)) W) : FT W := fun k hk => by
  rw [h k (by simpa using hk)]
  simp
/-- The tables of a row that reads types' names too. -/
theorem tabs7 {W : World} (h : laidMet Tryd.prog [("math/bits.deBruijn32tab", Rows.laid_math_bits_deBruijn32tab), ("math/bits.deBruijn64tab", Rows.laid_math_bits_deBruijn64tab), ("internal/strconv.uint64pow10", Rows.laid_internal_strconv_uint64pow10), ("hallmark/kind.fields", Rows.laid_hallmark_kind_fields), ("hallmark/show.typeNames", Rows.laid_hallmark_show_typeNames), ("hallmark/show.stepNames", Rows.laid_hallmark_show_stepNames), ("hallmark/show.signNames", Rows.laid_hallmark_show_signNames)] W) : Tabs W ∧ TN W := by
  rw [pow_data, laid_data, steps_data, signs_data, types_data] at h
  obtain ⟨ps, h0, _⟩ := h
  obtain ⟨_, h1⟩ := lv_skip h0
  obtain ⟨_, h2⟩ := lv_skip h1
  obtain ⟨_, h3⟩ := lv_skip h2
  obtain ⟨_, h4⟩ := lv_skip h3
  obtain ⟨_, h5⟩ := lv_skip h4
  obtain ⟨_, h6⟩ := lv_skip h5
  exact ⟨⟨lv_ints gPow gPowType Tryd.underlying124 Tryd.underlying101 cellsU64 cellsPow h2, ft_of_strs (lv_strs gFields gFieldsType Tryd.underlying93 Tryd.underlying9 cellsText cellsTable h3), lv_strs gSteps gStepsType Tryd.underlying93 Tryd.underlying9 cellsText cellsTable h5, lv_strs gSigns gSignsType Tryd.underlying114 Tryd.underlying9 cellsText cellsSigns h6⟩, lv_strs gTypes gTypesType Tryd.underlying79 Tryd.underlying9 cellsText cellsTypes h4⟩
/-- The tables of a row that reads no type's name. -/
theorem tabs6 {W : World} (h : laidMet Tryd.prog [("math/bits.deBruijn32tab", Rows.laid_math_bits_deBruijn32tab), ("math/bits.deBruijn64tab", Rows.laid_math_bits_deBruijn64tab), ("internal/strconv.uint64pow10", Rows.laid_internal_strconv_uint64pow10), ("hallmark/kind.fields", Rows.laid_hallmark_kind_fields), ("hallmark/show.stepNames", Rows.laid_hallmark_show_stepNames), ("hallmark/show.signNames", Rows.laid_hallmark_show_signNames)] W) : Tabs W := by
  rw [pow_data, laid_data, steps_data, signs_data] at h
  obtain ⟨ps, h0, _⟩ := h
  obtain ⟨_, h1⟩ := lv_skip h0
  obtain ⟨_, h2⟩ := lv_skip h1
  obtain ⟨_, h3⟩ := lv_skip h2
  obtain ⟨_, h5⟩ := lv_skip h3
  obtain ⟨_, h6⟩ := lv_skip h5
  exact ⟨lv_ints gPow gPowType Tryd.underlying124 Tryd.underlying101 cellsU64 cellsPow h2, ft_of_strs (lv_strs gFields gFieldsType Tryd.underlying93 Tryd.underlying9 cellsText cellsTable h3), lv_strs gSteps gStepsType Tryd.underlying93 Tryd.underlying9 cellsText cellsTable h5, lv_strs gSigns gSignsType Tryd.underlying114 Tryd.underlying9 cellsText cellsSigns h6⟩
/-- A world for the witness: the tables hold what their initialisers lay. -/
def cellsOfData : DataW Unit → Array Value
  | .agg parts => (parts.map fun d => match d with | .lit (.string l) => Value.string (mk l) | .lit (.int k n) => Value.int k n | _ => Value.bool false).toArray
  | _ => #[]
noncomputable def laidIn (heap : Array Obj) (g : Nat) (d : DataW Unit) : Array Obj := heap.modify g fun
  | .cells _ t frozen => .cells (cellsOfData d) t frozen
  | o => o
noncomputable def laidWorld7 (os : Os) : World :=
  { World.holding Tryd.prog os ⟨#[], #[], []⟩ with heap := laidIn (laidIn (laidIn (laidIn (laidIn (laidIn (laidIn (World.holding Tryd.prog os ⟨#[], #[], []⟩).heap 4 Rows.laid_internal_strconv_uint64pow10) 6 Rows.laid_math_bits_deBruijn32tab) 7 Rows.laid_math_bits_deBruijn64tab) 2 Rows.laid_hallmark_kind_fields) 1 Rows.laid_hallmark_show_stepNames) 3 Rows.laid_hallmark_show_signNames) 0 Rows.laid_hallmark_show_typeNames }
end Go.Proofs.YtccajbgdlicbnaaDoor
