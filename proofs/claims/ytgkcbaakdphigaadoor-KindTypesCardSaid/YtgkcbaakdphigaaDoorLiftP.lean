/- From a reading to a walk: a program (api.Prog: three slices of structs) that came in by value: how many of each it has. Nothing of the program is named here. -/
import Derived.Test.YtgkcbaakdphigaaDoorLiftO
namespace Go.Proofs.YtgkcbaakdphigaaDoor
open Go.ChangeShapes Go.WideShapes Go.ChangeAt Go.RowKit Go.Joins Go.Deep
set_option linter.unusedVariables false

section
variable {H : Type} {enc : TypeId × Value → H} {P : Program} {W : World}
/-- A slice of whatever, as a field: its shape and how many it has. -/
theorem open_slice_shape {fuel : Nat} {t e : TypeId} {v : Value} {y : DataW H × List MemPlace} (ht : P.underlying t = some (.slice e)) (hby : 0 < P.bytesOf e)
    (h : DataW.trod enc P W 0 (fun _ => true) true fuel t [v] = some y) {ts : List TypeId} {ds : List (DataW H)} (hsz : (DataW.weightsEach P ts ds).all (· ≤ reachBytes) = true) {j : Nat} (hj : ts[j]? = some t) (hd : ds[j]? = some y.1) :
    ∃ (a : Option Addr) (n c : Nat), v = .slice a n c ∧ n ≤ 140737488351232 := by
  rcases DataW.trod_slice ht h with ⟨hcs, _⟩ | ⟨a, len, cap, elems, rest, n, _, hcs, hy, _, _, _, hlen, _⟩
  · simp at hcs
    subst hcs
    exact ⟨none, 0, 0, rfl, by omega⟩
  · simp at hcs
    subst hcs
    have hr := sized_slice hsz hj (by rw [hd, hy]) ht
    simp only [List.length_map, reachBytes] at hr
    have : (elems.length + rest.length) * 1 ≤ (elems.length + rest.length) * P.bytesOf e := Nat.mul_le_mul_left _ hby
    exact ⟨some a, len, cap, rfl, by omega⟩
theorem open_prog {b0 : Nat} {t t0 t1 t2 e0 e1 e2 : TypeId} {f0 f1 f2 : Field} {v : Value} {d : DataW H} {p : List MemPlace} (hs : P.underlying t = some (.struct #[f0, f1, f2])) (hone : oneCellFields P #[f0, f1, f2] = true) (hC : P.cellsOf t = 3)
    (g0 : f0.type = t0) (g1 : f1.type = t1) (g2 : f2.type = t2) (h0 : P.underlying t0 = some (.slice e0)) (h1 : P.underlying t1 = some (.slice e1)) (h2 : P.underlying t2 = some (.slice e2)) (k0 : 0 < P.bytesOf e0) (k1 : 0 < P.bytesOf e1) (k2 : 0 < P.bytesOf e2)
    (hv : Value.okWide P W .any b0 t v) (h : DataW.Trod enc P W 0 (fun _ => true) true t v d p)
    {ts : List TypeId} {ds : List (DataW H)} (hsz : (DataW.weightsEach P ts ds).all (· ≤ reachBytes) = true) {j : Nat} (hj : ts[j]? = some t) (hd : ds[j]? = some d) :
    ∃ (sa ca fa : Option Addr) (sn sc cn cc fn fc : Nat), v = .agg #[.slice sa sn sc, .slice ca cn cc, .slice fa fn fc] ∧ sn ≤ 140737488351232 ∧ cn ≤ 140737488351232 ∧ fn ≤ 140737488351232 := by
  obtain ⟨v0, v1, v2, y0, y1, y2, n, rfl, rfl, _, q0, q1, q2⟩ := open_agg3 hs hone hC hv h
  have hw := sized_agg hsz hj hd hs
  simp only [List.map_cons, List.map_nil] at hw
  rw [g0] at q0; rw [g1] at q1; rw [g2] at q2
  obtain ⟨sa, sn, sc, rfl, l0⟩ := open_slice_shape h0 k0 q0 hw (j := 0) (by simp [g0]) rfl
  obtain ⟨ca, cn, cc, rfl, l1⟩ := open_slice_shape h1 k1 q1 hw (j := 1) (by simp [g1]) rfl
  obtain ⟨fa, fn, fc, rfl, l2⟩ := open_slice_shape h2 k2 q2 hw (j := 2) (by simp [g2]) rfl
  exact ⟨sa, ca, fa, sn, sc, cn, cc, fn, fc, rfl, l0, l1, l2⟩
end
end Go.Proofs.YtgkcbaakdphigaaDoor
