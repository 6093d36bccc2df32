/- Acts (hallmarklaw10.Act) that came in: one by value, and a slice of them. -/
import Derived.Test.YtgnfinojnmkkkaaQT0
import Derived.Test.YtgnfinojnmkkkaaQT8

namespace Go.Proofs.Ytgnfinojnmkkkaa
open Go.ChangeShapes Go.WideShapes Go.ChangeAt Go.RowKit Go.Joins Go.Deep
set_option linter.unusedVariables false
set_option linter.unusedSimpArgs false
section
variable {H : Type} {enc : TypeId × Value → H}
def ValQ (W : World) (cs : List Value) (x : VV) : Prop := cs = vvL x ∧ InR x.1 ∧ InR x.2.2
def ActQ (W : World) (cs : List Value) (x : PAct) : Prop := cs = actL x ∧ x.Ok
theorem opens_val : Opens enc Try.prog 24 ValQ := by
  intro W fuel cs y h hlt hfit
  have hcl := struct_len Try.underlying24 h
  rw [show Try.prog.cellsOf 24 = 3 by kernel_rfl] at hcl
  obtain ⟨N, e0, r0⟩ := opens_part Try.underlying24 h hlt hfit 0 rfl (o := 0) (k := 1) rfl (by kernel_rfl) rfl (opens_int Try.underlying2)
  obtain ⟨S, e1, r1⟩ := opens_part Try.underlying24 h hlt hfit 1 rfl (o := 1) (k := 1) rfl (by kernel_rfl) rfl (opens_text Try.underlying9)
  obtain ⟨R, e2, r2⟩ := opens_part Try.underlying24 h hlt hfit 2 rfl (o := 2) (k := 1) rfl (by kernel_rfl) rfl (opens_int Try.underlying3)
  match cs, hcl with
  | [c0, c1, c2], _ =>
    simp only [List.drop_zero, List.drop_succ_cons, List.take_succ_cons, List.take_zero, List.cons.injEq, and_true] at e0 e1 e2
    subst e0 e1 e2
    exact ⟨(N, S, R), rfl, r0, r2⟩
theorem opens_act : Opens enc Try.prog 26 ActQ := by
  intro W fuel cs y h hlt hfit
  have hcl := struct_len Try.underlying26 h
  rw [show Try.prog.cellsOf 26 = 8 by kernel_rfl] at hcl
  obtain ⟨K, e0, r0⟩ := opens_part Try.underlying26 h hlt hfit 0 rfl (o := 0) (k := 1) rfl (by kernel_rfl) rfl (opens_int Try.underlying3)
  obtain ⟨R, e1, r1⟩ := opens_part Try.underlying26 h hlt hfit 1 rfl (o := 1) (k := 1) rfl (by kernel_rfl) rfl (opens_int Try.underlying3)
  obtain ⟨I, e2, r2⟩ := opens_part Try.underlying26 h hlt hfit 2 rfl (o := 2) (k := 1) rfl (by kernel_rfl) rfl (opens_int Try.underlying2)
  obtain ⟨N, e3, r3⟩ := opens_part Try.underlying26 h hlt hfit 3 rfl (o := 3) (k := 1) rfl (by kernel_rfl) rfl (opens_int Try.underlying2)
  obtain ⟨V, e4, r4⟩ := opens_part Try.underlying26 h hlt hfit 4 rfl (o := 4) (k := 3) rfl (by kernel_rfl) rfl opens_val
  obtain ⟨T, e5⟩ := opens_part Try.underlying26 h hlt hfit 5 rfl (o := 7) (k := 1) rfl (by kernel_rfl) rfl (opens_bool Try.underlying4)
  match cs, hcl with
  | [c0, c1, c2, c3, c4, c5, c6, c7], _ =>
    simp only [vvL, List.drop_zero, List.drop_succ_cons, List.take_succ_cons, List.take_zero, List.cons.injEq, and_true] at e0 e1 e2 e3 e4 e5
    obtain ⟨e4, e6, e7⟩ := e4
    subst e0 e1 e2 e3 e4 e5 e6 e7
    exact ⟨⟨K, R, I, N, V, T⟩, rfl, r0, r1, r2, r3⟩
set_option maxRecDepth 100000 in
theorem open_acts_at {b0 : Nat} {W : World} {v : Value} {d : DataW H} {p : List MemPlace} (hv : Value.okWide Try.prog W .any b0 22 v) (h : DataW.Trod enc Try.prog W 0 (fun _ => true) true 22 v d p) (hlt : ∀ x ∈ p, x.block < W.heap.size)
    {ts : List TypeId} {ds : List (DataW H)} (hsz : (DataW.weightsEach Try.prog ts ds).all (· ≤ reachBytes) = true) {j : Nat} (hj : ts[j]? = some 22) (hd : ds[j]? = some d) :
    ∃ (a : Option Addr) (n c : Nat) (L : List PAct), v = .slice a n c ∧ ActsAt W a n L ∧ n ≤ 140737488351232 := by
  obtain ⟨a0, len, cap, rfl⟩ := okWide_slice Try.underlying22 hv
  obtain ⟨fuel, hf⟩ := h
  obtain ⟨L, v', e, a, n, c, rfl, hl, _, hb, hc⟩ := opens_row (enc := enc) Try.underlying22 (k := 8) (by kernel_rfl) (by decide) (of_decide_eq_true (by kernel_rfl)) opens_act hf hlt (Fits.of_each hsz hj hd)
  have e2 : Value.slice a0 len cap = .slice a n c := by simpa [Value.cells] using e
  cases e2
  refine ⟨_, _, _, L, rfl, ⟨hl, fun x hx => ?_, fun hn => ?_⟩, hb⟩
  · obtain ⟨i, hi, rfl⟩ := List.getElem_of_mem hx
    obtain ⟨g, off, _, _, hcs⟩ := hc (by omega)
    obtain ⟨cs, _, _, q⟩ := hcs i hi
    exact q.2
  · obtain ⟨g, off, e3, hg, hcs⟩ := hc hn
    refine ⟨g, off, e3, hg, fun i hi j v hv => ?_⟩
    obtain ⟨cs, hcl, hcc, q⟩ := hcs i hi
    rw [q.1] at hcc
    obtain ⟨hj2, hv2⟩ := List.getElem?_eq_some_iff.1 hv
    rw [hcc j hj2, hv2]
set_option maxRecDepth 100000 in
theorem open_act {b0 : Nat} {W : World} {v : Value} {d : DataW H} {p : List MemPlace} (hv : Value.okWide Try.prog W .any b0 26 v) (h : DataW.Trod enc Try.prog W 0 (fun _ => true) true 26 v d p) (hlt : ∀ x ∈ p, x.block < W.heap.size)
    {ts : List TypeId} {ds : List (DataW H)} (hsz : (DataW.weightsEach Try.prog ts ds).all (· ≤ reachBytes) = true) {j : Nat} (hj : ts[j]? = some 26) (hd : ds[j]? = some d) :
    ∃ (a : PAct), v = actV a ∧ a.Ok := by
  obtain ⟨cs, rfl, hsz'⟩ := okWide_struct Try.underlying26 hv
  obtain ⟨fuel, hf⟩ := h
  obtain ⟨a, e, ok⟩ := opens_act (enc := enc) hf hlt (Fits.of_each hsz hj hd)
  refine ⟨a, ?_, ok⟩
  have e2 : cs.toList = actL a := by simpa [Value.cells] using e
  have e3 : cs = (actL a).toArray := by rw [← e2, Array.toArray_toList]
  rw [e3]
  rfl
end
end Go.Proofs.Ytgnfinojnmkkkaa
