/- A program (api.Prog) that came in by value, opened to its depth, at this program's types. -/
import Derived.Test.YtdchhfdmingnaaaDoorFT0

namespace Go.Proofs.YtdchhfdmingnaaaDoor
open Go.ChangeShapes Go.WideShapes Go.ChangeAt Go.RowKit Go.Joins Go.Deep
set_option linter.unusedVariables false
section
variable {H : Type} {enc : TypeId × Value → H}
theorem opens_ints : Opens enc Tryd.prog 34 (fun W cs Z => ∃ v, cs = [v] ∧ NumsV W v Z) := opens_nums Tryd.underlying34 Tryd.underlying3 (by kernel_rfl) (by kernel_rfl)
theorem opens_op : Opens enc Tryd.prog 52 OpQ := by
  intro W fuel cs y h hlt hfit
  have hcl := struct_len Tryd.underlying52 h
  rw [show Tryd.prog.cellsOf 52 = 8 by kernel_rfl] at hcl
  obtain ⟨K, e0, r0⟩ := opens_part Tryd.underlying52 h hlt hfit 0 rfl (o := 0) (k := 1) rfl (by kernel_rfl) rfl (opens_int Tryd.underlying3)
  obtain ⟨A, e1, r1⟩ := opens_part Tryd.underlying52 h hlt hfit 1 rfl (o := 1) (k := 1) rfl (by kernel_rfl) rfl (opens_int Tryd.underlying3)
  obtain ⟨B, e2, r2⟩ := opens_part Tryd.underlying52 h hlt hfit 2 rfl (o := 2) (k := 1) rfl (by kernel_rfl) rfl (opens_int Tryd.underlying3)
  obtain ⟨C, e3, r3⟩ := opens_part Tryd.underlying52 h hlt hfit 3 rfl (o := 3) (k := 1) rfl (by kernel_rfl) rfl (opens_int Tryd.underlying3)
  obtain ⟨N, e4, r4⟩ := opens_part Tryd.underlying52 h hlt hfit 4 rfl (o := 4) (k := 1) rfl (by kernel_rfl) rfl (opens_int Tryd.underlying2)
  obtain ⟨S, e5, r5⟩ := opens_part Tryd.underlying52 h hlt hfit 5 rfl (o := 5) (k := 1) rfl (by kernel_rfl) rfl (opens_text Tryd.underlying9)
  obtain ⟨L, l, e6, r6⟩ := opens_part Tryd.underlying52 h hlt hfit 6 rfl (o := 6) (k := 1) rfl (by kernel_rfl) rfl opens_ints
  obtain ⟨T, e7⟩ := opens_part Tryd.underlying52 h hlt hfit 7 rfl (o := 7) (k := 1) rfl (by kernel_rfl) rfl (opens_bool Tryd.underlying4)
  match cs, hcl with
  | [c0, c1, c2, c3, c4, c5, c6, c7], _ =>
    simp only [List.drop_zero, List.drop_succ_cons, List.take_succ_cons, List.take_zero, List.cons.injEq, and_true] at e0 e1 e2 e3 e4 e5 e6 e7
    subst e0 e1 e2 e3 e4 e5 e6 e7
    exact ⟨⟨K, A, B, C, N, S, L, T⟩, c6, rfl, r0, r1, r2, r3, r4, r5, r6⟩
theorem opens_sig : Opens enc Tryd.prog 71 SigQ := by
  intro W fuel cs y h hlt hfit
  have hcl := struct_len Tryd.underlying71 h
  rw [show Tryd.prog.cellsOf 71 = 2 by kernel_rfl] at hcl
  obtain ⟨L, l, e0, r0⟩ := opens_part Tryd.underlying71 h hlt hfit 0 rfl (o := 0) (k := 1) rfl (by kernel_rfl) rfl opens_ints
  obtain ⟨r, e1, r1⟩ := opens_part Tryd.underlying71 h hlt hfit 1 rfl (o := 1) (k := 1) rfl (by kernel_rfl) rfl (opens_int Tryd.underlying3)
  match cs, hcl with
  | [c0, c1], _ =>
    simp only [List.drop_zero, List.drop_succ_cons, List.take_succ_cons, List.take_zero, List.cons.injEq, and_true] at e0 e1
    subst e0 e1
    exact ⟨⟨L, r⟩, c0, rfl, r0, r1⟩
theorem opens_class : Opens enc Tryd.prog 74 ClassQ := by
  intro W fuel cs y h hlt hfit
  have hcl := struct_len Tryd.underlying74 h
  rw [show Tryd.prog.cellsOf 74 = 2 by kernel_rfl] at hcl
  obtain ⟨L, l, e0, r0⟩ := opens_part Tryd.underlying74 h hlt hfit 0 rfl (o := 0) (k := 1) rfl (by kernel_rfl) rfl opens_ints
  obtain ⟨M, m, e1, r1⟩ := opens_part Tryd.underlying74 h hlt hfit 1 rfl (o := 1) (k := 1) rfl (by kernel_rfl) rfl opens_ints
  match cs, hcl with
  | [c0, c1], _ =>
    simp only [List.drop_zero, List.drop_succ_cons, List.take_succ_cons, List.take_zero, List.cons.injEq, and_true] at e0 e1
    subst e0 e1
    exact ⟨⟨L, M⟩, c0, c1, rfl, r0, r1⟩
theorem opens_end : Opens enc Tryd.prog 55 EndQ := by
  intro W fuel cs y h hlt hfit
  have hcl := struct_len Tryd.underlying55 h
  rw [show Tryd.prog.cellsOf 55 = 6 by kernel_rfl] at hcl
  obtain ⟨K, e0, r0⟩ := opens_part Tryd.underlying55 h hlt hfit 0 rfl (o := 0) (k := 1) rfl (by kernel_rfl) rfl (opens_int Tryd.underlying3)
  obtain ⟨A, e1, r1⟩ := opens_part Tryd.underlying55 h hlt hfit 1 rfl (o := 1) (k := 1) rfl (by kernel_rfl) rfl (opens_int Tryd.underlying3)
  obtain ⟨B, e2, r2⟩ := opens_part Tryd.underlying55 h hlt hfit 2 rfl (o := 2) (k := 1) rfl (by kernel_rfl) rfl (opens_int Tryd.underlying3)
  obtain ⟨C, e3, r3⟩ := opens_part Tryd.underlying55 h hlt hfit 3 rfl (o := 3) (k := 1) rfl (by kernel_rfl) rfl (opens_int Tryd.underlying3)
  obtain ⟨L, l, e4, r4⟩ := opens_part Tryd.underlying55 h hlt hfit 4 rfl (o := 4) (k := 1) rfl (by kernel_rfl) rfl opens_ints
  obtain ⟨M, m, e5, r5⟩ := opens_part Tryd.underlying55 h hlt hfit 5 rfl (o := 5) (k := 1) rfl (by kernel_rfl) rfl opens_ints
  match cs, hcl with
  | [c0, c1, c2, c3, c4, c5], _ =>
    simp only [List.drop_zero, List.drop_succ_cons, List.take_succ_cons, List.take_zero, List.cons.injEq, and_true] at e0 e1 e2 e3 e4 e5
    subst e0 e1 e2 e3 e4 e5
    exact ⟨⟨K, A, B, C, L, M⟩, c4, c5, rfl, r0, r1, r2, r3, r4, r5⟩
theorem opens_block : Opens enc Tryd.prog 57 BlockQ := by
  intro W fuel cs y h hlt hfit
  have hcl := struct_len Tryd.underlying57 h
  rw [show Tryd.prog.cellsOf 57 = 8 by kernel_rfl] at hcl
  obtain ⟨L, l, e0, r0⟩ := opens_part Tryd.underlying57 h hlt hfit 0 rfl (o := 0) (k := 1) rfl (by kernel_rfl) rfl opens_ints
  obtain ⟨O, o, e1, r1⟩ := opens_part Tryd.underlying57 h hlt hfit 1 rfl (o := 1) (k := 1) rfl (by kernel_rfl) rfl (opens_row Tryd.underlying53 (k := 8) (by kernel_rfl) (by decide) (of_decide_eq_true (by kernel_rfl)) opens_op)
  obtain ⟨E, e2⟩ := opens_part Tryd.underlying57 h hlt hfit 2 rfl (o := 2) (k := 6) rfl (by kernel_rfl) rfl opens_end
  match cs, hcl with
  | [c0, c1, c2, c3, c4, c5, c6, c7], _ =>
    simp only [List.drop_zero, List.drop_succ_cons, List.take_succ_cons, List.take_zero, List.cons.injEq, and_true] at e0 e1 e2
    subst e0 e1
    exact ⟨⟨L, O, E⟩, c0, c1, _, rfl, r0, r1, e2⟩
theorem opens_func : Opens enc Tryd.prog 30 FuncQ := by
  intro W fuel cs y h hlt hfit
  have hcl := struct_len Tryd.underlying30 h
  rw [show Tryd.prog.cellsOf 30 = 2 by kernel_rfl] at hcl
  obtain ⟨r, e0, r0⟩ := opens_part Tryd.underlying30 h hlt hfit 0 rfl (o := 0) (k := 1) rfl (by kernel_rfl) rfl (opens_int Tryd.underlying3)
  obtain ⟨B, b, e1, r1⟩ := opens_part Tryd.underlying30 h hlt hfit 1 rfl (o := 1) (k := 1) rfl (by kernel_rfl) rfl (opens_row Tryd.underlying28 (k := 8) (by kernel_rfl) (by decide) (of_decide_eq_true (by kernel_rfl)) opens_block)
  match cs, hcl with
  | [c0, c1], _ =>
    simp only [List.drop_zero, List.drop_succ_cons, List.take_succ_cons, List.take_zero, List.cons.injEq, and_true] at e0 e1
    subst e0 e1
    exact ⟨⟨r, B⟩, c1, rfl, r0, r1⟩
end
end Go.Proofs.YtdchhfdmingnaaaDoor
