/- A program (api.Prog) that came in by value, opened to its depth, at this program's types. -/
import Derived.Test.YtnnccahpgailiaaQT0

namespace Go.Proofs.Ytnnccahpgailiaa
open Go.ChangeShapes Go.WideShapes Go.ChangeAt Go.RowKit Go.Joins Go.Deep
set_option linter.unusedVariables false

section
variable {H : Type} {enc : TypeId × Value → H}
theorem opens_ints : Opens enc Try.prog 29 (fun W cs Z => ∃ v, cs = [v] ∧ NumsV W v Z) := opens_nums Try.underlying29 Try.underlying3 (by kernel_rfl) (by kernel_rfl)
theorem opens_op : Opens enc Try.prog 198 OpQ := by
  intro W fuel cs y h hlt hfit
  have hcl := struct_len Try.underlying198 h
  rw [show Try.prog.cellsOf 198 = 8 by kernel_rfl] at hcl
  obtain ⟨K, e0, r0⟩ := opens_part Try.underlying198 h hlt hfit 0 rfl (o := 0) (k := 1) rfl (by kernel_rfl) rfl (opens_int Try.underlying3)
  obtain ⟨A, e1, r1⟩ := opens_part Try.underlying198 h hlt hfit 1 rfl (o := 1) (k := 1) rfl (by kernel_rfl) rfl (opens_int Try.underlying3)
  obtain ⟨B, e2, r2⟩ := opens_part Try.underlying198 h hlt hfit 2 rfl (o := 2) (k := 1) rfl (by kernel_rfl) rfl (opens_int Try.underlying3)
  obtain ⟨C, e3, r3⟩ := opens_part Try.underlying198 h hlt hfit 3 rfl (o := 3) (k := 1) rfl (by kernel_rfl) rfl (opens_int Try.underlying3)
  obtain ⟨N, e4, r4⟩ := opens_part Try.underlying198 h hlt hfit 4 rfl (o := 4) (k := 1) rfl (by kernel_rfl) rfl (opens_int Try.underlying2)
  obtain ⟨S, e5, r5⟩ := opens_part Try.underlying198 h hlt hfit 5 rfl (o := 5) (k := 1) rfl (by kernel_rfl) rfl (opens_text Try.underlying9)
  obtain ⟨L, l, e6, r6⟩ := opens_part Try.underlying198 h hlt hfit 6 rfl (o := 6) (k := 1) rfl (by kernel_rfl) rfl opens_ints
  obtain ⟨T, e7⟩ := opens_part Try.underlying198 h hlt hfit 7 rfl (o := 7) (k := 1) rfl (by kernel_rfl) rfl (opens_bool Try.underlying4)
  match cs, hcl with
  | [c0, c1, c2, c3, c4, c5, c6, c7], _ =>
    simp only [List.drop_zero, List.drop_succ_cons, List.take_succ_cons, List.take_zero, List.cons.injEq, and_true] at e0 e1 e2 e3 e4 e5 e6 e7
    subst e0 e1 e2 e3 e4 e5 e6 e7
    exact ⟨⟨K, A, B, C, N, S, L, T⟩, c6, rfl, r0, r1, r2, r3, r4, r5, r6⟩
theorem opens_end : Opens enc Try.prog 79 EndQ := by
  intro W fuel cs y h hlt hfit
  have hcl := struct_len Try.underlying79 h
  rw [show Try.prog.cellsOf 79 = 6 by kernel_rfl] at hcl
  obtain ⟨K, e0, r0⟩ := opens_part Try.underlying79 h hlt hfit 0 rfl (o := 0) (k := 1) rfl (by kernel_rfl) rfl (opens_int Try.underlying3)
  obtain ⟨A, e1, r1⟩ := opens_part Try.underlying79 h hlt hfit 1 rfl (o := 1) (k := 1) rfl (by kernel_rfl) rfl (opens_int Try.underlying3)
  obtain ⟨B, e2, r2⟩ := opens_part Try.underlying79 h hlt hfit 2 rfl (o := 2) (k := 1) rfl (by kernel_rfl) rfl (opens_int Try.underlying3)
  obtain ⟨C, e3, r3⟩ := opens_part Try.underlying79 h hlt hfit 3 rfl (o := 3) (k := 1) rfl (by kernel_rfl) rfl (opens_int Try.underlying3)
  obtain ⟨L, l, e4, r4⟩ := opens_part Try.underlying79 h hlt hfit 4 rfl (o := 4) (k := 1) rfl (by kernel_rfl) rfl opens_ints
  obtain ⟨M, m, e5, r5⟩ := opens_part Try.underlying79 h hlt hfit 5 rfl (o := 5) (k := 1) rfl (by kernel_rfl) rfl opens_ints
  match cs, hcl with
  | [c0, c1, c2, c3, c4, c5], _ =>
    simp only [List.drop_zero, List.drop_succ_cons, List.take_succ_cons, List.take_zero, List.cons.injEq, and_true] at e0 e1 e2 e3 e4 e5
    subst e0 e1 e2 e3 e4 e5
    exact ⟨⟨K, A, B, C, L, M⟩, c4, c5, rfl, r0, r1, r2, r3, r4, r5⟩
theorem opens_block : Opens enc Try.prog 82 BlockQ := by
  intro W fuel cs y h hlt hfit
  have hcl := struct_len Try.underlying82 h
  rw [show Try.prog.cellsOf 82 = 8 by kernel_rfl] at hcl
  obtain ⟨L, l, e0, r0⟩ := opens_part Try.underlying82 h hlt hfit 0 rfl (o := 0) (k := 1) rfl (by kernel_rfl) rfl opens_ints
  obtain ⟨O, o, e1, r1⟩ := opens_part Try.underlying82 h hlt hfit 1 rfl (o := 1) (k := 1) rfl (by kernel_rfl) rfl (opens_row Try.underlying80 (k := 8) (by kernel_rfl) (by decide) (of_decide_eq_true (by kernel_rfl)) opens_op)
  obtain ⟨E, e2⟩ := opens_part Try.underlying82 h hlt hfit 2 rfl (o := 2) (k := 6) rfl (by kernel_rfl) rfl opens_end
  match cs, hcl with
  | [c0, c1, c2, c3, c4, c5, c6, c7], _ =>
    simp only [List.drop_zero, List.drop_succ_cons, List.take_succ_cons, List.take_zero, List.cons.injEq, and_true] at e0 e1 e2
    subst e0 e1
    exact ⟨⟨L, O, E⟩, c0, c1, _, rfl, r0, r1, e2⟩
theorem opens_func : Opens enc Try.prog 24 FuncQ := by
  intro W fuel cs y h hlt hfit
  have hcl := struct_len Try.underlying24 h
  rw [show Try.prog.cellsOf 24 = 2 by kernel_rfl] at hcl
  obtain ⟨r, e0, r0⟩ := opens_part Try.underlying24 h hlt hfit 0 rfl (o := 0) (k := 1) rfl (by kernel_rfl) rfl (opens_int Try.underlying3)
  obtain ⟨B, b, e1, r1⟩ := opens_part Try.underlying24 h hlt hfit 1 rfl (o := 1) (k := 1) rfl (by kernel_rfl) rfl (opens_row Try.underlying22 (k := 8) (by kernel_rfl) (by decide) (of_decide_eq_true (by kernel_rfl)) opens_block)
  match cs, hcl with
  | [c0, c1], _ =>
    simp only [List.drop_zero, List.drop_succ_cons, List.take_succ_cons, List.take_zero, List.cons.injEq, and_true] at e0 e1
    subst e0 e1
    exact ⟨⟨r, B⟩, c1, rfl, r0, r1⟩
end
end Go.Proofs.Ytnnccahpgailiaa
