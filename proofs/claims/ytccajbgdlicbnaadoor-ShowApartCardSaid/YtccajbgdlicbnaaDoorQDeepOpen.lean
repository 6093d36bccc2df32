/- A program (api.Prog) that came in by value, opened to its depth, at this program's types. -/
import Derived.Test.YtccajbgdlicbnaaDoorQT0

namespace Go.Proofs.YtccajbgdlicbnaaDoor
open Go.ChangeShapes Go.WideShapes Go.ChangeAt Go.RowKit Go.Joins Go.Deep
set_option linter.unusedVariables false

section
variable {H : Type} {enc : TypeId × Value → H}
theorem opens_ints : Opens enc Tryd.prog 39 (fun W cs Z => ∃ v, cs = [v] ∧ NumsV W v Z) := opens_nums Tryd.underlying39 Tryd.underlying3 (by kernel_rfl) (by kernel_rfl)
theorem opens_op : Opens enc Tryd.prog 50 OpQ := by
  intro W fuel cs y h hlt hfit
  have hcl := struct_len Tryd.underlying50 h
  rw [show Tryd.prog.cellsOf 50 = 8 by kernel_rfl] at hcl
  obtain ⟨K, e0, r0⟩ := opens_part Tryd.underlying50 h hlt hfit 0 rfl (o := 0) (k := 1) rfl (by kernel_rfl) rfl (opens_int Tryd.underlying3)
  obtain ⟨A, e1, r1⟩ := opens_part Tryd.underlying50 h hlt hfit 1 rfl (o := 1) (k := 1) rfl (by kernel_rfl) rfl (opens_int Tryd.underlying3)
  obtain ⟨B, e2, r2⟩ := opens_part Tryd.underlying50 h hlt hfit 2 rfl (o := 2) (k := 1) rfl (by kernel_rfl) rfl (opens_int Tryd.underlying3)
  obtain ⟨C, e3, r3⟩ := opens_part Tryd.underlying50 h hlt hfit 3 rfl (o := 3) (k := 1) rfl (by kernel_rfl) rfl (opens_int Tryd.underlying3)
  obtain ⟨N, e4, r4⟩ := opens_part Tryd.underlying50 h hlt hfit 4 rfl (o := 4) (k := 1) rfl (by kernel_rfl) rfl (opens_int Tryd.underlying2)
  obtain ⟨S, e5, r5⟩ := opens_part Tryd.underlying50 h hlt hfit 5 rfl (o := 5) (k := 1) rfl (by kernel_rfl) rfl (opens_text Tryd.underlying9)
  obtain ⟨L, l, e6, r6⟩ := opens_part Tryd.underlying50 h hlt hfit 6 rfl (o := 6) (k := 1) rfl (by kernel_rfl) rfl opens_ints
  obtain ⟨T, e7⟩ := opens_part Tryd.underlying50 h hlt hfit 7 rfl (o := 7) (k := 1) rfl (by kernel_rfl) rfl (opens_bool Tryd.underlying4)
  match cs, hcl with
  | [c0, c1, c2, c3, c4, c5, c6, c7], _ =>
    simp only [List.drop_zero, List.drop_succ_cons, List.take_succ_cons, List.take_zero, List.cons.injEq, and_true] at e0 e1 e2 e3 e4 e5 e6 e7
    subst e0 e1 e2 e3 e4 e5 e6 e7
    exact ⟨⟨K, A, B, C, N, S, L, T⟩, c6, rfl, r0, r1, r2, r3, r4, r5, r6⟩
theorem opens_sig : Opens enc Tryd.prog 41 SigQ := by
  intro W fuel cs y h hlt hfit
  have hcl := struct_len Tryd.underlying41 h
  rw [show Tryd.prog.cellsOf 41 = 2 by kernel_rfl] at hcl
  obtain ⟨L, l, e0, r0⟩ := opens_part Tryd.underlying41 h hlt hfit 0 rfl (o := 0) (k := 1) rfl (by kernel_rfl) rfl opens_ints
  obtain ⟨r, e1, r1⟩ := opens_part Tryd.underlying41 h hlt hfit 1 rfl (o := 1) (k := 1) rfl (by kernel_rfl) rfl (opens_int Tryd.underlying3)
  match cs, hcl with
  | [c0, c1], _ =>
    simp only [List.drop_zero, List.drop_succ_cons, List.take_succ_cons, List.take_zero, List.cons.injEq, and_true] at e0 e1
    subst e0 e1
    exact ⟨⟨L, r⟩, c0, rfl, r0, r1⟩
theorem opens_class : Opens enc Tryd.prog 43 ClassQ := by
  intro W fuel cs y h hlt hfit
  have hcl := struct_len Tryd.underlying43 h
  rw [show Tryd.prog.cellsOf 43 = 2 by kernel_rfl] at hcl
  obtain ⟨L, l, e0, r0⟩ := opens_part Tryd.underlying43 h hlt hfit 0 rfl (o := 0) (k := 1) rfl (by kernel_rfl) rfl opens_ints
  obtain ⟨M, m, e1, r1⟩ := opens_part Tryd.underlying43 h hlt hfit 1 rfl (o := 1) (k := 1) rfl (by kernel_rfl) rfl opens_ints
  match cs, hcl with
  | [c0, c1], _ =>
    simp only [List.drop_zero, List.drop_succ_cons, List.take_succ_cons, List.take_zero, List.cons.injEq, and_true] at e0 e1
    subst e0 e1
    exact ⟨⟨L, M⟩, c0, c1, rfl, r0, r1⟩
theorem opens_end : Opens enc Tryd.prog 46 EndQ := by
  intro W fuel cs y h hlt hfit
  have hcl := struct_len Tryd.underlying46 h
  rw [show Tryd.prog.cellsOf 46 = 6 by kernel_rfl] at hcl
  obtain ⟨K, e0, r0⟩ := opens_part Tryd.underlying46 h hlt hfit 0 rfl (o := 0) (k := 1) rfl (by kernel_rfl) rfl (opens_int Tryd.underlying3)
  obtain ⟨A, e1, r1⟩ := opens_part Tryd.underlying46 h hlt hfit 1 rfl (o := 1) (k := 1) rfl (by kernel_rfl) rfl (opens_int Tryd.underlying3)
  obtain ⟨B, e2, r2⟩ := opens_part Tryd.underlying46 h hlt hfit 2 rfl (o := 2) (k := 1) rfl (by kernel_rfl) rfl (opens_int Tryd.underlying3)
  obtain ⟨C, e3, r3⟩ := opens_part Tryd.underlying46 h hlt hfit 3 rfl (o := 3) (k := 1) rfl (by kernel_rfl) rfl (opens_int Tryd.underlying3)
  obtain ⟨L, l, e4, r4⟩ := opens_part Tryd.underlying46 h hlt hfit 4 rfl (o := 4) (k := 1) rfl (by kernel_rfl) rfl opens_ints
  obtain ⟨M, m, e5, r5⟩ := opens_part Tryd.underlying46 h hlt hfit 5 rfl (o := 5) (k := 1) rfl (by kernel_rfl) rfl opens_ints
  match cs, hcl with
  | [c0, c1, c2, c3, c4, c5], _ =>
    simp only [List.drop_zero, List.drop_succ_cons, List.take_succ_cons, List.take_zero, List.cons.injEq, and_true] at e0 e1 e2 e3 e4 e5
    subst e0 e1 e2 e3 e4 e5
    exact ⟨⟨K, A, B, C, L, M⟩, c4, c5, rfl, r0, r1, r2, r3, r4, r5⟩
theorem opens_block : Opens enc Tryd.prog 48 BlockQ := by
  intro W fuel cs y h hlt hfit
  have hcl := struct_len Tryd.underlying48 h
  rw [show Tryd.prog.cellsOf 48 = 8 by kernel_rfl] at hcl
  obtain ⟨L, l, e0, r0⟩ := opens_part Tryd.underlying48 h hlt hfit 0 rfl (o := 0) (k := 1) rfl (by kernel_rfl) rfl opens_ints
  obtain ⟨O, o, e1, r1⟩ := opens_part Tryd.underlying48 h hlt hfit 1 rfl (o := 1) (k := 1) rfl (by kernel_rfl) rfl (opens_row Tryd.underlying44 (k := 8) (by kernel_rfl) (by decide) (of_decide_eq_true (by kernel_rfl)) opens_op)
  obtain ⟨E, e2⟩ := opens_part Tryd.underlying48 h hlt hfit 2 rfl (o := 2) (k := 6) rfl (by kernel_rfl) rfl opens_end
  match cs, hcl with
  | [c0, c1, c2, c3, c4, c5, c6, c7], _ =>
    simp only [List.drop_zero, List.drop_succ_cons, List.take_succ_cons, List.take_zero, List.cons.injEq, and_true] at e0 e1 e2
    subst e0 e1
    exact ⟨⟨L, O, E⟩, c0, c1, _, rfl, r0, r1, e2⟩
theorem opens_func : Opens enc Tryd.prog 34 FuncQ := by
  intro W fuel cs y h hlt hfit
  have hcl := struct_len Tryd.underlying34 h
  rw [show Tryd.prog.cellsOf 34 = 2 by kernel_rfl] at hcl
  obtain ⟨r, e0, r0⟩ := opens_part Tryd.underlying34 h hlt hfit 0 rfl (o := 0) (k := 1) rfl (by kernel_rfl) rfl (opens_int Tryd.underlying3)
  obtain ⟨B, b, e1, r1⟩ := opens_part Tryd.underlying34 h hlt hfit 1 rfl (o := 1) (k := 1) rfl (by kernel_rfl) rfl (opens_row Tryd.underlying32 (k := 8) (by kernel_rfl) (by decide) (of_decide_eq_true (by kernel_rfl)) opens_block)
  match cs, hcl with
  | [c0, c1], _ =>
    simp only [List.drop_zero, List.drop_succ_cons, List.take_succ_cons, List.take_zero, List.cons.injEq, and_true] at e0 e1
    subst e0 e1
    exact ⟨⟨r, B⟩, c1, rfl, r0, r1⟩
set_option maxRecDepth 100000 in
/-- A program that came in by value. -/
theorem open_prog_deep {b0 : Nat} {W : World} {v : Value} {d : DataW H} {p : List MemPlace} (hv : Value.okWide Tryd.prog W .any b0 26 v) (h : DataW.Trod enc Tryd.prog W 0 (fun _ => true) true 26 v d p) (hlt : ∀ x ∈ p, x.block < W.heap.size)
    {ts : List TypeId} {ds : List (DataW H)} (hsz : (DataW.weightsEach Tryd.prog ts ds).all (· ≤ reachBytes) = true) {j : Nat} (hj : ts[j]? = some 26) (hd : ds[j]? = some d) :
    ∃ (s c f : Value) (P : ProgD), v = .agg #[s, c, f] ∧ ProgQ W [s, c, f] P := by
  obtain ⟨v0, v1, v2, y0, y1, y2, n, rfl, rfl, rfl, q0, q1, q2⟩ := open_agg3 Tryd.underlying26 (by kernel_rfl) (by kernel_rfl) hv h
  have hfit := Fits.of_each hsz hj hd
  obtain ⟨S, _, e0, r0⟩ := opens_row (enc := enc) Tryd.underlying22 (k := 2) (by kernel_rfl) (by decide) (of_decide_eq_true (by kernel_rfl)) opens_sig q0 (fun x hx => hlt x (by simp [hx])) (hfit.part Tryd.underlying26 (j := 0) rfl rfl)
  obtain ⟨C, _, e1, r1⟩ := opens_row (enc := enc) Tryd.underlying23 (k := 2) (by kernel_rfl) (by decide) (of_decide_eq_true (by kernel_rfl)) opens_class q1 (fun x hx => hlt x (by simp [hx])) (hfit.part Tryd.underlying26 (j := 1) rfl rfl)
  obtain ⟨F, _, e2, r2⟩ := opens_row (enc := enc) Tryd.underlying24 (k := 2) (by kernel_rfl) (by decide) (of_decide_eq_true (by kernel_rfl)) opens_func q2 (fun x hx => hlt x (by simp [hx])) (hfit.part Tryd.underlying26 (j := 2) rfl rfl)
  cases e0; cases e1; cases e2
  exact ⟨_, _, _, ⟨S, C, F⟩, rfl, _, _, _, rfl, r0, r1, r2⟩
end
end Go.Proofs.YtccajbgdlicbnaaDoor
