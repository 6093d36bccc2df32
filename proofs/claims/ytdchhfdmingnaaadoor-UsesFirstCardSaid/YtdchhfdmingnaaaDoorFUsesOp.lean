/- Layer 13: a program that came in by value, each function's row of blocks no longer than its cap. -/
import Derived.Test.YtdchhfdmingnaaaDoorFDeepOpen
import Derived.Test.YtdchhfdmingnaaaDoorFT5

namespace Go.Proofs.YtdchhfdmingnaaaDoor
open Go.ChangeShapes Go.WideShapes Go.ChangeAt Go.RowKit Go.Joins Go.Deep
set_option linter.unusedVariables false
set_option linter.unusedSimpArgs false
theorem urow_sub {α : Type} {Q R : World → List Value → α → Prop} (hR : ∀ W cs x, Q W cs x → R W cs x) {k : Nat} {W : World} {v : Value} {xs : List α} (h : RowV Q k W v xs) : RowV R k W v xs := by
  obtain ⟨a, n, c, e, h1, h2, h3, hr⟩ := h
  refine ⟨a, n, c, e, h1, h2, h3, fun h0 => ?_⟩
  obtain ⟨g, off, e1, hg, hcs⟩ := hr h0
  refine ⟨g, off, e1, hg, fun i hi => ?_⟩
  obtain ⟨cs, l, hc, hq⟩ := hcs i hi
  exact ⟨cs, l, hc, hR _ _ _ hq⟩
section
variable {H : Type} {enc : TypeId × Value → H}
theorem uopens_cap {P : Program} {t e : TypeId} (ht : P.underlying t = some (.slice e)) : Opens enc P t (fun W cs (x : Unit) => ∃ a n c, cs = [.slice a n c] ∧ n ≤ c ∧ c ≤ 9223372036854775807) := by
  intro W fuel cs y h hlt hfit
  rcases open_slice ht h with ⟨rfl, rfl⟩ | ⟨a, len, cap, m, n, D, Pl, rfl, hb, hl, hm, hmm, rfl, hi⟩
  · exact ⟨(), none, 0, 0, rfl, Nat.le_refl _, by omega⟩
  · exact ⟨(), _, len, cap, rfl, hl, by unfold maxLen at hm; omega⟩
theorem uopens_func : Opens enc Tryd.prog 30 UFuncC := by
  intro W fuel cs y h hlt hfit
  obtain ⟨x, hx⟩ := opens_func h hlt hfit
  have hcl := struct_len Tryd.underlying30 h
  rw [show Tryd.prog.cellsOf 30 = 2 by kernel_rfl] at hcl
  obtain ⟨_, a, n, c, e1, hle, hc8⟩ := opens_part Tryd.underlying30 h hlt hfit 1 rfl (o := 1) (k := 1) rfl (by kernel_rfl) rfl (uopens_cap Tryd.underlying28)
  match cs, hcl with
  | [c0, c1], _ =>
    simp only [List.drop_zero, List.drop_succ_cons, List.take_succ_cons, List.take_zero, List.cons.injEq, and_true] at e1
    subst e1
    exact ⟨x, hx, c0, a, n, c, rfl, hle, hc8⟩
set_option maxRecDepth 100000 in
theorem open_prog_capu {b0 : Nat} {W : World} {v : Value} {d : DataW H} {p : List MemPlace} (hv : Value.okWide Tryd.prog W .any b0 26 v) (h : DataW.Trod enc Tryd.prog W 0 (fun _ => true) true 26 v d p) (hlt : ∀ x ∈ p, x.block < W.heap.size)
    {ts : List TypeId} {ds : List (DataW H)} (hsz : (DataW.weightsEach Tryd.prog ts ds).all (· ≤ reachBytes) = true) {j : Nat} (hj : ts[j]? = some 26) (hd : ds[j]? = some d) :
    ∃ (s c f : Value) (P : ProgD), v = .agg #[s, c, f] ∧ ProgQ W [s, c, f] P ∧ RowV UFuncC 2 W f P.funcs := by
  obtain ⟨v0, v1, v2, y0, y1, y2, n, rfl, rfl, rfl, q0, q1, q2⟩ := open_agg3 Tryd.underlying26 (by kernel_rfl) (by kernel_rfl) hv h
  have hfit := Fits.of_each hsz hj hd
  obtain ⟨S, _, e0, r0⟩ := opens_row (enc := enc) Tryd.underlying22 (k := 2) (by kernel_rfl) (by decide) (of_decide_eq_true (by kernel_rfl)) opens_sig q0 (fun x hx => hlt x (by simp [hx])) (hfit.part Tryd.underlying26 (j := 0) rfl rfl)
  obtain ⟨C, _, e1, r1⟩ := opens_row (enc := enc) Tryd.underlying23 (k := 2) (by kernel_rfl) (by decide) (of_decide_eq_true (by kernel_rfl)) opens_class q1 (fun x hx => hlt x (by simp [hx])) (hfit.part Tryd.underlying26 (j := 1) rfl rfl)
  obtain ⟨F, _, e2, r2⟩ := opens_row (enc := enc) Tryd.underlying24 (k := 2) (by kernel_rfl) (by decide) (of_decide_eq_true (by kernel_rfl)) uopens_func q2 (fun x hx => hlt x (by simp [hx])) (hfit.part Tryd.underlying26 (j := 2) rfl rfl)
  cases e0; cases e1; cases e2
  exact ⟨_, _, _, ⟨S, C, F⟩, rfl, ⟨_, _, _, rfl, r0, r1, urow_sub (fun _ _ _ h => h.1) r2⟩, r2⟩
end
end Go.Proofs.YtdchhfdmingnaaaDoor
