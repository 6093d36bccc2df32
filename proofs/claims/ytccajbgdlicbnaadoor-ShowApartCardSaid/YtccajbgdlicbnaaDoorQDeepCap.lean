/- Layer 6: a program that came in by value, opened to its depth, and each function's row of blocks no longer than its cap. -/
import Derived.Test.YtccajbgdlicbnaaDoorQDeepOpen
import Derived.Test.YtccajbgdlicbnaaDoorQT8

namespace Go.Proofs.YtccajbgdlicbnaaDoor
open Go.ChangeShapes Go.WideShapes Go.ChangeAt Go.RowKit Go.Joins Go.Deep
set_option linter.unusedVariables false
set_option linter.unusedSimpArgs false

def FuncC (W : World) (cs : List Value) (x : FuncD) : Prop := FuncQ W cs x ∧ ∃ r a n c, cs = [r, .slice a n c] ∧ n ≤ c
theorem RowV.sub {α : Type} {Q R : World → List Value → α → Prop} (hR : ∀ W cs x, Q W cs x → R W cs x) {k : Nat} {W : World} {v : Value} {xs : List α} (h : RowV Q k W v xs) : RowV R k W v xs := by
  obtain ⟨a, n, c, e, h1, h2, h3, hr⟩ := h
  refine ⟨a, n, c, e, h1, h2, h3, fun h0 => ?_⟩
  obtain ⟨g, off, e1, hg, hcs⟩ := hr h0
  refine ⟨g, off, e1, hg, fun i hi => ?_⟩
  obtain ⟨cs, l, hc, hq⟩ := hcs i hi
  exact ⟨cs, l, hc, hR _ _ _ hq⟩
theorem caps_of {W : World} {v : Value} {xs : List FuncD} (h : RowV FuncC 2 W v xs) : CapsF W v := by
  intro g oo n c e i hi ba bn bc hcell
  obtain ⟨a, n', c', rfl, hl, _, _, hrow⟩ := h
  cases e
  obtain ⟨g', off', e', hg, hcs⟩ := hrow (by omega)
  cases e'
  obtain ⟨cs, h2, hc, _, r, a, m, q, rfl, hm⟩ := hcs i (by omega)
  have h1 := hc 1 (by simp)
  rw [hcell] at h1
  simp only [List.getElem_cons_succ, List.getElem_cons_zero, Option.some.injEq, Value.slice.injEq] at h1
  omega
section
variable {H : Type} {enc : TypeId × Value → H}
theorem opens_cap {P : Program} {t e : TypeId} (ht : P.underlying t = some (.slice e)) : Opens enc P t (fun W cs (x : Unit) => ∃ a n c, cs = [.slice a n c] ∧ n ≤ c) := by
  intro W fuel cs y h hlt hfit
  rcases open_slice ht h with ⟨rfl, rfl⟩ | ⟨a, len, cap, m, n, D, Pl, rfl, hb, hl, hm, hmm, rfl, hi⟩
  · exact ⟨(), none, 0, 0, rfl, Nat.le_refl _⟩
  · exact ⟨(), _, len, cap, rfl, hl⟩
theorem opens_func_cap : Opens enc Tryd.prog 34 FuncC := by
  intro W fuel cs y h hlt hfit
  obtain ⟨x, hx⟩ := opens_func h hlt hfit
  have hcl := struct_len Tryd.underlying34 h
  rw [show Tryd.prog.cellsOf 34 = 2 by kernel_rfl] at hcl
  obtain ⟨_, a, n, c, e1, hle⟩ := opens_part Tryd.underlying34 h hlt hfit 1 rfl (o := 1) (k := 1) rfl (by kernel_rfl) rfl (opens_cap Tryd.underlying32)
  match cs, hcl with
  | [c0, c1], _ =>
    simp only [List.drop_zero, List.drop_succ_cons, List.take_succ_cons, List.take_zero, List.cons.injEq, and_true] at e1
    subst e1
    exact ⟨x, hx, c0, a, n, c, rfl, hle⟩
set_option maxRecDepth 100000 in
/-- A program that came in by value. -/
theorem open_prog_cap {b0 : Nat} {W : World} {v : Value} {d : DataW H} {p : List MemPlace} (hv : Value.okWide Tryd.prog W .any b0 26 v) (h : DataW.Trod enc Tryd.prog W 0 (fun _ => true) true 26 v d p) (hlt : ∀ x ∈ p, x.block < W.heap.size)
    {ts : List TypeId} {ds : List (DataW H)} (hsz : (DataW.weightsEach Tryd.prog ts ds).all (· ≤ reachBytes) = true) {j : Nat} (hj : ts[j]? = some 26) (hd : ds[j]? = some d) :
    ∃ (s c f : Value) (P : ProgD), v = .agg #[s, c, f] ∧ ProgQ W [s, c, f] P ∧ CapsF W f := by
  obtain ⟨v0, v1, v2, y0, y1, y2, n, rfl, rfl, rfl, q0, q1, q2⟩ := open_agg3 Tryd.underlying26 (by kernel_rfl) (by kernel_rfl) hv h
  have hfit := Fits.of_each hsz hj hd
  obtain ⟨S, _, e0, r0⟩ := opens_row (enc := enc) Tryd.underlying22 (k := 2) (by kernel_rfl) (by decide) (of_decide_eq_true (by kernel_rfl)) opens_sig q0 (fun x hx => hlt x (by simp [hx])) (hfit.part Tryd.underlying26 (j := 0) rfl rfl)
  obtain ⟨C, _, e1, r1⟩ := opens_row (enc := enc) Tryd.underlying23 (k := 2) (by kernel_rfl) (by decide) (of_decide_eq_true (by kernel_rfl)) opens_class q1 (fun x hx => hlt x (by simp [hx])) (hfit.part Tryd.underlying26 (j := 1) rfl rfl)
  obtain ⟨F, _, e2, r2⟩ := opens_row (enc := enc) Tryd.underlying24 (k := 2) (by kernel_rfl) (by decide) (of_decide_eq_true (by kernel_rfl)) opens_func_cap q2 (fun x hx => hlt x (by simp [hx])) (hfit.part Tryd.underlying26 (j := 2) rfl rfl)
  cases e0; cases e1; cases e2
  exact ⟨_, _, _, ⟨S, C, F⟩, rfl, ⟨_, _, _, rfl, r0, r1, r2.sub fun _ _ _ h => h.1⟩, caps_of r2⟩
end
end Go.Proofs.YtccajbgdlicbnaaDoor
