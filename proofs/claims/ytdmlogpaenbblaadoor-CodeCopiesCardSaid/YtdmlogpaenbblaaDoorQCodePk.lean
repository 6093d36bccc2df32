/- Layer 5: a store of a number into the end of a block of a program of the call's own: what is read then is a program still, whose first block's end is that. -/
import Derived.Test.YtdmlogpaenbblaaDoorQT0
import Derived.Laws.OwnMore
namespace Go.Proofs.YtdmlogpaenbblaaDoor
open Go.RowKit (wrap64 intOf Below)
set_option linter.unusedVariables false

section
variable {w : World} {g : Nat} {cur : Array Value}
/-- A row of another type is not in block g. -/
theorem ownsRow_other {T base e k n : Nat} {v : Value} {xs : List Value} (hg : w.heap[g]? = some (.cells cur T (0, 0))) (hne : e ≠ T) (u : Value) (o : Nat) (h : w.ownsRow base e k v n xs) : (w.setCell ⟨g, o, Option.none⟩ u).ownsRow base e k v n xs := by
  refine ⟨h.1, ?_⟩
  rcases h.2 with hn | ⟨g', cap, cur', rfl, hg', hh, rest⟩
  · exact .inl hn
  · refine .inr ⟨g', cap, cur', rfl, hg', ?_, rest⟩
    rw [Below.heap_setCell _ _ _ _ (fun he => by
      simp only at he
      subst he
      rw [hh] at hg
      cases hg
      exact hne rfl)]
    exact hh
theorem NumsO.other {T : Nat} {S : Nat → Prop} {v : Value} {Z : List Int} (hg : w.heap[g]? = some (.cells cur T (0, 0))) (hne : 3 ≠ T) (u : Value) (o : Nat) (h : NumsO w S v Z) : NumsO (w.setCell ⟨g, o, Option.none⟩ u) S v Z :=
  ⟨ownsRow_other hg hne u o h.1, h.2⟩
theorem RowO.other {α : Type} {T e k : Nat} {Q : World → (Nat → Prop) → List Value → α → Prop} {S : Nat → Prop} {v : Value} {xs : List α} (hg : w.heap[g]? = some (.cells cur T (0, 0))) (hne : e ≠ T) (u : Value) (o : Nat)
    (hQ : ∀ S cs x, Q w S cs x → Q (w.setCell ⟨g, o, Option.none⟩ u) S cs x) (h : RowO e k Q w S v xs) : RowO e k Q (w.setCell ⟨g, o, Option.none⟩ u) S v xs := by
  obtain ⟨css, h1, h2, h3, h4, h5, h6⟩ := h
  exact ⟨css, ownsRow_other hg hne u o h1, h2, h3, h4, h5, fun i hi hi' => hQ _ _ _ (h6 i hi hi')⟩
theorem OpO.other {T : Nat} {S : Nat → Prop} {cs : List Value} {x : OpD} (hg : w.heap[g]? = some (.cells cur T (0, 0))) (hne : 3 ≠ T) (u : Value) (o : Nat) (h : OpO w S cs x) : OpO (w.setCell ⟨g, o, Option.none⟩ u) S cs x := by
  obtain ⟨l, e, h1, h2, h3, h4, h5, h6, h⟩ := h
  exact ⟨l, e, h1, h2, h3, h4, h5, h6, h.other hg hne u o⟩
theorem EndO.other {T : Nat} {S : Nat → Prop} {cs : List Value} {x : EndD} (hg : w.heap[g]? = some (.cells cur T (0, 0))) (hne : 3 ≠ T) (u : Value) (o : Nat) (h : EndO w S cs x) : EndO (w.setCell ⟨g, o, Option.none⟩ u) S cs x := by
  obtain ⟨l, m, e, h1, h2, h3, h4, h, h'⟩ := h
  exact ⟨l, m, e, h1, h2, h3, h4, h.other hg hne u o, h'.other hg hne u o⟩
theorem BlockO.other {T : Nat} {S : Nat → Prop} {cs : List Value} {x : BlockD} (hg : w.heap[g]? = some (.cells cur T (0, 0))) (hne : 3 ≠ T) (hne' : 56 ≠ T) (u : Value) (o : Nat) (h : BlockO w S cs x) : BlockO (w.setCell ⟨g, o, Option.none⟩ u) S cs x := by
  obtain ⟨p, q, es, e, h1, h2, h3⟩ := h
  exact ⟨p, q, es, e, h1.other hg hne u o, h2.other hg hne' u o (fun _ _ _ h => h.other hg hne u o), h3.other hg hne u o⟩
/-- A block whose end's kind is written over. -/
def kinded (x : BlockD) (z : Int) : BlockD := { x with fin := { x.fin with K := z } }
theorem BlockO.poked {T : Nat} {S : Nat → Prop} {cs : List Value} {x : BlockD} (hg : w.heap[g]? = some (.cells cur T (0, 0))) (hne : 3 ≠ T) (hne' : 56 ≠ T) (z : Int) (hz : InR z) (o : Nat) (h : BlockO w S cs x) : BlockO (w.setCell ⟨g, o, Option.none⟩ (.int .i64 z)) S (cs.set 2 (.int .i64 z)) (kinded x z) := by
  obtain ⟨p, q, es, rfl, h1, h2, h3⟩ := h
  obtain ⟨l, m, rfl, k1, k2, k3, k4, k5, k6⟩ := h3
  exact ⟨p, q, _, rfl, h1.other hg hne _ o, h2.other hg hne' _ o (fun _ _ _ h => h.other hg hne _ o), l, m, rfl, hz, k2, k3, k4, k5.other hg hne _ o, k6.other hg hne _ o⟩
theorem set_flat {α : Type} {k j : Nat} (c : List α) (css : List (List α)) (u : α) (hc : c.length = k) (hj : j < k) : (c :: css).flatten.set j u = (c.set j u :: css).flatten := by
  simp only [List.flatten_cons]
  rw [List.set_append_left _ _ (by omega)]
/-- The rows of blocks, that in block g among them. -/
theorem RowO.poked {T : Nat} {S : Nat → Prop} {v : Value} {xs : List BlockD} (hT : 50 = T) (hg : w.heap[g]? = some (.cells cur T (0, 0))) (z : Int) (hz : InR z)
    (h : RowO 50 8 BlockO w S v xs) : ∃ xs', RowO 50 8 BlockO (w.setCell ⟨g, 2, Option.none⟩ (.int .i64 z)) S v xs' ∧ xs'.length = xs.length ∧ (v.ownBlock = some g → ∀ b bs, xs' = b :: bs → b.fin.K = z) := by
  subst hT
  have hne : 3 ≠ 50 := by decide
  have hne' : 56 ≠ 50 := by decide
  obtain ⟨css, h1, h2, h3, h4, h5, h6⟩ := h
  by_cases hv : v.ownBlock = some g
  · match xs, css, h2 with
    | [], [], _ =>
      refine ⟨[], ⟨[], ?_, rfl, h3, h4, h5, fun i hi => absurd hi (by simp)⟩, rfl, fun _ b bs h => by cases h⟩
      refine ⟨h1.1, ?_⟩
      rcases h1.2 with hn | ⟨g', cap, cur', rfl, hg', hh, hcap, hm, hs, htk⟩
      · exact .inl hn
      · simp only [Value.ownBlock, Option.some.injEq] at hv
        subst hv
        have hst := World.ownsRow.stored (w := w) (base := 0) (e := 50) (size := 8) (g := g') (n := 0) (cap := cap) (xs := []) ⟨rfl, .inr ⟨g', cap, cur', rfl, hg', hh, hcap, hm, hs, htk⟩⟩ 2 (.int .i64 z)
        exact hst.1.2
    | x :: xs, c :: css, h2 =>
      refine ⟨kinded x z :: xs, ⟨c.set 2 (.int .i64 z) :: css, ?_, by simpa using h2, fun cs hcs => ?_, h4, h5, fun i hi hi' => ?_⟩, rfl, fun _ b bs h => by cases h; rfl⟩
      · have hc8 := h3 c (by simp)
        rcases h1.2 with ⟨rfl, _⟩ | ⟨g', cap, cur', rfl, hg', hh, hcap, hm, hs, htk⟩
        · simp [Value.ownBlock] at hv
        · simp only [Value.ownBlock, Option.some.injEq] at hv
          subst hv
          have hst := World.ownsRow.stored (w := w) (base := 0) (e := 50) (size := 8) (g := g') (n := (x :: xs).length) (cap := cap) (xs := (c :: css).flatten) h1 2 (.int .i64 z)
          rw [set_flat c css _ hc8 (by decide)] at hst
          have hst := hst.1
          exact hst
      · rcases List.mem_cons.1 hcs with rfl | hcs
        · rw [List.length_set]; exact h3 c (by simp)
        · exact h3 cs (by simp [hcs])
      · cases i with
        | zero => exact (h6 0 (by simp) (by simp)).poked hg hne hne' z hz 2
        | succ i => exact (h6 (i + 1) (by simpa using hi) (by simpa using hi')).other hg hne hne' _ 2
  · refine ⟨xs, ⟨css, ?_, h2, h3, h4, h5, fun i hi hi' => (h6 i hi hi').other hg hne hne' _ 2⟩, rfl, fun hh => absurd hh hv⟩
    exact ownsRow_heap h1 (fun b hb hlt => Below.heap_setCell _ _ _ _ (fun he => hv (by simp only at he; rw [← he]; exact hb)))
theorem FuncO.poked {T : Nat} {S : Nat → Prop} {cs : List Value} {x : FuncD} (hT : 50 = T) (hg : w.heap[g]? = some (.cells cur T (0, 0))) (z : Int) (hz : InR z)
    (h : FuncO w S cs x) : ∃ x', FuncO (w.setCell ⟨g, 2, Option.none⟩ (.int .i64 z)) S cs x' ∧ (∀ r v, cs = [r, v] → v.ownBlock = some g → ∀ b bs, x'.blocks = b :: bs → b.fin.K = z) := by
  obtain ⟨b, rfl, h1, h2⟩ := h
  obtain ⟨xs', h3, _, h4⟩ := h2.poked hT hg z hz
  exact ⟨⟨x.ret, xs'⟩, ⟨b, rfl, h1, h3⟩, fun r v e hv => by simp only [List.cons.injEq, and_true] at e; obtain ⟨_, rfl⟩ := e; exact h4 hv⟩
theorem choose_list {α β : Type} {R : Nat → α → β → Prop} : ∀ (xs : List α), (∀ i (h : i < xs.length), ∃ y, R i xs[i] y) → ∃ ys : List β, ys.length = xs.length ∧ ∀ i (h : i < xs.length) (h' : i < ys.length), R i xs[i] ys[i] := by
  intro xs h
  refine ⟨List.ofFn (fun i : Fin xs.length => Classical.choose (h i.1 i.2)), by simp, fun i h1 h2 => ?_⟩
  simp only [List.getElem_ofFn]
  exact Classical.choose_spec (h i h1)
/-- A program of the call's own, the first block of its first function poked at: it is one still, and that is to be seen. -/
theorem ProgO.poked {S : Nat → Prop} {s c f : Value} {P : ProgD} (hg : w.heap[g]? = some (.cells cur 50 (0, 0))) (z : Int) (hz : InR z)
    (h : ProgO w S [s, c, f] P) {fg fo : Nat} {fn fc : Nat} {r v : Value} (hf : f = .slice (some ⟨fg, fo, Option.none⟩) fn fc) (h0 : w.cell? ⟨fg, fo, Option.none⟩ = some r) (h1 : w.cell? ⟨fg, fo + 1, Option.none⟩ = some v) (hv : v.ownBlock = some g) :
    ∃ P', ProgO (w.setCell ⟨g, 2, Option.none⟩ (.int .i64 z)) S [s, c, f] P' ∧ ∀ F Fs b bs, P'.funcs = F :: Fs → F.blocks = b :: bs → b.fin.K = z := by
  obtain ⟨s', c', f', he, hS, hC, css, k1, k2, k3, k4, k5, k6⟩ := h
  simp only [List.cons.injEq, and_true] at he
  obtain ⟨rfl, rfl, rfl⟩ := he
  have hne : 3 ≠ 50 := by decide
  obtain ⟨ys, hl, hy⟩ := choose_list (R := fun i x y => ∀ (h' : i < css.length), FuncO (w.setCell ⟨g, 2, Option.none⟩ (.int .i64 z)) (fun b => S b ∧ f.ownBlock ≠ some b) css[i] y ∧ (∀ r v, css[i] = [r, v] → v.ownBlock = some g → ∀ b bs, y.blocks = b :: bs → b.fin.K = z)) P.funcs (fun i hi => by
    obtain ⟨x', hx, hx'⟩ := (k6 i hi (by omega)).poked rfl hg z hz
    exact ⟨x', fun h' => ⟨hx, hx'⟩⟩)
  refine ⟨⟨P.sigs, P.classes, ys⟩, ⟨s, c, f, rfl, hS.other hg (by decide) _ 2 (fun S cs x ⟨p, e, h1, h2⟩ => ⟨p, e, h1.other hg hne _ 2, h2⟩), hC.other hg (by decide) _ 2 (fun S cs x ⟨p, q, e, h1, h2⟩ => ⟨p, q, e, h1.other hg hne _ 2, h2.other hg hne _ 2⟩), css, ?_, by rw [k2, hl], k3, k4, by rw [hl]; exact k5, fun i hi hi' => (hy i (by rw [← hl]; exact hi) hi hi').1⟩, fun F Fs b bs hF hb => ?_⟩
  · have := ownsRow_other hg (by decide) (.int .i64 z) 2 k1
    simpa only [hl] using this
  · subst hf
    simp only at hF
    subst hF
    have hc : 0 < css.length := by rw [k2, ← hl]; simp
    have hw := ownsRow_win k1 k3 (g := fg) rfl hc
    have hfo : fo = 0 := by
      rcases k1.2 with ⟨h, _⟩ | ⟨g', cap, cur', h, _⟩
      · cases h
      · simp only [Value.slice.injEq, Option.some.injEq, Addr.mk.injEq] at h
        exact h.1.2.1
    subst hfo
    have hlen := k3 css[0] (List.getElem_mem hc)
    have e0 := hw.cell (j := 0) (by omega)
    have e1 := hw.cell (j := 1) (by omega)
    simp only [Nat.zero_mul, Nat.zero_add] at e0 e1 h1
    rw [h0] at e0
    rw [h1] at e1
    refine (hy 0 (by rw [← hl]; simp) (by simp) hc).2 r v ?_ hv b bs hb
    apply List.ext_getElem
    · rw [hlen]; rfl
    · intro i h1 h2
      match i with
      | 0 => simpa using (Option.some.inj e0).symm
      | 1 => simpa using (Option.some.inj e1).symm
      | i + 2 => exact absurd h2 (by simp)
end
end Go.Proofs.YtdmlogpaenbblaaDoor
