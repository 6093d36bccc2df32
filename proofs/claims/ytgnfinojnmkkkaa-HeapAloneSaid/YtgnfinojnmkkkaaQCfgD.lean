/- Layer 7: the blocks as a walk leaves them, one by one: the contract of the iterator. -/
import Derived.Test.YtgnfinojnmkkkaaQT0

namespace Go.Proofs.Ytgnfinojnmkkkaa
open Go.RowKit
set_option linter.unusedVariables false
set_option linter.unusedSimpArgs false
attribute [local go_sem] Oper.semAt_some

/-- Where the ends of a function's blocks lie. -/
def EndsAt (W : World) (g off n : Nat) (f : FuncD) : Prop := n = f.blocks.length ∧ g < W.heap.size ∧ ∀ k, k < n → ∃ la ln lc ma mn mc,
  W.cell? ⟨g, off + k * 8 + 2, none⟩ = some (.int .i64 (theEnd f k).K) ∧ W.cell? ⟨g, off + k * 8 + 3, none⟩ = some (.int .i64 (theEnd f k).A) ∧ W.cell? ⟨g, off + k * 8 + 4, none⟩ = some (.int .i64 (theEnd f k).To) ∧ W.cell? ⟨g, off + k * 8 + 5, none⟩ = some (.int .i64 (theEnd f k).Else) ∧
  W.cell? ⟨g, off + k * 8 + 6, none⟩ = some (.slice la ln lc) ∧ W.cell? ⟨g, off + k * 8 + 7, none⟩ = some (.slice ma mn mc)
theorem theEnd_at {f : FuncD} {k : Nat} (hk : k < f.blocks.length) : theEnd f k = f.blocks[k].fin := by
  unfold theEnd
  rw [List.getElem?_eq_getElem hk]
theorem RowV.ends {W : World} {a : Option Addr} {n c : Nat} {f : FuncD} (h : RowV BlockQ 8 W (.slice a n c) f.blocks) (hn : 0 < n) : ∃ g off, a = some ⟨g, off, none⟩ ∧ EndsAt W g off n f := by
  obtain ⟨a', n', c', e, hl, _, _, hrow⟩ := h
  cases e
  obtain ⟨g, off, rfl, hg, hcs⟩ := hrow hn
  refine ⟨g, off, rfl, hl.symm, hg, fun k hk => ?_⟩
  obtain ⟨cs, h8, hc, p, o, es, rfl, _, _, l, m, rfl, _, _, _, _, hL, hM⟩ := hcs k (by omega)
  obtain ⟨la, ln, lc, rfl, _⟩ := hL
  obtain ⟨ma, mn, mc, rfl, _⟩ := hM
  rw [theEnd_at (by omega)]
  exact ⟨la, ln, lc, ma, mn, mc, hc 2 (by simp), hc 3 (by simp), hc 4 (by simp), hc 5 (by simp), hc 6 (by simp), hc 7 (by simp)⟩
theorem EndsAt.block {W W' : World} {g off n : Nat} {f : FuncD} (h : EndsAt W g off n f) (hb : W'.heap[g]? = W.heap[g]?) (hg : g < W'.heap.size) : EndsAt W' g off n f := by
  obtain ⟨h1, h2, h3⟩ := h
  refine ⟨h1, hg, fun k hk => ?_⟩
  obtain ⟨la, ln, lc, ma, mn, mc, c2, c3, c4, c5, c6, c7⟩ := h3 k hk
  have e : ∀ j, W'.cell? ⟨g, j, none⟩ = W.cell? ⟨g, j, none⟩ := fun j => World.cell?_of_block hb
  exact ⟨la, ln, lc, ma, mn, mc, (e _).trans c2, (e _).trans c3, (e _).trans c4, (e _).trans c5, (e _).trans c6, (e _).trans c7⟩
abbrev encI (x : Int) : Array Value := #[.int .i64 x]

theorem Runs.prefix {N : Nat} {to_ : Nat → List Int} {way met left F : List Int} (h : Runs N to_ way met left F) : left <+: F := by
  induction h with
  | done met F => exact List.prefix_refl _
  | push _ _ ih => exact ih
  | pop _ _ ih => exact (List.prefix_append _ _).trans ih
theorem Runs.total {N : Nat} {to_ : Nat → List Int} {way met left F : List Int} (h : Runs N to_ way met left F) : left.length + way.length ≤ F.length := by
  induction h with
  | done met F => simp
  | push _ _ ih => simp only [List.length_cons] at ih ⊢; omega
  | pop _ _ ih => simp only [List.length_append, List.length_cons, List.length_nil] at ih ⊢; omega
theorem Lies.alloc {B : Nat} {t : TypeId} {W : World} (h : Lies B t W) (o : Obj) : Lies B t (W.alloc o) := (Owns.step (World.grownBy_alloc W o none) h (fun r e => by cases e)).2
theorem free_alloc {B : Nat} {t : TypeId} {W : World} (h : Lies B t W) (o : Obj) {i : Nat} (hi : ¬ Owns B t W i) : ¬ Owns B t (W.alloc o) i := fun e => hi (((Owns.step (World.grownBy_alloc W o none) h (fun r e => by cases e)).1 i).1 e)
theorem first_of {N : Nat} {met l p r : List Int} {z : Int} (hl : l = p ++ z :: r) (hp : ∀ x ∈ p, ¬ (There N x ∧ x ∉ met)) (hz : There N z) (hm : z ∉ met) : firstUn N met l = some z := by
  unfold firstUn
  rw [hl, List.find?_append, List.find?_eq_none.2, Option.none_or, List.find?_cons_of_pos]
  · simp [hz, hm]
  · intro x hx
    have := hp x hx
    simpa using this
theorem first_none {N : Nat} {met l : List Int} (hp : ∀ x ∈ l, ¬ (There N x ∧ x ∉ met)) : firstUn N met l = none := by
  unfold firstUn
  rw [List.find?_eq_none]
  intro x hx
  simpa using hp x hx
end Go.Proofs.Ytgnfinojnmkkkaa
