/- Layer 4, P4.1: the document's Renamed, walked: a step of values by other names. -/
import Derived.Test.YtfnkmigcklmghaaDoorKindTo
import Derived.Deep.DeepCutAuto
namespace Go.Proofs.YtfnkmigcklmghaaDoor
open Go.RowKit (wrap64 intOf Below)
set_option linter.unusedVariables false

/-- Block g holds P, and may be written. -/
def Box (u : World) (g : Nat) (P : Array Value) : Prop := (∀ j, u.cell? ⟨g, j, none⟩ = P[j]?) ∧ (∀ j, u.frozen? ⟨g, j, none⟩ = false)
theorem Box.below {u u' : World} {g B : Nat} {P : Array Value} (h : Box u g P) (hb : Below B u u') (hg : g < B) : Box u' g P :=
  ⟨fun j => by rw [hb.cell (p := ⟨g, j, none⟩) hg]; exact h.1 j, fun j => by rw [hb.frozen (p := ⟨g, j, none⟩) hg]; exact h.2 j⟩
theorem Box.other {u : World} {g g' : Nat} {P : Array Value} (h : Box u g P) (hg : g' ≠ g) (j' : Nat) (v : Value) : Box (u.setCell ⟨g', j', none⟩ v) g P :=
  ⟨fun j => (World.cell?_setCell_other (w := u) (a := ⟨g', j', none⟩) (b := ⟨g, j, none⟩) (v := v) (by intro he; cases he; exact hg rfl)).trans (h.1 j), fun j => by rw [World.frozen?_setCell]; exact h.2 j⟩
theorem Box.set {u : World} {g : Nat} {P P' : Array Value} (h : Box u g P) (j : Nat) (v : Value) (hj : j < P.size) (hP : P' = P.setIfInBounds j v) : Box (u.setCell ⟨g, j, none⟩ v) g P' := by
  subst hP
  refine ⟨fun i => ?_, fun i => by rw [World.frozen?_setCell]; exact h.2 i⟩
  by_cases hij : i = j
  · subst hij
    exact (World.cell?_setCell_same (w := u) (a := ⟨g, i, none⟩) (v := v) (u := P[i]) (by rw [h.1 i]; exact Array.getElem?_eq_getElem hj)).trans (by rw [Array.getElem?_setIfInBounds_self_of_lt hj])
  · exact (World.cell?_setCell_other (w := u) (a := ⟨g, j, none⟩) (b := ⟨g, i, none⟩) (v := v) (by intro he; cases he; exact hij rfl)).trans (by rw [h.1 i, Array.getElem?_setIfInBounds_ne (Ne.symm hij)])
theorem Box.fill {u : World} {g : Nat} {a0 a1 a2 a3 a4 a5 a6 a7 v0 v1 v2 v3 v4 v5 v6 v7 : Value} (h : Box u g #[a0, a1, a2, a3, a4, a5, a6, a7]) :
    Box ((((((((u.setCell ⟨g, 0, none⟩ v0).setCell ⟨g, 1, none⟩ v1).setCell ⟨g, 2, none⟩ v2).setCell ⟨g, 3, none⟩ v3).setCell ⟨g, 4, none⟩ v4).setCell ⟨g, 5, none⟩ v5).setCell ⟨g, 6, none⟩ v6).setCell ⟨g, 7, none⟩ v7) g #[v0, v1, v2, v3, v4, v5, v6, v7] := by
  have h0 := h.set (P' := #[v0, a1, a2, a3, a4, a5, a6, a7]) 0 v0 (by simp) (by simp)
  have h1 := h0.set (P' := #[v0, v1, a2, a3, a4, a5, a6, a7]) 1 v1 (by simp) (by simp)
  have h2 := h1.set (P' := #[v0, v1, v2, a3, a4, a5, a6, a7]) 2 v2 (by simp) (by simp)
  have h3 := h2.set (P' := #[v0, v1, v2, v3, a4, a5, a6, a7]) 3 v3 (by simp) (by simp)
  have h4 := h3.set (P' := #[v0, v1, v2, v3, v4, a5, a6, a7]) 4 v4 (by simp) (by simp)
  have h5 := h4.set (P' := #[v0, v1, v2, v3, v4, v5, a6, a7]) 5 v5 (by simp) (by simp)
  have h6 := h5.set (P' := #[v0, v1, v2, v3, v4, v5, v6, a7]) 6 v6 (by simp) (by simp)
  have h7 := h6.set (P' := #[v0, v1, v2, v3, v4, v5, v6, v7]) 7 v7 (by simp) (by simp)
  exact h7
theorem Box.laid {w w2 : World} {C0 C1 : Array Value} {t0 t1 : TypeId} (hb : Below (w.heap.size + 2) ((w.alloc (.cells C0 t0)).alloc (.cells C1 t1)) w2) : Box w2 w.heap.size C0 ∧ Box w2 (w.heap.size + 1) C1 := by
  obtain ⟨h1, h2, h3, h4⟩ := cell_laid2 hb
  exact ⟨⟨h1, h3⟩, ⟨h2, h4⟩⟩
theorem fill_below {B : Nat} {w u : World} (h : Below B w u) (g : Nat) (hg : B ≤ g) (v0 v1 v2 v3 v4 v5 v6 v7 : Value) :
    Below B w ((((((((u.setCell ⟨g, 0, none⟩ v0).setCell ⟨g, 1, none⟩ v1).setCell ⟨g, 2, none⟩ v2).setCell ⟨g, 3, none⟩ v3).setCell ⟨g, 4, none⟩ v4).setCell ⟨g, 5, none⟩ v5).setCell ⟨g, 6, none⟩ v6).setCell ⟨g, 7, none⟩ v7) :=
  (((((((h.setCell hg _).setCell hg _).setCell hg _).setCell hg _).setCell hg _).setCell hg _).setCell hg _).setCell hg _
theorem fill_own {B : Nat} {e : TypeId} {v : Value} {Z : List Int} {u : World} (h : OwnsI u B e v Z) (g : Nat) (hg : g < B) (v0 v1 v2 v3 v4 v5 v6 v7 : Value) :
    OwnsI ((((((((u.setCell ⟨g, 0, none⟩ v0).setCell ⟨g, 1, none⟩ v1).setCell ⟨g, 2, none⟩ v2).setCell ⟨g, 3, none⟩ v3).setCell ⟨g, 4, none⟩ v4).setCell ⟨g, 5, none⟩ v5).setCell ⟨g, 6, none⟩ v6).setCell ⟨g, 7, none⟩ v7) B e v Z :=
  (((((((h.setCell _ _ hg).setCell _ _ hg).setCell _ _ hg).setCell _ _ hg).setCell _ _ hg).setCell _ _ hg).setCell _ _ hg).setCell _ _ hg
theorem fill_other {u : World} {g g' : Nat} {P : Array Value} (h : Box u g P) (hg : g' ≠ g) (v0 v1 v2 v3 v4 v5 v6 v7 : Value) :
    Box ((((((((u.setCell ⟨g', 0, none⟩ v0).setCell ⟨g', 1, none⟩ v1).setCell ⟨g', 2, none⟩ v2).setCell ⟨g', 3, none⟩ v3).setCell ⟨g', 4, none⟩ v4).setCell ⟨g', 5, none⟩ v5).setCell ⟨g', 6, none⟩ v6).setCell ⟨g', 7, none⟩ v7) g P :=
  (((((((h.other hg _ _).other hg _ _).other hg _ _).other hg _ _).other hg _ _).other hg _ _).other hg _ _).other hg _ _

/-- By other names, where it plays a part. -/
def rnI (M : List Int) (b : Bool) (x : Int) : Int := if b then toV M x else 0
def rnL (M : List Int) (b : Bool) (l : List Int) : List Int := if b then l.map (toV M) else []
/-- What stands in the two blocks on the way. -/
structure RenSt (w : World) (u : World) (P : Array Value) (va : Option Addr) (vn vc : Nat) (Z : List Int) : Prop where
  box : Box u w.heap.size P
  res : Box u (w.heap.size + 1) #[.int .i64 0, .int .i64 0, .int .i64 0, .int .i64 0, .int .i64 0, .string ⟨#[]⟩, .slice none 0 0, .bool false]
  own : OwnsI u (w.heap.size + 2) 3 (.slice va vn vc) Z
  bel : Below w.heap.size w u
  siz : w.heap.size + 2 ≤ u.heap.size

theorem RenSt.put {w u : World} {P P' : Array Value} {va : Option Addr} {vn vc : Nat} {Z : List Int} (h : RenSt w u P va vn vc Z) (j : Nat) (v : Value) (hj : j < P.size) (hP : P' = P.setIfInBounds j v) : RenSt w (u.setCell ⟨w.heap.size, j, none⟩ v) P' va vn vc Z :=
  ⟨h.box.set j v hj hP, h.res.other (by omega) _ _, h.own.setCell _ _ (by simp), h.bel.setCell (Nat.le_refl _) _, by simpa using h.siz⟩
theorem RenSt.step {w u u' : World} {P : Array Value} {va va' : Option Addr} {vn vc vn' vc' : Nat} {Z Z' : List Int} (h : RenSt w u P va vn vc Z) (hb : Below u.heap.size u u') (ho : OwnsI u' u.heap.size 3 (.slice va' vn' vc') Z') : RenSt w u' P va' vn' vc' Z' :=
  ⟨h.box.below hb (by have := h.siz; omega), h.res.below hb (by have := h.siz; omega), ho.mono h.siz, h.bel.trans (hb.mono (by have := h.siz; omega)), Nat.le_trans h.siz hb.size⟩
theorem rn_yes {M : List Int} {b : Bool} {A x : Int} (h : b = true) (hx : pickI b A = x) : rnI M b A = toV M x := by
  subst h; subst hx; rfl
theorem rn_no {M : List Int} {b : Bool} {A x : Int} (h : b = false) (hx : pickI b A = x) : rnI M b A = x := by
  subst h; subst hx; rfl

end Go.Proofs.YtfnkmigcklmghaaDoor
