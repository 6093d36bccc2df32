/- Layer 4: small laws that all its walks use: nothing of the program is named here. -/
import Derived.Test.YtnapechlgjcpbaaDoorQKindPlainL
import Derived.Test.YtnapechlgjcpbaaDoorQT0
import Derived.Test.YtnapechlgjcpbaaDoorQT1
import Derived.Deep.DeepCutAuto
import Derived.Lib.OthersKept
import Derived.Lib.AppendIntMem
import Derived.BigCall
import Derived.Outline
import Derived.Lib.Join
namespace Go.Proofs.YtnapechlgjcpbaaDoor
open Go.RowKit (wrap64 intOf Below)
set_option linter.unusedVariables false

theorem keepN {B : Nat} {w u u' : World} (h1 : Below B w u) (hB : B ≤ w.heap.size) (h2 : Below u.heap.size u u') : Below B w u' := h1.trans (h2.mono (Nat.le_trans hB h1.size))
theorem OwnsI.nilcap {w : World} {B : Nat} {e : TypeId} {a : Option Addr} {n c : Nat} {Z : List Int} (h : OwnsI w B e (.slice a n c) Z) : a = none → c = 0 := by
  intro ha
  subst ha
  rcases h.2 with ⟨he, _⟩ | ⟨g, cap, cur, he, _⟩
  · cases he; rfl
  · cases he

/-- Two blocks that were just laid, and what has grown since. -/
theorem cell_laid2 {w w2 : World} {C0 C1 : Array Value} {t0 t1 : TypeId} (hb : Below (w.heap.size + 2) ((w.alloc (.cells C0 t0)).alloc (.cells C1 t1)) w2) :
    (∀ j, w2.cell? ⟨w.heap.size, j, none⟩ = C0[j]?) ∧ (∀ j, w2.cell? ⟨w.heap.size + 1, j, none⟩ = C1[j]?) ∧ (∀ j, w2.frozen? ⟨w.heap.size, j, none⟩ = false) ∧ (∀ j, w2.frozen? ⟨w.heap.size + 1, j, none⟩ = false) := by
  refine ⟨fun j => ?_, fun j => ?_, fun j => ?_, fun j => ?_⟩
  · rw [hb.cell (p := ⟨w.heap.size, j, none⟩) (by simp), World.cell?_alloc_lt _ _ _ (by simp), World.cell?_alloc_mark]
  · have h1 : w.heap.size + 1 = (w.alloc (.cells C0 t0)).heap.size := by simp
    rw [hb.cell (p := ⟨w.heap.size + 1, j, none⟩) (by simp), h1, World.cell?_alloc_mark]
  · rw [hb.frozen (p := ⟨w.heap.size, j, none⟩) (by simp), RowKit.frozen?_alloc_cells, World.frozen?_alloc_at _ _ _ _ rfl]
  · rw [hb.frozen (p := ⟨w.heap.size + 1, j, none⟩) (by simp), World.frozen?_alloc_at _ _ _ _ (by simp)]

end Go.Proofs.YtnapechlgjcpbaaDoor

/- Layer 4, P4.1: the document's To and All, walked: numbers by other names. -/
namespace Go.Proofs.YtnapechlgjcpbaaDoor
open Go.RowKit (wrap64 intOf Below)
set_option linter.unusedVariables false

/-- A number's name. -/
def toV (M : List Int) (n : Int) : Int := if 0 ≤ n ∧ n < M.length then M.getD n.toNat 0 else n
theorem toV_in {M : List Int} {k : Nat} (h : k < M.length) : toV M (k : Int) = M[k] := by
  unfold toV
  rw [if_pos ⟨by omega, by omega⟩, List.getD_eq_getElem?_getD, Int.toNat_natCast, List.getElem?_eq_getElem h]; rfl
theorem toV_out {M : List Int} {n : Int} (h : n < 0 ∨ (M.length : Int) ≤ n) : toV M n = n := by
  unfold toV
  rw [if_neg (by omega)]
def AllPost (Z : List Int) (w : World) (e : Ending) (w' : World) : Prop := ∃ va vn vc, e = .returned (.slice va vn vc) ∧ OwnsI w' w.heap.size 3 (.slice va vn vc) Z ∧ Below w.heap.size w w'
end Go.Proofs.YtnapechlgjcpbaaDoor

/- Layer 4, P4.1: the document's Renamed, walked: a step of values by other names. -/
namespace Go.Proofs.YtnapechlgjcpbaaDoor
open Go.RowKit (wrap64 intOf Below)
set_option linter.unusedVariables false

/-- Block g holds P, and may be written. -/
def Box (u : World) (g : Nat) (P : Array Value) : Prop := (∀ j, u.cell? ⟨g, j, none⟩ = P[j]?) ∧ (∀ j, u.frozen? ⟨g, j, none⟩ = false)
theorem Box.below {u u' : World} {g B : Nat} {P : Array Value} (h : Box u g P) (hb : Below B u u') (hg : g < B) : Box u' g P :=
  ⟨fun j => by rw [hb.cell (p := ⟨g, j, none⟩) hg]; exact h.1 j, fun j => by rw [hb.frozen (p := ⟨g, j, none⟩) hg]; exact h.2 j⟩
theorem Box.other {u : World} {g g' : Nat} {P : Array Value} (h : Box u g P) (hg : g' ≠ g) (j' : Nat) (v : Value) : Box (u.setCell ⟨g', j', none⟩ v) g P :=
  ⟨fun j => (World.cell?_setCell_other (w := u) (a := ⟨g', j', none⟩) (b := ⟨g, j, none⟩) (v := v) (by intro he; cases he; exact hg rfl)).trans (h.1 j), fun j => by rw [World.frozen?_setCell]; exact h.2 j⟩
theorem Box.set {u : World} {g : Nat} {P P' : Array Value} (h : Box u g P) (j : Nat) (v : Value) (hj : j < P.size) (hP : P' = P.setIfInBounds j v) : Box (u.setCell ⟨g, j, none⟩ v) g P' := by
  subst hP
  refine ⟨fun i => ?_, fun i => by rw [World.frozen?_setCell]; exact h.2 i⟩
  by_cases hij : i = j
  · subst hij
    exact (World.cell?_setCell_same (w := u) (a := ⟨g, i, none⟩) (v := v) (u := P[i]) (by rw [h.1 i]; exact Array.getElem?_eq_getElem hj)).trans (by rw [Array.getElem?_setIfInBounds_self_of_lt hj])
  · exact (World.cell?_setCell_other (w := u) (a := ⟨g, j, none⟩) (b := ⟨g, i, none⟩) (v := v) (by intro he; cases he; exact hij rfl)).trans (by rw [h.1 i, Array.getElem?_setIfInBounds_ne (Ne.symm hij)])
theorem Box.fill {u : World} {g : Nat} {a0 a1 a2 a3 a4 a5 a6 a7 v0 v1 v2 v3 v4 v5 v6 v7 : Value} (h : Box u g #[a0, a1, a2, a3, a4, a5, a6, a7]) :
    Box ((((((((u.setCell ⟨g, 0, none⟩ v0).setCell ⟨g, 1, none⟩ v1).setCell ⟨g, 2, none⟩ v2).setCell ⟨g, 3, none⟩ v3).setCell ⟨g, 4, none⟩ v4).setCell ⟨g, 5, none⟩ v5).setCell ⟨g, 6, none⟩ v6).setCell ⟨g, 7, none⟩ v7) g #[v0, v1, v2, v3, v4, v5, v6, v7] := by
  have h0 := h.set (P' := #[v0, a1, a2, a3, a4, a5, a6, a7]) 0 v0 (by simp) (by simp)
  have h1 := h0.set (P' := #[v0, v1, a2, a3, a4, a5, a6, a7]) 1 v1 (by simp) (by simp)
  have h2 := h1.set (P' := #[v0, v1, v2, a3, a4, a5, a6, a7]) 2 v2 (by simp) (by simp)
  have h3 := h2.set (P' := #[v0, v1, v2, v3, a4, a5, a6, a7]) 3 v3 (by simp) (by simp)
  have h4 := h3.set (P' := #[v0, v1, v2, v3, v4, a5, a6, a7]) 4 v4 (by simp) (by simp)
  have h5 := h4.set (P' := #[v0, v1, v2, v3, v4, v5, a6, a7]) 5 v5 (by simp) (by simp)
  have h6 := h5.set (P' := #[v0, v1, v2, v3, v4, v5, v6, a7]) 6 v6 (by simp) (by simp)
  have h7 := h6.set (P' := #[v0, v1, v2, v3, v4, v5, v6, v7]) 7 v7 (by simp) (by simp)
  exact h7
theorem Box.laid {w w2 : World} {C0 C1 : Array Value} {t0 t1 : TypeId} (hb : Below (w.heap.size + 2) ((w.alloc (.cells C0 t0)).alloc (.cells C1 t1)) w2) : Box w2 w.heap.size C0 ∧ Box w2 (w.heap.size + 1) C1 := by
  obtain ⟨h1, h2, h3, h4⟩ := cell_laid2 hb
  exact ⟨⟨h1, h3⟩, ⟨h2, h4⟩⟩
theorem fill_below {B : Nat} {w u : World} (h : Below B w u) (g : Nat) (hg : B ≤ g) (v0 v1 v2 v3 v4 v5 v6 v7 : Value) :
    Below B w ((((((((u.setCell ⟨g, 0, none⟩ v0).setCell ⟨g, 1, none⟩ v1).setCell ⟨g, 2, none⟩ v2).setCell ⟨g, 3, none⟩ v3).setCell ⟨g, 4, none⟩ v4).setCell ⟨g, 5, none⟩ v5).setCell ⟨g, 6, none⟩ v6).setCell ⟨g, 7, none⟩ v7) :=
  (((((((h.setCell hg _).setCell hg _).setCell hg _).setCell hg _).setCell hg _).setCell hg _).setCell hg _).setCell hg _
theorem fill_own {B : Nat} {e : TypeId} {v : Value} {Z : List Int} {u : World} (h : OwnsI u B e v Z) (g : Nat) (hg : g < B) (v0 v1 v2 v3 v4 v5 v6 v7 : Value) :
    OwnsI ((((((((u.setCell ⟨g, 0, none⟩ v0).setCell ⟨g, 1, none⟩ v1).setCell ⟨g, 2, none⟩ v2).setCell ⟨g, 3, none⟩ v3).setCell ⟨g, 4, none⟩ v4).setCell ⟨g, 5, none⟩ v5).setCell ⟨g, 6, none⟩ v6).setCell ⟨g, 7, none⟩ v7) B e v Z :=
  (((((((h.setCell _ _ hg).setCell _ _ hg).setCell _ _ hg).setCell _ _ hg).setCell _ _ hg).setCell _ _ hg).setCell _ _ hg).setCell _ _ hg
theorem fill_other {u : World} {g g' : Nat} {P : Array Value} (h : Box u g P) (hg : g' ≠ g) (v0 v1 v2 v3 v4 v5 v6 v7 : Value) :
    Box ((((((((u.setCell ⟨g', 0, none⟩ v0).setCell ⟨g', 1, none⟩ v1).setCell ⟨g', 2, none⟩ v2).setCell ⟨g', 3, none⟩ v3).setCell ⟨g', 4, none⟩ v4).setCell ⟨g', 5, none⟩ v5).setCell ⟨g', 6, none⟩ v6).setCell ⟨g', 7, none⟩ v7) g P :=
  (((((((h.other hg _ _).other hg _ _).other hg _ _).other hg _ _).other hg _ _).other hg _ _).other hg _ _).other hg _ _

/-- By other names, where it plays a part. -/
def rnI (M : List Int) (b : Bool) (x : Int) : Int := if b then toV M x else 0
def rnL (M : List Int) (b : Bool) (l : List Int) : List Int := if b then l.map (toV M) else []
/-- What stands in the two blocks on the way. -/
structure RenSt (w : World) (u : World) (P : Array Value) (va : Option Addr) (vn vc : Nat) (Z : List Int) : Prop where
  box : Box u w.heap.size P
  res : Box u (w.heap.size + 1) #[.int .i64 0, .int .i64 0, .int .i64 0, .int .i64 0, .int .i64 0, .string ⟨#[]⟩, .slice none 0 0, .bool false]
  own : OwnsI u (w.heap.size + 2) 3 (.slice va vn vc) Z
  bel : Below w.heap.size w u
  siz : w.heap.size + 2 ≤ u.heap.size

theorem RenSt.put {w u : World} {P P' : Array Value} {va : Option Addr} {vn vc : Nat} {Z : List Int} (h : RenSt w u P va vn vc Z) (j : Nat) (v : Value) (hj : j < P.size) (hP : P' = P.setIfInBounds j v) : RenSt w (u.setCell ⟨w.heap.size, j, none⟩ v) P' va vn vc Z :=
  ⟨h.box.set j v hj hP, h.res.other (by omega) _ _, h.own.setCell _ _ (by simp), h.bel.setCell (Nat.le_refl _) _, by simpa using h.siz⟩
theorem RenSt.step {w u u' : World} {P : Array Value} {va va' : Option Addr} {vn vc vn' vc' : Nat} {Z Z' : List Int} (h : RenSt w u P va vn vc Z) (hb : Below u.heap.size u u') (ho : OwnsI u' u.heap.size 3 (.slice va' vn' vc') Z') : RenSt w u' P va' vn' vc' Z' :=
  ⟨h.box.below hb (by have := h.siz; omega), h.res.below hb (by have := h.siz; omega), ho.mono h.siz, h.bel.trans (hb.mono (by have := h.siz; omega)), Nat.le_trans h.siz hb.size⟩
theorem rn_yes {M : List Int} {b : Bool} {A x : Int} (h : b = true) (hx : pickI b A = x) : rnI M b A = toV M x := by
  subst h; subst hx; rfl
theorem rn_no {M : List Int} {b : Bool} {A x : Int} (h : b = false) (hx : pickI b A = x) : rnI M b A = x := by
  subst h; subst hx; rfl

end Go.Proofs.YtnapechlgjcpbaaDoor

/- A string's iterator, moved on: what stands otherwise. Nothing of the program is named here. -/
namespace Go.Proofs.YtnapechlgjcpbaaDoor
open Go.RowKit (wrap64 intOf Below)
set_option linter.unusedVariables false

/-- All blocks but one stand as they stood. -/
structure SameBut (r : Nat) (u u' : World) : Prop where
  size : u'.heap.size = u.heap.size
  same : ∀ i, i ≠ r → u'.heap[i]? = u.heap[i]?
  bel : ∀ B, B ≤ r → Below B u u'
  cell : ∀ p : Addr, p.block ≠ r → u'.cell? p = u.cell? p
  frozen : ∀ p : Addr, p.block ≠ r → u'.frozen? p = u.frozen? p
theorem iterAt_same (u : World) (r : Nat) (s : ByteArray) (pos : Nat) : SameBut r u (u.iterAt r s pos) := by
  refine ⟨Lib.iterAt_size u r s pos, fun i hi => Lib.iterAt_other u r i s pos hi, fun B hB => Lib.below_iterAt (Below.refl B u) hB s pos, fun p hp => ?_, fun p hp => ?_⟩
  · simp only [World.cell?, Lib.iterAt_other u r p.block s pos hp]
  · simp only [World.frozen?, Lib.iterAt_other u r p.block s pos hp]
theorem Box.same {u u' : World} {r g : Nat} {P : Array Value} (h : Box u g P) (hs : SameBut r u u') (hg : g ≠ r) : Box u' g P :=
  ⟨fun j => by rw [hs.cell ⟨g, j, none⟩ hg]; exact h.1 j, fun j => by rw [hs.frozen ⟨g, j, none⟩ hg]; exact h.2 j⟩
theorem Box.new (w : World) (C : Array Value) (t : TypeId) {n : Nat} (hn : n = w.heap.size) : Box (w.alloc (.cells C t)) n C := by
  subst hn
  exact ⟨fun j => World.cell?_alloc_mark _ _ _ _ _, fun j => World.frozen?_alloc_at _ _ _ _ rfl⟩
theorem Box.alloc {u : World} {g : Nat} {P : Array Value} (h : Box u g P) (hg : g < u.heap.size) (o : Obj) : Box (u.alloc o) g P := h.below ((Below.refl u.heap.size u).alloc (Nat.le_refl _) o) hg
theorem OwnsI.same {u u' : World} {r B : Nat} {e : TypeId} {v : Value} {Z : List Int} (h : OwnsI u B e v Z) (hs : SameBut r u u') (hr : r < B) : OwnsI u' B e v Z := by
  refine ⟨h.1, ?_⟩
  rcases h.2 with hn | ⟨g, cap, cur, rfl, hg, hh, rest⟩
  · exact .inl hn
  · refine .inr ⟨g, cap, cur, rfl, hg, ?_, rest⟩
    rw [hs.same g (by omega)]
    exact hh
theorem NumsAt.same {u u' : World} {r : Nat} {a : Option Addr} {n : Nat} {Z : List Int} (h : NumsAt u a n Z) (hs : SameBut r u u') (hr : ∀ ad, a = some ad → ad.block ≠ r) : NumsAt u' a n Z := by
  refine ⟨h.1, fun hn => ?_⟩
  obtain ⟨g, off, e, hg, hc⟩ := h.2 hn
  refine ⟨g, off, e, by rw [hs.size]; exact hg, fun j hj => ?_⟩
  rw [hs.cell ⟨g, off + j, none⟩ (hr ⟨g, off, none⟩ e)]
  exact hc j hj
end Go.Proofs.YtnapechlgjcpbaaDoor

/- Layer 4, P4.1: package kind's Plain, walked: the letters are gone through one by one, and each field that plays a part is taken over. -/
namespace Go.Proofs.YtnapechlgjcpbaaDoor
open Go.RowKit (wrap64 intOf Below)
set_option linter.unusedVariables false

/-- Whether a field is among the first k. -/
def hasT (K : Int) (k : Nat) (f : UInt8) : Bool := ((fieldsL K).take k).contains f
theorem hasT_zero (K : Int) (f : UInt8) : hasT K 0 f = false := by simp [hasT]
theorem hasT_next {K : Int} {k : Nat} {g : UInt8} (f : UInt8) (hk : k < (fieldsL K).length) (hg : (fieldsL K)[k] = g) : hasT K (k + 1) f = (hasT K k f || f == g) := by
  unfold hasT
  rw [List.take_succ_eq_append_getElem hk, hg, Bool.eq_iff_iff]
  simp
theorem hasT_all {K : Int} {k : Nat} (f : UInt8) (hk : (fieldsL K).length ≤ k) : hasT K k f = hasB K f := by
  unfold hasT hasB
  rw [List.take_of_length_le hk]
theorem letters (K : Int) : ∀ f ∈ fieldsL K, f = 78 ∨ f = 83 ∨ f = 65 ∨ f = 66 ∨ f = 67 ∨ f = 76 ∨ f = 75 := by
  rcases kinds K with h | h
  · rcases h with rfl | rfl | rfl | rfl | rfl | rfl | rfl | rfl | rfl | rfl | rfl | rfl | rfl | rfl | rfl | rfl | rfl | rfl | rfl | rfl | rfl | rfl | rfl | rfl | rfl | rfl
    all_goals decide
  · rw [fields_none h]
    intro f hf
    cases hf
/-- The letters as a text. -/
def fstr (K : Int) : ByteArray := mk (fieldsL K)
/-- The step as far as its first k letters tell it. -/
def plainT (K A B C N : Int) (S : ByteArray) (T : Bool) (k : Nat) (l : Value) : Array Value := #[.int .i64 K, .int .i64 (pickI (hasT K k 65) A), .int .i64 (pickI (hasT K k 66) B), .int .i64 (pickI (hasT K k 67) C), .int .i64 (pickI (hasT K k 78) N), .string (pickS (hasT K k 83) S), l, .bool (hasT K k 75 && T)]
structure PlSt (w : World) (u : World) (K A B C N : Int) (S : ByteArray) (la : Option Addr) (ln lc : Nat) (T : Bool) (L : List Int) (k : Nat) (va : Option Addr) (vn vc : Nat) : Prop where
  inb : Box u w.heap.size #[.int .i64 K, .int .i64 A, .int .i64 B, .int .i64 C, .int .i64 N, .string S, .slice la ln lc, .bool T]
  res : Box u (w.heap.size + 1) #[.int .i64 0, .int .i64 0, .int .i64 0, .int .i64 0, .int .i64 0, .string ⟨#[]⟩, .slice none 0 0, .bool false]
  box : Box u (w.heap.size + 2) (plainT K A B C N S T k (.slice va vn vc))
  it : u.heap[w.heap.size + 3]? = some (.stringIter (fstr K) k)
  own : OwnsI u (w.heap.size + 4) 3 (.slice va vn vc) (pickL (hasT K k 76) L)
  bel : Below w.heap.size w u
  siz : w.heap.size + 4 ≤ u.heap.size
theorem PlSt.at_ {w u : World} {K A B C N : Int} {S : ByteArray} {la : Option Addr} {ln lc : Nat} {T : Bool} {L : List Int} {k : Nat} {va : Option Addr} {vn vc : Nat} (h : PlSt w u K A B C N S la ln lc T L k va vn vc) : True := trivial

/-- The iterator moved on. -/
structure PlMv (w : World) (u : World) (K A B C N : Int) (S : ByteArray) (la : Option Addr) (ln lc : Nat) (T : Bool) (L : List Int) (k : Nat) (va : Option Addr) (vn vc : Nat) : Prop where
  inb : Box u w.heap.size #[.int .i64 K, .int .i64 A, .int .i64 B, .int .i64 C, .int .i64 N, .string S, .slice la ln lc, .bool T]
  res : Box u (w.heap.size + 1) #[.int .i64 0, .int .i64 0, .int .i64 0, .int .i64 0, .int .i64 0, .string ⟨#[]⟩, .slice none 0 0, .bool false]
  box : Box u (w.heap.size + 2) (plainT K A B C N S T k (.slice va vn vc))
  it : u.heap[w.heap.size + 3]? = some (.stringIter (fstr K) (k + 1))
  own : OwnsI u (w.heap.size + 4) 3 (.slice va vn vc) (pickL (hasT K k 76) L)
  bel : Below w.heap.size w u
  siz : w.heap.size + 4 ≤ u.heap.size
theorem PlSt.move {w u : World} {K A B C N : Int} {S : ByteArray} {la : Option Addr} {ln lc : Nat} {T : Bool} {L : List Int} {k : Nat} {va : Option Addr} {vn vc : Nat} (h : PlSt w u K A B C N S la ln lc T L k va vn vc) :
    PlMv w (u.iterAt (w.heap.size + 3) (fstr K) (k + 1)) K A B C N S la ln lc T L k va vn vc :=
  have hs := iterAt_same u (w.heap.size + 3) (fstr K) (k + 1)
  ⟨h.inb.same hs (by omega), h.res.same hs (by omega), h.box.same hs (by omega), Lib.iterAt_heap _ _ _ _ _ h.it, h.own.same hs (by omega), h.bel.trans (hs.bel _ (by omega)), by rw [hs.size]; exact h.siz⟩
theorem heap_setCell_other {u : World} {p : Addr} {v : Value} {i : Nat} (h : i ≠ p.block) : (u.setCell p v).heap[i]? = u.heap[i]? := Below.heap_setCell u p v i h
theorem setCell_size (u : World) (p : Addr) (v : Value) : (u.setCell p v).heap.size = u.heap.size := by
  show (u.heap.modify _ _).size = _
  rw [Array.size_modify]
/-- A field is put. -/
theorem PlMv.put {w u : World} {K A B C N : Int} {S : ByteArray} {la : Option Addr} {ln lc : Nat} {T : Bool} {L : List Int} {k : Nat} {va : Option Addr} {vn vc : Nat} (h : PlMv w u K A B C N S la ln lc T L k va vn vc)
    (j : Nat) (v : Value) (hj : j < 8) (hP : plainT K A B C N S T (k + 1) (.slice va vn vc) = (plainT K A B C N S T k (.slice va vn vc)).setIfInBounds j v) (hL : hasT K (k + 1) 76 = hasT K k 76) :
    PlSt w (u.setCell ⟨w.heap.size + 2, j, none⟩ v) K A B C N S la ln lc T L (k + 1) va vn vc :=
  ⟨h.inb.other (by omega) _ _, h.res.other (by omega) _ _, h.box.set j v hj hP, by rw [heap_setCell_other (by show w.heap.size + 3 ≠ w.heap.size + 2; omega)]; exact h.it, by rw [hL]; exact h.own.setCell _ _ (by show w.heap.size + 2 < w.heap.size + 4; omega), h.bel.setCell (by show w.heap.size ≤ w.heap.size + 2; omega) _, by rw [setCell_size]; exact h.siz⟩
/-- The list is put. -/
theorem PlMv.putL {w u u' : World} {K A B C N : Int} {S : ByteArray} {la : Option Addr} {ln lc : Nat} {T : Bool} {L : List Int} {k : Nat} {va va' : Option Addr} {vn vc vn' vc' : Nat} (h : PlMv w u K A B C N S la ln lc T L k va vn vc)
    (hb : Below (w.heap.size + 4) u u') (ho : OwnsI u' (w.heap.size + 4) 3 (.slice va' vn' vc') L) (hP : plainT K A B C N S T (k + 1) (.slice va' vn' vc') = (plainT K A B C N S T k (.slice va vn vc)).setIfInBounds 6 (.slice va' vn' vc')) (hL : hasT K (k + 1) 76 = true) :
    PlSt w (u'.setCell ⟨w.heap.size + 2, 6, none⟩ (.slice va' vn' vc')) K A B C N S la ln lc T L (k + 1) va' vn' vc' :=
  ⟨(h.inb.below hb (by omega)).other (by omega) _ _, (h.res.below hb (by omega)).other (by omega) _ _, (h.box.below hb (by omega)).set 6 _ (by simp [plainT]) hP, by rw [heap_setCell_other (by show w.heap.size + 3 ≠ w.heap.size + 2; omega), hb.block _ (by omega)]; exact h.it, by rw [hL]; exact ho.setCell _ _ (by show w.heap.size + 2 < w.heap.size + 4; omega), (h.bel.trans (hb.mono (by omega))).setCell (by show w.heap.size ≤ w.heap.size + 2; omega) _, by rw [setCell_size]; exact Nat.le_trans h.siz hb.size⟩

section
variable {K A B C N : Int} {S : ByteArray} {T : Bool} {k : Nat} {l : Value}
theorem plainT_zero (K A B C N : Int) (S : ByteArray) (T : Bool) (l : Value) : plainT K A B C N S T 0 l = #[.int .i64 K, .int .i64 0, .int .i64 0, .int .i64 0, .int .i64 0, .string ⟨#[]⟩, l, .bool false] := by
  simp [plainT, hasT_zero, pickI, pickS]
theorem put_N (hk : k < (fieldsL K).length) (hg : (fieldsL K)[k] = 78) : plainT K A B C N S T (k + 1) l = (plainT K A B C N S T k l).setIfInBounds 4 (.int .i64 N) ∧ hasT K (k + 1) 76 = hasT K k 76 := by
  simp [plainT, hasT_next _ hk hg, pickI]
theorem put_S (hk : k < (fieldsL K).length) (hg : (fieldsL K)[k] = 83) : plainT K A B C N S T (k + 1) l = (plainT K A B C N S T k l).setIfInBounds 5 (.string S) ∧ hasT K (k + 1) 76 = hasT K k 76 := by
  simp [plainT, hasT_next _ hk hg, pickS]
theorem put_A (hk : k < (fieldsL K).length) (hg : (fieldsL K)[k] = 65) : plainT K A B C N S T (k + 1) l = (plainT K A B C N S T k l).setIfInBounds 1 (.int .i64 A) ∧ hasT K (k + 1) 76 = hasT K k 76 := by
  simp [plainT, hasT_next _ hk hg, pickI]
theorem put_B (hk : k < (fieldsL K).length) (hg : (fieldsL K)[k] = 66) : plainT K A B C N S T (k + 1) l = (plainT K A B C N S T k l).setIfInBounds 2 (.int .i64 B) ∧ hasT K (k + 1) 76 = hasT K k 76 := by
  simp [plainT, hasT_next _ hk hg, pickI]
theorem put_C (hk : k < (fieldsL K).length) (hg : (fieldsL K)[k] = 67) : plainT K A B C N S T (k + 1) l = (plainT K A B C N S T k l).setIfInBounds 3 (.int .i64 C) ∧ hasT K (k + 1) 76 = hasT K k 76 := by
  simp [plainT, hasT_next _ hk hg, pickI]
theorem put_K (hk : k < (fieldsL K).length) (hg : (fieldsL K)[k] = 75) : plainT K A B C N S T (k + 1) l = (plainT K A B C N S T k l).setIfInBounds 7 (.bool T) ∧ hasT K (k + 1) 76 = hasT K k 76 := by
  simp [plainT, hasT_next _ hk hg]
theorem put_L {l' : Value} (hk : k < (fieldsL K).length) (hg : (fieldsL K)[k] = 76) : plainT K A B C N S T (k + 1) l' = (plainT K A B C N S T k l).setIfInBounds 6 l' ∧ hasT K (k + 1) 76 = true := by
  simp [plainT, hasT_next _ hk hg]
end
theorem fstr_at {K : Int} {k : Nat} (h : k < (fieldsL K).length) (h' : k < (fstr K).size) : (fstr K)[k] = (fieldsL K)[k] := by
  show (fieldsL K).toArray[k]'(by simpa using h) = _
  rfl
end Go.Proofs.YtnapechlgjcpbaaDoor

/- Layer 6, P6.2: package show's Op, walked: a step's name, and each field that shows behind a blank. -/
namespace Go.Proofs.YtnapechlgjcpbaaDoor
open Go.RowKit (wrap64 intOf Below)
set_option linter.unusedVariables false
set_option linter.unusedSimpArgs false

theorem str_same {a b : ByteArray} (h : a = b) : (a.toList != b.toList) = false := by rw [h]; simp
theorem str_diff {a b : ByteArray} (h : a ≠ b) : (a.toList != b.toList) = true := by
  rw [bne_iff_ne]
  intro he
  have h1 := Lib.toList_data a
  have h2 := Lib.toList_data b
  rw [h1, h2] at he
  exact h (by cases a; cases b; simp at he; rw [he])
theorem keepS {w u w' : World} (h1 : Below w.heap.size w u) (h2 : Below u.heap.size u w') : Below w.heap.size w w' := h1.trans (h2.mono h1.size)
theorem builderAt_news {T e : TypeId} {B b : Nat} {p : Value} {bs : List Value} {w w' : World} (h : Lib.BuilderAtF T e B b p bs w) (hb : Below w.heap.size w w') : Lib.BuilderAtF T e B b p bs w' := by
  obtain ⟨hB, v, hbk, hown, hne⟩ := h
  refine ⟨hB, v, (hb.block b (Array.getElem?_eq_some_iff.1 hbk).1).trans hbk, ⟨hown.1, ?_⟩, hne⟩
  rcases hown.2 with h' | ⟨g, cap, cur, fz, hv, hg, hh, rest⟩
  · exact .inl h'
  · exact .inr ⟨g, cap, cur, fz, hv, hg, (hb.block g (Array.getElem?_eq_some_iff.1 hh).1).trans hh, rest⟩
theorem builder_news {T e : TypeId} {B b : Nat} {bs : List Value} {w w' : World} (h : Lib.IsBuilderF T e B b bs w) (hb : Below w.heap.size w w') : Lib.IsBuilderF T e B b bs w' :=
  h.elim (fun x => .inl (builderAt_news x hb)) (fun x => .inr (builderAt_news x hb))
theorem builder_lt {T e : TypeId} {B b : Nat} {bs : List Value} {w : World} (h : Lib.IsBuilderF T e B b bs w) : b < w.heap.size := by
  rcases h with ⟨_, v, hbk, _⟩ | ⟨_, v, hbk, _⟩ <;> exact (Array.getElem?_eq_some_iff.1 hbk).1

/-- One field behind a blank, if it shows. -/
def shownF (F : UInt8 → List UInt8) (c : UInt8) : List UInt8 := if F c = [] then [] else 32 :: F c
def fieldsText (F : UInt8 → List UInt8) (cs : List UInt8) : List UInt8 := (cs.map (shownF F)).flatten
def opText (K : Int) (F : UInt8 → List UInt8) : List UInt8 := nameOf stepNames K ++ fieldsText F (fieldsL K)
theorem fieldsText_snoc (F : UInt8 → List UInt8) (cs : List UInt8) (c : UInt8) : fieldsText F (cs ++ [c]) = fieldsText F cs ++ shownF F c := by simp [fieldsText]
theorem fieldsText_len {F : UInt8 → List UInt8} {M : Nat} : ∀ (cs : List UInt8), (∀ c ∈ cs, (F c).length ≤ M) → (fieldsText F cs).length ≤ cs.length * (M + 1)
  | [], _ => by simp [fieldsText]
  | c :: cs, h => by
    have h1 := fieldsText_len cs (fun x hx => h x (by simp [hx]))
    have h2 := h c (by simp)
    have h3 : (shownF F c).length ≤ M + 1 := by unfold shownF; split <;> simp <;> omega
    have h4 : fieldsText F (c :: cs) = shownF F c ++ fieldsText F cs := by simp [fieldsText]
    rw [h4, List.length_append, List.length_cons, Nat.add_mul]
    omega
theorem names_len : ∀ n : Int, (nameOf stepNames n).length ≤ 5 := by
  intro n
  unfold nameOf
  split
  · simp
  · rename_i h
    obtain ⟨k, rfl⟩ := Int.eq_ofNat_of_zero_le (show 0 ≤ n by omega)
    have hk : k < stepNames.length := by omega
    have hall : ∀ k, k < stepNames.length → (stepNames.getD k []).length ≤ 5 := by decide
    exact hall k hk

theorem fields_few (K : Int) : (fieldsL K).length ≤ 7 := by
  rcases kinds K with h | h
  · rcases h with rfl | rfl | rfl | rfl | rfl | rfl | rfl | rfl | rfl | rfl | rfl | rfl | rfl | rfl | rfl | rfl | rfl | rfl | rfl | rfl | rfl | rfl | rfl | rfl | rfl | rfl
    all_goals decide
  · rw [fields_none h]; decide
set_option maxRecDepth 100000 in
theorem step_any (K : Int) (w : World) (hs : SN w) :
    Calls Tryd.prog 30 #[.int .i64 K] w fun e w' => e = .returned (.string (mk (nameOf stepNames K))) ∧ w = w' := by
  by_cases h0 : K < 0
  · have HF : RowKit.Hid (nameOf stepNames K = [63]) := Lib.hid (by unfold nameOf; rw [if_pos (.inl h0)])
    clear hs
    go_enter Tryd.func30, Tryd.ntmps30
    go_wp2
    go_ret
    exact ⟨by rw [HF.out]; rfl, rfl⟩
  · by_cases h1 : 25 < K
    · have HF : RowKit.Hid (nameOf stepNames K = [63]) := Lib.hid (by unfold nameOf; rw [if_pos (.inr (by simp [stepNames]; omega))])
      have h0' : 0 ≤ K := by omega
      have h1' : 26 ≤ K := by omega
      clear hs h0
      go_enter Tryd.func30, Tryd.ntmps30
      go_wp2
      go_ret
      exact ⟨by rw [HF.out]; rfl, rfl⟩
    · obtain ⟨k, rfl⟩ := Int.eq_ofNat_of_zero_le (show 0 ≤ K by omega)
      have hk : k < 26 := by omega
      have hcell := hs k hk
      have HF : RowKit.Hid (nameOf stepNames (k : Int) = stepNames[k]) := Lib.hid (by unfold nameOf; rw [if_neg (by simp [stepNames]; omega), Int.toNat_natCast, List.getD_eq_getElem?_getD, List.getElem?_eq_getElem hk]; rfl)
      have h0' : ¬ ((k : Int) < 0) := by omega
      have h1' : ¬ (26 ≤ (k : Int)) := by omega
      clear hs h0 h1
      go_enter Tryd.func30, Tryd.ntmps30
      go_wp2
      go_ret
      exact ⟨by rw [HF.out]; rfl, rfl⟩

/-- What a field's call comes to, wherever the walk stands. -/
def FieldsAre (w : World) (v : Value) (K : Int) (F : UInt8 → List UInt8) (M : Nat) : Prop :=
  ∀ c ∈ fieldsL K, (F c).length ≤ M ∧ ∀ u, Below w.heap.size w u → Calls Tryd.prog 32 #[v, .int .i32 (c.toNat : Int)] u fun e u' => e = .returned (.string (mk (F c))) ∧ Below u.heap.size u u'

set_option maxRecDepth 100000 in
set_option maxHeartbeats 4000000 in
theorem show_op (K A B C N : Int) (S : ByteArray) (la : Option Addr) (ln lc : Nat) (T : Bool) (F : UInt8 → List UInt8) (M : Nat) (hM : M ≤ 1000000000000) (w : World) (hft : FT w) (hs : SN w)
    (HF : FieldsAre w (.agg #[.int .i64 K, .int .i64 A, .int .i64 B, .int .i64 C, .int .i64 N, .string S, .slice la ln lc, .bool T]) K F M) :
    Calls Tryd.prog 13 #[.agg #[.int .i64 K, .int .i64 A, .int .i64 B, .int .i64 C, .int .i64 N, .string S, .slice la ln lc, .bool T]] w fun e w' => e = .returned (.string (mk (opText K F))) ∧ Below w.heap.size w w' := by
  obtain ⟨X, hX⟩ : ∃ X, X = w.heap.size := ⟨_, rfl⟩
  obtain ⟨W1, hW1⟩ : ∃ W1, W1 = w.alloc (.cells #[.int .i64 K, .int .i64 A, .int .i64 B, .int .i64 C, .int .i64 N, .string S, .slice la ln lc, .bool T] 50) := ⟨_, rfl⟩
  have hbx : W1.heap[X]? = some (.cells #[.int .i64 K, .int .i64 A, .int .i64 B, .int .i64 C, .int .i64 N, .string S, .slice la ln lc, .bool T] 50 (0, 0)) := by rw [hW1, hX]; exact heap_alloc_new w _
  have hz1 : W1.heap.size = X + 1 := by rw [hW1, hX]; simp
  have hb1 : Below w.heap.size w W1 := by rw [hW1]; exact (Below.refl _ _).alloc (Nat.le_refl _) _
  obtain ⟨W2, hW2⟩ : ∃ W2, W2 = W1.alloc (.cells #[.pointer none, .slice none 0 0] 55) := ⟨_, rfl⟩
  have HB2 : RowKit.Hid (Lib.IsBuilderF 55 5 (X + 1) (X + 1) (Lib.byteCells []) W2) := Lib.hid (by rw [hW2, ← hz1]; exact Lib.IsBuilderF.of (Lib.fresh_isBuilder _ _ W1))
  have hb2 : Below W1.heap.size W1 W2 := by rw [hW2]; exact (Below.refl _ _).alloc (Nat.le_refl _) _
  have HZ2 : RowKit.Hid (X + 1 ≤ W2.heap.size) := Lib.hid (by rw [hW2]; simp; omega)
  have HW2 : RowKit.Hid (Below w.heap.size w W2) := Lib.hid (keepS hb1 hb2)
  have HBX : RowKit.Hid (∀ u, Below (X + 1) W2 u → Below w.heap.size w u ∧ (∀ j, u.cell? ⟨X, j, none⟩ = (#[.int .i64 K, .int .i64 A, .int .i64 B, .int .i64 C, .int .i64 N, .string S, .slice la ln lc, .bool T] : Array Value)[j]?)) := Lib.hid fun u hb =>
    ⟨HW2.out.trans (hb.mono (by omega)), fun j => by
      have : u.heap[X]? = _ := (hb.block X (by omega)).trans ((hb2.block X (by omega)).trans hbx)
      simp [World.cell?, this]⟩
  have HX := Lib.hid hX
  have HS := Lib.hid hs
  have HFT := Lib.hid hft
  have HN := Lib.hid (names_len K)
  have HFF := Lib.hid HF
  clear hs hft hb1 hb2 hbx HF
  go_enter Tryd.func13, Tryd.ntmps13
  go_upto_region 2 with fail
  rw [← hX, ← hW1]
  try rw [hz1]
  rw [← hW2]
  clear hW2 hW1 hX hz1
  have x0 := (HBX.out W2 (Below.refl _ _)).2 0
  go_wp2_with fail
  refine (step_any K W2 (StrTab.since HS.out HW2.out)).mono ?_
  rintro e w1 ⟨rfl, rfl⟩
  go_wp2_with fail
  refine (write_text (X + 1) (X + 1) _ (mk (nameOf stepNames K)) W2 HB2.out (by rw [mk_size]; simp [Lib.byteCells]; have := HN.out; omega) HZ2.out).mono ?_
  rintro e w3 ⟨rfl, h3, hb3, hk3⟩
  have HB3 : RowKit.Hid (Lib.IsBuilderF 55 5 (X + 1) (X + 1) (Lib.byteCells (nameOf stepNames K)) w3) := Lib.hid (.inr (by rw [Lib.strCells_eq, mk_list] at h3; simpa [Lib.byteCells] using h3))
  have HC3 := Lib.hid hb3
  have x3 := (HBX.out w3 hb3).2 0
  have HF3 := Lib.hid (HFT.out.since (HBX.out w3 hb3).1)
  clear h3 hb3 hk3 x0
  go_wp2_with fail
  refine (kfields_any K w3 HF3.out).mono ?_
  rintro e w4 ⟨rfl, rfl⟩
  clear x3
  obtain ⟨it, hit⟩ : ∃ it, it = w3.heap.size := ⟨_, rfl⟩
  have HSZ : RowKit.Hid ((mk (fieldsL K)).size = (fieldsL K).length) := Lib.hid (mk_size _)
  have HIT : RowKit.Hid (X + 1 < it) := Lib.hid (by rw [hit]; exact builder_lt HB3.out)
  have hstart : RowKit.Hid (Lib.IsBuilderF 55 5 (X + 1) (X + 1) (Lib.byteCells (nameOf stepNames K ++ fieldsText F ((fieldsL K).take 0))) (w3.iter (mk (fieldsL K)) 0) ∧ (w3.iter (mk (fieldsL K)) 0).heap[it]? = some (.stringIter (mk (fieldsL K)) 0) ∧ Below (X + 1) W2 (w3.iter (mk (fieldsL K)) 0)) := Lib.hid ⟨by have h : Lib.IsBuilderF 55 5 (X + 1) (X + 1) (Lib.byteCells (nameOf stepNames K)) (w3.iter (mk (fieldsL K)) 0) := HB3.out.alloc _; simpa [fieldsText] using h, by rw [hit]; exact World.iter_heap w3 (mk (fieldsL K)) 0, HC3.out.alloc (Nat.le_trans HZ2.out HC3.out.size) _⟩
  clear HB3 HC3 HF3
  go_wp2_with fail
  rw [← hit]
  generalize hw4 : w3.iter (mk (fieldsL K)) 0 = w4 at hstart ⊢
  clear hw4 hit
  go_loopw [] (fun wr => ∃ k : Nat, k ≤ (fieldsL K).length ∧ RowKit.Hid (Lib.IsBuilderF 55 5 (X + 1) (X + 1) (Lib.byteCells (nameOf stepNames K ++ fieldsText F ((fieldsL K).take k))) wr ∧ wr.heap[it]? = some (.stringIter (mk (fieldsL K)) k) ∧ Below (X + 1) W2 wr)) (fun wr => (fieldsL K).length - wr.iterPos it)
  case atStart => exact ⟨0, Nat.zero_le _, hstart⟩
  case round =>
    obtain ⟨k, hk, HI⟩ := hrel
    have hitp := HI.out.2.1
    have HLEN : RowKit.Hid (∀ q, q ≤ (fieldsL K).length → (nameOf stepNames K ++ fieldsText F ((fieldsL K).take q)).length ≤ 5 + (fieldsL K).length * (M + 1)) := Lib.hid fun q hq => by
      have h1 := fieldsText_len (F := F) (M := M) ((fieldsL K).take q) (fun c hc => (HFF.out c (List.mem_of_mem_take hc)).1)
      have h2 := HN.out
      have h3 : ((fieldsL K).take q).length * (M + 1) ≤ (fieldsL K).length * (M + 1) := Nat.mul_le_mul_right _ (by rw [List.length_take]; omega)
      rw [List.length_append]
      omega
    by_cases hlt : k < (fieldsL K).length
    · obtain ⟨c, hg⟩ : ∃ c, (fieldsL K)[k] = c := ⟨_, rfl⟩
      have hmem : c ∈ fieldsL K := by rw [← hg]; exact List.getElem_mem _
      have hks : k < (mk (fieldsL K)).size := by rw [HSZ.out]; exact hlt
      have hgs : (mk (fieldsL K))[k]'hks = c := by rw [← hg]; rfl
      have h128 : c.toNat < 128 := by
        rcases letters K c hmem with rfl | rfl | rfl | rfl | rfl | rfl | rfl <;> decide
      have hnx := fun ty => Lib.run_next_ascii_at (P := Tryd.prog) wr it (mk (fieldsL K)) k ty hitp hks (by rw [hgs]; exact h128)
      rw [hgs] at hnx
      have HT : RowKit.Hid (fieldsText F ((fieldsL K).take (k + 1)) = fieldsText F ((fieldsL K).take k) ++ shownF F c) := Lib.hid (by rw [List.take_succ_eq_append_getElem hlt, hg, fieldsText_snoc])
      obtain ⟨u, hu⟩ : ∃ u, u = wr.iterAt it (mk (fieldsL K)) (k + 1) := ⟨_, rfl⟩
      rw [← hu] at hnx
      have HU : RowKit.Hid (Lib.IsBuilderF 55 5 (X + 1) (X + 1) (Lib.byteCells (nameOf stepNames K ++ fieldsText F ((fieldsL K).take k))) u ∧ u.heap[it]? = some (.stringIter (mk (fieldsL K)) (k + 1)) ∧ Below (X + 1) W2 u) := Lib.hid (by rw [hu]; exact ⟨HI.out.1.iterAt hitp _, Lib.iterAt_heap wr it _ k _ hitp, Lib.below_iterAt HI.out.2.2 (by have := HIT.out; omega) _ _⟩)
      have HPOS : RowKit.Hid (wr.iterPos it = k) := Lib.hid (by simp [World.iterPos, hitp])
      have hbx := HBX.out u HU.out.2.2
      have x0 : u.cell? ⟨X, 0, none⟩ = some (.int .i64 K) := hbx.2 0
      have x1 : u.cell? ⟨X, 1, none⟩ = some (.int .i64 A) := hbx.2 1
      have x2 : u.cell? ⟨X, 2, none⟩ = some (.int .i64 B) := hbx.2 2
      have x3 : u.cell? ⟨X, 3, none⟩ = some (.int .i64 C) := hbx.2 3
      have x4 : u.cell? ⟨X, 4, none⟩ = some (.int .i64 N) := hbx.2 4
      have x5 : u.cell? ⟨X, 5, none⟩ = some (.string S) := hbx.2 5
      have x6 : u.cell? ⟨X, 6, none⟩ = some (.slice la ln lc) := hbx.2 6
      have x7 : u.cell? ⟨X, 7, none⟩ = some (.bool T) := hbx.2 7
      have HFC := Lib.hid ((HFF.out c hmem).2 u hbx.1)
      have HFM := Lib.hid (HFF.out c hmem).1
      have HKL : RowKit.Hid ((nameOf stepNames K ++ fieldsText F ((fieldsL K).take k)).length ≤ 5 + (fieldsL K).length * (M + 1)) := Lib.hid (HLEN.out k (by omega))
      have HFL : RowKit.Hid ((fieldsL K).length ≤ 7) := Lib.hid (fields_few K)
      clear hu hbx hgs hg hitp hmem h128
      go_wp2_with fail
      refine HFC.out.mono ?_
      rintro e w5 ⟨rfl, hb5⟩
      have HB5 := Lib.hid (builder_news HU.out.1 hb5)
      have HI5 : RowKit.Hid (w5.heap[it]? = some (.stringIter (mk (fieldsL K)) (k + 1))) := Lib.hid ((hb5.block it (Array.getElem?_eq_some_iff.1 HU.out.2.1).1).trans HU.out.2.1)
      have HC5 : RowKit.Hid (Below (X + 1) W2 w5) := Lib.hid (HU.out.2.2.trans (hb5.mono (Nat.le_trans HZ2.out HU.out.2.2.size)))
      clear hb5 x0 x1 x2 x3 x4 x5 x6 x7 hnx
      by_cases hempty : F c = []
      · have HE : RowKit.Hid (shownF F c = []) := Lib.hid (by unfold shownF; rw [if_pos hempty])
        have HP5 : RowKit.Hid (w5.iterPos it = k + 1) := Lib.hid (by simp [World.iterPos, HI5.out])
        rw [show mk (F c) = ⟨#[]⟩ by rw [hempty]; rfl]
        clear hempty
        go_wp2_with fail
        go_roundw
        case rel => exact ⟨k + 1, by omega, Lib.hid ⟨by rw [HT.out, HE.out, List.append_nil]; exact HB5.out, HI5.out, HC5.out⟩⟩
        case measure => rw [HP5.out, HPOS.out]; omega
      · have HE : RowKit.Hid (shownF F c = 32 :: F c) := Lib.hid (by unfold shownF; rw [if_neg hempty])
        have HNE : RowKit.Hid (mk (F c) ≠ ⟨#[]⟩) := Lib.hid (fun h => hempty (by have := congrArg (fun b : ByteArray => b.data.toList) h; simpa [mk] using this))
        have hsz : (mk (F c)).size ≤ 1000000000000 := by rw [mk_size]; have := HFM.out; omega
        obtain ⟨t, ht⟩ : ∃ t, t = mk (F c) := ⟨_, rfl⟩
        have HT' := Lib.hid ht
        rw [← ht] at hsz
        have hne : (!t.toList.isEmpty) = true := by
          have h := str_diff (a := t) (b := ⟨#[]⟩) (by rw [ht]; exact HNE.out)
          simpa using h
        have HW : RowKit.Hid (mkB [32] ++ t = mk (32 :: F c)) := Lib.hid (by rw [ht]; exact mkB_append [32] (F c))
        rw [← ht]
        clear ht hempty
        go_wp2_with fail
        refine (write_text (X + 1) (X + 1) _ (mkB [32] ++ t) w5 HB5.out (by rw [HW.out, mk_size, Lib.byteCells_length]; have h1 := HKL.out; have h2 := HFM.out; have h3 : (fieldsL K).length * (M + 1) ≤ 7 * (M + 1) := Nat.mul_le_mul_right _ HFL.out; simp only [List.length_cons]; omega) (Nat.le_trans HZ2.out HC5.out.size)).mono ?_
        rintro e w6 ⟨rfl, h6, hb6, hk6⟩
        have HB6 : RowKit.Hid (Lib.IsBuilderF 55 5 (X + 1) (X + 1) (Lib.byteCells (nameOf stepNames K ++ fieldsText F ((fieldsL K).take (k + 1)))) w6) := Lib.hid (by
          rw [HW.out, Lib.strCells_eq, mk_list, ← Lib.byteCells_append] at h6
          rw [HT.out, HE.out, ← List.append_assoc]
          exact .inr h6)
        have HI6 := Lib.hid (hk6.iter HI5.out (by have := HIT.out; omega))
        have HC6 := Lib.hid (HC5.out.trans hb6)
        have HP6 : RowKit.Hid (w6.iterPos it = k + 1) := Lib.hid (by simp [World.iterPos, HI6.out])
        clear h6 hb6 hk6
        go_wp2_with fail
        go_roundw
        case rel => exact ⟨k + 1, by omega, Lib.hid ⟨HB6.out, HI6.out, HC6.out⟩⟩
        case measure => rw [HP6.out, HPOS.out]; omega
    · have HE : RowKit.Hid (nameOf stepNames K ++ fieldsText F ((fieldsL K).take k) = opText K F) := Lib.hid (by unfold opText; rw [List.take_of_length_le (by omega)])
      have hnx := fun ty => Lib.run_next_end_at (P := Tryd.prog) wr it (mk (fieldsL K)) k ty hitp (by rw [HSZ.out]; exact hlt)
      have HB9 : RowKit.Hid (Lib.IsBuilderF 55 5 (X + 1) (X + 1) (Lib.byteCells (opText K F)) wr) := Lib.hid (by rw [← HE.out]; exact HI.out.1)
      have HC9 := Lib.hid (HBX.out wr HI.out.2.2).1
      have hzr : X + 1 ≤ wr.heap.size := Nat.le_trans HZ2.out HI.out.2.2.size
      clear hitp
      go_wp2_with fail
      refine (Tryd.Builder_String_any_k (X + 1) (X + 1) (opText K F) wr HB9.out hzr).mono ?_
      rintro e w9 ⟨rfl, _, hb9, _⟩
      have HD9 : RowKit.Hid (Below w.heap.size w w9) := Lib.hid (HC9.out.trans (hb9.mono (by have := HX.out; omega)))
      clear hb9 hnx
      go_wp2_with fail
      go_ret
      exact ⟨rfl, HD9.out⟩
end Go.Proofs.YtnapechlgjcpbaaDoor

/- Layer 6: package show's fields of a step, but its text and its list: number, value, stack. -/
namespace Go.Proofs.YtnapechlgjcpbaaDoor
open Go.RowKit (wrap64 intOf Below)
set_option linter.unusedVariables false
set_option linter.unusedSimpArgs false

def valueText (n : Int) : List UInt8 := 118 :: Lib.itoa n
def numberText (K N : Int) : List UInt8 := if K = 3 then nameOf signNames N else Lib.itoa N
def stackText (T : Bool) : List UInt8 := if T then [115, 116, 97, 99, 107] else []
theorem value_any (n : Int) (w : World) (h0 : -9223372036854775808 ≤ n) (h1 : n ≤ 9223372036854775807) (hp : PT w) :
    Calls Tryd.prog 39 #[.int .i64 n] w fun e w' => e = .returned (.string (mk (valueText n))) ∧ Below w.heap.size w w' := by
  have HR : RowKit.Hid (mk (valueText n) = mkB [118] ++ mkB (Lib.itoa n)) := Lib.hid (by unfold valueText; rw [mkB_append]; rfl)
  have HC := Lib.hid (itoa_text n w h0 h1 hp)
  have hs := itoa_size n h0 h1
  clear hp
  go_enter Tryd.func39, Tryd.ntmps39
  go_wp2_with fail
  refine HC.out.mono ?_
  rintro e w1 ⟨rfl, hb⟩
  have HB := Lib.hid hb
  clear hb
  go_wp2_with fail
  go_ret
  exact ⟨by rw [HR.out]; rfl, HB.out⟩
set_option maxRecDepth 100000 in
theorem sign_any (K : Int) (w : World) (hs : GN w) :
    Calls Tryd.prog 68 #[.int .i64 K] w fun e w' => e = .returned (.string (mk (nameOf signNames K))) ∧ w = w' := by
  by_cases h0 : K < 0
  · have HF : RowKit.Hid (nameOf signNames K = [63]) := Lib.hid (by unfold nameOf; rw [if_pos (.inl h0)])
    clear hs
    go_enter Tryd.func68, Tryd.ntmps68
    go_wp2
    go_ret
    exact ⟨by rw [HF.out]; rfl, rfl⟩
  · by_cases h1 : 13 < K
    · have HF : RowKit.Hid (nameOf signNames K = [63]) := Lib.hid (by unfold nameOf; rw [if_pos (.inr (by simp [signNames]; omega))])
      have h0' : 0 ≤ K := by omega
      have h1' : 14 ≤ K := by omega
      clear hs h0
      go_enter Tryd.func68, Tryd.ntmps68
      go_wp2
      go_ret
      exact ⟨by rw [HF.out]; rfl, rfl⟩
    · obtain ⟨k, rfl⟩ := Int.eq_ofNat_of_zero_le (show 0 ≤ K by omega)
      have hk : k < 14 := by omega
      have hcell := hs k hk
      have HF : RowKit.Hid (nameOf signNames (k : Int) = signNames[k]) := Lib.hid (by unfold nameOf; rw [if_neg (by simp [signNames]; omega), Int.toNat_natCast, List.getD_eq_getElem?_getD, List.getElem?_eq_getElem hk]; rfl)
      have h0' : ¬ ((k : Int) < 0) := by omega
      have h1' : ¬ (14 ≤ (k : Int)) := by omega
      clear hs h0 h1
      go_enter Tryd.func68, Tryd.ntmps68
      go_wp2
      go_ret
      exact ⟨by rw [HF.out]; rfl, rfl⟩
/-- The tables that package show reads stand. -/
structure Tabs (w : World) : Prop where
  pow : PT w
  fields : FT w
  steps : SN w
  signs : GN w
theorem Tabs.since {w w' : World} (h : Tabs w) (hb : Below w.heap.size w w') : Tabs w' :=
  ⟨h.pow.since hb, h.fields.since hb, StrTab.since h.steps hb, StrTab.since h.signs hb⟩
theorem number_any (K A B C N : Int) (S : ByteArray) (la : Option Addr) (ln lc : Nat) (T : Bool) (w : World) (h0 : -9223372036854775808 ≤ N) (h1 : N ≤ 9223372036854775807) (ht : Tabs w) :
    Calls Tryd.prog 52 #[.agg #[.int .i64 K, .int .i64 A, .int .i64 B, .int .i64 C, .int .i64 N, .string S, .slice la ln lc, .bool T]] w fun e w' => e = .returned (.string (mk (numberText K N))) ∧ Below w.heap.size w w' := by
  have hb0 : Below w.heap.size w (w.alloc (.cells #[.int .i64 K, .int .i64 A, .int .i64 B, .int .i64 C, .int .i64 N, .string S, .slice la ln lc, .bool T] 50)) := (Below.refl _ _).alloc (Nat.le_refl _) _
  have HT := Lib.hid (ht.since hb0)
  have HB0 := Lib.hid hb0
  clear ht hb0
  by_cases hk : K = 3
  · subst hk
    have HR : RowKit.Hid (numberText 3 N = nameOf signNames N) := Lib.hid rfl
    go_enter Tryd.func52, Tryd.ntmps52
    go_wp2_with fail
    refine (sign_any N _ HT.out.signs).mono ?_
    rintro e w1 ⟨rfl, rfl⟩
    go_wp2_with fail
    go_ret
    exact ⟨by rw [HR.out]; rfl, HB0.out⟩
  · have HR : RowKit.Hid (mk (numberText K N) = mkB (Lib.itoa N)) := Lib.hid (by unfold numberText; rw [if_neg hk]; rfl)
    go_enter Tryd.func52, Tryd.ntmps52
    go_wp2_with fail
    refine (itoa_text N _ h0 h1 HT.out.pow).mono ?_
    rintro e w1 ⟨rfl, hb⟩
    have HB := Lib.hid (keepS HB0.out hb)
    clear hb
    go_wp2_with fail
    go_ret
    exact ⟨by rw [HR.out]; rfl, HB.out⟩
def plainField (K A B C N : Int) (T : Bool) (c : UInt8) : List UInt8 :=
  if c = 78 then numberText K N else if c = 65 then valueText A else if c = 66 then valueText B else if c = 67 then valueText C else stackText T
set_option maxRecDepth 100000 in
theorem field_plain (K A B C N : Int) (S : ByteArray) (la : Option Addr) (ln lc : Nat) (T : Bool) (c : UInt8) (hc : c = 78 ∨ c = 65 ∨ c = 66 ∨ c = 67 ∨ c = 75) (w : World) (hA : InR A) (hB : InR B) (hC : InR C) (hN : InR N) (ht : Tabs w) :
    Calls Tryd.prog 32 #[.agg #[.int .i64 K, .int .i64 A, .int .i64 B, .int .i64 C, .int .i64 N, .string S, .slice la ln lc, .bool T], .int .i32 (c.toNat : Int)] w fun e w' => e = .returned (.string (mk (plainField K A B C N T c))) ∧ Below w.heap.size w w' := by
  have hb0 : Below w.heap.size w (w.alloc (.cells #[.int .i64 K, .int .i64 A, .int .i64 B, .int .i64 C, .int .i64 N, .string S, .slice la ln lc, .bool T] 50)) := (Below.refl _ _).alloc (Nat.le_refl _) _
  have HT := Lib.hid (ht.since hb0)
  have HB0 := Lib.hid hb0
  clear ht hb0
  obtain ⟨hA0, hA1⟩ := hA
  obtain ⟨hB0, hB1⟩ := hB
  obtain ⟨hC0, hC1⟩ := hC
  obtain ⟨hN0, hN1⟩ := hN
  rcases hc with rfl | rfl | rfl | rfl | rfl
  · go_enter Tryd.func32, Tryd.ntmps32
    go_wp2_with fail
    refine (number_any K A B C N S la ln lc T _ (by omega) (by omega) HT.out).mono ?_
    rintro e w1 ⟨rfl, hb⟩
    have HB := Lib.hid (keepS HB0.out hb)
    clear hb
    go_wp2_with fail
    go_ret
    exact ⟨rfl, HB.out⟩
  · go_enter Tryd.func32, Tryd.ntmps32
    go_wp2_with fail
    refine (value_any A _ (by omega) (by omega) HT.out.pow).mono ?_
    rintro e w1 ⟨rfl, hb⟩
    have HB := Lib.hid (keepS HB0.out hb)
    clear hb
    go_wp2_with fail
    go_ret
    exact ⟨rfl, HB.out⟩
  · go_enter Tryd.func32, Tryd.ntmps32
    go_wp2_with fail
    refine (value_any B _ (by omega) (by omega) HT.out.pow).mono ?_
    rintro e w1 ⟨rfl, hb⟩
    have HB := Lib.hid (keepS HB0.out hb)
    clear hb
    go_wp2_with fail
    go_ret
    exact ⟨rfl, HB.out⟩
  · go_enter Tryd.func32, Tryd.ntmps32
    go_wp2_with fail
    refine (value_any C _ (by omega) (by omega) HT.out.pow).mono ?_
    rintro e w1 ⟨rfl, hb⟩
    have HB := Lib.hid (keepS HB0.out hb)
    clear hb
    go_wp2_with fail
    go_ret
    exact ⟨rfl, HB.out⟩
  · cases T
    · go_enter Tryd.func32, Tryd.ntmps32
      go_wp2_with fail
      go_ret
      exact ⟨rfl, HB0.out⟩
    · go_enter Tryd.func32, Tryd.ntmps32
      go_wp2_with fail
      go_ret
      exact ⟨rfl, HB0.out⟩
theorem itoa_one : Lib.itoa 1 = [49] := by unfold Lib.itoa; rw [if_neg (by decide)]; exact dec_small (by decide)
theorem itoa_two : Lib.itoa 2 = [50] := by unfold Lib.itoa; rw [if_neg (by decide)]; exact dec_small (by decide)
theorem plain_len (K A B C N : Int) (T : Bool) (hA : InR A) (hB : InR B) (hC : InR C) (hN : InR N) (c : UInt8) : (plainField K A B C N T c).length ≤ 22 := by
  obtain ⟨hA0, hA1⟩ := hA
  obtain ⟨hB0, hB1⟩ := hB
  obtain ⟨hC0, hC1⟩ := hC
  obtain ⟨hN0, hN1⟩ := hN
  have lA := Lib.itoa_length_le A (by omega) (by omega)
  have lB := Lib.itoa_length_le B (by omega) (by omega)
  have lC := Lib.itoa_length_le C (by omega) (by omega)
  have lN := Lib.itoa_length_le N (by omega) (by omega)
  have hall : ∀ n : Int, (nameOf signNames n).length ≤ 4 := fun n => by
    unfold nameOf
    split
    · simp
    · rename_i h
      obtain ⟨k, rfl⟩ := Int.eq_ofNat_of_zero_le (show 0 ≤ n by omega)
      have hk : k < signNames.length := by omega
      have hall : ∀ k, k < signNames.length → (signNames.getD k []).length ≤ 4 := by decide
      exact hall k hk
  have := hall N
  unfold plainField numberText valueText stackText
  repeat' split
  all_goals (try simp only [List.length_cons, List.length_nil]); omega
theorem lives_text : opText 3 (plainField 3 1 2 0 0 false) = [97, 114, 105, 116, 104, 32, 97, 100, 100, 32, 118, 49, 32, 118, 50] := by
  have h1 : plainField 3 1 2 0 0 false 65 = [118, 49] := by show valueText 1 = _; unfold valueText; rw [itoa_one]
  have h2 : plainField 3 1 2 0 0 false 66 = [118, 50] := by show valueText 2 = _; unfold valueText; rw [itoa_two]
  have h3 : plainField 3 1 2 0 0 false 78 = [97, 100, 100] := by decide
  show nameOf stepNames 3 ++ ([78, 65, 66].map (shownF (plainField 3 1 2 0 0 false))).flatten = _
  simp only [List.map, shownF, h1, h2, h3]
  decide
set_option maxRecDepth 100000 in
/-- 'lives' of layer 6: a step has a text. -/
theorem lives6 (w : World) (ht : Tabs w) : Calls Tryd.prog 6 #[] w fun e w' => e = .returned (.bool true) ∧ Below w.heap.size w w' := by
  have HO := Lib.hid (show_op 3 1 2 0 0 ⟨#[]⟩ none 0 0 false (plainField 3 1 2 0 0 false) 22 (by decide) w ht.fields ht.steps (by
    intro c hc
    have hc' : c ∈ [78, 65, 66] := hc
    simp only [List.mem_cons, List.not_mem_nil, or_false] at hc'
    refine ⟨plain_len _ _ _ _ _ _ ⟨by decide, by decide⟩ ⟨by decide, by decide⟩ ⟨by decide, by decide⟩ ⟨by decide, by decide⟩ c, fun u hb => field_plain 3 1 2 0 0 _ none 0 0 false c (by rcases hc' with rfl | rfl | rfl <;> simp) u ⟨by decide, by decide⟩ ⟨by decide, by decide⟩ ⟨by decide, by decide⟩ ⟨by decide, by decide⟩ (ht.since hb)⟩))
  have HR : RowKit.Hid (mk (opText 3 (plainField 3 1 2 0 0 false)) = ⟨#[97, 114, 105, 116, 104, 32, 97, 100, 100, 32, 118, 49, 32, 118, 50]⟩) := Lib.hid (by rw [lives_text]; rfl)
  clear ht
  go_enter Tryd.func6, Tryd.ntmps6
  go_wp2_with fail
  refine HO.out.mono ?_
  rintro e w1 ⟨rfl, hb⟩
  have HB := Lib.hid hb
  rw [HR.out]
  clear hb
  go_wp2_with fail
  go_ret
  exact ⟨rfl, HB.out⟩
end Go.Proofs.YtnapechlgjcpbaaDoor

/- Layer 6: numbers as a list, with commas between: package show's joined, values and types, and the document's list. -/
namespace Go.Proofs.YtnapechlgjcpbaaDoor
open Go.RowKit (wrap64 intOf Below)
set_option linter.unusedVariables false
set_option linter.unusedSimpArgs false

def listText (T : Int → List UInt8) (Z : List Int) : List UInt8 := Lib.join (Z.map T) [44]
theorem join_tail (sep : List UInt8) (r : List (List UInt8)) (x : List UInt8) : Lib.joinTail sep (r ++ [x]) = Lib.joinTail sep r ++ (sep ++ x) := by simp [Lib.joinTail]
theorem listText_snoc (T : Int → List UInt8) : ∀ (Z : List Int) (z : Int), listText T (Z ++ [z]) = (if Z = [] then [] else listText T Z ++ [44]) ++ T z
  | [], z => by simp [listText, Lib.join_one]
  | y :: Z, z => by
    simp only [listText, List.cons_append, List.map_cons, List.map_append, List.map_nil, Lib.join_cons, join_tail]
    simp
theorem listText_nil (T : Int → List UInt8) : listText T [] = [] := rfl
theorem listText_len {T : Int → List UInt8} {M : Nat} : ∀ (Z : List Int), (∀ z ∈ Z, (T z).length ≤ M) → (listText T Z).length ≤ Z.length * (M + 1)
  | [], _ => by simp [listText_nil]
  | y :: Z, hM => by
    have htail : ∀ r : List Int, (∀ z ∈ r, (T z).length ≤ M) → (Lib.joinTail [44] (r.map T)).length ≤ r.length * (M + 1) := by
      intro r
      induction r with
      | nil => intro _; simp [Lib.joinTail]
      | cons a r ih =>
        intro hr
        have h0 := ih (fun z hz => hr z (by simp [hz]))
        have h1 := hr a (by simp)
        have h2 : Lib.joinTail [44] ((a :: r).map T) = [44] ++ T a ++ Lib.joinTail [44] (r.map T) := by simp [Lib.joinTail]
        rw [h2]
        simp only [List.length_append, List.length_cons, List.length_nil, Nat.add_mul]
        omega
    have h1 := hM y (by simp)
    have h2 := htail Z (fun z hz => hM z (by simp [hz]))
    show (Lib.join (T y :: Z.map T) [44]).length ≤ _
    rw [Lib.join_cons]
    simp only [List.length_append, List.length_cons, Nat.add_mul]
    omega
theorem joinBytes (T : Int → List UInt8) (Z : List Int) : Lib.join ((Z.map fun z => mk (T z)).map (·.data.toList)) (mk [44]).data.toList = listText T Z := by
  rw [mk_list, List.map_map]
  unfold listText
  first
    | rfl
    | (congr 1
       apply List.map_congr_left
       intro z _
       exact mk_list _)
theorem ownsRow_news {w w' : World} {B e k n : Nat} {v : Value} {xs : List Value} (h : w.ownsRow B e k v n xs) (hb : Below w.heap.size w w') : w'.ownsRow B e k v n xs := by
  refine ⟨h.1, ?_⟩
  rcases h.2 with h' | ⟨g, cap, cur, hv, hg, hh, rest⟩
  · exact .inl h'
  · exact .inr ⟨g, cap, cur, hv, hg, (hb.block g (Array.getElem?_eq_some_iff.1 hh).1).trans hh, rest⟩
theorem OwnsS.form {w : World} {B : Nat} {e : TypeId} {v : Value} {l : List ByteArray} (h : OwnsS w B e v l) : ∃ a n c, v = .slice a n c := by
  rcases h.2 with ⟨hv, _⟩ | ⟨g, cap, cur, hv, _⟩
  · exact ⟨_, _, _, hv⟩
  · exact ⟨_, _, _, hv⟩
theorem OwnsS.made {w : World} {B : Nat} {e : TypeId} (cur : Array Value) (cap : Nat) (hB : B ≤ w.heap.size) (hm : cap ≤ maxLen) (hs : cur.size = cap) : OwnsS (w.alloc (.cells cur e)) B e (.slice (some ⟨w.heap.size, 0, none⟩) 0 cap) [] :=
  ⟨rfl, .inr ⟨w.heap.size, cap, cur, rfl, hB, heap_alloc_new w _, Nat.zero_le _, hm, by simpa using hs, by simp⟩⟩
/-- A function's answer to each number of a list, wherever the walk stands. -/
def ShownBy (w : World) (fid : Nat) (T : Int → List UInt8) (Z : List Int) : Prop :=
  ∀ z ∈ Z, ∀ u, Below w.heap.size w u → Calls Tryd.prog fid #[.int .i64 z] u fun e u' => e = .returned (.string (mk (T z))) ∧ Below u.heap.size u u'

set_option maxRecDepth 100000 in
set_option maxHeartbeats 2000000 in
theorem joined_any (fid : Nat) (hfid : ∀ args w, (callFunc fid args).run Tryd.prog w = .ok (.enter fid args) w) (T : Int → List UInt8) (M : Nat) (hM2 : M ≤ 1000) (a : Option Addr) (n c : Nat) (Z : List Int) (hM : ∀ z ∈ Z, (T z).length ≤ M) (w : World) (hat : NumsAt w a n Z) (hn : n ≤ 1048576) (hF : ShownBy w fid T Z) :
    Calls Tryd.prog 35 #[.slice a n c, .func (.func fid) #[] #[]] w fun e w' => e = .returned (.string (mk (listText T Z))) ∧ Below w.heap.size w w' := by
  obtain ⟨i0, hi, hz0, hz1, hz2⟩ := info_parts info_str
  have hmk : ∀ u : World, (Instr.makeSlice 96 (.int .i64 0) (.int .i64 (n : Int))).run Tryd.prog u =
      .ok (.slice (some ⟨u.heap.size, 0, none⟩) 0 n) (u.alloc (.cells (madeCells #[.string ⟨#[]⟩] n) 9)) := fun u => by
    have h := run_make (P := Tryd.prog) u 96 9 i0 (.string ⟨#[]⟩) Tryd.underlying96 hi hz0 .i64 .i64 0 (n : Int) (by omega) (by omega) (by rw [hz2]; omega) (by omega)
    rw [Int.toNat_natCast] at h
    simpa [hz1, Value.cells] using h
  have hlen := hat.1
  have HL : RowKit.Hid (Z.length = n) := Lib.hid hlen
  have HAT := Lib.hid hat
  have HF := Lib.hid hF
  have HMM := Lib.hid hM
  have HS0 : RowKit.Hid (OwnsS (w.alloc (.cells (madeCells #[.string ⟨#[]⟩] n) 9)) w.heap.size 9 (.slice (some ⟨w.heap.size, 0, none⟩) 0 n) ((Z.take 0).map fun z => mk (T z)) ∧ Below w.heap.size w (w.alloc (.cells (madeCells #[.string ⟨#[]⟩] n) 9))) := Lib.hid ⟨OwnsS.made _ _ (Nat.le_refl _) (by unfold maxLen; omega) (by simp [size_madeCells]), (Below.refl _ _).alloc (Nat.le_refl _) _⟩
  clear hat hF hM hz0 hz1 hz2 hi hlen
  go_enter Tryd.func35, Tryd.ntmps35
  go_wp2_with fail
  go_loopw [5, 13] (fun pv iv wr => ∃ (k : Nat) (va : Option Addr) (vn vc : Nat), k ≤ n ∧ iv = .int .i64 (k : Int) ∧ pv = .slice va vn vc ∧ RowKit.Hid (OwnsS wr w.heap.size 9 (.slice va vn vc) ((Z.take k).map fun z => mk (T z)) ∧ Below w.heap.size w wr)) (fun _ iv _ => n - (intOf iv).toNat)
  case atStart => exact ⟨0, _, _, _, Nat.zero_le _, rfl, rfl, HS0⟩
  case round =>
    obtain ⟨k, va, vn, vc, hk, rfl, rfl, HI⟩ := hrel
    by_cases hlt : k < n
    · have hkz : k < Z.length := by rw [HL.out]; exact hlt
      obtain ⟨g, off, ea, hg, hcell⟩ := HAT.out.2 (by omega)
      subst ea
      obtain ⟨z, hz⟩ : ∃ z, z = Z[k] := ⟨_, rfl⟩
      have hc0 := (HI.out.2.cell (p := ⟨g, off + k, none⟩) hg).trans (hcell k hkz)
      rw [← hz] at hc0
      have HC := Lib.hid (HF.out z (by rw [hz]; exact List.getElem_mem hkz) wr HI.out.2)
      have HTK : RowKit.Hid ((Z.take (k + 1)).map (fun z => mk (T z)) = (Z.take k).map (fun z => mk (T z)) ++ [mk (T z)]) := Lib.hid (by rw [List.take_succ_eq_append_getElem hkz, List.map_append, hz]; rfl)
      have HTL : RowKit.Hid (((Z.take k).map fun z => mk (T z)).length ≤ 1048576) := Lib.hid (by rw [List.length_map, List.length_take]; omega)
      clear hcell hz hmk
      go_wp2_with fail
      refine HC.out.mono ?_
      rintro e w1 ⟨rfl, hb1⟩
      have HO1 : RowKit.Hid (OwnsS w1 w.heap.size 9 (.slice va vn vc) ((Z.take k).map fun z => mk (T z))) := Lib.hid (ownsRow_news HI.out.1 hb1)
      have HB1 := Lib.hid (keepS HI.out.2 hb1)
      have hsz := HB1.out.size
      clear hb1 hc0
      go_wp2_with (at_builtin; refine wpList_append_str w1 rfl _ _ 96 rfl 9 Tryd.underlying96 info_str w.heap.size (.slice va vn vc) ((Z.take k).map fun z => mk (T z)) rfl HO1.out hsz _ 1 _ (mk (T z)) rfl rfl rfl (by have := HTL.out; omega) ?_; intro v2 w2 hown2 hb2; obtain ⟨va2, vn2, vc2, rfl⟩ := hown2.form; have HO2 := Lib.hid hown2; have HB2 := Lib.hid (HB1.out.trans hb2); clear hown2 hb2)
      go_roundw
      case rel => exact ⟨k + 1, va2, vn2, vc2, by omega, by go_num, rfl, Lib.hid ⟨by rw [HTK.out]; exact HO2.out, HB2.out⟩⟩
      case measure => simp [intOf]; omega
    · have hkn : k = n := by omega
      subst hkn
      have HO : RowKit.Hid (OwnsS wr w.heap.size 9 (.slice va vn vc) (Z.map fun z => mk (T z))) := Lib.hid (by have h := HI.out.1; rw [List.take_of_length_le (by rw [HL.out]; exact Nat.le_refl _)] at h; exact h)
      have HB := Lib.hid HI.out.2
      have HJ : RowKit.Hid ((Lib.join ((Z.map fun z => mk (T z)).map (·.data.toList)) (mk [44]).data.toList).length ≤ 140737488355328) := Lib.hid (by
        rw [joinBytes]
        have h1 := listText_len Z HMM.out
        have h2 : Z.length * (M + 1) ≤ 1048576 * 1001 := Nat.mul_le_mul (by rw [HL.out]; exact hn) (by omega)
        omega)
      clear hmk
      rcases HO.out.shape with ⟨hv, h0⟩ | ⟨g, cp, hv, h1, h2, h3, h4⟩
      · cases hv
        have HZ : RowKit.Hid (Z = []) := Lib.hid (by simpa using h0)
        clear h0
        go_wp2_with fail
        refine (Tryd.strings_Join_none none 0 (mk [44]) wr).mono ?_
        rintro e w9 ⟨rfl, rfl⟩
        go_wp2_with fail
        go_ret
        exact ⟨by rw [HZ.out]; rfl, HB.out⟩
      · cases hv
        have HG := Lib.hid h3
        have HC4 := Lib.hid h4
        have HCP := Lib.hid h1
        clear h1 h2 h3 h4
        have HJC := Lib.hid (Tryd.strings_Join g 0 vc (Z.map fun z => mk (T z)) (mk [44]) wr (fun j x hx => by
          obtain ⟨hj, rfl⟩ := List.getElem?_eq_some_iff.1 hx
          rw [Nat.zero_add]
          exact HC4.out j hj) HG.out (by rw [List.length_map, HL.out]; omega) HCP.out HJ.out)
        rw [joinBytes] at HJC
        generalize hln : (Z.map fun z => mk (T z)).length = ln at HJC ⊢
        clear hln
        go_wp2_with fail
        refine HJC.out.mono ?_
        rintro e w9 ⟨rfl, hb9⟩
        have HB9 := Lib.hid (keepS HB.out hb9)
        clear hb9
        go_wp2_with fail
        go_ret
        exact ⟨rfl, HB9.out⟩
end Go.Proofs.YtnapechlgjcpbaaDoor

/- Layer 6: lists of numbers as texts: package show's values, and the document's list of values. -/
namespace Go.Proofs.YtnapechlgjcpbaaDoor
open Go.RowKit (wrap64 intOf Below)
set_option linter.unusedVariables false
set_option linter.unusedSimpArgs false

theorem value_len (z : Int) (h : InR z) : (valueText z).length ≤ 22 := by
  obtain ⟨h0, h1⟩ := h
  have := Lib.itoa_length_le z (by omega) (by omega)
  unfold valueText
  simp only [List.length_cons]
  omega
def listV (Z : List Int) : List UInt8 := 40 :: (listText valueText Z ++ [41])
theorem enters_value : ∀ args w, (callFunc 39 args).run Tryd.prog w = .ok (.enter 39 args) w := enters_of Tryd.func39 (by kernel_rfl) rfl
set_option maxRecDepth 100000 in
theorem values_any (a : Option Addr) (n c : Nat) (Z : List Int) (w : World) (hat : NumsAt w a n Z) (hn : n ≤ 1048576) (hr : ∀ z ∈ Z, InR z) (hp : PT w) :
    Calls Tryd.prog 54 #[.slice a n c] w fun e w' => e = .returned (.string (mk (listV Z))) ∧ Below w.heap.size w w' := by
  have HC := Lib.hid (joined_any 39 enters_value valueText 22 (by decide) a n c Z (fun z hz => value_len z (hr z hz)) w hat hn (fun z hz u hb => by
    obtain ⟨h0, h1⟩ := hr z hz
    exact value_any z u (by omega) (by omega) (hp.since hb)))
  have HLEN : RowKit.Hid ((listText valueText Z).length ≤ 100000000) := Lib.hid (by
    have h1 := listText_len (M := 22) Z (fun x hx => value_len x (hr x hx))
    have h2 : Z.length ≤ 1048576 := by rw [hat.1]; exact hn
    have h3 : Z.length * (22 + 1) ≤ 1048576 * 23 := Nat.mul_le_mul_right _ h2
    omega)
  have HV : RowKit.Hid (mk (listV Z) = mkB [40] ++ mk (listText valueText Z) ++ mkB [41]) := Lib.hid (by
    show mkB _ = mkB _ ++ mkB _ ++ mkB _
    rw [mkB_append, mkB_append]
    congr 1)
  obtain ⟨t, ht⟩ : ∃ t, t = mk (listText valueText Z) := ⟨_, rfl⟩
  have hts : t.size ≤ 100000000 := by rw [ht, mk_size]; exact HLEN.out
  rw [← ht] at HC HV
  clear hat hr hp ht
  go_enter Tryd.func54, Tryd.ntmps54
  go_wp2_with fail
  refine HC.out.mono ?_
  rintro e w1 ⟨rfl, hb⟩
  have HB := Lib.hid hb
  clear hb
  go_wp2_with fail
  go_ret
  exact ⟨by rw [HV.out]; rfl, HB.out⟩

set_option maxRecDepth 100000 in
set_option maxHeartbeats 2000000 in
theorem list_values (a : Option Addr) (n c : Nat) (Z : List Int) (w : World) (hat : NumsAt w a n Z) (hn : n ≤ 1048576) (hr : ∀ z ∈ Z, InR z) :
    Calls Tryd.prog 18 #[.slice a n c, .int .i64 1] w fun e w' => e = .returned (.string (mk (listText valueText Z))) ∧ Below w.heap.size w w' := by
  have HL : RowKit.Hid (Z.length = n) := Lib.hid hat.1
  have HAT := Lib.hid hat
  have HRR := Lib.hid hr
  clear hat hr
  go_enter Tryd.func18, Tryd.ntmps18
  go_wp2_with fail
  go_loopw [5, 6] (fun sv iv wr => ∃ k : Nat, k ≤ n ∧ iv = .int .i64 (k : Int) ∧ sv = .string (mk (listText valueText (Z.take k))) ∧ RowKit.Hid (Below w.heap.size w wr)) (fun _ iv _ => n - (intOf iv).toNat)
  case atStart => exact ⟨0, Nat.zero_le _, rfl, rfl, Lib.hid (Below.refl _ _)⟩
  case round =>
    obtain ⟨k, hk, rfl, rfl, HI⟩ := hrel
    by_cases hlt : k < n
    · have hkz : k < Z.length := by rw [HL.out]; exact hlt
      obtain ⟨g, off, ea, hg, hcell⟩ := HAT.out.2 (by omega)
      subst ea
      obtain ⟨z, hz⟩ : ∃ z, z = Z[k] := ⟨_, rfl⟩
      have hc0 := (HI.out.cell (p := ⟨g, off + k, none⟩) hg).trans (hcell k hkz)
      rw [← hz] at hc0
      have hzr : InR z := by rw [hz]; exact HRR.out _ (List.getElem_mem hkz)
      obtain ⟨hz0, hz1⟩ := hzr
      have HC := Lib.hid (itoa_ref z wr (by omega) (by omega))
      have HTK : RowKit.Hid (listText valueText (Z.take (k + 1)) = (if Z.take k = [] then [] else listText valueText (Z.take k) ++ [44]) ++ valueText z) := Lib.hid (by rw [List.take_succ_eq_append_getElem hkz, listText_snoc, hz])
      have HLEN : RowKit.Hid ((listText valueText (Z.take k)).length ≤ 100000000) := Lib.hid (by
        have h1 := listText_len (M := 22) (Z.take k) (fun x hx => value_len x (HRR.out x (List.mem_of_mem_take hx)))
        have h2 : (Z.take k).length ≤ 1048576 := by rw [List.length_take]; omega
        have h3 : (Z.take k).length * (22 + 1) ≤ 1048576 * 23 := Nat.mul_le_mul_right _ h2
        omega)
      have HZL := Lib.hid (value_len z ⟨by omega, by omega⟩)
      have hzs : (mkB (Lib.itoa z)).size ≤ 100 := by have := itoa_size z (by omega) (by omega); omega
      obtain ⟨t, ht⟩ : ∃ t, t = mk (listText valueText (Z.take k)) := ⟨_, rfl⟩
      have HT := Lib.hid ht
      have hts : t.size ≤ 100000000 := by rw [ht, mk_size]; exact HLEN.out
      have HVX : RowKit.Hid (mk (valueText z) = mkB [118] ++ mkB (Lib.itoa z)) := Lib.hid (by unfold valueText; rw [mkB_append]; rfl)
      rw [← ht]
      clear hcell hz ht
      by_cases h0 : k = 0
      · subst h0
        rw [Nat.add_zero] at hc0
        have HTX : RowKit.Hid (mk (listText valueText (Z.take (0 + 1))) = t ++ mkB [118] ++ mkB (Lib.itoa z)) := Lib.hid (by
          rw [HTK.out, HT.out]
          show mkB _ = mkB _ ++ _ ++ _
          rw [mkB_append, mkB_append]
          congr 1)
        go_wp2_with fail
        refine HC.out.mono ?_
        rintro e w1 ⟨rfl, hb1⟩
        have HB1 := Lib.hid (keepS HI.out hb1)
        clear hb1
        go_wp2_with fail
        go_roundw
        case rel => exact ⟨1, by omega, by go_num, by rw [show (1 : Nat) = 0 + 1 from rfl, HTX.out]; rfl, HB1⟩
        case measure => simp [intOf]; omega
      · have HTX : RowKit.Hid (mk (listText valueText (Z.take (k + 1))) = t ++ mkB [44] ++ mkB [118] ++ mkB (Lib.itoa z)) := Lib.hid (by
          rw [HTK.out, if_neg (fun h => by have := congrArg List.length h; rw [List.length_take, List.length_nil] at this; omega), HT.out]
          show mkB _ = mkB _ ++ _ ++ _ ++ _
          rw [mkB_append, mkB_append, mkB_append]
          congr 1
          simp [valueText])
        have hk0 : 0 < k := by omega
        go_wp2_with fail
        refine HC.out.mono ?_
        rintro e w1 ⟨rfl, hb1⟩
        have HB1 := Lib.hid (keepS HI.out hb1)
        clear hb1
        go_wp2_with fail
        go_roundw
        case rel => exact ⟨k + 1, by omega, by go_num, by rw [HTX.out]; rfl, HB1⟩
        case measure => simp [intOf]; omega
    · have HE : RowKit.Hid (listText valueText (Z.take k) = listText valueText Z) := Lib.hid (by rw [List.take_of_length_le (by rw [HL.out]; omega)])
      go_wp2_with fail
      go_ret
      exact ⟨by rw [← HE.out]; rfl, HI.out⟩
end Go.Proofs.YtnapechlgjcpbaaDoor
