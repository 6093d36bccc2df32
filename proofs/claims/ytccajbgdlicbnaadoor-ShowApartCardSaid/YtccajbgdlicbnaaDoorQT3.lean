/- Layer 4: small laws that all its walks use: nothing of the program is named here. -/
import Derived.Test.YtccajbgdlicbnaaDoorQKindPlainL
import Derived.Test.YtccajbgdlicbnaaDoorQKindRef
import Derived.Test.YtccajbgdlicbnaaDoorQT0
import Derived.Test.YtccajbgdlicbnaaDoorQT1
import Derived.Test.YtccajbgdlicbnaaDoorQT2
import Derived.Deep.DeepCutAuto
import Derived.Lib.OthersKept
import Derived.Lib.AppendIntMem
import Derived.BigCall
import Derived.Outline
import Derived.Lib.Join
import Derived.Deep.RegionHeld3
import Derived.Defers
import Derived.Recover
namespace Go.Proofs.YtccajbgdlicbnaaDoor
open Go.RowKit (wrap64 intOf Below)
set_option linter.unusedVariables false

theorem keepN {B : Nat} {w u u' : World} (h1 : Below B w u) (hB : B ≤ w.heap.size) (h2 : Below u.heap.size u u') : Below B w u' := h1.trans (h2.mono (Nat.le_trans hB h1.size))
theorem OwnsI.nilcap {w : World} {B : Nat} {e : TypeId} {a : Option Addr} {n c : Nat} {Z : List Int} (h : OwnsI w B e (.slice a n c) Z) : a = none → c = 0 := by
  intro ha
  subst ha
  rcases h.2 with ⟨he, _⟩ | ⟨g, cap, cur, he, _⟩
  · cases he; rfl
  · cases he

/-- Two blocks that were just laid, and what has grown since. -/
theorem cell_laid2 {w w2 : World} {C0 C1 : Array Value} {t0 t1 : TypeId} (hb : Below (w.heap.size + 2) ((w.alloc (.cells C0 t0)).alloc (.cells C1 t1)) w2) :
    (∀ j, w2.cell? ⟨w.heap.size, j, none⟩ = C0[j]?) ∧ (∀ j, w2.cell? ⟨w.heap.size + 1, j, none⟩ = C1[j]?) ∧ (∀ j, w2.frozen? ⟨w.heap.size, j, none⟩ = false) ∧ (∀ j, w2.frozen? ⟨w.heap.size + 1, j, none⟩ = false) := by
  refine ⟨fun j => ?_, fun j => ?_, fun j => ?_, fun j => ?_⟩
  · rw [hb.cell (p := ⟨w.heap.size, j, none⟩) (by simp), World.cell?_alloc_lt _ _ _ (by simp), World.cell?_alloc_mark]
  · have h1 : w.heap.size + 1 = (w.alloc (.cells C0 t0)).heap.size := by simp
    rw [hb.cell (p := ⟨w.heap.size + 1, j, none⟩) (by simp), h1, World.cell?_alloc_mark]
  · rw [hb.frozen (p := ⟨w.heap.size, j, none⟩) (by simp), RowKit.frozen?_alloc_cells, World.frozen?_alloc_at _ _ _ _ rfl]
  · rw [hb.frozen (p := ⟨w.heap.size + 1, j, none⟩) (by simp), World.frozen?_alloc_at _ _ _ _ (by simp)]

end Go.Proofs.YtccajbgdlicbnaaDoor

/- Layer 4, P4.1: the document's To and All, walked: numbers by other names. -/
namespace Go.Proofs.YtccajbgdlicbnaaDoor
open Go.RowKit (wrap64 intOf Below)
set_option linter.unusedVariables false

/-- A number's name. -/
def toV (M : List Int) (n : Int) : Int := if 0 ≤ n ∧ n < M.length then M.getD n.toNat 0 else n
theorem toV_in {M : List Int} {k : Nat} (h : k < M.length) : toV M (k : Int) = M[k] := by
  unfold toV
  rw [if_pos ⟨by omega, by omega⟩, List.getD_eq_getElem?_getD, Int.toNat_natCast, List.getElem?_eq_getElem h]; rfl
theorem toV_out {M : List Int} {n : Int} (h : n < 0 ∨ (M.length : Int) ≤ n) : toV M n = n := by
  unfold toV
  rw [if_neg (by omega)]
def AllPost (Z : List Int) (w : World) (e : Ending) (w' : World) : Prop := ∃ va vn vc, e = .returned (.slice va vn vc) ∧ OwnsI w' w.heap.size 3 (.slice va vn vc) Z ∧ Below w.heap.size w w'
end Go.Proofs.YtccajbgdlicbnaaDoor

/- Layer 4, P4.1: the document's Renamed, walked: a step of values by other names. -/
namespace Go.Proofs.YtccajbgdlicbnaaDoor
open Go.RowKit (wrap64 intOf Below)
set_option linter.unusedVariables false

/-- Block g holds P, and may be written. -/
def Box (u : World) (g : Nat) (P : Array Value) : Prop := (∀ j, u.cell? ⟨g, j, none⟩ = P[j]?) ∧ (∀ j, u.frozen? ⟨g, j, none⟩ = false)
theorem Box.below {u u' : World} {g B : Nat} {P : Array Value} (h : Box u g P) (hb : Below B u u') (hg : g < B) : Box u' g P :=
  ⟨fun j => by rw [hb.cell (p := ⟨g, j, none⟩) hg]; exact h.1 j, fun j => by rw [hb.frozen (p := ⟨g, j, none⟩) hg]; exact h.2 j⟩
theorem Box.other {u : World} {g g' : Nat} {P : Array Value} (h : Box u g P) (hg : g' ≠ g) (j' : Nat) (v : Value) : Box (u.setCell ⟨g', j', none⟩ v) g P :=
  ⟨fun j => (World.cell?_setCell_other (w := u) (a := ⟨g', j', none⟩) (b := ⟨g, j, none⟩) (v := v) (by intro he; cases he; exact hg rfl)).trans (h.1 j), fun j => by rw [World.frozen?_setCell]; exact h.2 j⟩
theorem Box.set {u : World} {g : Nat} {P P' : Array Value} (h : Box u g P) (j : Nat) (v : Value) (hj : j < P.size) (hP : P' = P.setIfInBounds j v) : Box (u.setCell ⟨g, j, none⟩ v) g P' := by
  subst hP
  refine ⟨fun i => ?_, fun i => by rw [World.frozen?_setCell]; exact h.2 i⟩
  by_cases hij : i = j
  · subst hij
    exact (World.cell?_setCell_same (w := u) (a := ⟨g, i, none⟩) (v := v) (u := P[i]) (by rw [h.1 i]; exact Array.getElem?_eq_getElem hj)).trans (by rw [Array.getElem?_setIfInBounds_self_of_lt hj])
  · exact (World.cell?_setCell_other (w := u) (a := ⟨g, j, none⟩) (b := ⟨g, i, none⟩) (v := v) (by intro he; cases he; exact hij rfl)).trans (by rw [h.1 i, Array.getElem?_setIfInBounds_ne (Ne.symm hij)])
theorem Box.fill {u : World} {g : Nat} {a0 a1 a2 a3 a4 a5 a6 a7 v0 v1 v2 v3 v4 v5 v6 v7 : Value} (h : Box u g #[a0, a1, a2, a3, a4, a5, a6, a7]) :
    Box ((((((((u.setCell ⟨g, 0, none⟩ v0).setCell ⟨g, 1, none⟩ v1).setCell ⟨g, 2, none⟩ v2).setCell ⟨g, 3, none⟩ v3).setCell ⟨g, 4, none⟩ v4).setCell ⟨g, 5, none⟩ v5).setCell ⟨g, 6, none⟩ v6).setCell ⟨g, 7, none⟩ v7) g #[v0, v1, v2, v3, v4, v5, v6, v7] := by
  have h0 := h.set (P' := #[v0, a1, a2, a3, a4, a5, a6, a7]) 0 v0 (by simp) (by simp)
  have h1 := h0.set (P' := #[v0, v1, a2, a3, a4, a5, a6, a7]) 1 v1 (by simp) (by simp)
  have h2 := h1.set (P' := #[v0, v1, v2, a3, a4, a5, a6, a7]) 2 v2 (by simp) (by simp)
  have h3 := h2.set (P' := #[v0, v1, v2, v3, a4, a5, a6, a7]) 3 v3 (by simp) (by simp)
  have h4 := h3.set (P' := #[v0, v1, v2, v3, v4, a5, a6, a7]) 4 v4 (by simp) (by simp)
  have h5 := h4.set (P' := #[v0, v1, v2, v3, v4, v5, a6, a7]) 5 v5 (by simp) (by simp)
  have h6 := h5.set (P' := #[v0, v1, v2, v3, v4, v5, v6, a7]) 6 v6 (by simp) (by simp)
  have h7 := h6.set (P' := #[v0, v1, v2, v3, v4, v5, v6, v7]) 7 v7 (by simp) (by simp)
  exact h7
theorem Box.laid {w w2 : World} {C0 C1 : Array Value} {t0 t1 : TypeId} (hb : Below (w.heap.size + 2) ((w.alloc (.cells C0 t0)).alloc (.cells C1 t1)) w2) : Box w2 w.heap.size C0 ∧ Box w2 (w.heap.size + 1) C1 := by
  obtain ⟨h1, h2, h3, h4⟩ := cell_laid2 hb
  exact ⟨⟨h1, h3⟩, ⟨h2, h4⟩⟩
theorem fill_below {B : Nat} {w u : World} (h : Below B w u) (g : Nat) (hg : B ≤ g) (v0 v1 v2 v3 v4 v5 v6 v7 : Value) :
    Below B w ((((((((u.setCell ⟨g, 0, none⟩ v0).setCell ⟨g, 1, none⟩ v1).setCell ⟨g, 2, none⟩ v2).setCell ⟨g, 3, none⟩ v3).setCell ⟨g, 4, none⟩ v4).setCell ⟨g, 5, none⟩ v5).setCell ⟨g, 6, none⟩ v6).setCell ⟨g, 7, none⟩ v7) :=
  (((((((h.setCell hg _).setCell hg _).setCell hg _).setCell hg _).setCell hg _).setCell hg _).setCell hg _).setCell hg _
theorem fill_own {B : Nat} {e : TypeId} {v : Value} {Z : List Int} {u : World} (h : OwnsI u B e v Z) (g : Nat) (hg : g < B) (v0 v1 v2 v3 v4 v5 v6 v7 : Value) :
    OwnsI ((((((((u.setCell ⟨g, 0, none⟩ v0).setCell ⟨g, 1, none⟩ v1).setCell ⟨g, 2, none⟩ v2).setCell ⟨g, 3, none⟩ v3).setCell ⟨g, 4, none⟩ v4).setCell ⟨g, 5, none⟩ v5).setCell ⟨g, 6, none⟩ v6).setCell ⟨g, 7, none⟩ v7) B e v Z :=
  (((((((h.setCell _ _ hg).setCell _ _ hg).setCell _ _ hg).setCell _ _ hg).setCell _ _ hg).setCell _ _ hg).setCell _ _ hg).setCell _ _ hg
theorem fill_other {u : World} {g g' : Nat} {P : Array Value} (h : Box u g P) (hg : g' ≠ g) (v0 v1 v2 v3 v4 v5 v6 v7 : Value) :
    Box ((((((((u.setCell ⟨g', 0, none⟩ v0).setCell ⟨g', 1, none⟩ v1).setCell ⟨g', 2, none⟩ v2).setCell ⟨g', 3, none⟩ v3).setCell ⟨g', 4, none⟩ v4).setCell ⟨g', 5, none⟩ v5).setCell ⟨g', 6, none⟩ v6).setCell ⟨g', 7, none⟩ v7) g P :=
  (((((((h.other hg _ _).other hg _ _).other hg _ _).other hg _ _).other hg _ _).other hg _ _).other hg _ _).other hg _ _

/-- By other names, where it plays a part. -/
def rnI (M : List Int) (b : Bool) (x : Int) : Int := if b then toV M x else 0
def rnL (M : List Int) (b : Bool) (l : List Int) : List Int := if b then l.map (toV M) else []
/-- What stands in the two blocks on the way. -/
structure RenSt (w : World) (u : World) (P : Array Value) (va : Option Addr) (vn vc : Nat) (Z : List Int) : Prop where
  box : Box u w.heap.size P
  res : Box u (w.heap.size + 1) #[.int .i64 0, .int .i64 0, .int .i64 0, .int .i64 0, .int .i64 0, .string ⟨#[]⟩, .slice none 0 0, .bool false]
  own : OwnsI u (w.heap.size + 2) 3 (.slice va vn vc) Z
  bel : Below w.heap.size w u
  siz : w.heap.size + 2 ≤ u.heap.size

theorem RenSt.put {w u : World} {P P' : Array Value} {va : Option Addr} {vn vc : Nat} {Z : List Int} (h : RenSt w u P va vn vc Z) (j : Nat) (v : Value) (hj : j < P.size) (hP : P' = P.setIfInBounds j v) : RenSt w (u.setCell ⟨w.heap.size, j, none⟩ v) P' va vn vc Z :=
  ⟨h.box.set j v hj hP, h.res.other (by omega) _ _, h.own.setCell _ _ (by simp), h.bel.setCell (Nat.le_refl _) _, by simpa using h.siz⟩
theorem RenSt.step {w u u' : World} {P : Array Value} {va va' : Option Addr} {vn vc vn' vc' : Nat} {Z Z' : List Int} (h : RenSt w u P va vn vc Z) (hb : Below u.heap.size u u') (ho : OwnsI u' u.heap.size 3 (.slice va' vn' vc') Z') : RenSt w u' P va' vn' vc' Z' :=
  ⟨h.box.below hb (by have := h.siz; omega), h.res.below hb (by have := h.siz; omega), ho.mono h.siz, h.bel.trans (hb.mono (by have := h.siz; omega)), Nat.le_trans h.siz hb.size⟩
theorem rn_yes {M : List Int} {b : Bool} {A x : Int} (h : b = true) (hx : pickI b A = x) : rnI M b A = toV M x := by
  subst h; subst hx; rfl
theorem rn_no {M : List Int} {b : Bool} {A x : Int} (h : b = false) (hx : pickI b A = x) : rnI M b A = x := by
  subst h; subst hx; rfl

end Go.Proofs.YtccajbgdlicbnaaDoor

/- A string's iterator, moved on: what stands otherwise. Nothing of the program is named here. -/
namespace Go.Proofs.YtccajbgdlicbnaaDoor
open Go.RowKit (wrap64 intOf Below)
set_option linter.unusedVariables false

/-- All blocks but one stand as they stood. -/
structure SameBut (r : Nat) (u u' : World) : Prop where
  size : u'.heap.size = u.heap.size
  same : ∀ i, i ≠ r → u'.heap[i]? = u.heap[i]?
  bel : ∀ B, B ≤ r → Below B u u'
  cell : ∀ p : Addr, p.block ≠ r → u'.cell? p = u.cell? p
  frozen : ∀ p : Addr, p.block ≠ r → u'.frozen? p = u.frozen? p
theorem iterAt_same (u : World) (r : Nat) (s : ByteArray) (pos : Nat) : SameBut r u (u.iterAt r s pos) := by
  refine ⟨Lib.iterAt_size u r s pos, fun i hi => Lib.iterAt_other u r i s pos hi, fun B hB => Lib.below_iterAt (Below.refl B u) hB s pos, fun p hp => ?_, fun p hp => ?_⟩
  · simp only [World.cell?, Lib.iterAt_other u r p.block s pos hp]
  · simp only [World.frozen?, Lib.iterAt_other u r p.block s pos hp]
theorem Box.same {u u' : World} {r g : Nat} {P : Array Value} (h : Box u g P) (hs : SameBut r u u') (hg : g ≠ r) : Box u' g P :=
  ⟨fun j => by rw [hs.cell ⟨g, j, none⟩ hg]; exact h.1 j, fun j => by rw [hs.frozen ⟨g, j, none⟩ hg]; exact h.2 j⟩
theorem Box.new (w : World) (C : Array Value) (t : TypeId) {n : Nat} (hn : n = w.heap.size) : Box (w.alloc (.cells C t)) n C := by
  subst hn
  exact ⟨fun j => World.cell?_alloc_mark _ _ _ _ _, fun j => World.frozen?_alloc_at _ _ _ _ rfl⟩
theorem Box.alloc {u : World} {g : Nat} {P : Array Value} (h : Box u g P) (hg : g < u.heap.size) (o : Obj) : Box (u.alloc o) g P := h.below ((Below.refl u.heap.size u).alloc (Nat.le_refl _) o) hg
theorem OwnsI.same {u u' : World} {r B : Nat} {e : TypeId} {v : Value} {Z : List Int} (h : OwnsI u B e v Z) (hs : SameBut r u u') (hr : r < B) : OwnsI u' B e v Z := by
  refine ⟨h.1, ?_⟩
  rcases h.2 with hn | ⟨g, cap, cur, rfl, hg, hh, rest⟩
  · exact .inl hn
  · refine .inr ⟨g, cap, cur, rfl, hg, ?_, rest⟩
    rw [hs.same g (by omega)]
    exact hh
theorem NumsAt.same {u u' : World} {r : Nat} {a : Option Addr} {n : Nat} {Z : List Int} (h : NumsAt u a n Z) (hs : SameBut r u u') (hr : ∀ ad, a = some ad → ad.block ≠ r) : NumsAt u' a n Z := by
  refine ⟨h.1, fun hn => ?_⟩
  obtain ⟨g, off, e, hg, hc⟩ := h.2 hn
  refine ⟨g, off, e, by rw [hs.size]; exact hg, fun j hj => ?_⟩
  rw [hs.cell ⟨g, off + j, none⟩ (hr ⟨g, off, none⟩ e)]
  exact hc j hj
end Go.Proofs.YtccajbgdlicbnaaDoor

/- Layer 4, P4.1: package kind's Plain, walked: the letters are gone through one by one, and each field that plays a part is taken over. -/
namespace Go.Proofs.YtccajbgdlicbnaaDoor
open Go.RowKit (wrap64 intOf Below)
set_option linter.unusedVariables false

/-- Whether a field is among the first k. -/
def hasT (K : Int) (k : Nat) (f : UInt8) : Bool := ((fieldsL K).take k).contains f
theorem hasT_zero (K : Int) (f : UInt8) : hasT K 0 f = false := by simp [hasT]
theorem hasT_next {K : Int} {k : Nat} {g : UInt8} (f : UInt8) (hk : k < (fieldsL K).length) (hg : (fieldsL K)[k] = g) : hasT K (k + 1) f = (hasT K k f || f == g) := by
  unfold hasT
  rw [List.take_succ_eq_append_getElem hk, hg, Bool.eq_iff_iff]
  simp
theorem hasT_all {K : Int} {k : Nat} (f : UInt8) (hk : (fieldsL K).length ≤ k) : hasT K k f = hasB K f := by
  unfold hasT hasB
  rw [List.take_of_length_le hk]
theorem letters (K : Int) : ∀ f ∈ fieldsL K, f = 78 ∨ f = 83 ∨ f = 65 ∨ f = 66 ∨ f = 67 ∨ f = 76 ∨ f = 75 := by
  rcases kinds K with h | h
  · rcases h with rfl | rfl | rfl | rfl | rfl | rfl | rfl | rfl | rfl | rfl | rfl | rfl | rfl | rfl | rfl | rfl | rfl | rfl | rfl | rfl | rfl | rfl | rfl | rfl | rfl | rfl
    all_goals decide
  · rw [fields_none h]
    intro f hf
    cases hf
/-- The letters as a text. -/
def fstr (K : Int) : ByteArray := mk (fieldsL K)
/-- The step as far as its first k letters tell it. -/
def plainT (K A B C N : Int) (S : ByteArray) (T : Bool) (k : Nat) (l : Value) : Array Value := #[.int .i64 K, .int .i64 (pickI (hasT K k 65) A), .int .i64 (pickI (hasT K k 66) B), .int .i64 (pickI (hasT K k 67) C), .int .i64 (pickI (hasT K k 78) N), .string (pickS (hasT K k 83) S), l, .bool (hasT K k 75 && T)]
structure PlSt (w : World) (u : World) (K A B C N : Int) (S : ByteArray) (la : Option Addr) (ln lc : Nat) (T : Bool) (L : List Int) (k : Nat) (va : Option Addr) (vn vc : Nat) : Prop where
  inb : Box u w.heap.size #[.int .i64 K, .int .i64 A, .int .i64 B, .int .i64 C, .int .i64 N, .string S, .slice la ln lc, .bool T]
  res : Box u (w.heap.size + 1) #[.int .i64 0, .int .i64 0, .int .i64 0, .int .i64 0, .int .i64 0, .string ⟨#[]⟩, .slice none 0 0, .bool false]
  box : Box u (w.heap.size + 2) (plainT K A B C N S T k (.slice va vn vc))
  it : u.heap[w.heap.size + 3]? = some (.stringIter (fstr K) k)
  own : OwnsI u (w.heap.size + 4) 3 (.slice va vn vc) (pickL (hasT K k 76) L)
  bel : Below w.heap.size w u
  siz : w.heap.size + 4 ≤ u.heap.size
theorem PlSt.at_ {w u : World} {K A B C N : Int} {S : ByteArray} {la : Option Addr} {ln lc : Nat} {T : Bool} {L : List Int} {k : Nat} {va : Option Addr} {vn vc : Nat} (h : PlSt w u K A B C N S la ln lc T L k va vn vc) : True := trivial

/-- The iterator moved on. -/
structure PlMv (w : World) (u : World) (K A B C N : Int) (S : ByteArray) (la : Option Addr) (ln lc : Nat) (T : Bool) (L : List Int) (k : Nat) (va : Option Addr) (vn vc : Nat) : Prop where
  inb : Box u w.heap.size #[.int .i64 K, .int .i64 A, .int .i64 B, .int .i64 C, .int .i64 N, .string S, .slice la ln lc, .bool T]
  res : Box u (w.heap.size + 1) #[.int .i64 0, .int .i64 0, .int .i64 0, .int .i64 0, .int .i64 0, .string ⟨#[]⟩, .slice none 0 0, .bool false]
  box : Box u (w.heap.size + 2) (plainT K A B C N S T k (.slice va vn vc))
  it : u.heap[w.heap.size + 3]? = some (.stringIter (fstr K) (k + 1))
  own : OwnsI u (w.heap.size + 4) 3 (.slice va vn vc) (pickL (hasT K k 76) L)
  bel : Below w.heap.size w u
  siz : w.heap.size + 4 ≤ u.heap.size
theorem PlSt.move {w u : World} {K A B C N : Int} {S : ByteArray} {la : Option Addr} {ln lc : Nat} {T : Bool} {L : List Int} {k : Nat} {va : Option Addr} {vn vc : Nat} (h : PlSt w u K A B C N S la ln lc T L k va vn vc) :
    PlMv w (u.iterAt (w.heap.size + 3) (fstr K) (k + 1)) K A B C N S la ln lc T L k va vn vc :=
  have hs := iterAt_same u (w.heap.size + 3) (fstr K) (k + 1)
  ⟨h.inb.same hs (by omega), h.res.same hs (by omega), h.box.same hs (by omega), Lib.iterAt_heap _ _ _ _ _ h.it, h.own.same hs (by omega), h.bel.trans (hs.bel _ (by omega)), by rw [hs.size]; exact h.siz⟩
theorem heap_setCell_other {u : World} {p : Addr} {v : Value} {i : Nat} (h : i ≠ p.block) : (u.setCell p v).heap[i]? = u.heap[i]? := Below.heap_setCell u p v i h
theorem setCell_size (u : World) (p : Addr) (v : Value) : (u.setCell p v).heap.size = u.heap.size := by
  show (u.heap.modify _ _).size = _
  rw [Array.size_modify]
/-- A field is put. -/
theorem PlMv.put {w u : World} {K A B C N : Int} {S : ByteArray} {la : Option Addr} {ln lc : Nat} {T : Bool} {L : List Int} {k : Nat} {va : Option Addr} {vn vc : Nat} (h : PlMv w u K A B C N S la ln lc T L k va vn vc)
    (j : Nat) (v : Value) (hj : j < 8) (hP : plainT K A B C N S T (k + 1) (.slice va vn vc) = (plainT K A B C N S T k (.slice va vn vc)).setIfInBounds j v) (hL : hasT K (k + 1) 76 = hasT K k 76) :
    PlSt w (u.setCell ⟨w.heap.size + 2, j, none⟩ v) K A B C N S la ln lc T L (k + 1) va vn vc :=
  ⟨h.inb.other (by omega) _ _, h.res.other (by omega) _ _, h.box.set j v hj hP, by rw [heap_setCell_other (by show w.heap.size + 3 ≠ w.heap.size + 2; omega)]; exact h.it, by rw [hL]; exact h.own.setCell _ _ (by show w.heap.size + 2 < w.heap.size + 4; omega), h.bel.setCell (by show w.heap.size ≤ w.heap.size + 2; omega) _, by rw [setCell_size]; exact h.siz⟩
/-- The list is put. -/
theorem PlMv.putL {w u u' : World} {K A B C N : Int} {S : ByteArray} {la : Option Addr} {ln lc : Nat} {T : Bool} {L : List Int} {k : Nat} {va va' : Option Addr} {vn vc vn' vc' : Nat} (h : PlMv w u K A B C N S la ln lc T L k va vn vc)
    (hb : Below (w.heap.size + 4) u u') (ho : OwnsI u' (w.heap.size + 4) 3 (.slice va' vn' vc') L) (hP : plainT K A B C N S T (k + 1) (.slice va' vn' vc') = (plainT K A B C N S T k (.slice va vn vc)).setIfInBounds 6 (.slice va' vn' vc')) (hL : hasT K (k + 1) 76 = true) :
    PlSt w (u'.setCell ⟨w.heap.size + 2, 6, none⟩ (.slice va' vn' vc')) K A B C N S la ln lc T L (k + 1) va' vn' vc' :=
  ⟨(h.inb.below hb (by omega)).other (by omega) _ _, (h.res.below hb (by omega)).other (by omega) _ _, (h.box.below hb (by omega)).set 6 _ (by simp [plainT]) hP, by rw [heap_setCell_other (by show w.heap.size + 3 ≠ w.heap.size + 2; omega), hb.block _ (by omega)]; exact h.it, by rw [hL]; exact ho.setCell _ _ (by show w.heap.size + 2 < w.heap.size + 4; omega), (h.bel.trans (hb.mono (by omega))).setCell (by show w.heap.size ≤ w.heap.size + 2; omega) _, by rw [setCell_size]; exact Nat.le_trans h.siz hb.size⟩

section
variable {K A B C N : Int} {S : ByteArray} {T : Bool} {k : Nat} {l : Value}
theorem plainT_zero (K A B C N : Int) (S : ByteArray) (T : Bool) (l : Value) : plainT K A B C N S T 0 l = #[.int .i64 K, .int .i64 0, .int .i64 0, .int .i64 0, .int .i64 0, .string ⟨#[]⟩, l, .bool false] := by
  simp [plainT, hasT_zero, pickI, pickS]
theorem put_N (hk : k < (fieldsL K).length) (hg : (fieldsL K)[k] = 78) : plainT K A B C N S T (k + 1) l = (plainT K A B C N S T k l).setIfInBounds 4 (.int .i64 N) ∧ hasT K (k + 1) 76 = hasT K k 76 := by
  simp [plainT, hasT_next _ hk hg, pickI]
theorem put_S (hk : k < (fieldsL K).length) (hg : (fieldsL K)[k] = 83) : plainT K A B C N S T (k + 1) l = (plainT K A B C N S T k l).setIfInBounds 5 (.string S) ∧ hasT K (k + 1) 76 = hasT K k 76 := by
  simp [plainT, hasT_next _ hk hg, pickS]
theorem put_A (hk : k < (fieldsL K).length) (hg : (fieldsL K)[k] = 65) : plainT K A B C N S T (k + 1) l = (plainT K A B C N S T k l).setIfInBounds 1 (.int .i64 A) ∧ hasT K (k + 1) 76 = hasT K k 76 := by
  simp [plainT, hasT_next _ hk hg, pickI]
theorem put_B (hk : k < (fieldsL K).length) (hg : (fieldsL K)[k] = 66) : plainT K A B C N S T (k + 1) l = (plainT K A B C N S T k l).setIfInBounds 2 (.int .i64 B) ∧ hasT K (k + 1) 76 = hasT K k 76 := by
  simp [plainT, hasT_next _ hk hg, pickI]
theorem put_C (hk : k < (fieldsL K).length) (hg : (fieldsL K)[k] = 67) : plainT K A B C N S T (k + 1) l = (plainT K A B C N S T k l).setIfInBounds 3 (.int .i64 C) ∧ hasT K (k + 1) 76 = hasT K k 76 := by
  simp [plainT, hasT_next _ hk hg, pickI]
theorem put_K (hk : k < (fieldsL K).length) (hg : (fieldsL K)[k] = 75) : plainT K A B C N S T (k + 1) l = (plainT K A B C N S T k l).setIfInBounds 7 (.bool T) ∧ hasT K (k + 1) 76 = hasT K k 76 := by
  simp [plainT, hasT_next _ hk hg]
theorem put_L {l' : Value} (hk : k < (fieldsL K).length) (hg : (fieldsL K)[k] = 76) : plainT K A B C N S T (k + 1) l' = (plainT K A B C N S T k l).setIfInBounds 6 l' ∧ hasT K (k + 1) 76 = true := by
  simp [plainT, hasT_next _ hk hg]
end
theorem fstr_at {K : Int} {k : Nat} (h : k < (fieldsL K).length) (h' : k < (fstr K).size) : (fstr K)[k] = (fieldsL K)[k] := by
  show (fieldsL K).toArray[k]'(by simpa using h) = _
  rfl
end Go.Proofs.YtccajbgdlicbnaaDoor

/- Layer 6, P6.2: package show's Op, walked: a step's name, and each field that shows behind a blank. -/
namespace Go.Proofs.YtccajbgdlicbnaaDoor
open Go.RowKit (wrap64 intOf Below)
set_option linter.unusedVariables false
set_option linter.unusedSimpArgs false

theorem str_same {a b : ByteArray} (h : a = b) : (a.toList != b.toList) = false := by rw [h]; simp
theorem str_diff {a b : ByteArray} (h : a ≠ b) : (a.toList != b.toList) = true := by
  rw [bne_iff_ne]
  intro he
  have h1 := Lib.toList_data a
  have h2 := Lib.toList_data b
  rw [h1, h2] at he
  exact h (by cases a; cases b; simp at he; rw [he])
theorem keepS {w u w' : World} (h1 : Below w.heap.size w u) (h2 : Below u.heap.size u w') : Below w.heap.size w w' := h1.trans (h2.mono h1.size)
theorem builderAt_news {T e : TypeId} {B b : Nat} {p : Value} {bs : List Value} {w w' : World} (h : Lib.BuilderAtF T e B b p bs w) (hb : Below w.heap.size w w') : Lib.BuilderAtF T e B b p bs w' := by
  obtain ⟨hB, v, hbk, hown, hne⟩ := h
  refine ⟨hB, v, (hb.block b (Array.getElem?_eq_some_iff.1 hbk).1).trans hbk, ⟨hown.1, ?_⟩, hne⟩
  rcases hown.2 with h' | ⟨g, cap, cur, fz, hv, hg, hh, rest⟩
  · exact .inl h'
  · exact .inr ⟨g, cap, cur, fz, hv, hg, (hb.block g (Array.getElem?_eq_some_iff.1 hh).1).trans hh, rest⟩
theorem builder_news {T e : TypeId} {B b : Nat} {bs : List Value} {w w' : World} (h : Lib.IsBuilderF T e B b bs w) (hb : Below w.heap.size w w') : Lib.IsBuilderF T e B b bs w' :=
  h.elim (fun x => .inl (builderAt_news x hb)) (fun x => .inr (builderAt_news x hb))
theorem builder_lt {T e : TypeId} {B b : Nat} {bs : List Value} {w : World} (h : Lib.IsBuilderF T e B b bs w) : b < w.heap.size := by
  rcases h with ⟨_, v, hbk, _⟩ | ⟨_, v, hbk, _⟩ <;> exact (Array.getElem?_eq_some_iff.1 hbk).1

/-- One field behind a blank, if it shows. -/
def shownF (F : UInt8 → List UInt8) (c : UInt8) : List UInt8 := if F c = [] then [] else 32 :: F c
def fieldsText (F : UInt8 → List UInt8) (cs : List UInt8) : List UInt8 := (cs.map (shownF F)).flatten
def opText (K : Int) (F : UInt8 → List UInt8) : List UInt8 := nameOf stepNames K ++ fieldsText F (fieldsL K)
theorem fieldsText_snoc (F : UInt8 → List UInt8) (cs : List UInt8) (c : UInt8) : fieldsText F (cs ++ [c]) = fieldsText F cs ++ shownF F c := by simp [fieldsText]
theorem fieldsText_len {F : UInt8 → List UInt8} {M : Nat} : ∀ (cs : List UInt8), (∀ c ∈ cs, (F c).length ≤ M) → (fieldsText F cs).length ≤ cs.length * (M + 1)
  | [], _ => by simp [fieldsText]
  | c :: cs, h => by
    have h1 := fieldsText_len cs (fun x hx => h x (by simp [hx]))
    have h2 := h c (by simp)
    have h3 : (shownF F c).length ≤ M + 1 := by unfold shownF; split <;> simp <;> omega
    have h4 : fieldsText F (c :: cs) = shownF F c ++ fieldsText F cs := by simp [fieldsText]
    rw [h4, List.length_append, List.length_cons, Nat.add_mul]
    omega
theorem names_len : ∀ n : Int, (nameOf stepNames n).length ≤ 5 := by
  intro n
  unfold nameOf
  split
  · simp
  · rename_i h
    obtain ⟨k, rfl⟩ := Int.eq_ofNat_of_zero_le (show 0 ≤ n by omega)
    have hk : k < stepNames.length := by omega
    have hall : ∀ k, k < stepNames.length → (stepNames.getD k []).length ≤ 5 := by decide
    exact hall k hk

theorem fields_few (K : Int) : (fieldsL K).length ≤ 7 := by
  rcases kinds K with h | h
  · rcases h with rfl | rfl | rfl | rfl | rfl | rfl | rfl | rfl | rfl | rfl | rfl | rfl | rfl | rfl | rfl | rfl | rfl | rfl | rfl | rfl | rfl | rfl | rfl | rfl | rfl | rfl
    all_goals decide
  · rw [fields_none h]; decide
set_option maxRecDepth 100000 in
theorem step_any (K : Int) (w : World) (hs : SN w) :
    Calls Tryd.prog 30 #[.int .i64 K] w fun e w' => e = .returned (.string (mk (nameOf stepNames K))) ∧ w = w' := by
  by_cases h0 : K < 0
  · have HF : RowKit.Hid (nameOf stepNames K = [63]) := Lib.hid (by unfold nameOf; rw [if_pos (.inl h0)])
    clear hs
    go_enter Tryd.func30, Tryd.ntmps30
    go_wp2
    go_ret
    exact ⟨by rw [HF.out]; rfl, rfl⟩
  · by_cases h1 : 25 < K
    · have HF : RowKit.Hid (nameOf stepNames K = [63]) := Lib.hid (by unfold nameOf; rw [if_pos (.inr (by simp [stepNames]; omega))])
      have h0' : 0 ≤ K := by omega
      have h1' : 26 ≤ K := by omega
      clear hs h0
      go_enter Tryd.func30, Tryd.ntmps30
      go_wp2
      go_ret
      exact ⟨by rw [HF.out]; rfl, rfl⟩
    · obtain ⟨k, rfl⟩ := Int.eq_ofNat_of_zero_le (show 0 ≤ K by omega)
      have hk : k < 26 := by omega
      have hcell := hs k hk
      have HF : RowKit.Hid (nameOf stepNames (k : Int) = stepNames[k]) := Lib.hid (by unfold nameOf; rw [if_neg (by simp [stepNames]; omega), Int.toNat_natCast, List.getD_eq_getElem?_getD, List.getElem?_eq_getElem hk]; rfl)
      have h0' : ¬ ((k : Int) < 0) := by omega
      have h1' : ¬ (26 ≤ (k : Int)) := by omega
      clear hs h0 h1
      go_enter Tryd.func30, Tryd.ntmps30
      go_wp2
      go_ret
      exact ⟨by rw [HF.out]; rfl, rfl⟩

/-- What a field's call comes to, wherever the walk stands. -/
def FieldsAre (w : World) (v : Value) (K : Int) (F : UInt8 → List UInt8) (M : Nat) : Prop :=
  ∀ c ∈ fieldsL K, (F c).length ≤ M ∧ ∀ u, Below w.heap.size w u → Calls Tryd.prog 32 #[v, .int .i32 (c.toNat : Int)] u fun e u' => e = .returned (.string (mk (F c))) ∧ Below u.heap.size u u'

set_option maxRecDepth 100000 in
set_option maxHeartbeats 4000000 in
theorem show_op (K A B C N : Int) (S : ByteArray) (la : Option Addr) (ln lc : Nat) (T : Bool) (F : UInt8 → List UInt8) (M : Nat) (hM : M ≤ 1000000000000) (w : World) (hft : FT w) (hs : SN w)
    (HF : FieldsAre w (.agg #[.int .i64 K, .int .i64 A, .int .i64 B, .int .i64 C, .int .i64 N, .string S, .slice la ln lc, .bool T]) K F M) :
    Calls Tryd.prog 13 #[.agg #[.int .i64 K, .int .i64 A, .int .i64 B, .int .i64 C, .int .i64 N, .string S, .slice la ln lc, .bool T]] w fun e w' => e = .returned (.string (mk (opText K F))) ∧ Below w.heap.size w w' := by
  obtain ⟨X, hX⟩ : ∃ X, X = w.heap.size := ⟨_, rfl⟩
  obtain ⟨W1, hW1⟩ : ∃ W1, W1 = w.alloc (.cells #[.int .i64 K, .int .i64 A, .int .i64 B, .int .i64 C, .int .i64 N, .string S, .slice la ln lc, .bool T] 50) := ⟨_, rfl⟩
  have hbx : W1.heap[X]? = some (.cells #[.int .i64 K, .int .i64 A, .int .i64 B, .int .i64 C, .int .i64 N, .string S, .slice la ln lc, .bool T] 50 (0, 0)) := by rw [hW1, hX]; exact heap_alloc_new w _
  have hz1 : W1.heap.size = X + 1 := by rw [hW1, hX]; simp
  have hb1 : Below w.heap.size w W1 := by rw [hW1]; exact (Below.refl _ _).alloc (Nat.le_refl _) _
  obtain ⟨W2, hW2⟩ : ∃ W2, W2 = W1.alloc (.cells #[.pointer none, .slice none 0 0] 55) := ⟨_, rfl⟩
  have HB2 : RowKit.Hid (Lib.IsBuilderF 55 5 (X + 1) (X + 1) (Lib.byteCells []) W2) := Lib.hid (by rw [hW2, ← hz1]; exact Lib.IsBuilderF.of (Lib.fresh_isBuilder _ _ W1))
  have hb2 : Below W1.heap.size W1 W2 := by rw [hW2]; exact (Below.refl _ _).alloc (Nat.le_refl _) _
  have HZ2 : RowKit.Hid (X + 1 ≤ W2.heap.size) := Lib.hid (by rw [hW2]; simp; omega)
  have HW2 : RowKit.Hid (Below w.heap.size w W2) := Lib.hid (keepS hb1 hb2)
  have HBX : RowKit.Hid (∀ u, Below (X + 1) W2 u → Below w.heap.size w u ∧ (∀ j, u.cell? ⟨X, j, none⟩ = (#[.int .i64 K, .int .i64 A, .int .i64 B, .int .i64 C, .int .i64 N, .string S, .slice la ln lc, .bool T] : Array Value)[j]?)) := Lib.hid fun u hb =>
    ⟨HW2.out.trans (hb.mono (by omega)), fun j => by
      have : u.heap[X]? = _ := (hb.block X (by omega)).trans ((hb2.block X (by omega)).trans hbx)
      simp [World.cell?, this]⟩
  have HX := Lib.hid hX
  have HS := Lib.hid hs
  have HFT := Lib.hid hft
  have HN := Lib.hid (names_len K)
  have HFF := Lib.hid HF
  clear hs hft hb1 hb2 hbx HF
  go_enter Tryd.func13, Tryd.ntmps13
  go_upto_region 2 with fail
  rw [← hX, ← hW1]
  try rw [hz1]
  rw [← hW2]
  clear hW2 hW1 hX hz1
  have x0 := (HBX.out W2 (Below.refl _ _)).2 0
  go_wp2_with fail
  refine (step_any K W2 (StrTab.since HS.out HW2.out)).mono ?_
  rintro e w1 ⟨rfl, rfl⟩
  go_wp2_with fail
  refine (write_text (X + 1) (X + 1) _ (mk (nameOf stepNames K)) W2 HB2.out (by rw [mk_size]; simp [Lib.byteCells]; have := HN.out; omega) HZ2.out).mono ?_
  rintro e w3 ⟨rfl, h3, hb3, hk3⟩
  have HB3 : RowKit.Hid (Lib.IsBuilderF 55 5 (X + 1) (X + 1) (Lib.byteCells (nameOf stepNames K)) w3) := Lib.hid (.inr (by rw [Lib.strCells_eq, mk_list] at h3; simpa [Lib.byteCells] using h3))
  have HC3 := Lib.hid hb3
  have x3 := (HBX.out w3 hb3).2 0
  have HF3 := Lib.hid (HFT.out.since (HBX.out w3 hb3).1)
  clear h3 hb3 hk3 x0
  go_wp2_with fail
  refine (kfields_any K w3 HF3.out).mono ?_
  rintro e w4 ⟨rfl, rfl⟩
  clear x3
  obtain ⟨it, hit⟩ : ∃ it, it = w3.heap.size := ⟨_, rfl⟩
  have HSZ : RowKit.Hid ((mk (fieldsL K)).size = (fieldsL K).length) := Lib.hid (mk_size _)
  have HIT : RowKit.Hid (X + 1 < it) := Lib.hid (by rw [hit]; exact builder_lt HB3.out)
  have hstart : RowKit.Hid (Lib.IsBuilderF 55 5 (X + 1) (X + 1) (Lib.byteCells (nameOf stepNames K ++ fieldsText F ((fieldsL K).take 0))) (w3.iter (mk (fieldsL K)) 0) ∧ (w3.iter (mk (fieldsL K)) 0).heap[it]? = some (.stringIter (mk (fieldsL K)) 0) ∧ Below (X + 1) W2 (w3.iter (mk (fieldsL K)) 0)) := Lib.hid ⟨by have h : Lib.IsBuilderF 55 5 (X + 1) (X + 1) (Lib.byteCells (nameOf stepNames K)) (w3.iter (mk (fieldsL K)) 0) := HB3.out.alloc _; simpa [fieldsText] using h, by rw [hit]; exact World.iter_heap w3 (mk (fieldsL K)) 0, HC3.out.alloc (Nat.le_trans HZ2.out HC3.out.size) _⟩
  clear HB3 HC3 HF3
  go_wp2_with fail
  rw [← hit]
  generalize hw4 : w3.iter (mk (fieldsL K)) 0 = w4 at hstart ⊢
  clear hw4 hit
  go_loopw [] (fun wr => ∃ k : Nat, k ≤ (fieldsL K).length ∧ RowKit.Hid (Lib.IsBuilderF 55 5 (X + 1) (X + 1) (Lib.byteCells (nameOf stepNames K ++ fieldsText F ((fieldsL K).take k))) wr ∧ wr.heap[it]? = some (.stringIter (mk (fieldsL K)) k) ∧ Below (X + 1) W2 wr)) (fun wr => (fieldsL K).length - wr.iterPos it)
  case atStart => exact ⟨0, Nat.zero_le _, hstart⟩
  case round =>
    obtain ⟨k, hk, HI⟩ := hrel
    have hitp := HI.out.2.1
    have HLEN : RowKit.Hid (∀ q, q ≤ (fieldsL K).length → (nameOf stepNames K ++ fieldsText F ((fieldsL K).take q)).length ≤ 5 + (fieldsL K).length * (M + 1)) := Lib.hid fun q hq => by
      have h1 := fieldsText_len (F := F) (M := M) ((fieldsL K).take q) (fun c hc => (HFF.out c (List.mem_of_mem_take hc)).1)
      have h2 := HN.out
      have h3 : ((fieldsL K).take q).length * (M + 1) ≤ (fieldsL K).length * (M + 1) := Nat.mul_le_mul_right _ (by rw [List.length_take]; omega)
      rw [List.length_append]
      omega
    by_cases hlt : k < (fieldsL K).length
    · obtain ⟨c, hg⟩ : ∃ c, (fieldsL K)[k] = c := ⟨_, rfl⟩
      have hmem : c ∈ fieldsL K := by rw [← hg]; exact List.getElem_mem _
      have hks : k < (mk (fieldsL K)).size := by rw [HSZ.out]; exact hlt
      have hgs : (mk (fieldsL K))[k]'hks = c := by rw [← hg]; rfl
      have h128 : c.toNat < 128 := by
        rcases letters K c hmem with rfl | rfl | rfl | rfl | rfl | rfl | rfl <;> decide
      have hnx := fun ty => Lib.run_next_ascii_at (P := Tryd.prog) wr it (mk (fieldsL K)) k ty hitp hks (by rw [hgs]; exact h128)
      rw [hgs] at hnx
      have HT : RowKit.Hid (fieldsText F ((fieldsL K).take (k + 1)) = fieldsText F ((fieldsL K).take k) ++ shownF F c) := Lib.hid (by rw [List.take_succ_eq_append_getElem hlt, hg, fieldsText_snoc])
      obtain ⟨u, hu⟩ : ∃ u, u = wr.iterAt it (mk (fieldsL K)) (k + 1) := ⟨_, rfl⟩
      rw [← hu] at hnx
      have HU : RowKit.Hid (Lib.IsBuilderF 55 5 (X + 1) (X + 1) (Lib.byteCells (nameOf stepNames K ++ fieldsText F ((fieldsL K).take k))) u ∧ u.heap[it]? = some (.stringIter (mk (fieldsL K)) (k + 1)) ∧ Below (X + 1) W2 u) := Lib.hid (by rw [hu]; exact ⟨HI.out.1.iterAt hitp _, Lib.iterAt_heap wr it _ k _ hitp, Lib.below_iterAt HI.out.2.2 (by have := HIT.out; omega) _ _⟩)
      have HPOS : RowKit.Hid (wr.iterPos it = k) := Lib.hid (by simp [World.iterPos, hitp])
      have hbx := HBX.out u HU.out.2.2
      have x0 : u.cell? ⟨X, 0, none⟩ = some (.int .i64 K) := hbx.2 0
      have x1 : u.cell? ⟨X, 1, none⟩ = some (.int .i64 A) := hbx.2 1
      have x2 : u.cell? ⟨X, 2, none⟩ = some (.int .i64 B) := hbx.2 2
      have x3 : u.cell? ⟨X, 3, none⟩ = some (.int .i64 C) := hbx.2 3
      have x4 : u.cell? ⟨X, 4, none⟩ = some (.int .i64 N) := hbx.2 4
      have x5 : u.cell? ⟨X, 5, none⟩ = some (.string S) := hbx.2 5
      have x6 : u.cell? ⟨X, 6, none⟩ = some (.slice la ln lc) := hbx.2 6
      have x7 : u.cell? ⟨X, 7, none⟩ = some (.bool T) := hbx.2 7
      have HFC := Lib.hid ((HFF.out c hmem).2 u hbx.1)
      have HFM := Lib.hid (HFF.out c hmem).1
      have HKL : RowKit.Hid ((nameOf stepNames K ++ fieldsText F ((fieldsL K).take k)).length ≤ 5 + (fieldsL K).length * (M + 1)) := Lib.hid (HLEN.out k (by omega))
      have HFL : RowKit.Hid ((fieldsL K).length ≤ 7) := Lib.hid (fields_few K)
      clear hu hbx hgs hg hitp hmem h128
      go_wp2_with fail
      refine HFC.out.mono ?_
      rintro e w5 ⟨rfl, hb5⟩
      have HB5 := Lib.hid (builder_news HU.out.1 hb5)
      have HI5 : RowKit.Hid (w5.heap[it]? = some (.stringIter (mk (fieldsL K)) (k + 1))) := Lib.hid ((hb5.block it (Array.getElem?_eq_some_iff.1 HU.out.2.1).1).trans HU.out.2.1)
      have HC5 : RowKit.Hid (Below (X + 1) W2 w5) := Lib.hid (HU.out.2.2.trans (hb5.mono (Nat.le_trans HZ2.out HU.out.2.2.size)))
      clear hb5 x0 x1 x2 x3 x4 x5 x6 x7 hnx
      by_cases hempty : F c = []
      · have HE : RowKit.Hid (shownF F c = []) := Lib.hid (by unfold shownF; rw [if_pos hempty])
        have HP5 : RowKit.Hid (w5.iterPos it = k + 1) := Lib.hid (by simp [World.iterPos, HI5.out])
        rw [show mk (F c) = ⟨#[]⟩ by rw [hempty]; rfl]
        clear hempty
        go_wp2_with fail
        go_roundw
        case rel => exact ⟨k + 1, by omega, Lib.hid ⟨by rw [HT.out, HE.out, List.append_nil]; exact HB5.out, HI5.out, HC5.out⟩⟩
        case measure => rw [HP5.out, HPOS.out]; omega
      · have HE : RowKit.Hid (shownF F c = 32 :: F c) := Lib.hid (by unfold shownF; rw [if_neg hempty])
        have HNE : RowKit.Hid (mk (F c) ≠ ⟨#[]⟩) := Lib.hid (fun h => hempty (by have := congrArg (fun b : ByteArray => b.data.toList) h; simpa [mk] using this))
        have hsz : (mk (F c)).size ≤ 1000000000000 := by rw [mk_size]; have := HFM.out; omega
        obtain ⟨t, ht⟩ : ∃ t, t = mk (F c) := ⟨_, rfl⟩
        have HT' := Lib.hid ht
        rw [← ht] at hsz
        have hne : (!t.toList.isEmpty) = true := by
          have h := str_diff (a := t) (b := ⟨#[]⟩) (by rw [ht]; exact HNE.out)
          simpa using h
        have HW : RowKit.Hid (mkB [32] ++ t = mk (32 :: F c)) := Lib.hid (by rw [ht]; exact mkB_append [32] (F c))
        rw [← ht]
        clear ht hempty
        go_wp2_with fail
        refine (write_text (X + 1) (X + 1) _ (mkB [32] ++ t) w5 HB5.out (by rw [HW.out, mk_size, Lib.byteCells_length]; have h1 := HKL.out; have h2 := HFM.out; have h3 : (fieldsL K).length * (M + 1) ≤ 7 * (M + 1) := Nat.mul_le_mul_right _ HFL.out; simp only [List.length_cons]; omega) (Nat.le_trans HZ2.out HC5.out.size)).mono ?_
        rintro e w6 ⟨rfl, h6, hb6, hk6⟩
        have HB6 : RowKit.Hid (Lib.IsBuilderF 55 5 (X + 1) (X + 1) (Lib.byteCells (nameOf stepNames K ++ fieldsText F ((fieldsL K).take (k + 1)))) w6) := Lib.hid (by
          rw [HW.out, Lib.strCells_eq, mk_list, ← Lib.byteCells_append] at h6
          rw [HT.out, HE.out, ← List.append_assoc]
          exact .inr h6)
        have HI6 := Lib.hid (hk6.iter HI5.out (by have := HIT.out; omega))
        have HC6 := Lib.hid (HC5.out.trans hb6)
        have HP6 : RowKit.Hid (w6.iterPos it = k + 1) := Lib.hid (by simp [World.iterPos, HI6.out])
        clear h6 hb6 hk6
        go_wp2_with fail
        go_roundw
        case rel => exact ⟨k + 1, by omega, Lib.hid ⟨HB6.out, HI6.out, HC6.out⟩⟩
        case measure => rw [HP6.out, HPOS.out]; omega
    · have HE : RowKit.Hid (nameOf stepNames K ++ fieldsText F ((fieldsL K).take k) = opText K F) := Lib.hid (by unfold opText; rw [List.take_of_length_le (by omega)])
      have hnx := fun ty => Lib.run_next_end_at (P := Tryd.prog) wr it (mk (fieldsL K)) k ty hitp (by rw [HSZ.out]; exact hlt)
      have HB9 : RowKit.Hid (Lib.IsBuilderF 55 5 (X + 1) (X + 1) (Lib.byteCells (opText K F)) wr) := Lib.hid (by rw [← HE.out]; exact HI.out.1)
      have HC9 := Lib.hid (HBX.out wr HI.out.2.2).1
      have hzr : X + 1 ≤ wr.heap.size := Nat.le_trans HZ2.out HI.out.2.2.size
      clear hitp
      go_wp2_with fail
      refine (Tryd.Builder_String_any_k (X + 1) (X + 1) (opText K F) wr HB9.out hzr).mono ?_
      rintro e w9 ⟨rfl, _, hb9, _⟩
      have HD9 : RowKit.Hid (Below w.heap.size w w9) := Lib.hid (HC9.out.trans (hb9.mono (by have := HX.out; omega)))
      clear hb9 hnx
      go_wp2_with fail
      go_ret
      exact ⟨rfl, HD9.out⟩
end Go.Proofs.YtccajbgdlicbnaaDoor

/- Layer 6: package show's fields of a step, but its text and its list: number, value, stack. -/
namespace Go.Proofs.YtccajbgdlicbnaaDoor
open Go.RowKit (wrap64 intOf Below)
set_option linter.unusedVariables false
set_option linter.unusedSimpArgs false

def valueText (n : Int) : List UInt8 := 118 :: Lib.itoa n
def numberText (K N : Int) : List UInt8 := if K = 3 then nameOf signNames N else Lib.itoa N
def stackText (T : Bool) : List UInt8 := if T then [115, 116, 97, 99, 107] else []
theorem value_any (n : Int) (w : World) (h0 : -9223372036854775808 ≤ n) (h1 : n ≤ 9223372036854775807) (hp : PT w) :
    Calls Tryd.prog 39 #[.int .i64 n] w fun e w' => e = .returned (.string (mk (valueText n))) ∧ Below w.heap.size w w' := by
  have HR : RowKit.Hid (mk (valueText n) = mkB [118] ++ mkB (Lib.itoa n)) := Lib.hid (by unfold valueText; rw [mkB_append]; rfl)
  have HC := Lib.hid (itoa_text n w h0 h1 hp)
  have hs := itoa_size n h0 h1
  clear hp
  go_enter Tryd.func39, Tryd.ntmps39
  go_wp2_with fail
  refine HC.out.mono ?_
  rintro e w1 ⟨rfl, hb⟩
  have HB := Lib.hid hb
  clear hb
  go_wp2_with fail
  go_ret
  exact ⟨by rw [HR.out]; rfl, HB.out⟩
set_option maxRecDepth 100000 in
theorem sign_any (K : Int) (w : World) (hs : GN w) :
    Calls Tryd.prog 68 #[.int .i64 K] w fun e w' => e = .returned (.string (mk (nameOf signNames K))) ∧ w = w' := by
  by_cases h0 : K < 0
  · have HF : RowKit.Hid (nameOf signNames K = [63]) := Lib.hid (by unfold nameOf; rw [if_pos (.inl h0)])
    clear hs
    go_enter Tryd.func68, Tryd.ntmps68
    go_wp2
    go_ret
    exact ⟨by rw [HF.out]; rfl, rfl⟩
  · by_cases h1 : 13 < K
    · have HF : RowKit.Hid (nameOf signNames K = [63]) := Lib.hid (by unfold nameOf; rw [if_pos (.inr (by simp [signNames]; omega))])
      have h0' : 0 ≤ K := by omega
      have h1' : 14 ≤ K := by omega
      clear hs h0
      go_enter Tryd.func68, Tryd.ntmps68
      go_wp2
      go_ret
      exact ⟨by rw [HF.out]; rfl, rfl⟩
    · obtain ⟨k, rfl⟩ := Int.eq_ofNat_of_zero_le (show 0 ≤ K by omega)
      have hk : k < 14 := by omega
      have hcell := hs k hk
      have HF : RowKit.Hid (nameOf signNames (k : Int) = signNames[k]) := Lib.hid (by unfold nameOf; rw [if_neg (by simp [signNames]; omega), Int.toNat_natCast, List.getD_eq_getElem?_getD, List.getElem?_eq_getElem hk]; rfl)
      have h0' : ¬ ((k : Int) < 0) := by omega
      have h1' : ¬ (14 ≤ (k : Int)) := by omega
      clear hs h0 h1
      go_enter Tryd.func68, Tryd.ntmps68
      go_wp2
      go_ret
      exact ⟨by rw [HF.out]; rfl, rfl⟩
/-- The tables that package show reads stand. -/
structure Tabs (w : World) : Prop where
  pow : PT w
  fields : FT w
  steps : SN w
  signs : GN w
theorem Tabs.since {w w' : World} (h : Tabs w) (hb : Below w.heap.size w w') : Tabs w' :=
  ⟨h.pow.since hb, h.fields.since hb, StrTab.since h.steps hb, StrTab.since h.signs hb⟩
theorem number_any (K A B C N : Int) (S : ByteArray) (la : Option Addr) (ln lc : Nat) (T : Bool) (w : World) (h0 : -9223372036854775808 ≤ N) (h1 : N ≤ 9223372036854775807) (ht : Tabs w) :
    Calls Tryd.prog 52 #[.agg #[.int .i64 K, .int .i64 A, .int .i64 B, .int .i64 C, .int .i64 N, .string S, .slice la ln lc, .bool T]] w fun e w' => e = .returned (.string (mk (numberText K N))) ∧ Below w.heap.size w w' := by
  have hb0 : Below w.heap.size w (w.alloc (.cells #[.int .i64 K, .int .i64 A, .int .i64 B, .int .i64 C, .int .i64 N, .string S, .slice la ln lc, .bool T] 50)) := (Below.refl _ _).alloc (Nat.le_refl _) _
  have HT := Lib.hid (ht.since hb0)
  have HB0 := Lib.hid hb0
  clear ht hb0
  by_cases hk : K = 3
  · subst hk
    have HR : RowKit.Hid (numberText 3 N = nameOf signNames N) := Lib.hid rfl
    go_enter Tryd.func52, Tryd.ntmps52
    go_wp2_with fail
    refine (sign_any N _ HT.out.signs).mono ?_
    rintro e w1 ⟨rfl, rfl⟩
    go_wp2_with fail
    go_ret
    exact ⟨by rw [HR.out]; rfl, HB0.out⟩
  · have HR : RowKit.Hid (mk (numberText K N) = mkB (Lib.itoa N)) := Lib.hid (by unfold numberText; rw [if_neg hk]; rfl)
    go_enter Tryd.func52, Tryd.ntmps52
    go_wp2_with fail
    refine (itoa_text N _ h0 h1 HT.out.pow).mono ?_
    rintro e w1 ⟨rfl, hb⟩
    have HB := Lib.hid (keepS HB0.out hb)
    clear hb
    go_wp2_with fail
    go_ret
    exact ⟨by rw [HR.out]; rfl, HB.out⟩
def plainField (K A B C N : Int) (T : Bool) (c : UInt8) : List UInt8 :=
  if c = 78 then numberText K N else if c = 65 then valueText A else if c = 66 then valueText B else if c = 67 then valueText C else stackText T
set_option maxRecDepth 100000 in
theorem field_plain (K A B C N : Int) (S : ByteArray) (la : Option Addr) (ln lc : Nat) (T : Bool) (c : UInt8) (hc : c = 78 ∨ c = 65 ∨ c = 66 ∨ c = 67 ∨ c = 75) (w : World) (hA : InR A) (hB : InR B) (hC : InR C) (hN : InR N) (ht : Tabs w) :
    Calls Tryd.prog 32 #[.agg #[.int .i64 K, .int .i64 A, .int .i64 B, .int .i64 C, .int .i64 N, .string S, .slice la ln lc, .bool T], .int .i32 (c.toNat : Int)] w fun e w' => e = .returned (.string (mk (plainField K A B C N T c))) ∧ Below w.heap.size w w' := by
  have hb0 : Below w.heap.size w (w.alloc (.cells #[.int .i64 K, .int .i64 A, .int .i64 B, .int .i64 C, .int .i64 N, .string S, .slice la ln lc, .bool T] 50)) := (Below.refl _ _).alloc (Nat.le_refl _) _
  have HT := Lib.hid (ht.since hb0)
  have HB0 := Lib.hid hb0
  clear ht hb0
  obtain ⟨hA0, hA1⟩ := hA
  obtain ⟨hB0, hB1⟩ := hB
  obtain ⟨hC0, hC1⟩ := hC
  obtain ⟨hN0, hN1⟩ := hN
  rcases hc with rfl | rfl | rfl | rfl | rfl
  · go_enter Tryd.func32, Tryd.ntmps32
    go_wp2_with fail
    refine (number_any K A B C N S la ln lc T _ (by omega) (by omega) HT.out).mono ?_
    rintro e w1 ⟨rfl, hb⟩
    have HB := Lib.hid (keepS HB0.out hb)
    clear hb
    go_wp2_with fail
    go_ret
    exact ⟨rfl, HB.out⟩
  · go_enter Tryd.func32, Tryd.ntmps32
    go_wp2_with fail
    refine (value_any A _ (by omega) (by omega) HT.out.pow).mono ?_
    rintro e w1 ⟨rfl, hb⟩
    have HB := Lib.hid (keepS HB0.out hb)
    clear hb
    go_wp2_with fail
    go_ret
    exact ⟨rfl, HB.out⟩
  · go_enter Tryd.func32, Tryd.ntmps32
    go_wp2_with fail
    refine (value_any B _ (by omega) (by omega) HT.out.pow).mono ?_
    rintro e w1 ⟨rfl, hb⟩
    have HB := Lib.hid (keepS HB0.out hb)
    clear hb
    go_wp2_with fail
    go_ret
    exact ⟨rfl, HB.out⟩
  · go_enter Tryd.func32, Tryd.ntmps32
    go_wp2_with fail
    refine (value_any C _ (by omega) (by omega) HT.out.pow).mono ?_
    rintro e w1 ⟨rfl, hb⟩
    have HB := Lib.hid (keepS HB0.out hb)
    clear hb
    go_wp2_with fail
    go_ret
    exact ⟨rfl, HB.out⟩
  · cases T
    · go_enter Tryd.func32, Tryd.ntmps32
      go_wp2_with fail
      go_ret
      exact ⟨rfl, HB0.out⟩
    · go_enter Tryd.func32, Tryd.ntmps32
      go_wp2_with fail
      go_ret
      exact ⟨rfl, HB0.out⟩
theorem itoa_one : Lib.itoa 1 = [49] := by unfold Lib.itoa; rw [if_neg (by decide)]; exact dec_small (by decide)
theorem itoa_two : Lib.itoa 2 = [50] := by unfold Lib.itoa; rw [if_neg (by decide)]; exact dec_small (by decide)
theorem plain_len (K A B C N : Int) (T : Bool) (hA : InR A) (hB : InR B) (hC : InR C) (hN : InR N) (c : UInt8) : (plainField K A B C N T c).length ≤ 22 := by
  obtain ⟨hA0, hA1⟩ := hA
  obtain ⟨hB0, hB1⟩ := hB
  obtain ⟨hC0, hC1⟩ := hC
  obtain ⟨hN0, hN1⟩ := hN
  have lA := Lib.itoa_length_le A (by omega) (by omega)
  have lB := Lib.itoa_length_le B (by omega) (by omega)
  have lC := Lib.itoa_length_le C (by omega) (by omega)
  have lN := Lib.itoa_length_le N (by omega) (by omega)
  have hall : ∀ n : Int, (nameOf signNames n).length ≤ 4 := fun n => by
    unfold nameOf
    split
    · simp
    · rename_i h
      obtain ⟨k, rfl⟩ := Int.eq_ofNat_of_zero_le (show 0 ≤ n by omega)
      have hk : k < signNames.length := by omega
      have hall : ∀ k, k < signNames.length → (signNames.getD k []).length ≤ 4 := by decide
      exact hall k hk
  have := hall N
  unfold plainField numberText valueText stackText
  repeat' split
  all_goals (try simp only [List.length_cons, List.length_nil]); omega
theorem lives_text : opText 3 (plainField 3 1 2 0 0 false) = [97, 114, 105, 116, 104, 32, 97, 100, 100, 32, 118, 49, 32, 118, 50] := by
  have h1 : plainField 3 1 2 0 0 false 65 = [118, 49] := by show valueText 1 = _; unfold valueText; rw [itoa_one]
  have h2 : plainField 3 1 2 0 0 false 66 = [118, 50] := by show valueText 2 = _; unfold valueText; rw [itoa_two]
  have h3 : plainField 3 1 2 0 0 false 78 = [97, 100, 100] := by decide
  show nameOf stepNames 3 ++ ([78, 65, 66].map (shownF (plainField 3 1 2 0 0 false))).flatten = _
  simp only [List.map, shownF, h1, h2, h3]
  decide
set_option maxRecDepth 100000 in
/-- 'lives' of layer 6: a step has a text. -/
theorem lives6 (w : World) (ht : Tabs w) : Calls Tryd.prog 6 #[] w fun e w' => e = .returned (.bool true) ∧ Below w.heap.size w w' := by
  have HO := Lib.hid (show_op 3 1 2 0 0 ⟨#[]⟩ none 0 0 false (plainField 3 1 2 0 0 false) 22 (by decide) w ht.fields ht.steps (by
    intro c hc
    have hc' : c ∈ [78, 65, 66] := hc
    simp only [List.mem_cons, List.not_mem_nil, or_false] at hc'
    refine ⟨plain_len _ _ _ _ _ _ ⟨by decide, by decide⟩ ⟨by decide, by decide⟩ ⟨by decide, by decide⟩ ⟨by decide, by decide⟩ c, fun u hb => field_plain 3 1 2 0 0 _ none 0 0 false c (by rcases hc' with rfl | rfl | rfl <;> simp) u ⟨by decide, by decide⟩ ⟨by decide, by decide⟩ ⟨by decide, by decide⟩ ⟨by decide, by decide⟩ (ht.since hb)⟩))
  have HR : RowKit.Hid (mk (opText 3 (plainField 3 1 2 0 0 false)) = ⟨#[97, 114, 105, 116, 104, 32, 97, 100, 100, 32, 118, 49, 32, 118, 50]⟩) := Lib.hid (by rw [lives_text]; rfl)
  clear ht
  go_enter Tryd.func6, Tryd.ntmps6
  go_wp2_with fail
  refine HO.out.mono ?_
  rintro e w1 ⟨rfl, hb⟩
  have HB := Lib.hid hb
  rw [HR.out]
  clear hb
  go_wp2_with fail
  go_ret
  exact ⟨rfl, HB.out⟩
end Go.Proofs.YtccajbgdlicbnaaDoor

/- Layer 6: numbers as a list, with commas between: package show's joined, values and types, and the document's list. -/
namespace Go.Proofs.YtccajbgdlicbnaaDoor
open Go.RowKit (wrap64 intOf Below)
set_option linter.unusedVariables false
set_option linter.unusedSimpArgs false

def listText (T : Int → List UInt8) (Z : List Int) : List UInt8 := Lib.join (Z.map T) [44]
theorem join_tail (sep : List UInt8) (r : List (List UInt8)) (x : List UInt8) : Lib.joinTail sep (r ++ [x]) = Lib.joinTail sep r ++ (sep ++ x) := by simp [Lib.joinTail]
theorem listText_snoc (T : Int → List UInt8) : ∀ (Z : List Int) (z : Int), listText T (Z ++ [z]) = (if Z = [] then [] else listText T Z ++ [44]) ++ T z
  | [], z => by simp [listText, Lib.join_one]
  | y :: Z, z => by
    simp only [listText, List.cons_append, List.map_cons, List.map_append, List.map_nil, Lib.join_cons, join_tail]
    simp
theorem listText_nil (T : Int → List UInt8) : listText T [] = [] := rfl
theorem listText_len {T : Int → List UInt8} {M : Nat} : ∀ (Z : List Int), (∀ z ∈ Z, (T z).length ≤ M) → (listText T Z).length ≤ Z.length * (M + 1)
  | [], _ => by simp [listText_nil]
  | y :: Z, hM => by
    have htail : ∀ r : List Int, (∀ z ∈ r, (T z).length ≤ M) → (Lib.joinTail [44] (r.map T)).length ≤ r.length * (M + 1) := by
      intro r
      induction r with
      | nil => intro _; simp [Lib.joinTail]
      | cons a r ih =>
        intro hr
        have h0 := ih (fun z hz => hr z (by simp [hz]))
        have h1 := hr a (by simp)
        have h2 : Lib.joinTail [44] ((a :: r).map T) = [44] ++ T a ++ Lib.joinTail [44] (r.map T) := by simp [Lib.joinTail]
        rw [h2]
        simp only [List.length_append, List.length_cons, List.length_nil, Nat.add_mul]
        omega
    have h1 := hM y (by simp)
    have h2 := htail Z (fun z hz => hM z (by simp [hz]))
    show (Lib.join (T y :: Z.map T) [44]).length ≤ _
    rw [Lib.join_cons]
    simp only [List.length_append, List.length_cons, Nat.add_mul]
    omega
theorem joinBytes (T : Int → List UInt8) (Z : List Int) : Lib.join ((Z.map fun z => mk (T z)).map (·.data.toList)) (mk [44]).data.toList = listText T Z := by
  rw [mk_list, List.map_map]
  unfold listText
  first
    | rfl
    | (congr 1
       apply List.map_congr_left
       intro z _
       exact mk_list _)
theorem ownsRow_news {w w' : World} {B e k n : Nat} {v : Value} {xs : List Value} (h : w.ownsRow B e k v n xs) (hb : Below w.heap.size w w') : w'.ownsRow B e k v n xs := by
  refine ⟨h.1, ?_⟩
  rcases h.2 with h' | ⟨g, cap, cur, hv, hg, hh, rest⟩
  · exact .inl h'
  · exact .inr ⟨g, cap, cur, hv, hg, (hb.block g (Array.getElem?_eq_some_iff.1 hh).1).trans hh, rest⟩
theorem OwnsS.form {w : World} {B : Nat} {e : TypeId} {v : Value} {l : List ByteArray} (h : OwnsS w B e v l) : ∃ a n c, v = .slice a n c := by
  rcases h.2 with ⟨hv, _⟩ | ⟨g, cap, cur, hv, _⟩
  · exact ⟨_, _, _, hv⟩
  · exact ⟨_, _, _, hv⟩
theorem OwnsS.made {w : World} {B : Nat} {e : TypeId} (cur : Array Value) (cap : Nat) (hB : B ≤ w.heap.size) (hm : cap ≤ maxLen) (hs : cur.size = cap) : OwnsS (w.alloc (.cells cur e)) B e (.slice (some ⟨w.heap.size, 0, none⟩) 0 cap) [] :=
  ⟨rfl, .inr ⟨w.heap.size, cap, cur, rfl, hB, heap_alloc_new w _, Nat.zero_le _, hm, by simpa using hs, by simp⟩⟩
/-- A function's answer to each number of a list, wherever the walk stands. -/
def ShownBy (w : World) (fid : Nat) (T : Int → List UInt8) (Z : List Int) : Prop :=
  ∀ z ∈ Z, ∀ u, Below w.heap.size w u → Calls Tryd.prog fid #[.int .i64 z] u fun e u' => e = .returned (.string (mk (T z))) ∧ Below u.heap.size u u'

set_option maxRecDepth 100000 in
set_option maxHeartbeats 2000000 in
theorem joined_any (fid : Nat) (hfid : ∀ args w, (callFunc fid args).run Tryd.prog w = .ok (.enter fid args) w) (T : Int → List UInt8) (M : Nat) (hM2 : M ≤ 1000) (a : Option Addr) (n c : Nat) (Z : List Int) (hM : ∀ z ∈ Z, (T z).length ≤ M) (w : World) (hat : NumsAt w a n Z) (hn : n ≤ 1048576) (hF : ShownBy w fid T Z) :
    Calls Tryd.prog 35 #[.slice a n c, .func (.func fid) #[] #[]] w fun e w' => e = .returned (.string (mk (listText T Z))) ∧ Below w.heap.size w w' := by
  obtain ⟨i0, hi, hz0, hz1, hz2⟩ := info_parts info_str
  have hmk : ∀ u : World, (Instr.makeSlice 96 (.int .i64 0) (.int .i64 (n : Int))).run Tryd.prog u =
      .ok (.slice (some ⟨u.heap.size, 0, none⟩) 0 n) (u.alloc (.cells (madeCells #[.string ⟨#[]⟩] n) 9)) := fun u => by
    have h := run_make (P := Tryd.prog) u 96 9 i0 (.string ⟨#[]⟩) Tryd.underlying96 hi hz0 .i64 .i64 0 (n : Int) (by omega) (by omega) (by rw [hz2]; omega) (by omega)
    rw [Int.toNat_natCast] at h
    simpa [hz1, Value.cells] using h
  have hlen := hat.1
  have HL : RowKit.Hid (Z.length = n) := Lib.hid hlen
  have HAT := Lib.hid hat
  have HF := Lib.hid hF
  have HMM := Lib.hid hM
  have HS0 : RowKit.Hid (OwnsS (w.alloc (.cells (madeCells #[.string ⟨#[]⟩] n) 9)) w.heap.size 9 (.slice (some ⟨w.heap.size, 0, none⟩) 0 n) ((Z.take 0).map fun z => mk (T z)) ∧ Below w.heap.size w (w.alloc (.cells (madeCells #[.string ⟨#[]⟩] n) 9))) := Lib.hid ⟨OwnsS.made _ _ (Nat.le_refl _) (by unfold maxLen; omega) (by simp [size_madeCells]), (Below.refl _ _).alloc (Nat.le_refl _) _⟩
  clear hat hF hM hz0 hz1 hz2 hi hlen
  go_enter Tryd.func35, Tryd.ntmps35
  go_wp2_with fail
  go_loopw [5, 13] (fun pv iv wr => ∃ (k : Nat) (va : Option Addr) (vn vc : Nat), k ≤ n ∧ iv = .int .i64 (k : Int) ∧ pv = .slice va vn vc ∧ RowKit.Hid (OwnsS wr w.heap.size 9 (.slice va vn vc) ((Z.take k).map fun z => mk (T z)) ∧ Below w.heap.size w wr)) (fun _ iv _ => n - (intOf iv).toNat)
  case atStart => exact ⟨0, _, _, _, Nat.zero_le _, rfl, rfl, HS0⟩
  case round =>
    obtain ⟨k, va, vn, vc, hk, rfl, rfl, HI⟩ := hrel
    by_cases hlt : k < n
    · have hkz : k < Z.length := by rw [HL.out]; exact hlt
      obtain ⟨g, off, ea, hg, hcell⟩ := HAT.out.2 (by omega)
      subst ea
      obtain ⟨z, hz⟩ : ∃ z, z = Z[k] := ⟨_, rfl⟩
      have hc0 := (HI.out.2.cell (p := ⟨g, off + k, none⟩) hg).trans (hcell k hkz)
      rw [← hz] at hc0
      have HC := Lib.hid (HF.out z (by rw [hz]; exact List.getElem_mem hkz) wr HI.out.2)
      have HTK : RowKit.Hid ((Z.take (k + 1)).map (fun z => mk (T z)) = (Z.take k).map (fun z => mk (T z)) ++ [mk (T z)]) := Lib.hid (by rw [List.take_succ_eq_append_getElem hkz, List.map_append, hz]; rfl)
      have HTL : RowKit.Hid (((Z.take k).map fun z => mk (T z)).length ≤ 1048576) := Lib.hid (by rw [List.length_map, List.length_take]; omega)
      clear hcell hz hmk
      go_wp2_with fail
      refine HC.out.mono ?_
      rintro e w1 ⟨rfl, hb1⟩
      have HO1 : RowKit.Hid (OwnsS w1 w.heap.size 9 (.slice va vn vc) ((Z.take k).map fun z => mk (T z))) := Lib.hid (ownsRow_news HI.out.1 hb1)
      have HB1 := Lib.hid (keepS HI.out.2 hb1)
      have hsz := HB1.out.size
      clear hb1 hc0
      go_wp2_with (at_builtin; refine wpList_append_str w1 rfl _ _ 96 rfl 9 Tryd.underlying96 info_str w.heap.size (.slice va vn vc) ((Z.take k).map fun z => mk (T z)) rfl HO1.out hsz _ 1 _ (mk (T z)) rfl rfl rfl (by have := HTL.out; omega) ?_; intro v2 w2 hown2 hb2; obtain ⟨va2, vn2, vc2, rfl⟩ := hown2.form; have HO2 := Lib.hid hown2; have HB2 := Lib.hid (HB1.out.trans hb2); clear hown2 hb2)
      go_roundw
      case rel => exact ⟨k + 1, va2, vn2, vc2, by omega, by go_num, rfl, Lib.hid ⟨by rw [HTK.out]; exact HO2.out, HB2.out⟩⟩
      case measure => simp [intOf]; omega
    · have hkn : k = n := by omega
      subst hkn
      have HO : RowKit.Hid (OwnsS wr w.heap.size 9 (.slice va vn vc) (Z.map fun z => mk (T z))) := Lib.hid (by have h := HI.out.1; rw [List.take_of_length_le (by rw [HL.out]; exact Nat.le_refl _)] at h; exact h)
      have HB := Lib.hid HI.out.2
      have HJ : RowKit.Hid ((Lib.join ((Z.map fun z => mk (T z)).map (·.data.toList)) (mk [44]).data.toList).length ≤ 140737488355328) := Lib.hid (by
        rw [joinBytes]
        have h1 := listText_len Z HMM.out
        have h2 : Z.length * (M + 1) ≤ 1048576 * 1001 := Nat.mul_le_mul (by rw [HL.out]; exact hn) (by omega)
        omega)
      clear hmk
      rcases HO.out.shape with ⟨hv, h0⟩ | ⟨g, cp, hv, h1, h2, h3, h4⟩
      · cases hv
        have HZ : RowKit.Hid (Z = []) := Lib.hid (by simpa using h0)
        clear h0
        go_wp2_with fail
        refine (Tryd.strings_Join_none none 0 (mk [44]) wr).mono ?_
        rintro e w9 ⟨rfl, rfl⟩
        go_wp2_with fail
        go_ret
        exact ⟨by rw [HZ.out]; rfl, HB.out⟩
      · cases hv
        have HG := Lib.hid h3
        have HC4 := Lib.hid h4
        have HCP := Lib.hid h1
        clear h1 h2 h3 h4
        have HJC := Lib.hid (Tryd.strings_Join g 0 vc (Z.map fun z => mk (T z)) (mk [44]) wr (fun j x hx => by
          obtain ⟨hj, rfl⟩ := List.getElem?_eq_some_iff.1 hx
          rw [Nat.zero_add]
          exact HC4.out j hj) HG.out (by rw [List.length_map, HL.out]; omega) HCP.out HJ.out)
        rw [joinBytes] at HJC
        generalize hln : (Z.map fun z => mk (T z)).length = ln at HJC ⊢
        clear hln
        go_wp2_with fail
        refine HJC.out.mono ?_
        rintro e w9 ⟨rfl, hb9⟩
        have HB9 := Lib.hid (keepS HB.out hb9)
        clear hb9
        go_wp2_with fail
        go_ret
        exact ⟨rfl, HB9.out⟩
end Go.Proofs.YtccajbgdlicbnaaDoor

/- Layer 6: lists of numbers as texts: package show's values, and the document's list of values. -/
namespace Go.Proofs.YtccajbgdlicbnaaDoor
open Go.RowKit (wrap64 intOf Below)
set_option linter.unusedVariables false
set_option linter.unusedSimpArgs false

theorem value_len (z : Int) (h : InR z) : (valueText z).length ≤ 22 := by
  obtain ⟨h0, h1⟩ := h
  have := Lib.itoa_length_le z (by omega) (by omega)
  unfold valueText
  simp only [List.length_cons]
  omega
def listV (Z : List Int) : List UInt8 := 40 :: (listText valueText Z ++ [41])
theorem enters_value : ∀ args w, (callFunc 39 args).run Tryd.prog w = .ok (.enter 39 args) w := enters_of Tryd.func39 (by kernel_rfl) rfl
set_option maxRecDepth 100000 in
theorem values_any (a : Option Addr) (n c : Nat) (Z : List Int) (w : World) (hat : NumsAt w a n Z) (hn : n ≤ 1048576) (hr : ∀ z ∈ Z, InR z) (hp : PT w) :
    Calls Tryd.prog 54 #[.slice a n c] w fun e w' => e = .returned (.string (mk (listV Z))) ∧ Below w.heap.size w w' := by
  have HC := Lib.hid (joined_any 39 enters_value valueText 22 (by decide) a n c Z (fun z hz => value_len z (hr z hz)) w hat hn (fun z hz u hb => by
    obtain ⟨h0, h1⟩ := hr z hz
    exact value_any z u (by omega) (by omega) (hp.since hb)))
  have HLEN : RowKit.Hid ((listText valueText Z).length ≤ 100000000) := Lib.hid (by
    have h1 := listText_len (M := 22) Z (fun x hx => value_len x (hr x hx))
    have h2 : Z.length ≤ 1048576 := by rw [hat.1]; exact hn
    have h3 : Z.length * (22 + 1) ≤ 1048576 * 23 := Nat.mul_le_mul_right _ h2
    omega)
  have HV : RowKit.Hid (mk (listV Z) = mkB [40] ++ mk (listText valueText Z) ++ mkB [41]) := Lib.hid (by
    show mkB _ = mkB _ ++ mkB _ ++ mkB _
    rw [mkB_append, mkB_append]
    congr 1)
  obtain ⟨t, ht⟩ : ∃ t, t = mk (listText valueText Z) := ⟨_, rfl⟩
  have hts : t.size ≤ 100000000 := by rw [ht, mk_size]; exact HLEN.out
  rw [← ht] at HC HV
  clear hat hr hp ht
  go_enter Tryd.func54, Tryd.ntmps54
  go_wp2_with fail
  refine HC.out.mono ?_
  rintro e w1 ⟨rfl, hb⟩
  have HB := Lib.hid hb
  clear hb
  go_wp2_with fail
  go_ret
  exact ⟨by rw [HV.out]; rfl, HB.out⟩

set_option maxRecDepth 100000 in
set_option maxHeartbeats 2000000 in
theorem list_values (a : Option Addr) (n c : Nat) (Z : List Int) (w : World) (hat : NumsAt w a n Z) (hn : n ≤ 1048576) (hr : ∀ z ∈ Z, InR z) :
    Calls Tryd.prog 18 #[.slice a n c, .int .i64 1] w fun e w' => e = .returned (.string (mk (listText valueText Z))) ∧ Below w.heap.size w w' := by
  have HL : RowKit.Hid (Z.length = n) := Lib.hid hat.1
  have HAT := Lib.hid hat
  have HRR := Lib.hid hr
  clear hat hr
  go_enter Tryd.func18, Tryd.ntmps18
  go_wp2_with fail
  go_loopw [5, 6] (fun sv iv wr => ∃ k : Nat, k ≤ n ∧ iv = .int .i64 (k : Int) ∧ sv = .string (mk (listText valueText (Z.take k))) ∧ RowKit.Hid (Below w.heap.size w wr)) (fun _ iv _ => n - (intOf iv).toNat)
  case atStart => exact ⟨0, Nat.zero_le _, rfl, rfl, Lib.hid (Below.refl _ _)⟩
  case round =>
    obtain ⟨k, hk, rfl, rfl, HI⟩ := hrel
    by_cases hlt : k < n
    · have hkz : k < Z.length := by rw [HL.out]; exact hlt
      obtain ⟨g, off, ea, hg, hcell⟩ := HAT.out.2 (by omega)
      subst ea
      obtain ⟨z, hz⟩ : ∃ z, z = Z[k] := ⟨_, rfl⟩
      have hc0 := (HI.out.cell (p := ⟨g, off + k, none⟩) hg).trans (hcell k hkz)
      rw [← hz] at hc0
      have hzr : InR z := by rw [hz]; exact HRR.out _ (List.getElem_mem hkz)
      obtain ⟨hz0, hz1⟩ := hzr
      have HC := Lib.hid (itoa_ref z wr (by omega) (by omega))
      have HTK : RowKit.Hid (listText valueText (Z.take (k + 1)) = (if Z.take k = [] then [] else listText valueText (Z.take k) ++ [44]) ++ valueText z) := Lib.hid (by rw [List.take_succ_eq_append_getElem hkz, listText_snoc, hz])
      have HLEN : RowKit.Hid ((listText valueText (Z.take k)).length ≤ 100000000) := Lib.hid (by
        have h1 := listText_len (M := 22) (Z.take k) (fun x hx => value_len x (HRR.out x (List.mem_of_mem_take hx)))
        have h2 : (Z.take k).length ≤ 1048576 := by rw [List.length_take]; omega
        have h3 : (Z.take k).length * (22 + 1) ≤ 1048576 * 23 := Nat.mul_le_mul_right _ h2
        omega)
      have HZL := Lib.hid (value_len z ⟨by omega, by omega⟩)
      have hzs : (mkB (Lib.itoa z)).size ≤ 100 := by have := itoa_size z (by omega) (by omega); omega
      obtain ⟨t, ht⟩ : ∃ t, t = mk (listText valueText (Z.take k)) := ⟨_, rfl⟩
      have HT := Lib.hid ht
      have hts : t.size ≤ 100000000 := by rw [ht, mk_size]; exact HLEN.out
      have HVX : RowKit.Hid (mk (valueText z) = mkB [118] ++ mkB (Lib.itoa z)) := Lib.hid (by unfold valueText; rw [mkB_append]; rfl)
      rw [← ht]
      clear hcell hz ht
      by_cases h0 : k = 0
      · subst h0
        rw [Nat.add_zero] at hc0
        have HTX : RowKit.Hid (mk (listText valueText (Z.take (0 + 1))) = t ++ mkB [118] ++ mkB (Lib.itoa z)) := Lib.hid (by
          rw [HTK.out, HT.out]
          show mkB _ = mkB _ ++ _ ++ _
          rw [mkB_append, mkB_append]
          congr 1)
        go_wp2_with fail
        refine HC.out.mono ?_
        rintro e w1 ⟨rfl, hb1⟩
        have HB1 := Lib.hid (keepS HI.out hb1)
        clear hb1
        go_wp2_with fail
        go_roundw
        case rel => exact ⟨1, by omega, by go_num, by rw [show (1 : Nat) = 0 + 1 from rfl, HTX.out]; rfl, HB1⟩
        case measure => simp [intOf]; omega
      · have HTX : RowKit.Hid (mk (listText valueText (Z.take (k + 1))) = t ++ mkB [44] ++ mkB [118] ++ mkB (Lib.itoa z)) := Lib.hid (by
          rw [HTK.out, if_neg (fun h => by have := congrArg List.length h; rw [List.length_take, List.length_nil] at this; omega), HT.out]
          show mkB _ = mkB _ ++ _ ++ _ ++ _
          rw [mkB_append, mkB_append, mkB_append]
          congr 1
          simp [valueText])
        have hk0 : 0 < k := by omega
        go_wp2_with fail
        refine HC.out.mono ?_
        rintro e w1 ⟨rfl, hb1⟩
        have HB1 := Lib.hid (keepS HI.out hb1)
        clear hb1
        go_wp2_with fail
        go_roundw
        case rel => exact ⟨k + 1, by omega, by go_num, by rw [HTX.out]; rfl, HB1⟩
        case measure => simp [intOf]; omega
    · have HE : RowKit.Hid (listText valueText (Z.take k) = listText valueText Z) := Lib.hid (by rw [List.take_of_length_le (by rw [HL.out]; omega)])
      go_wp2_with fail
      go_ret
      exact ⟨by rw [← HE.out]; rfl, HI.out⟩
end Go.Proofs.YtccajbgdlicbnaaDoor

/- Layer 5: Copy's small parts: apart, copiedSig, copiedClass, plain (of an end). -/
namespace Go.Proofs.YtccajbgdlicbnaaDoor
open Go.RowKit (wrap64 intOf Below)
set_option linter.unusedVariables false
set_option linter.unusedSimpArgs false
attribute [local go_sem ↓] Go.wp_at_zero Go.wp_at_succ

theorem OwnsI.numsO {w : World} {B : Nat} {v : Value} {Z : List Int} (h : OwnsI w B 3 v Z) (hl : Z.length * 8 ≤ 140737488351232) (hr : ∀ z ∈ Z, InR z) : NumsO w (From B) v Z :=
  ⟨h.mono (Nat.zero_le _), fun b hb => (h.lt b hb).1, hl, hr⟩
/-- A list of numbers of the call's own comes back. -/
def NumsPost (Z : List Int) (w : World) (e : Ending) (w' : World) : Prop := ∃ va vn vc, e = .returned (.slice va vn vc) ∧ NumsO w' (From w.heap.size) (.slice va vn vc) Z ∧ Below w.heap.size w w'
def SigPost (y : SigD) (w : World) (e : Ending) (w' : World) : Prop := ∃ va vn vc, e = .returned (.agg #[.slice va vn vc, .int .i64 y.ret]) ∧ SigO w' (From w.heap.size) [.slice va vn vc, .int .i64 y.ret] y ∧ Below w.heap.size w w'
theorem NumsV.since' {W W' : World} {v : Value} {Z : List Int} (h : NumsV W v Z) (hb : Below W.heap.size W W') : NumsV W' v Z := h.since hb
/-- Behind two blocks that were just laid, a draw and calls that make memory alone. -/
structure Laid2 (w : World) (C0 C1 : Array Value) (u : World) : Prop where
  bel : Below w.heap.size w u
  c0 : ∀ j, u.cell? ⟨w.heap.size, j, none⟩ = C0[j]?
  c1 : ∀ j, u.cell? ⟨w.heap.size + 1, j, none⟩ = C1[j]?
  f0 : ∀ j, u.frozen? ⟨w.heap.size, j, none⟩ = false
  f1 : ∀ j, u.frozen? ⟨w.heap.size + 1, j, none⟩ = false
  size : w.heap.size + 2 ≤ u.heap.size
theorem Laid2.start (w : World) (C0 C1 : Array Value) (t0 t1 : TypeId) : Laid2 w C0 C1 ((w.alloc (.cells C0 t0)).alloc (.cells C1 t1)).drew := by
  have h := cell_laid2 (C0 := C0) (C1 := C1) (t0 := t0) (t1 := t1) (show Below (w.heap.size + 2) ((w.alloc (.cells C0 t0)).alloc (.cells C1 t1)) ((w.alloc (.cells C0 t0)).alloc (.cells C1 t1)).drew from (Below.refl _ _).drew)
  exact ⟨(((Below.refl _ _).alloc (Nat.le_refl _) _).alloc (by simp) _).drew, h.1, h.2.1, h.2.2.1, h.2.2.2, by simp [World.drew]⟩
theorem Laid2.step {w : World} {C0 C1 : Array Value} {u u' : World} (h : Laid2 w C0 C1 u) (hb : Below u.heap.size u u') : Laid2 w C0 C1 u' := by
  have hs := h.size
  exact ⟨keepB h.bel hb, fun j => (hb.cell (p := ⟨w.heap.size, j, none⟩) (by simp; omega)).trans (h.c0 j), fun j => (hb.cell (p := ⟨w.heap.size + 1, j, none⟩) (by simp; omega)).trans (h.c1 j), fun j => (hb.frozen (p := ⟨w.heap.size, j, none⟩) (by simp; omega)).trans (h.f0 j), fun j => (hb.frozen (p := ⟨w.heap.size + 1, j, none⟩) (by simp; omega)).trans (h.f1 j), Nat.le_trans hs hb.size⟩
/-- What was made since, told from the call's beginning. -/
theorem NumsO.first {w u : World} {v : Value} {Z : List Int} {C0 C1 : Array Value} (hl : Laid2 w C0 C1 u) {u' : World} (h : NumsO u' (From u.heap.size) v Z) : NumsO u' (From (w.heap.size + 2)) v Z :=
  h.wider (fun b _ hb => Nat.le_trans hl.size hb)
/-- Stores into the result's block turn nothing that was made since. -/
theorem NumsO.past {n : Nat} {u u' : World} {v : Value} {Z : List Int} (h : NumsO u (From (n + 2)) v Z) (ho : Off (fun b => b = n + 1) u u') : NumsO u' (From n) v Z :=
  (h.off ho (fun b hb e => by have : n + 2 ≤ b := hb; omega)).wider (fun b _ hb => Nat.le_trans (by omega) hb)

def ClassPost (y : ClassD) (w : World) (e : Ending) (w' : World) : Prop := ∃ va vn vc ua un uc, e = .returned (.agg #[.slice va vn vc, .slice ua un uc]) ∧ ClassO w' (From w.heap.size) [.slice va vn vc, .slice ua un uc] y ∧ Below w.heap.size w w'
end Go.Proofs.YtccajbgdlicbnaaDoor

/- Layer 5: Copy's plain, of an end (written by a program). -/
namespace Go.Proofs.YtccajbgdlicbnaaDoor
open Go.RowKit (wrap64 intOf Below)
set_option linter.unusedVariables false
set_option linter.unusedSimpArgs false
attribute [local go_sem ↓] Go.wp_at_zero Go.wp_at_succ

theorem set_far {u : World} {b o : Nat} {v : Value} {p : Addr} (h : p.block ≠ b) : (u.setCell ⟨b, o, none⟩ v).cell? p = u.cell? p :=
  World.cell?_of_block (Below.heap_setCell _ _ _ _ h)
theorem set_far6 {u : World} {b o0 o1 o2 o3 o4 o5 : Nat} {v0 v1 v2 v3 v4 v5 : Value} {p : Addr} (h : p.block ≠ b) : ((((((u.setCell ⟨b, o0, none⟩ v0).setCell ⟨b, o1, none⟩ v1).setCell ⟨b, o2, none⟩ v2).setCell ⟨b, o3, none⟩ v3).setCell ⟨b, o4, none⟩ v4).setCell ⟨b, o5, none⟩ v5).cell? p = u.cell? p := by
  rw [set_far h, set_far h, set_far h, set_far h, set_far h, set_far h]
def EndPost (y : EndD) (w : World) (e : Ending) (w' : World) : Prop := ∃ k x t l va vn vc ua un uc, e = .returned (.agg #[.int .i64 k, .int .i64 x, .int .i64 t, .int .i64 l, .slice va vn vc, .slice ua un uc]) ∧
  EndO w' (From w.heap.size) [.int .i64 k, .int .i64 x, .int .i64 t, .int .i64 l, .slice va vn vc, .slice ua un uc] (plainEnd y) ∧ Below w.heap.size w w'
theorem NumsO.none (w : World) (S : Nat → Prop) : NumsO w S (.slice none 0 0) [] := ⟨World.ownsRow_nil _ _ _ 1, (fun b h => by cases h), by decide, (fun z h => by cases h)⟩
theorem InR.zero : InR 0 := ⟨by decide, by decide⟩
end Go.Proofs.YtccajbgdlicbnaaDoor

/- Layer 5: two boxes that a call lays, and what is stored over them; whether two ends, two steps are one, in what plays a part. -/
namespace Go.Proofs.YtccajbgdlicbnaaDoor
open Go.RowKit (wrap64 intOf Below)
set_option linter.unusedVariables false
set_option linter.unusedSimpArgs false

/-- A test comes back that is true just if p is. -/
def TruthPost (p : Prop) (w : World) (e : Ending) (w' : World) : Prop := ∃ b : Bool, e = .returned (.bool b) ∧ (b = true ↔ p) ∧ Below w.heap.size w w'
/-- Two blocks that the call has laid. -/
structure Laid2B (w : World) (t : TypeId) (C0 C1 : Array Value) (u : World) : Prop where
  bel : Below w.heap.size w u
  b0 : u.heap[w.heap.size]? = some (.cells C0 t (0, 0))
  b1 : u.heap[w.heap.size + 1]? = some (.cells C1 t (0, 0))
  size : w.heap.size + 2 ≤ u.heap.size
section
variable {w : World} {t : TypeId} {C0 C1 : Array Value} {u u' : World}
theorem Laid2B.start (w : World) (t : TypeId) (C0 C1 : Array Value) : Laid2B w t C0 C1 ((w.alloc (.cells C0 t)).alloc (.cells C1 t)) := by
  have h1 : (w.alloc (.cells C0 t)).heap.size = w.heap.size + 1 := by simp
  refine ⟨((Below.refl _ _).alloc (Nat.le_refl _) _).alloc (by omega) _, ?_, ?_, by simp⟩
  · exact (heap_alloc_old _ _ (by omega)).trans (heap_alloc_new w _)
  · rw [← h1]; exact heap_alloc_new _ _
theorem Laid2B.step {B : Nat} (h : Laid2B w t C0 C1 u) (hb : Below B u u') (hB : w.heap.size + 2 ≤ B) : Laid2B w t C0 C1 u' :=
  ⟨h.bel.trans (hb.mono (by omega)), (hb.block _ (by omega)).trans h.b0, (hb.block _ (by omega)).trans h.b1, Nat.le_trans h.size hb.size⟩
theorem Laid2B.drew (h : Laid2B w t C0 C1 u) : Laid2B w t C0 C1 u.drew := ⟨h.bel.drew, h.b0, h.b1, h.size⟩
theorem Laid2B.c0 (h : Laid2B w t C0 C1 u) (j : Nat) : u.cell? ⟨w.heap.size, j, Option.none⟩ = C0[j]? := by simp [World.cell?, h.b0]
theorem Laid2B.c1 (h : Laid2B w t C0 C1 u) (j : Nat) : u.cell? ⟨w.heap.size + 1, j, Option.none⟩ = C1[j]? := by simp [World.cell?, h.b1]
theorem Laid2B.f0 (h : Laid2B w t C0 C1 u) (j : Nat) : u.frozen? ⟨w.heap.size, j, Option.none⟩ = false := by simp [World.frozen?, h.b0]
theorem Laid2B.f1 (h : Laid2B w t C0 C1 u) (j : Nat) : u.frozen? ⟨w.heap.size + 1, j, Option.none⟩ = false := by simp [World.frozen?, h.b1]
end
theorem heap_far {u : World} {b k o : Nat} {v : Value} (h : k ≠ b) : (u.setCell ⟨b, o, Option.none⟩ v).heap[k]? = u.heap[k]? := Below.heap_setCell _ _ _ _ h
theorem over6 {u : World} {b : Nat} {C : Array Value} {T : TypeId} (h : u.heap[b]? = some (.cells C T (0, 0))) (hs : C.size = 6) (v0 v1 v2 v3 v4 v5 : Value) : ((((((u.setCell ⟨b, 0, Option.none⟩ v0).setCell ⟨b, 1, Option.none⟩ v1).setCell ⟨b, 2, Option.none⟩ v2).setCell ⟨b, 3, Option.none⟩ v3).setCell ⟨b, 4, Option.none⟩ v4).setCell ⟨b, 5, Option.none⟩ v5).heap[b]? = some (.cells #[v0, v1, v2, v3, v4, v5] T (0, 0)) := by
  obtain ⟨l⟩ := C
  match l, hs with
  | [c0, c1, c2, c3, c4, c5], _ => simp [World.setCell, Array.getElem?_modify, h]
theorem over6_far {u : World} {b k : Nat} (h : k ≠ b) (v0 v1 v2 v3 v4 v5 : Value) : ((((((u.setCell ⟨b, 0, Option.none⟩ v0).setCell ⟨b, 1, Option.none⟩ v1).setCell ⟨b, 2, Option.none⟩ v2).setCell ⟨b, 3, Option.none⟩ v3).setCell ⟨b, 4, Option.none⟩ v4).setCell ⟨b, 5, Option.none⟩ v5).heap[k]? = u.heap[k]? := by
  rw [heap_far h, heap_far h, heap_far h, heap_far h, heap_far h, heap_far h]
theorem over6_off {u : World} {b : Nat} {X : Nat → Prop} (h : X b) (v0 v1 v2 v3 v4 v5 : Value) : Off X u ((((((u.setCell ⟨b, 0, Option.none⟩ v0).setCell ⟨b, 1, Option.none⟩ v1).setCell ⟨b, 2, Option.none⟩ v2).setCell ⟨b, 3, Option.none⟩ v3).setCell ⟨b, 4, Option.none⟩ v4).setCell ⟨b, 5, Option.none⟩ v5) :=
  ((((((Off.refl X u).setCell (.inl h) _).setCell (.inl h) _).setCell (.inl h) _).setCell (.inl h) _).setCell (.inl h) _).setCell (.inl h) _
theorem Laid2B.over6 {w : World} {t : TypeId} {C0 C1 : Array Value} {u : World} (h : Laid2B w t C0 C1 u) (h0 : C0.size = 6) (h1 : C1.size = 6) (v0 v1 v2 v3 v4 v5 : Value) (r0 r1 r2 r3 r4 r5 : Value) : Laid2B w t #[v0, v1, v2, v3, v4, v5] #[r0, r1, r2, r3, r4, r5] ((((((((((((u.setCell ⟨w.heap.size, 0, Option.none⟩ v0).setCell ⟨w.heap.size, 1, Option.none⟩ v1).setCell ⟨w.heap.size, 2, Option.none⟩ v2).setCell ⟨w.heap.size, 3, Option.none⟩ v3).setCell ⟨w.heap.size, 4, Option.none⟩ v4).setCell ⟨w.heap.size, 5, Option.none⟩ v5).setCell ⟨(w.heap.size + 1), 0, Option.none⟩ r0).setCell ⟨(w.heap.size + 1), 1, Option.none⟩ r1).setCell ⟨(w.heap.size + 1), 2, Option.none⟩ r2).setCell ⟨(w.heap.size + 1), 3, Option.none⟩ r3).setCell ⟨(w.heap.size + 1), 4, Option.none⟩ r4).setCell ⟨(w.heap.size + 1), 5, Option.none⟩ r5) := by
  have ho : Off (fun k => k = w.heap.size ∨ k = w.heap.size + 1) u ((((((((((((u.setCell ⟨w.heap.size, 0, Option.none⟩ v0).setCell ⟨w.heap.size, 1, Option.none⟩ v1).setCell ⟨w.heap.size, 2, Option.none⟩ v2).setCell ⟨w.heap.size, 3, Option.none⟩ v3).setCell ⟨w.heap.size, 4, Option.none⟩ v4).setCell ⟨w.heap.size, 5, Option.none⟩ v5).setCell ⟨(w.heap.size + 1), 0, Option.none⟩ r0).setCell ⟨(w.heap.size + 1), 1, Option.none⟩ r1).setCell ⟨(w.heap.size + 1), 2, Option.none⟩ r2).setCell ⟨(w.heap.size + 1), 3, Option.none⟩ r3).setCell ⟨(w.heap.size + 1), 4, Option.none⟩ r4).setCell ⟨(w.heap.size + 1), 5, Option.none⟩ r5) := (over6_off (X := fun k => k = w.heap.size ∨ k = w.heap.size + 1) (.inl rfl) v0 v1 v2 v3 v4 v5).trans (over6_off (.inr rfl) r0 r1 r2 r3 r4 r5)
  have hs := h.size
  refine ⟨h.bel.trans (ho.below (by omega) (fun i hi => by rcases hi with rfl | rfl <;> omega)), ?_, ?_, Nat.le_trans h.size ho.size⟩
  · rw [over6_far (by omega)]; exact Go.Proofs.YtccajbgdlicbnaaDoor.over6 h.b0 h0 v0 v1 v2 v3 v4 v5
  · exact Go.Proofs.YtccajbgdlicbnaaDoor.over6 ((over6_far (by omega) v0 v1 v2 v3 v4 v5).trans h.b1) h1 r0 r1 r2 r3 r4 r5
theorem over6_both {w u : World} (v0 v1 v2 v3 v4 v5 : Value) (r0 r1 r2 r3 r4 r5 : Value) : Off (fun k => k = w.heap.size ∨ k = w.heap.size + 1) u ((((((((((((u.setCell ⟨w.heap.size, 0, Option.none⟩ v0).setCell ⟨w.heap.size, 1, Option.none⟩ v1).setCell ⟨w.heap.size, 2, Option.none⟩ v2).setCell ⟨w.heap.size, 3, Option.none⟩ v3).setCell ⟨w.heap.size, 4, Option.none⟩ v4).setCell ⟨w.heap.size, 5, Option.none⟩ v5).setCell ⟨(w.heap.size + 1), 0, Option.none⟩ r0).setCell ⟨(w.heap.size + 1), 1, Option.none⟩ r1).setCell ⟨(w.heap.size + 1), 2, Option.none⟩ r2).setCell ⟨(w.heap.size + 1), 3, Option.none⟩ r3).setCell ⟨(w.heap.size + 1), 4, Option.none⟩ r4).setCell ⟨(w.heap.size + 1), 5, Option.none⟩ r5) := (over6_off (X := fun k => k = w.heap.size ∨ k = w.heap.size + 1) (.inl rfl) v0 v1 v2 v3 v4 v5).trans (over6_off (.inr rfl) r0 r1 r2 r3 r4 r5)
theorem over8 {u : World} {b : Nat} {C : Array Value} {T : TypeId} (h : u.heap[b]? = some (.cells C T (0, 0))) (hs : C.size = 8) (v0 v1 v2 v3 v4 v5 v6 v7 : Value) : ((((((((u.setCell ⟨b, 0, Option.none⟩ v0).setCell ⟨b, 1, Option.none⟩ v1).setCell ⟨b, 2, Option.none⟩ v2).setCell ⟨b, 3, Option.none⟩ v3).setCell ⟨b, 4, Option.none⟩ v4).setCell ⟨b, 5, Option.none⟩ v5).setCell ⟨b, 6, Option.none⟩ v6).setCell ⟨b, 7, Option.none⟩ v7).heap[b]? = some (.cells #[v0, v1, v2, v3, v4, v5, v6, v7] T (0, 0)) := by
  obtain ⟨l⟩ := C
  match l, hs with
  | [c0, c1, c2, c3, c4, c5, c6, c7], _ => simp [World.setCell, Array.getElem?_modify, h]
theorem over8_far {u : World} {b k : Nat} (h : k ≠ b) (v0 v1 v2 v3 v4 v5 v6 v7 : Value) : ((((((((u.setCell ⟨b, 0, Option.none⟩ v0).setCell ⟨b, 1, Option.none⟩ v1).setCell ⟨b, 2, Option.none⟩ v2).setCell ⟨b, 3, Option.none⟩ v3).setCell ⟨b, 4, Option.none⟩ v4).setCell ⟨b, 5, Option.none⟩ v5).setCell ⟨b, 6, Option.none⟩ v6).setCell ⟨b, 7, Option.none⟩ v7).heap[k]? = u.heap[k]? := by
  rw [heap_far h, heap_far h, heap_far h, heap_far h, heap_far h, heap_far h, heap_far h, heap_far h]
theorem over8_off {u : World} {b : Nat} {X : Nat → Prop} (h : X b) (v0 v1 v2 v3 v4 v5 v6 v7 : Value) : Off X u ((((((((u.setCell ⟨b, 0, Option.none⟩ v0).setCell ⟨b, 1, Option.none⟩ v1).setCell ⟨b, 2, Option.none⟩ v2).setCell ⟨b, 3, Option.none⟩ v3).setCell ⟨b, 4, Option.none⟩ v4).setCell ⟨b, 5, Option.none⟩ v5).setCell ⟨b, 6, Option.none⟩ v6).setCell ⟨b, 7, Option.none⟩ v7) :=
  ((((((((Off.refl X u).setCell (.inl h) _).setCell (.inl h) _).setCell (.inl h) _).setCell (.inl h) _).setCell (.inl h) _).setCell (.inl h) _).setCell (.inl h) _).setCell (.inl h) _
theorem Laid2B.over8 {w : World} {t : TypeId} {C0 C1 : Array Value} {u : World} (h : Laid2B w t C0 C1 u) (h0 : C0.size = 8) (h1 : C1.size = 8) (v0 v1 v2 v3 v4 v5 v6 v7 : Value) (r0 r1 r2 r3 r4 r5 r6 r7 : Value) : Laid2B w t #[v0, v1, v2, v3, v4, v5, v6, v7] #[r0, r1, r2, r3, r4, r5, r6, r7] ((((((((((((((((u.setCell ⟨w.heap.size, 0, Option.none⟩ v0).setCell ⟨w.heap.size, 1, Option.none⟩ v1).setCell ⟨w.heap.size, 2, Option.none⟩ v2).setCell ⟨w.heap.size, 3, Option.none⟩ v3).setCell ⟨w.heap.size, 4, Option.none⟩ v4).setCell ⟨w.heap.size, 5, Option.none⟩ v5).setCell ⟨w.heap.size, 6, Option.none⟩ v6).setCell ⟨w.heap.size, 7, Option.none⟩ v7).setCell ⟨(w.heap.size + 1), 0, Option.none⟩ r0).setCell ⟨(w.heap.size + 1), 1, Option.none⟩ r1).setCell ⟨(w.heap.size + 1), 2, Option.none⟩ r2).setCell ⟨(w.heap.size + 1), 3, Option.none⟩ r3).setCell ⟨(w.heap.size + 1), 4, Option.none⟩ r4).setCell ⟨(w.heap.size + 1), 5, Option.none⟩ r5).setCell ⟨(w.heap.size + 1), 6, Option.none⟩ r6).setCell ⟨(w.heap.size + 1), 7, Option.none⟩ r7) := by
  have ho : Off (fun k => k = w.heap.size ∨ k = w.heap.size + 1) u ((((((((((((((((u.setCell ⟨w.heap.size, 0, Option.none⟩ v0).setCell ⟨w.heap.size, 1, Option.none⟩ v1).setCell ⟨w.heap.size, 2, Option.none⟩ v2).setCell ⟨w.heap.size, 3, Option.none⟩ v3).setCell ⟨w.heap.size, 4, Option.none⟩ v4).setCell ⟨w.heap.size, 5, Option.none⟩ v5).setCell ⟨w.heap.size, 6, Option.none⟩ v6).setCell ⟨w.heap.size, 7, Option.none⟩ v7).setCell ⟨(w.heap.size + 1), 0, Option.none⟩ r0).setCell ⟨(w.heap.size + 1), 1, Option.none⟩ r1).setCell ⟨(w.heap.size + 1), 2, Option.none⟩ r2).setCell ⟨(w.heap.size + 1), 3, Option.none⟩ r3).setCell ⟨(w.heap.size + 1), 4, Option.none⟩ r4).setCell ⟨(w.heap.size + 1), 5, Option.none⟩ r5).setCell ⟨(w.heap.size + 1), 6, Option.none⟩ r6).setCell ⟨(w.heap.size + 1), 7, Option.none⟩ r7) := (over8_off (X := fun k => k = w.heap.size ∨ k = w.heap.size + 1) (.inl rfl) v0 v1 v2 v3 v4 v5 v6 v7).trans (over8_off (.inr rfl) r0 r1 r2 r3 r4 r5 r6 r7)
  have hs := h.size
  refine ⟨h.bel.trans (ho.below (by omega) (fun i hi => by rcases hi with rfl | rfl <;> omega)), ?_, ?_, Nat.le_trans h.size ho.size⟩
  · rw [over8_far (by omega)]; exact Go.Proofs.YtccajbgdlicbnaaDoor.over8 h.b0 h0 v0 v1 v2 v3 v4 v5 v6 v7
  · exact Go.Proofs.YtccajbgdlicbnaaDoor.over8 ((over8_far (by omega) v0 v1 v2 v3 v4 v5 v6 v7).trans h.b1) h1 r0 r1 r2 r3 r4 r5 r6 r7
theorem over8_both {w u : World} (v0 v1 v2 v3 v4 v5 v6 v7 : Value) (r0 r1 r2 r3 r4 r5 r6 r7 : Value) : Off (fun k => k = w.heap.size ∨ k = w.heap.size + 1) u ((((((((((((((((u.setCell ⟨w.heap.size, 0, Option.none⟩ v0).setCell ⟨w.heap.size, 1, Option.none⟩ v1).setCell ⟨w.heap.size, 2, Option.none⟩ v2).setCell ⟨w.heap.size, 3, Option.none⟩ v3).setCell ⟨w.heap.size, 4, Option.none⟩ v4).setCell ⟨w.heap.size, 5, Option.none⟩ v5).setCell ⟨w.heap.size, 6, Option.none⟩ v6).setCell ⟨w.heap.size, 7, Option.none⟩ v7).setCell ⟨(w.heap.size + 1), 0, Option.none⟩ r0).setCell ⟨(w.heap.size + 1), 1, Option.none⟩ r1).setCell ⟨(w.heap.size + 1), 2, Option.none⟩ r2).setCell ⟨(w.heap.size + 1), 3, Option.none⟩ r3).setCell ⟨(w.heap.size + 1), 4, Option.none⟩ r4).setCell ⟨(w.heap.size + 1), 5, Option.none⟩ r5).setCell ⟨(w.heap.size + 1), 6, Option.none⟩ r6).setCell ⟨(w.heap.size + 1), 7, Option.none⟩ r7) := (over8_off (X := fun k => k = w.heap.size ∨ k = w.heap.size + 1) (.inl rfl) v0 v1 v2 v3 v4 v5 v6 v7).trans (over8_off (.inr rfl) r0 r1 r2 r3 r4 r5 r6 r7)
theorem EndQ.parts {w w' : World} {k1 x1 t1 l1 k2 x2 t2 l2 : Int} {p1 q1 p2 q2 : Value} {X Y : EndD} (hx : EndQ w [.int .i64 k1, .int .i64 x1, .int .i64 t1, .int .i64 l1, p1, q1] X) (hy : EndQ w' [.int .i64 k2, .int .i64 x2, .int .i64 t2, .int .i64 l2, p2, q2] Y) :
    X = Y ↔ k1 = k2 ∧ x1 = x2 ∧ t1 = t2 ∧ l1 = l2 ∧ X.L = Y.L ∧ X.M = Y.M := by
  obtain ⟨_, _, e, _⟩ := hx
  obtain ⟨_, _, f, _⟩ := hy
  obtain ⟨K, A, To, El, L, M⟩ := X
  obtain ⟨K', A', To', El', L', M'⟩ := Y
  simp only [List.cons.injEq, Value.int.injEq, true_and, and_true] at e f
  obtain ⟨rfl, rfl, rfl, rfl, _⟩ := e
  obtain ⟨rfl, rfl, rfl, rfl, _⟩ := f
  simp
theorem EndQ.numL {w : World} {k x t l : Int} {a b : Option Addr} {n c m d : Nat} {X : EndD} (h : EndQ w [.int .i64 k, .int .i64 x, .int .i64 t, .int .i64 l, .slice a n c, .slice b m d] X) : NumsAt w a n X.L ∧ n ≤ 140737488355328 := by
  obtain ⟨p, q, e, _, _, _, _, ⟨_, _, _, hp0, hp1, hp2, hp3, hp4⟩, _⟩ := h
  simp only [List.cons.injEq, true_and, and_true] at e
  obtain ⟨_, _, _, _, rfl, rfl⟩ := e
  cases hp0
  exact ⟨hp1, by omega⟩
theorem EndQ.numM {w : World} {k x t l : Int} {a b : Option Addr} {n c m d : Nat} {X : EndD} (h : EndQ w [.int .i64 k, .int .i64 x, .int .i64 t, .int .i64 l, .slice a n c, .slice b m d] X) : NumsAt w b m X.M ∧ m ≤ 140737488355328 := by
  obtain ⟨p, q, e, _, _, _, _, _, ⟨_, _, _, hp0, hp1, hp2, hp3, hp4⟩⟩ := h
  simp only [List.cons.injEq, true_and, and_true] at e
  obtain ⟨_, _, _, _, rfl, rfl⟩ := e
  cases hp0
  exact ⟨hp1, by omega⟩
theorem OpQ.parts {w w' : World} {k1 a1 b1 c1 n1 k2 a2 b2 c2 n2 : Int} {s1 s2 : ByteArray} {p1 p2 : Value} {t1 t2 : Bool} {X Y : OpD} (hx : OpQ w [.int .i64 k1, .int .i64 a1, .int .i64 b1, .int .i64 c1, .int .i64 n1, .string s1, p1, .bool t1] X) (hy : OpQ w' [.int .i64 k2, .int .i64 a2, .int .i64 b2, .int .i64 c2, .int .i64 n2, .string s2, p2, .bool t2] Y) :
    X = Y ↔ k1 = k2 ∧ a1 = a2 ∧ b1 = b2 ∧ c1 = c2 ∧ n1 = n2 ∧ s1 = s2 ∧ X.L = Y.L ∧ t1 = t2 := by
  obtain ⟨_, e, _⟩ := hx
  obtain ⟨_, f, _⟩ := hy
  obtain ⟨K, A, B, C, N, S, L, T⟩ := X
  obtain ⟨K', A', B', C', N', S', L', T'⟩ := Y
  simp only [List.cons.injEq, Value.int.injEq, Value.string.injEq, Value.bool.injEq, true_and, and_true] at e f
  obtain ⟨rfl, rfl, rfl, rfl, rfl, rfl, _, rfl⟩ := e
  obtain ⟨rfl, rfl, rfl, rfl, rfl, rfl, _, rfl⟩ := f
  simp
theorem OpQ.numL {w : World} {K A B C N : Int} {S : ByteArray} {a : Option Addr} {n c : Nat} {T : Bool} {X : OpD} (h : OpQ w [.int .i64 K, .int .i64 A, .int .i64 B, .int .i64 C, .int .i64 N, .string S, .slice a n c, .bool T] X) : NumsAt w a n X.L ∧ n ≤ 140737488355328 := by
  obtain ⟨p, e, _, _, _, _, _, _, ⟨_, _, _, hp0, hp1, hp2, hp3, hp4⟩⟩ := h
  simp only [List.cons.injEq, true_and, and_true] at e
  obtain ⟨_, _, _, _, _, _, rfl, _⟩ := e
  cases hp0
  exact ⟨hp1, by omega⟩
end Go.Proofs.YtccajbgdlicbnaaDoor

/- Layer 4, P4.1: package kind's Plain, walked. -/
namespace Go.Proofs.YtccajbgdlicbnaaDoor
open Go.RowKit (wrap64 intOf Below)
set_option linter.unusedVariables false

/-- Three blocks that were just laid, and an iterator. -/
theorem PlSt.start (w : World) (K A B C N : Int) (S : ByteArray) (la : Option Addr) (ln lc : Nat) (T : Bool) (L : List Int) (t0 t1 t2 : TypeId) :
    PlSt w ((((w.alloc (.cells #[.int .i64 K, .int .i64 A, .int .i64 B, .int .i64 C, .int .i64 N, .string S, .slice la ln lc, .bool T] t0)).alloc (.cells #[.int .i64 0, .int .i64 0, .int .i64 0, .int .i64 0, .int .i64 0, .string ⟨#[]⟩, .slice none 0 0, .bool false] t1)).alloc (.cells #[.int .i64 K, .int .i64 0, .int .i64 0, .int .i64 0, .int .i64 0, .string ⟨#[]⟩, .slice none 0 0, .bool false] t2)).iter (fstr K) 0) K A B C N S la ln lc T L 0 none 0 0 := by
  unfold World.iter
  refine ⟨(((Box.new w _ t0 rfl).alloc (by simp) _).alloc (by simp <;> omega) _).alloc (by simp <;> omega) _, ((Box.new _ _ t1 (by simp)).alloc (by simp) _).alloc (by simp <;> omega) _, ?_, ?_, ?_, (((Below.refl w.heap.size w).alloc (Nat.le_refl _) _).alloc (by simp) _ |>.alloc (by simp <;> omega) _).alloc (by simp <;> omega) _, by simp⟩
  · rw [plainT_zero]
    exact (Box.new _ _ t2 (by simp)).alloc (by simp) _
  · have h := World.iter_heap (((w.alloc (.cells #[.int .i64 K, .int .i64 A, .int .i64 B, .int .i64 C, .int .i64 N, .string S, .slice la ln lc, .bool T] t0)).alloc (.cells #[.int .i64 0, .int .i64 0, .int .i64 0, .int .i64 0, .int .i64 0, .string ⟨#[]⟩, .slice none 0 0, .bool false] t1)).alloc (.cells #[.int .i64 K, .int .i64 0, .int .i64 0, .int .i64 0, .int .i64 0, .string ⟨#[]⟩, .slice none 0 0, .bool false] t2)) (fstr K) 0
    simpa [World.iter] using h
  · rw [hasT_zero]
    exact World.ownsRow_nil _ _ _ 1
theorem round_end {w u u' : World} {K A B C N A' B' C' N' : Int} {S S' : ByteArray} {la la' : Option Addr} {ln lc ln' lc' : Nat} {T T' : Bool} {L L' : List Int} {k : Nat} {va va' : Option Addr} {vn vc vn' vc' : Nat} (hlt : k < (fieldsL K).length)
    (h : PlSt w u K A B C N S la ln lc T L k va vn vc) (h' : PlSt w u' K A' B' C' N' S' la' ln' lc' T' L' (k + 1) va' vn' vc') :
    k + 1 ≤ (fieldsL K).length ∧ (fieldsL K).length - u'.iterPos (w.heap.size + 3) < (fieldsL K).length - u.iterPos (w.heap.size + 3) := by
  refine ⟨hlt, ?_⟩
  simp only [World.iterPos, h.it, h'.it]
  omega
end Go.Proofs.YtccajbgdlicbnaaDoor

/- Layer 5: Copy's lists (gen/cpeach.py): of steps. -/
namespace Go.Proofs.YtccajbgdlicbnaaDoor
open Go.RowKit (wrap64 intOf Below)
set_option linter.unusedVariables false
set_option linter.unusedSimpArgs false
attribute [local go_sem ↓] Go.wp_at_zero Go.wp_at_succ

def OpPost (y : OpD) (w : World) (e : Ending) (w' : World) : Prop := ∃ k a b c n s va vn vc t, e = .returned (.agg #[.int .i64 k, .int .i64 a, .int .i64 b, .int .i64 c, .int .i64 n, .string s, .slice va vn vc, .bool t]) ∧
  OpO w' (From w.heap.size) [.int .i64 k, .int .i64 a, .int .i64 b, .int .i64 c, .int .i64 n, .string s, .slice va vn vc, .bool t] (plainOp y) ∧ Below w.heap.size w w'
theorem InR.pick {b : Bool} {z : Int} (h : InR z) : InR (pickI b z) := by
  cases b
  · exact InR.zero
  · exact h
theorem info_op : (Tryd.prog.info? 50).map (fun i => (i.zero, i.size, i.bytes)) = some (some (.agg #[.int .i64 0, .int .i64 0, .int .i64 0, .int .i64 0, .int .i64 0, .string ⟨#[]⟩, .slice none 0 0, .bool false]), 8, 88) := by kernel_rfl
/-- A list of the call's own comes back. -/
def EachopPost (xs : List OpD) (w : World) (e : Ending) (w' : World) : Prop := ∃ va vn vc, e = .returned (.slice va vn vc) ∧ RowO 50 8 OpO w' (From w.heap.size) (.slice va vn vc) (xs.map plainOp) ∧ Below w.heap.size w w'
end Go.Proofs.YtccajbgdlicbnaaDoor

/- Layer 5: a step without what plays no part: the document's Plain, and kind.Plain, of a step that is read. -/
namespace Go.Proofs.YtccajbgdlicbnaaDoor
open Go.RowKit (wrap64 intOf Below)
set_option linter.unusedVariables false
set_option linter.unusedSimpArgs false

theorem str_eq {a b : ByteArray} (h : a = b) : (a.toList == b.toList) = true := by rw [h]; exact beq_self_eq_true _
theorem str_ne {a b : ByteArray} (h : a ≠ b) : (a.toList == b.toList) = false := by
  rw [beq_eq_false_iff_ne]
  intro he
  have h1 := Lib.toList_data a
  have h2 := Lib.toList_data b
  rw [h1, h2] at he
  exact h (by cases a; cases b; simp at he; rw [he])
theorem ref_op_at (k a b c n : Int) (s : ByteArray) (pa : Option Addr) (pn pc : Nat) (t : Bool) (y : OpD) (w : World) (h : OpQ w [.int .i64 k, .int .i64 a, .int .i64 b, .int .i64 c, .int .i64 n, .string s, .slice pa pn pc, .bool t] y) :
    Calls Tryd.prog 67 #[.agg #[.int .i64 k, .int .i64 a, .int .i64 b, .int .i64 c, .int .i64 n, .string s, .slice pa pn pc, .bool t]] w (OpPost y w) := by
  obtain ⟨l, he, r1, r2, r3, r4, r5, r6, a', n', c', he2, hat, hnil, hn, hr⟩ := h
  simp only [List.cons.injEq, Value.int.injEq, Value.string.injEq, Value.bool.injEq, true_and, and_true] at he
  obtain ⟨rfl, rfl, rfl, rfl, rfl, rfl, he, rfl⟩ := he
  rw [← he] at he2
  cases he2
  have hl := hat.1
  refine (plain_any y.K y.A y.B y.C y.N y.S pa pn pc y.T y.L w hat hnil (by omega)).mono ?_
  rintro e w' ⟨va, vn, vc, rfl, hown, hb⟩
  refine ⟨_, _, _, _, _, _, va, vn, vc, _, rfl, ⟨_, rfl, r1, r2.pick, r3.pick, r4.pick, r5.pick, ?_, OwnsI.numsO hown ?_ ?_⟩, hb⟩
  · show (pickS _ y.S).size ≤ _
    unfold pickS
    split
    · exact r6
    · exact Nat.zero_le _
  · show (pickL _ y.L).length * 8 ≤ _
    unfold pickL
    split
    · rw [hl]; exact hn
    · exact Nat.zero_le _
  · intro z hz
    simp only [plainOp, pickL] at hz
    split at hz
    · exact hr z hz
    · cases hz
end Go.Proofs.YtccajbgdlicbnaaDoor

/- Layer 5: Copy's lists (gen/cpeach.py). -/
namespace Go.Proofs.YtccajbgdlicbnaaDoor
open Go.RowKit (wrap64 intOf Below)
set_option linter.unusedVariables false
set_option linter.unusedSimpArgs false
attribute [local go_sem ↓] Go.wp_at_zero Go.wp_at_succ

theorem set_far8 {u : World} {b o0 o1 o2 o3 o4 o5 o6 o7 : Nat} {v0 v1 v2 v3 v4 v5 v6 v7 : Value} {p : Addr} (h : p.block ≠ b) : ((((((((u.setCell ⟨b, o0, none⟩ v0).setCell ⟨b, o1, none⟩ v1).setCell ⟨b, o2, none⟩ v2).setCell ⟨b, o3, none⟩ v3).setCell ⟨b, o4, none⟩ v4).setCell ⟨b, o5, none⟩ v5).setCell ⟨b, o6, none⟩ v6).setCell ⟨b, o7, none⟩ v7).cell? p = u.cell? p := by
  rw [set_far h, set_far h, set_far h, set_far h, set_far h, set_far h, set_far h, set_far h]
theorem set_far2 {u : World} {b o0 o1 : Nat} {v0 v1 : Value} {p : Addr} (h : p.block ≠ b) : ((u.setCell ⟨b, o0, none⟩ v0).setCell ⟨b, o1, none⟩ v1).cell? p = u.cell? p := by
  rw [set_far h, set_far h]
def BlockPost (y : BlockD) (w : World) (e : Ending) (w' : World) : Prop := ∃ va vn vc ua un uc k x t l ta tn tc sa sn sc, e = .returned (.agg #[.slice va vn vc, .slice ua un uc, .int .i64 k, .int .i64 x, .int .i64 t, .int .i64 l, .slice ta tn tc, .slice sa sn sc]) ∧
  BlockO w' (From w.heap.size) [.slice va vn vc, .slice ua un uc, .int .i64 k, .int .i64 x, .int .i64 t, .int .i64 l, .slice ta tn tc, .slice sa sn sc] (plainBlock y) ∧ Below w.heap.size w w'
theorem RowO.past {α : Type} {T k : Nat} {Q : World → (Nat → Prop) → List Value → α → Prop} (hQ : Holds Q) {n : Nat} {u u' : World} {v : Value} {xs : List α} (h : RowO T k Q u (From (n + 2)) v xs) (ho : Off (fun b => b = n + 1) u u') : RowO T k Q u' (From n) v xs :=
  (h.off hQ ho (fun b hb e => by have : n + 2 ≤ b := hb; omega)).wider hQ (fun b _ hb => Nat.le_trans (by omega) hb)
theorem Holds.past {α : Type} {Q : World → (Nat → Prop) → List Value → α → Prop} (hQ : Holds Q) {n : Nat} {u u' : World} {cs : List Value} {x : α} (h : Q u (From (n + 2)) cs x) (ho : Off (fun b => b = n + 1) u u') : Q u' (From n) cs x :=
  hQ.wider (hQ.off h ho (fun b hb e => by have : n + 2 ≤ b := hb; omega)) (fun b _ hb => Nat.le_trans (by omega) hb)
end Go.Proofs.YtccajbgdlicbnaaDoor

/- Layer 5: Copy's lists (gen/cpeach.py). -/
namespace Go.Proofs.YtccajbgdlicbnaaDoor
open Go.RowKit (wrap64 intOf Below)
set_option linter.unusedVariables false
set_option linter.unusedSimpArgs false
attribute [local go_sem ↓] Go.wp_at_zero Go.wp_at_succ

theorem info_sig : (Tryd.prog.info? 41).map (fun i => (i.zero, i.size, i.bytes)) = some (some (.agg #[.slice none 0 0, .int .i64 0]), 2, 32) := by kernel_rfl
/-- A list of the call's own comes back. -/
def EachsigPost (xs : List SigD) (w : World) (e : Ending) (w' : World) : Prop := ∃ va vn vc, e = .returned (.slice va vn vc) ∧ RowO 41 2 SigO w' (From w.heap.size) (.slice va vn vc) (xs) ∧ Below w.heap.size w w'
theorem info_cls : (Tryd.prog.info? 43).map (fun i => (i.zero, i.size, i.bytes)) = some (some (.agg #[.slice none 0 0, .slice none 0 0]), 2, 48) := by kernel_rfl
/-- A list of the call's own comes back. -/
def EachclsPost (xs : List ClassD) (w : World) (e : Ending) (w' : World) : Prop := ∃ va vn vc, e = .returned (.slice va vn vc) ∧ RowO 43 2 ClassO w' (From w.heap.size) (.slice va vn vc) (xs) ∧ Below w.heap.size w w'
end Go.Proofs.YtccajbgdlicbnaaDoor

/- Layer 5: Copy's lists (gen/cpeach.py). -/
namespace Go.Proofs.YtccajbgdlicbnaaDoor
open Go.RowKit (wrap64 intOf Below)
set_option linter.unusedVariables false
set_option linter.unusedSimpArgs false
attribute [local go_sem ↓] Go.wp_at_zero Go.wp_at_succ

theorem info_block : (Tryd.prog.info? 48).map (fun i => (i.zero, i.size, i.bytes)) = some (some (.agg #[.slice none 0 0, .slice none 0 0, .int .i64 0, .int .i64 0, .int .i64 0, .int .i64 0, .slice none 0 0, .slice none 0 0]), 8, 128) := by kernel_rfl
/-- A list of the call's own comes back. -/
def EachblockPost (xs : List BlockD) (w : World) (e : Ending) (w' : World) : Prop := ∃ va vn vc, e = .returned (.slice va vn vc) ∧ RowO 48 8 BlockO w' (From w.heap.size) (.slice va vn vc) (xs.map plainBlock) ∧ Below w.heap.size w w'
def FuncPost (y : FuncD) (w : World) (e : Ending) (w' : World) : Prop := ∃ va vn vc, e = .returned (.agg #[.int .i64 y.ret, .slice va vn vc]) ∧ FuncO w' (From w.heap.size) [.int .i64 y.ret, .slice va vn vc] (plainFunc y) ∧ Below w.heap.size w w'
theorem info_func : (Tryd.prog.info? 34).map (fun i => (i.zero, i.size, i.bytes)) = some (some (.agg #[.int .i64 0, .slice none 0 0]), 2, 32) := by kernel_rfl
/-- A list of the call's own comes back. -/
def EachfuncPost (xs : List FuncD) (w : World) (e : Ending) (w' : World) : Prop := ∃ va vn vc, e = .returned (.slice va vn vc) ∧ RowO 34 2 FuncO w' (From w.heap.size) (.slice va vn vc) (xs.map plainFunc) ∧ Below w.heap.size w w'
/-- A program in memory of the call's own comes back. -/
def CopyPost (P : ProgD) (w : World) (e : Ending) (w' : World) : Prop :=
  ∃ b s c f, e = .returned (.pointer (some ⟨b, 0, none⟩)) ∧ w.heap.size ≤ b ∧ WinAt w' b 0 [s, c, f] ∧ ProgO w' (fun k => w.heap.size ≤ k ∧ k ≠ b) [s, c, f] P ∧ Below w.heap.size w w'
end Go.Proofs.YtccajbgdlicbnaaDoor

/- Layer 5: the walk's end, with a reader (gen/rkend.py). -/
namespace Go.Proofs.YtccajbgdlicbnaaDoor
open Go.RowKit (wrap64 intOf Below)
set_option linter.unusedVariables false
set_option linter.unusedSimpArgs false
attribute [local go_sem ↓] Go.wp_at_zero Go.wp_at_succ

theorem rdBelow_in {b x : Int} {L rest : List UInt8} (h : rdBelow b L = .ok x rest) : 0 ≤ x ∧ x < b := by
  unfold rdBelow at h
  cases hn : rdNum L with
  | no e => rw [hn] at h; cases h
  | ok m r =>
    rw [hn] at h
    simp only [PR.bind] at h
    split at h
    · rename_i hh; cases h; exact hh
    · cases h
end Go.Proofs.YtccajbgdlicbnaaDoor

/- Layer 5: a step, read field by field (P5.1, P5.2); where a reader's walk through the fields stands. -/
namespace Go.Proofs.YtccajbgdlicbnaaDoor
open Go.RowKit (wrap64 intOf Below)
set_option linter.unusedVariables false
set_option linter.unusedSimpArgs false

def rdField (o : OpD) (f : UInt8) (L : List UInt8) : PR OpD :=
  if f = 78 then (rdNum L).bind fun n r => .ok { o with N := n } r else if f = 83 then (rdText L).bind fun s r => .ok { o with S := s } r
  else if f = 65 then (rdNum L).bind fun n r => .ok { o with A := n } r else if f = 66 then (rdNum L).bind fun n r => .ok { o with B := n } r
  else if f = 67 then (rdNum L).bind fun n r => .ok { o with C := n } r else if f = 76 then (rdNums 8 L).bind fun l r => .ok { o with L := l } r
  else (rdTruth L).bind fun t r => .ok { o with T := t } r
def rdFields : OpD → List UInt8 → List UInt8 → PR OpD
  | o, [], L => .ok o L
  | o, f :: fs, L => (rdField o f L).bind fun o' r => rdFields o' fs r
def opZero (k : Int) : OpD := ⟨k, 0, 0, 0, 0, ⟨#[]⟩, [], false⟩
def rdOp (L : List UInt8) : PR OpD := (rdBelow 26 L).bind fun k r => rdFields (opZero k) (fieldsL k) r
theorem rdFields_append : ∀ (fs gs : List UInt8) (o : OpD) (L : List UInt8), rdFields o (fs ++ gs) L = (rdFields o fs L).bind fun o' r => rdFields o' gs r
  | [], gs, o, L => rfl
  | f :: fs, gs, o, L => by
    simp only [List.cons_append, rdFields]
    cases rdField o f L with
    | no e => rfl
    | ok o' r => simp only [PR.bind]; exact rdFields_append fs gs o' r
theorem rdFields_more {fs : List UInt8} {j : Nat} (h : j < fs.length) {o o' o'' : OpD} {L r r' : List UInt8} (h1 : rdFields o (fs.take j) L = .ok o' r) (h2 : rdField o' fs[j] r = .ok o'' r') : rdFields o (fs.take (j + 1)) L = .ok o'' r' := by
  rw [List.take_succ_eq_append_getElem h, rdFields_append, h1]
  simp only [PR.bind, rdFields, h2]
theorem rdFields_no {fs : List UInt8} {j : Nat} (h : j < fs.length) {o o' : OpD} {L r : List UInt8} {e : Int} (h1 : rdFields o (fs.take j) L = .ok o' r) (h2 : rdField o' fs[j] r = .no e) : rdFields o fs L = .no e := by
  conv => lhs; rw [← List.take_append_drop j fs]
  rw [rdFields_append, h1, List.drop_eq_getElem_cons h]
  simp only [PR.bind, rdFields, h2]
/-- A list stands among the fields at most once. -/
def letterSets : List (List UInt8) := [[78], [83], [78, 65, 66], [65], [65, 66], [78, 76, 75], [78, 65], [78, 75], [65, 66, 67], [75], [78, 76], [78, 65, 76], []]
theorem letters_in (K : Int) : letterSets.contains (fieldsL K) = true := by
  rcases kinds K with h | h
  · rcases h with rfl | rfl | rfl | rfl | rfl | rfl | rfl | rfl | rfl | rfl | rfl | rfl | rfl | rfl | rfl | rfl | rfl | rfl | rfl | rfl | rfl | rfl | rfl | rfl | rfl | rfl
    all_goals decide +kernel
  · rw [fields_none h]
    decide +kernel
theorem letters_once : letterSets.all (fun fs => (List.range 4).all fun j => !(fs[j]? == some 76) || !(fs.take j).contains 76) = true := by decide +kernel
theorem letter_once (K : Int) (j : Nat) (h : j < (fieldsL K).length) (hf : (fieldsL K)[j] = 76) : (76 : UInt8) ∉ (fieldsL K).take j := by
  have h1 := List.all_eq_true.1 letters_once (fieldsL K) (List.contains_iff_mem.1 (letters_in K))
  have h2 := List.all_eq_true.1 h1 j (List.mem_range.2 (by have := fields_le K; omega))
  intro hm
  rw [List.getElem?_eq_getElem h, hf] at h2
  have h3 : ((fieldsL K).take j).contains 76 = true := List.contains_iff_mem.2 hm
  rw [h3] at h2
  simp at h2
theorem rdText_size {L rest : List UInt8} {s : ByteArray} (h : rdText L = .ok s rest) : s.size ≤ 140737488351232 := by
  unfold rdText at h
  cases hc : rdCount 64 L with
  | no e => rw [hc] at h; cases h
  | ok m r =>
    rw [hc] at h
    simp only [PR.bind] at h
    split at h
    · cases h
      rw [mk_size, List.length_take]
      unfold rdCount at hc
      cases hn : rdNum L with
      | no e => rw [hn] at hc; cases hc
      | ok z r' =>
        rw [hn] at hc
        simp only [PR.bind] at hc
        split at hc
        · cases hc
        · split at hc
          · cases hc
          · cases hc; omega
    · cases h

def opCells (o : OpD) (l : Value) : List Value := [.int .i64 o.K, .int .i64 o.A, .int .i64 o.B, .int .i64 o.C, .int .i64 o.N, .string o.S, l, .bool o.T]
section
variable {r B g off : Nat} {w : World} {bx ib : Nat} {K : Int} {L1 : List UInt8} {j p : Nat} {u : World} {o : OpD} {l : Value} {rest : List UInt8}
end
end Go.Proofs.YtccajbgdlicbnaaDoor

/- Layer 5: the walk's op, with a reader (gen/rkop.py). -/
namespace Go.Proofs.YtccajbgdlicbnaaDoor
open Go.RowKit (wrap64 intOf Below)
set_option linter.unusedVariables false
set_option linter.unusedSimpArgs false
attribute [local go_sem ↓] Go.wp_at_zero Go.wp_at_succ

theorem rx_off {r g : Nat} {u u' : World} (h : Off (RX r) u u') : Off (fun i => i = r ∨ i = g) u u' := h.mono (fun i _ hi => .inl hi)
end Go.Proofs.YtccajbgdlicbnaaDoor

/- Layer 5, plain: which block, function, program bytes begin with (P5.1, P5.2). -/
namespace Go.Proofs.YtccajbgdlicbnaaDoor
set_option linter.unusedVariables false

def rdBlock (L : List UInt8) : PR BlockD := (rdNums 8 L).bind fun ps r => (rdList 700 rdOp r).bind fun os r' => (rdEnd r').bind fun e r2 => .ok ⟨ps, os, e⟩ r2
def rdFunc (L : List UInt8) : PR FuncD := (rdNum L).bind fun t r => (rdList 40 rdBlock r).bind fun bs r' => .ok ⟨t, bs⟩ r'
def rdProg (L : List UInt8) : PR ProgD := (rdList 4 rdSig L).bind fun ss r => (rdList 8 rdClass r).bind fun cs r' => (rdList 16 rdFunc r').bind fun fs r2 => .ok ⟨ss, cs, fs⟩ r2
end Go.Proofs.YtccajbgdlicbnaaDoor

/- Layer 5: the walk's methods, with a reader (gen/rkmeth.py). -/
namespace Go.Proofs.YtccajbgdlicbnaaDoor
open Go.RowKit (wrap64 intOf Below)
set_option linter.unusedVariables false
set_option linter.unusedSimpArgs false
attribute [local go_sem ↓] Go.wp_at_zero Go.wp_at_succ

end Go.Proofs.YtccajbgdlicbnaaDoor

/- Layer 5: the walk's methods, with a reader (gen/rkmeth.py). -/
namespace Go.Proofs.YtccajbgdlicbnaaDoor
open Go.RowKit (wrap64 intOf Below)
set_option linter.unusedVariables false
set_option linter.unusedSimpArgs false
attribute [local go_sem ↓] Go.wp_at_zero Go.wp_at_succ

end Go.Proofs.YtccajbgdlicbnaaDoor

/- Layer 5: the walk's op, with a writer (gen/wkop.py). -/
namespace Go.Proofs.YtccajbgdlicbnaaDoor
open Go.RowKit (wrap64 intOf Below)
set_option linter.unusedVariables false
set_option linter.unusedSimpArgs false
attribute [local go_sem ↓] Go.wp_at_zero Go.wp_at_succ

theorem FT.off {X : Nat → Prop} {w w' : World} (h : FT w) (ho : Off X w w') (hx : ¬ X 2) : FT w' := fun k hk => by
  rw [ho.cell (p := ⟨2, k, none⟩) h.lt hx]; exact h k hk
theorem field_N (o : OpD) : encField o 78 = encN o.N := rfl
theorem field_S (o : OpD) : encField o 83 = outText o.S := rfl
theorem field_A (o : OpD) : encField o 65 = encN o.A := rfl
theorem field_B (o : OpD) : encField o 66 = encN o.B := rfl
theorem field_C (o : OpD) : encField o 67 = encN o.C := rfl
theorem field_L (o : OpD) : encField o 76 = encNums 8 o.L := rfl
theorem field_K (o : OpD) : encField o 75 = encN (bitV o.T) := rfl
section
variable {x B : Nat} {v : Value} {w : World} {bx : Nat} {L0 : List UInt8} {ib : Nat} {K : Int} {y : OpD} {k p : Nat} {u : World} {vu : Value} {l : List UInt8}
end

end Go.Proofs.YtccajbgdlicbnaaDoor

/- Layer 5: the walk's methods, with a writer (gen/wkmeth.py). -/
namespace Go.Proofs.YtccajbgdlicbnaaDoor
open Go.RowKit (wrap64 intOf Below)
set_option linter.unusedVariables false
set_option linter.unusedSimpArgs false
attribute [local go_sem ↓] Go.wp_at_zero Go.wp_at_succ

theorem Upto.op4 (o : OpD) : Upto (encOp o) 400 := (Upto.op o).mono (by omega)
theorem Upto.block3 (o : BlockD) : Upto (encBlock o) 300000 := (Upto.block o).mono (by omega)
theorem Upto.func3 (o : FuncD) : Upto (encFunc o) 13000000 := (Upto.func o).mono (by omega)

end Go.Proofs.YtccajbgdlicbnaaDoor

/- Layer 5: what is given up by panic comes back as an error (code.through): with a writer. -/
namespace Go.Proofs.YtccajbgdlicbnaaDoor
open Go.RowKit (wrap64 intOf Below)
set_option linter.unusedVariables false
set_option linter.unusedSimpArgs false

theorem assert_errno (er : Int) (w : World) : (Instr.typeAssert (.iface 68 (.int .i64 er)) 20 68 false).run Tryd.prog w = .ok (.int .i64 er) w := by kernel_rfl
end Go.Proofs.YtccajbgdlicbnaaDoor

/- Layer 5: code.through with a reader. -/
namespace Go.Proofs.YtccajbgdlicbnaaDoor
open Go.RowKit (wrap64 intOf Below)
set_option linter.unusedVariables false
set_option linter.unusedSimpArgs false

end Go.Proofs.YtccajbgdlicbnaaDoor

/- Layer 5: code.Encode: a program's bytes, or why none. -/
namespace Go.Proofs.YtccajbgdlicbnaaDoor
open Go.RowKit (wrap64 intOf Below)
set_option linter.unusedVariables false
set_option linter.unusedSimpArgs false

/-- What Encode comes to: too many bytes are none. -/
def outBytes (o : Out) : Out := match o with | .no e => .no e | .ok l => if 65536 < l.length then .no 2 else .ok l
def EncPost (o : Out) (w : World) (e : Ending) (w' : World) : Prop :=
  (∃ l va vn vc, o = .ok l ∧ e = .returned (.tuple #[.slice va vn vc, .int .i64 0]) ∧ OwnsB w' w.heap.size 5 (.slice va vn vc) l ∧ Below w.heap.size w w') ∨ (∃ er, o = .no er ∧ e = .returned (.tuple #[.slice none 0 0, .int .i64 er]) ∧ Below w.heap.size w w')
theorem out_or (o : Out) : (∃ l, o = .ok l) ∨ ∃ er, o = .no er := by cases o <;> simp
/-- Which errors there are: none of them is 0. -/
theorem errs_list {α : Type} {f : α → Out} (hf : ∀ x e, f x = .no e → e = 2 ∨ e = 4) : ∀ xs : List α, ∀ e, encAll f xs = .no e → e = 2 ∨ e = 4
  | [], e, h => by cases h
  | x :: xs, e, h => by
    simp only [encAll] at h
    rcases out_or (f x) with ⟨l, h1⟩ | ⟨er, h1⟩
    · rw [h1] at h
      rcases out_or (encAll f xs) with ⟨m, h2⟩ | ⟨er, h2⟩
      · rw [h2] at h; cases h
      · rw [h2] at h; cases h; exact errs_list hf xs _ h2
    · rw [h1, Out.no_and] at h; cases h; exact hf x _ h1
theorem errs_and {a b : Out} (ha : ∀ e, a = .no e → e = 2 ∨ e = 4) (hb : ∀ e, b = .no e → e = 2 ∨ e = 4) : ∀ e, a.and b = .no e → e = 2 ∨ e = 4 := by
  intro e h
  cases a with
  | no x => rw [Out.no_and] at h; exact ha e h
  | ok l => cases b with
    | no x => cases h; exact hb _ rfl
    | ok m => cases h
theorem errs_num (z : Int) : ∀ e, encN z = .no e → e = 2 ∨ e = 4 := fun e h => by cases h
theorem errs_chk (b : Bool) (c : Int) (hc : c = 2 ∨ c = 4) : ∀ e, chk b c = .no e → e = 2 ∨ e = 4 := fun e h => by
  unfold chk at h
  split at h
  · cases h
  · cases h; exact hc
theorem errs_rows {α : Type} {f : α → Out} (most : Nat) (hf : ∀ x e, f x = .no e → e = 2 ∨ e = 4) (xs : List α) : ∀ e, encList most f xs = .no e → e = 2 ∨ e = 4 :=
  errs_and (errs_and (errs_num _) (errs_chk _ _ (.inl rfl))) (errs_list hf xs)
theorem errs_nums (most : Nat) (Z : List Int) : ∀ e, encNums most Z = .no e → e = 2 ∨ e = 4 := errs_rows most (fun z => errs_num z) Z
theorem errs_below (n b : Int) : ∀ e, outBelow n b = .no e → e = 2 ∨ e = 4 := errs_and (errs_num _) (errs_chk _ _ (.inr rfl))
theorem errs_field (o : OpD) (f : UInt8) : ∀ e, encField o f = .no e → e = 2 ∨ e = 4 := by
  unfold encField
  repeat' split
  all_goals first | exact errs_num _ | exact errs_nums _ _ | exact errs_and (errs_chk _ _ (.inl rfl)) (fun e h => by cases h)
theorem errs_op (o : OpD) : ∀ e, encOp o = .no e → e = 2 ∨ e = 4 := errs_and (errs_below _ _) (errs_list (fun f => errs_field o f) _)
theorem errs_end (y : EndD) : ∀ e, encEnd y = .no e → e = 2 ∨ e = 4 := by
  refine errs_and (errs_below _ _) ?_
  unfold encRest
  repeat' split
  · exact errs_and (errs_num _) (errs_nums _ _)
  · exact errs_and (errs_num _) (errs_and (errs_num _) (errs_and (errs_nums _ _) (errs_and (errs_num _) (errs_nums _ _))))
  · exact errs_num _
theorem errs_block (y : BlockD) : ∀ e, encBlock y = .no e → e = 2 ∨ e = 4 := errs_and (errs_nums _ _) (errs_and (errs_rows _ errs_op _) (errs_end _))
theorem errs_func (y : FuncD) : ∀ e, encFunc y = .no e → e = 2 ∨ e = 4 := errs_and (errs_num _) (errs_rows _ errs_block _)
theorem errs_sig (y : SigD) : ∀ e, encSig y = .no e → e = 2 ∨ e = 4 := errs_and (errs_nums _ _) (errs_num _)
theorem errs_cls (y : ClassD) : ∀ e, encClass y = .no e → e = 2 ∨ e = 4 := errs_and (errs_nums _ _) (errs_nums _ _)
theorem errs_prog (y : ProgD) : ∀ e, encProg y = .no e → e = 2 ∨ e = 4 := errs_and (errs_rows _ errs_sig _) (errs_and (errs_rows _ errs_cls _) (errs_rows _ errs_func _))

end Go.Proofs.YtccajbgdlicbnaaDoor

/- Layer 5, plain: a program's bytes are read as it, without what plays no part (P5.4); without the last ones they are none (P5.5); what is read is written as what was read. Nothing of the program is named here. -/
namespace Go.Proofs.YtccajbgdlicbnaaDoor
set_option linter.unusedVariables false

/-- A reader takes just these bytes, whatever stands behind, and of a beginning it says that there are too few (3). -/
def Takes {α : Type} (p : List UInt8 → PR α) (l : List UInt8) (x : α) : Prop :=
  (∀ X, p (l ++ X) = .ok x X) ∧ ∀ j, j < l.length → p (l.take j) = .no 3
section
variable {α β : Type}
theorem Takes.bind {p : List UInt8 → PR α} {f : α → List UInt8 → PR β} {l m : List UInt8} {x : α} {y : β} (h : Takes p l x) (h' : Takes (f x) m y) : Takes (fun L => (p L).bind f) (l ++ m) y := by
  constructor
  · intro X
    simp only [List.append_assoc]
    rw [h.1]
    exact h'.1 X
  · intro j hj
    by_cases hl : j < l.length
    · have e : (l ++ m).take j = l.take j := List.take_append_of_le_length (by omega)
      simp only [e, h.2 j hl, PR.bind]
    · have e : (l ++ m).take j = l ++ m.take (j - l.length) := by rw [List.take_append, List.take_of_length_le (by omega)]
      simp only [e]
      rw [h.1]
      exact h'.2 _ (by simp at hj; omega)
theorem Takes.pure (x : α) : Takes (fun L => .ok x L) [] x := ⟨fun X => rfl, fun j hj => absurd hj (by simp)⟩
theorem Takes.map {p : List UInt8 → PR α} {l : List UInt8} {x : α} (g : α → β) (h : Takes p l x) : Takes (fun L => (p L).bind fun x r => .ok (g x) r) l (g x) := by
  have := h.bind (f := fun x r => .ok (g x) r) (m := []) (y := g x) (Takes.pure _)
  simpa using this
theorem Takes.guard {p : List UInt8 → PR α} {f : α → List UInt8 → PR β} {l : List UInt8} {x : α} {y : β} (h : Takes p l x) (h' : ∀ r, f x r = .ok y r) : Takes (fun L => (p L).bind f) l y := by
  have := h.bind (f := f) (m := []) (y := y) ⟨fun X => h' X, fun j hj => absurd hj (by simp)⟩
  simpa using this
theorem ok_and {a b : Out} {l : List UInt8} (h : a.and b = .ok l) : ∃ x y, a = .ok x ∧ b = .ok y ∧ l = x ++ y := by
  cases a with
  | no e => simp at h
  | ok x => cases b with
    | no e => simp [Out.and] at h
    | ok y => simp only [Out.and, Out.ok.injEq] at h; exact ⟨x, y, rfl, rfl, h.symm⟩
theorem ok_chk {b : Bool} {e : Int} {l : List UInt8} (h : chk b e = .ok l) : b = true ∧ l = [] := by
  unfold chk at h
  split at h
  · rename_i hb; exact ⟨hb, by simpa using h.symm⟩
  · cases h
theorem takes_num {z : Int} (h : InR z) : Takes rdNum (putL z) z := by
  refine ⟨fun X => ?_, fun j hj => rdNum_no (fails_cut h.1 h.2 j hj)⟩
  rw [rdNum_yes (gives_put h.1 h.2 X)]
  simp
theorem takes_enc {z : Int} (h : InR z) {l : List UInt8} (he : encN z = .ok l) : Takes rdNum l z := by
  simp only [encN, Out.ok.injEq] at he
  subst he
  exact takes_num h
theorem takes_below {n b : Int} (h : InR n) {l : List UInt8} (he : outBelow n b = .ok l) : Takes (rdBelow b) l n := by
  obtain ⟨x, y, h1, h2, rfl⟩ := ok_and he
  obtain ⟨hb, rfl⟩ := ok_chk h2
  rw [List.append_nil]
  simp only [inB, decide_eq_true_eq] at hb
  exact (takes_enc h h1).guard fun r => by rw [if_pos hb]
theorem takes_count {n most : Nat} (hm : most ≤ 1000) {l : List UInt8} (he : outCount n most = .ok l) : Takes (rdCount most) l n := by
  obtain ⟨x, y, h1, h2, rfl⟩ := ok_and he
  obtain ⟨hb, rfl⟩ := ok_chk h2
  rw [List.append_nil]
  simp only [decide_eq_true_eq] at hb
  exact (takes_enc (z := (n : Int)) ⟨by omega, by omega⟩ h1).guard fun r => by rw [if_neg (by omega), if_neg (by omega)]; rfl
/-- What is read of an encoded thing. -/
def Reads1 (p : List UInt8 → PR α) (enc : α → Out) (norm : α → α) (good : α → Prop) : Prop := ∀ x l, good x → enc x = .ok l → Takes p l (norm x)
theorem takes_times {p : List UInt8 → PR α} {enc : α → Out} {norm : α → α} {good : α → Prop} (h : Reads1 p enc norm good) : ∀ (xs : List α) (l : List UInt8), (∀ x ∈ xs, good x) → encAll enc xs = .ok l → Takes (rdTimes p xs.length) l (xs.map norm)
  | [], l, _, he => by simp only [encAll, Out.ok.injEq] at he; subst he; exact Takes.pure _
  | x :: xs, l, hg, he => by
    obtain ⟨a, b, h1, h2, rfl⟩ := ok_and he
    exact (h x a (hg x (by simp)) h1).bind (f := fun x r => (rdTimes p xs.length r).bind fun xs r' => .ok (x :: xs) r') ((takes_times h xs b (fun y hy => hg y (by simp [hy])) h2).map (fun ys => norm x :: ys))
theorem takes_list {p : List UInt8 → PR α} {enc : α → Out} {norm : α → α} {good : α → Prop} (most : Nat) (hm : most ≤ 1000) (h : Reads1 p enc norm good) (xs : List α) (l : List UInt8) (hg : ∀ x ∈ xs, good x) (he : encList most enc xs = .ok l) : Takes (rdList most p) l (xs.map norm) := by
  obtain ⟨a, b, h1, h2, rfl⟩ := ok_and he
  exact (takes_count hm h1).bind (f := fun n r => rdTimes p n r) (takes_times h xs b hg h2)
theorem takes_nums (most : Nat) (hm : most ≤ 1000) {Z : List Int} (hg : ∀ z ∈ Z, InR z) {l : List UInt8} (he : encNums most Z = .ok l) : Takes (rdNums most) l Z := by
  have := takes_list (p := rdNum) (enc := encN) (norm := id) (good := InR) most hm (fun z l hz h => takes_enc hz h) Z l hg he
  rw [List.map_id] at this
  exact this
theorem takes_text {s : ByteArray} (hs : s.size ≤ 64) : Takes rdText (putS s) s := by
  have hl := list_len s
  unfold putS
  refine (takes_count (n := s.size) (most := 64) (by omega) (outCount_yes hs)).bind (f := fun m r => if m ≤ r.length then .ok (mk (r.take m)) (r.drop m) else .no 3) ⟨fun X => ?_, fun j hj => ?_⟩
  · show (if s.size ≤ (s.data.toList ++ X).length then PR.ok (mk ((s.data.toList ++ X).take s.size)) ((s.data.toList ++ X).drop s.size) else .no 3) = _
    rw [if_pos (by rw [List.length_append]; omega), List.take_append_of_le_length (by omega), List.take_of_length_le (by omega), List.drop_append_of_le_length (by omega), List.drop_of_length_le (by omega), mk_of]
    rfl
  · show (if s.size ≤ (s.data.toList.take j).length then PR.ok (mk ((s.data.toList.take j).take s.size)) ((s.data.toList.take j).drop s.size) else .no 3) = _
    rw [if_neg (by rw [List.length_take]; omega)]
theorem takes_truth {b : Bool} {l : List UInt8} (he : encN (if b then 1 else 0) = .ok l) : Takes rdTruth l b := by
  have h : Takes (rdBelow 2) l (if b then 1 else 0) := by
    simp only [encN, Out.ok.injEq] at he
    subst he
    exact (takes_num (z := if b then 1 else 0) (by cases b <;> exact ⟨by decide, by decide⟩)).guard fun r => by rw [if_pos (by cases b <;> decide)]
  have := h.map (fun n => n == 1)
  have e : ((if b then (1 : Int) else 0) == 1) = b := by cases b <;> rfl
  rw [e] at this
  exact this
end

/-- The numbers of a program are such as there are. -/
def RngOp (o : OpD) : Prop := InR o.K ∧ InR o.A ∧ InR o.B ∧ InR o.C ∧ InR o.N ∧ ∀ z ∈ o.L, InR z
def RngEnd (e : EndD) : Prop := InR e.K ∧ InR e.A ∧ InR e.To ∧ InR e.Else ∧ (∀ z ∈ e.L, InR z) ∧ ∀ z ∈ e.M, InR z
def RngBlock (b : BlockD) : Prop := (∀ z ∈ b.params, InR z) ∧ (∀ o ∈ b.ops, RngOp o) ∧ RngEnd b.fin
def RngFunc (f : FuncD) : Prop := InR f.ret ∧ ∀ b ∈ f.blocks, RngBlock b
def RngSig (s : SigD) : Prop := (∀ z ∈ s.params, InR z) ∧ InR s.ret
def RngClass (c : ClassD) : Prop := (∀ z ∈ c.fields, InR z) ∧ ∀ z ∈ c.methods, InR z
def RngProg (p : ProgD) : Prop := (∀ s ∈ p.sigs, RngSig s) ∧ (∀ c ∈ p.classes, RngClass c) ∧ ∀ f ∈ p.funcs, RngFunc f

def setF (a o : OpD) (f : UInt8) : OpD :=
  if f = 78 then { a with N := o.N } else if f = 83 then { a with S := o.S } else if f = 65 then { a with A := o.A } else if f = 66 then { a with B := o.B } else if f = 67 then { a with C := o.C } else
  if f = 76 then { a with L := o.L } else { a with T := o.T }
theorem takes_field (a o : OpD) (f : UInt8) (hr : RngOp o) {l : List UInt8} (he : encField o f = .ok l) : Takes (rdField a f) l (setF a o f) := by
  unfold encField at he
  unfold setF
  by_cases h1 : f = 78
  · subst h1
    rw [if_pos rfl] at he ⊢
    exact (takes_enc hr.2.2.2.2.1 he).map (fun n => { a with N := n })
  · rw [if_neg h1] at he ⊢
    by_cases h2 : f = 83
    · subst h2
      rw [if_pos rfl] at he ⊢
      obtain ⟨x, y, e1, e2, rfl⟩ := ok_and he
      obtain ⟨hb, rfl⟩ := ok_chk e1
      simp only [Out.ok.injEq] at e2
      subst e2
      rw [List.nil_append]
      exact (takes_text (by simpa using hb)).map (fun s => { a with S := s })
    · rw [if_neg h2] at he ⊢
      by_cases h3 : f = 65
      · subst h3
        rw [if_pos rfl] at he ⊢
        exact (takes_enc hr.2.1 he).map (fun n => { a with A := n })
      · rw [if_neg h3] at he ⊢
        by_cases h4 : f = 66
        · subst h4
          rw [if_pos rfl] at he ⊢
          exact (takes_enc hr.2.2.1 he).map (fun n => { a with B := n })
        · rw [if_neg h4] at he ⊢
          by_cases h5 : f = 67
          · subst h5
            rw [if_pos rfl] at he ⊢
            exact (takes_enc hr.2.2.2.1 he).map (fun n => { a with C := n })
          · rw [if_neg h5] at he ⊢
            by_cases h6 : f = 76
            · subst h6
              rw [if_pos rfl] at he ⊢
              exact (takes_nums 8 (by omega) hr.2.2.2.2.2 he).map (fun l => { a with L := l })
            · rw [if_neg h6] at he ⊢
              have h := (takes_truth he).map (fun t => { a with T := t })
              have e : rdField a f = fun L => (rdTruth L).bind fun t r => .ok { a with T := t } r := by
                funext L
                unfold rdField
                rw [if_neg h1, if_neg h2, if_neg h3, if_neg h4, if_neg h5, if_neg h6]
              rw [e]
              exact h
theorem takes_fields (o : OpD) (hr : RngOp o) : ∀ (fs : List UInt8) (a : OpD) (l : List UInt8), encAll (encField o) fs = .ok l → Takes (rdFields a fs) l (fs.foldl (fun a f => setF a o f) a)
  | [], a, l, he => by simp only [encAll, Out.ok.injEq] at he; subst he; exact Takes.pure _
  | f :: fs, a, l, he => by
    obtain ⟨x, y, h1, h2, rfl⟩ := ok_and he
    exact (takes_field a o f hr h1).bind (f := fun o' r => rdFields o' fs r) (takes_fields o hr fs _ y h2)
theorem set_all (o : OpD) : (fieldsL o.K).foldl (fun a f => setF a o f) (opZero o.K) = plainOp o := by
  obtain ⟨K, A, B, C, N, S, L, T⟩ := o
  rcases kinds K with h | h
  · rcases h with rfl | rfl | rfl | rfl | rfl | rfl | rfl | rfl | rfl | rfl | rfl | rfl | rfl | rfl | rfl | rfl | rfl | rfl | rfl | rfl | rfl | rfl | rfl | rfl | rfl | rfl
    all_goals rfl
  · simp [plainOp, hasB, fields_none h, opZero, pickI, pickS, pickL]
theorem takes_op : Reads1 rdOp encOp plainOp RngOp := by
  intro o l hr he
  obtain ⟨x, y, h1, h2, rfl⟩ := ok_and he
  have h := takes_fields o hr (fieldsL o.K) (opZero o.K) y h2
  rw [set_all] at h
  exact (takes_below hr.1 h1).bind (f := fun k r => rdFields (opZero k) (fieldsL k) r) h
theorem takes_target {t : Int} {Z : List Int} (ht : InR t) (hz : ∀ z ∈ Z, InR z) {x y : List UInt8} (h1 : encN t = .ok x) (h2 : encNums 8 Z = .ok y) : Takes rdTarget (x ++ y) (t, Z) :=
  (takes_enc ht h1).bind (f := fun t r => (rdNums 8 r).bind fun Z r' => .ok (t, Z) r') ((takes_nums 8 (by omega) hz h2).map (fun Z => (t, Z)))
theorem takes_end : Reads1 rdEnd encEnd plainEnd RngEnd := by
  intro e l hr he
  obtain ⟨K, A, To, El, L, M⟩ := e
  obtain ⟨r1, r2, r3, r4, r5, r6⟩ := hr
  obtain ⟨x, y, h1, h2, rfl⟩ := ok_and he
  have hK : 0 ≤ K ∧ K < 4 := by
    obtain ⟨_, _, _, h3, _⟩ := ok_and h1
    simpa [inB] using (ok_chk h3).1
  refine (takes_below r1 h1).bind ?_
  simp only [encRest] at h2
  simp only [plainEnd]
  by_cases h0 : K = 0
  · subst h0
    simp only [if_true] at h2 ⊢
    obtain ⟨a, b, e1, e2, rfl⟩ := ok_and h2
    exact (takes_target r3 r5 e1 e2).map (fun p => (⟨0, 0, p.1, 0, p.2, []⟩ : EndD))
  · simp only [if_neg h0] at h2 ⊢
    by_cases h1 : K = 1
    · subst h1
      simp only [if_true] at h2 ⊢
      obtain ⟨a, b, e1, e2, rfl⟩ := ok_and h2
      obtain ⟨c, d, e3, e4, rfl⟩ := ok_and e2
      obtain ⟨f, g, e5, e6, rfl⟩ := ok_and e4
      obtain ⟨i, j, e7, e8, rfl⟩ := ok_and e6
      have h := (takes_enc r2 e1).bind (f := fun a r1 => (rdTarget r1).bind fun p r2 => (rdTarget r2).bind fun q r3 => .ok (⟨1, a, p.1, q.1, p.2, q.2⟩ : EndD) r3)
        ((takes_target r3 r5 e3 e5).bind (f := fun p r2 => (rdTarget r2).bind fun q r3 => .ok (⟨1, A, p.1, q.1, p.2, q.2⟩ : EndD) r3) ((takes_target r4 r6 e7 e8).map (fun q => (⟨1, A, To, q.1, L, q.2⟩ : EndD))))
      simpa [List.append_assoc] using h
    · simp only [if_neg h1] at h2 ⊢
      rw [if_pos (by omega)]
      exact (takes_enc r2 h2).map (fun a => (⟨K, a, 0, 0, [], []⟩ : EndD))
theorem takes_block : Reads1 rdBlock encBlock plainBlock RngBlock := by
  intro b l hr he
  obtain ⟨x, y, h1, h2, rfl⟩ := ok_and he
  obtain ⟨u, v, h3, h4, rfl⟩ := ok_and h2
  exact (takes_nums 8 (by omega) hr.1 h1).bind (f := fun ps r => (rdList 700 rdOp r).bind fun os r' => (rdEnd r').bind fun e r2 => .ok (⟨ps, os, e⟩ : BlockD) r2)
    ((takes_list 700 (by omega) takes_op b.ops u hr.2.1 h3).bind (f := fun os r' => (rdEnd r').bind fun e r2 => .ok (⟨b.params, os, e⟩ : BlockD) r2) ((takes_end b.fin v hr.2.2 h4).map (fun e => (⟨b.params, b.ops.map plainOp, e⟩ : BlockD))))
theorem takes_func : Reads1 rdFunc encFunc plainFunc RngFunc := by
  intro f l hr he
  obtain ⟨x, y, h1, h2, rfl⟩ := ok_and he
  exact (takes_enc hr.1 h1).bind (f := fun t r => (rdList 40 rdBlock r).bind fun bs r' => .ok (⟨t, bs⟩ : FuncD) r') ((takes_list 40 (by omega) takes_block f.blocks y hr.2 h2).map (fun bs => (⟨f.ret, bs⟩ : FuncD)))
theorem takes_sig : Reads1 rdSig encSig id RngSig := by
  intro s l hr he
  obtain ⟨x, y, h1, h2, rfl⟩ := ok_and he
  exact (takes_nums 8 (by omega) hr.1 h1).bind (f := fun ps r => (rdNum r).bind fun t r' => .ok (⟨ps, t⟩ : SigD) r') ((takes_enc hr.2 h2).map (fun t => (⟨s.params, t⟩ : SigD)))
theorem takes_class : Reads1 rdClass encClass id RngClass := by
  intro s l hr he
  obtain ⟨x, y, h1, h2, rfl⟩ := ok_and he
  exact (takes_nums 8 (by omega) hr.1 h1).bind (f := fun fs r => (rdNums 4 r).bind fun ms r' => .ok (⟨fs, ms⟩ : ClassD) r') ((takes_nums 4 (by omega) hr.2 h2).map (fun ms => (⟨s.fields, ms⟩ : ClassD)))
/-- A program's bytes are read as it, without what plays no part; without the last ones they are too few. -/
theorem takes_prog : Reads1 rdProg encProg plainProg RngProg := by
  intro p l hr he
  obtain ⟨x, y, h1, h2, rfl⟩ := ok_and he
  obtain ⟨u, v, h3, h4, rfl⟩ := ok_and h2
  have e1 := takes_list 4 (by omega) takes_sig p.sigs x hr.1 h1
  have e2 := takes_list 8 (by omega) takes_class p.classes u hr.2.1 h3
  rw [List.map_id] at e1 e2
  exact e1.bind (f := fun ss r => (rdList 8 rdClass r).bind fun cs r' => (rdList 16 rdFunc r').bind fun fs r2 => .ok (⟨ss, cs, fs⟩ : ProgD) r2)
    (e2.bind (f := fun cs r' => (rdList 16 rdFunc r').bind fun fs r2 => .ok (⟨p.sigs, cs, fs⟩ : ProgD) r2) ((takes_list 16 (by omega) takes_func p.funcs v hr.2.2 h4).map (fun fs => (⟨p.sigs, p.classes, fs⟩ : ProgD))))

/-- What is plain stays as it is; its numbers are such as there are. -/
theorem plainOp_twice (o : OpD) : plainOp (plainOp o) = plainOp o := by
  unfold plainOp
  simp only [pickI, pickS, pickL]
  congr 1 <;> (try split <;> rfl)
  cases hasB o.K 75 <;> rfl
theorem plainEnd_twice (e : EndD) : plainEnd (plainEnd e) = plainEnd e := by
  obtain ⟨K, A, To, El, L, M⟩ := e
  simp only [plainEnd]
  by_cases h0 : K = 0
  · simp [h0]
  · by_cases h1 : K = 1
    · simp [h1]
    · by_cases h2 : K = 2 ∨ K = 3
      · simp [h0, h1, h2]
      · simp [h0, h1, h2]
theorem plainBlock_twice (b : BlockD) : plainBlock (plainBlock b) = plainBlock b := by
  simp [plainBlock, plainEnd_twice, Function.comp_def, plainOp_twice]
theorem plainFunc_twice (f : FuncD) : plainFunc (plainFunc f) = plainFunc f := by
  simp [plainFunc, Function.comp_def, plainBlock_twice]
theorem plainProg_twice (p : ProgD) : plainProg (plainProg p) = plainProg p := by
  simp [plainProg, Function.comp_def, plainFunc_twice]
theorem inR_zero : InR 0 := ⟨by decide, by decide⟩
theorem rng_pick {b : Bool} {z : Int} (h : InR z) : InR (pickI b z) := by unfold pickI; split; exact h; exact inR_zero
theorem RngOp.plain {o : OpD} (h : RngOp o) : RngOp (plainOp o) :=
  ⟨h.1, rng_pick h.2.1, rng_pick h.2.2.1, rng_pick h.2.2.2.1, rng_pick h.2.2.2.2.1, fun z hz => by
    simp only [plainOp, pickL] at hz
    split at hz
    · exact h.2.2.2.2.2 z hz
    · cases hz⟩
theorem RngEnd.plain {e : EndD} (h : RngEnd e) : RngEnd (plainEnd e) := by
  obtain ⟨r1, r2, r3, r4, r5, r6⟩ := h
  unfold plainEnd
  split
  · exact ⟨r1, inR_zero, r3, inR_zero, r5, fun z hz => by cases hz⟩
  · split
    · exact ⟨r1, r2, r3, r4, r5, r6⟩
    · split
      · exact ⟨r1, r2, inR_zero, inR_zero, fun z hz => (by cases hz), fun z hz => (by cases hz)⟩
      · exact ⟨r1, inR_zero, inR_zero, inR_zero, fun z hz => (by cases hz), fun z hz => (by cases hz)⟩
theorem RngProg.plain {p : ProgD} (h : RngProg p) : RngProg (plainProg p) := by
  refine ⟨h.1, h.2.1, fun f hf => ?_⟩
  obtain ⟨f', hf', rfl⟩ := List.mem_map.1 hf
  have h1 := h.2.2 f' hf'
  refine ⟨h1.1, fun b hb => ?_⟩
  obtain ⟨b', hb', rfl⟩ := List.mem_map.1 hb
  have h2 := h1.2 b' hb'
  refine ⟨h2.1, fun o ho => ?_, h2.2.2.plain⟩
  obtain ⟨o', ho', rfl⟩ := List.mem_map.1 ho
  exact (h2.2.1 o' ho').plain

/-- What was read is written as what was read (P5.4); and it is plain. -/
def Backs {α : Type} (p : List UInt8 → PR α) (enc : α → Out) (good : α → Prop) : Prop := ∀ L x X, p L = .ok x X → ∃ l, enc x = .ok l ∧ L = l ++ X ∧ good x
theorem bind_ok {α β : Type} {p : PR α} {f : α → List UInt8 → PR β} {y : β} {X : List UInt8} (h : p.bind f = .ok y X) : ∃ x r, p = .ok x r ∧ f x r = .ok y X := by
  cases p with
  | no e => cases h
  | ok x r => exact ⟨x, r, rfl, h⟩
theorem backs_num : Backs rdNum encN InR := by
  intro L x X h
  rcases gives_or_fails L with ⟨m, k, hg⟩ | ⟨er, hf⟩
  · rw [rdNum_yes hg] at h
    cases h
    have hp := hg.put
    exact ⟨_, rfl, by rw [← hp.2.2.2.1, List.take_append_drop], hp.2.2.2.2⟩
  · rw [rdNum_no hf] at h; cases h
theorem backs_below (b : Int) : Backs (rdBelow b) (fun n => outBelow n b) (fun n => 0 ≤ n ∧ n < b) := by
  intro L x X h
  obtain ⟨n, r, h1, h2⟩ := bind_ok h
  split at h2
  · rename_i hb
    cases h2
    obtain ⟨l, e1, e2, _⟩ := backs_num _ _ _ h1
    simp only [encN, Out.ok.injEq] at e1
    subst e1
    exact ⟨_, outBelow_yes hb.1 hb.2, e2, hb⟩
  · cases h2
theorem backs_count (most : Nat) : Backs (rdCount most) (fun n => outCount n most) (fun n => n ≤ most) := by
  intro L x X h
  obtain ⟨n, r, h1, h2⟩ := bind_ok h
  split at h2
  · cases h2
  · split at h2
    · cases h2
    · cases h2
      obtain ⟨l, e1, e2, _⟩ := backs_num _ _ _ h1
      simp only [encN, Out.ok.injEq] at e1
      subst e1
      refine ⟨_, outCount_yes (by omega), ?_, by omega⟩
      rw [Int.toNat_of_nonneg (by omega)]
      exact e2
theorem backs_times {α : Type} {p : List UInt8 → PR α} {enc : α → Out} {good : α → Prop} (h : Backs p enc good) : ∀ (n : Nat) (L : List UInt8) (xs : List α) (X : List UInt8), rdTimes p n L = .ok xs X → ∃ l, encAll enc xs = .ok l ∧ L = l ++ X ∧ xs.length = n ∧ ∀ x ∈ xs, good x
  | 0, L, xs, X, e => by cases e; exact ⟨[], rfl, rfl, rfl, fun x hx => by cases hx⟩
  | n + 1, L, xs, X, e => by
    obtain ⟨x, r, h1, h2⟩ := bind_ok e
    obtain ⟨ys, r', h3, h4⟩ := bind_ok h2
    cases h4
    obtain ⟨l, e1, rfl, g1⟩ := h _ _ _ h1
    obtain ⟨m, e2, rfl, e3, g2⟩ := backs_times h n _ _ _ h3
    refine ⟨l ++ m, by simp only [encAll, e1, e2]; rfl, by rw [List.append_assoc], by simp [e3], fun y hy => ?_⟩
    rcases List.mem_cons.1 hy with rfl | hy
    · exact g1
    · exact g2 y hy
theorem backs_list {α : Type} {p : List UInt8 → PR α} {enc : α → Out} {good : α → Prop} (most : Nat) (h : Backs p enc good) : Backs (rdList most p) (encList most enc) (fun xs => ∀ x ∈ xs, good x) := by
  intro L xs X e
  obtain ⟨n, r, h1, h2⟩ := bind_ok e
  obtain ⟨l, e1, rfl, g1⟩ := backs_count most _ _ _ h1
  obtain ⟨m, e2, rfl, e3, g2⟩ := backs_times h n _ _ _ h2
  subst e3
  exact ⟨l ++ m, by simp only [encList, e1, e2]; rfl, by rw [List.append_assoc], g2⟩
theorem backs_nums (most : Nat) : Backs (rdNums most) (encNums most) (fun Z => ∀ z ∈ Z, InR z) := backs_list most backs_num
theorem backs_text : Backs rdText (fun s => (chk (decide (s.size ≤ 64)) 2).and (.ok (putS s))) (fun _ => True) := by
  intro L s X h
  obtain ⟨m, r, h1, h2⟩ := bind_ok h
  obtain ⟨l, e1, rfl, g1⟩ := backs_count 64 _ _ _ h1
  split at h2
  · rename_i hm
    cases h2
    have hs : (mk (r.take m)).size = m := by rw [mk_size, List.length_take]; omega
    simp only [outCount_yes g1, Out.ok.injEq] at e1
    subst e1
    refine ⟨putS (mk (r.take m)), ?_, ?_, trivial⟩
    · simp only [hs, chk, decide_eq_true g1, if_true, Out.nil_and]
    · unfold putS
      rw [hs, mk_list, List.append_assoc, List.take_append_drop]
  · cases h2
theorem backs_truth : Backs rdTruth (fun b => encN (if b then 1 else 0)) (fun _ => True) := by
  intro L b X h
  obtain ⟨n, r, h1, h2⟩ := bind_ok h
  cases h2
  obtain ⟨l, e1, rfl, g1⟩ := backs_below 2 _ _ _ h1
  simp only [outBelow_yes g1.1 g1.2, Out.ok.injEq] at e1
  subst e1
  refine ⟨_, ?_, rfl, trivial⟩
  have : n = 0 ∨ n = 1 := by omega
  rcases this with rfl | rfl <;> rfl
def sevenL : List UInt8 := [78, 83, 65, 66, 67, 76, 75]
theorem sevenL_of (K : Int) : (fieldsL K).Nodup ∧ ∀ f ∈ fieldsL K, f ∈ sevenL := by
  rcases kinds K with h | h
  · rcases h with rfl | rfl | rfl | rfl | rfl | rfl | rfl | rfl | rfl | rfl | rfl | rfl | rfl | rfl | rfl | rfl | rfl | rfl | rfl | rfl | rfl | rfl | rfl | rfl | rfl | rfl
    all_goals decide
  · rw [fields_none h]
    decide
/-- What is read of one field sets it alone, and is written as it was read. -/
theorem back_field {a o : OpD} {f : UInt8} (hf : f ∈ sevenL) {L X : List UInt8} (h : rdField a f L = .ok o X) :
    (∃ l, encField o f = .ok l ∧ L = l ++ X) ∧ o.K = a.K ∧ (∀ g ∈ sevenL, g ≠ f → encField o g = encField a g) ∧ (f ≠ 78 → o.N = a.N) ∧ (f ≠ 83 → o.S = a.S) ∧ (f ≠ 65 → o.A = a.A) ∧ (f ≠ 66 → o.B = a.B) ∧ (f ≠ 67 → o.C = a.C) ∧ (f ≠ 76 → o.L = a.L) ∧ (f ≠ 75 → o.T = a.T) := by
  simp only [sevenL, List.mem_cons, List.not_mem_nil, or_false] at hf
  rcases hf with rfl | rfl | rfl | rfl | rfl | rfl | rfl
  · obtain ⟨n, r, h1, h2⟩ := bind_ok (p := rdNum L) h
    cases h2
    obtain ⟨l, e1, rfl, _⟩ := backs_num _ _ _ h1
    refine ⟨⟨l, e1, rfl⟩, rfl, ?_, by simp, by simp, by simp, by simp, by simp, by simp, by simp⟩
    intro g hg hne
    simp only [sevenL, List.mem_cons, List.not_mem_nil, or_false] at hg
    rcases hg with rfl | rfl | rfl | rfl | rfl | rfl | rfl <;> first | exact absurd rfl hne | rfl
  · obtain ⟨n, r, h1, h2⟩ := bind_ok (p := rdText L) h
    cases h2
    obtain ⟨l, e1, rfl, _⟩ := backs_text _ _ _ h1
    refine ⟨⟨l, e1, rfl⟩, rfl, ?_, by simp, by simp, by simp, by simp, by simp, by simp, by simp⟩
    intro g hg hne
    simp only [sevenL, List.mem_cons, List.not_mem_nil, or_false] at hg
    rcases hg with rfl | rfl | rfl | rfl | rfl | rfl | rfl <;> first | exact absurd rfl hne | rfl
  · obtain ⟨n, r, h1, h2⟩ := bind_ok (p := rdNum L) h
    cases h2
    obtain ⟨l, e1, rfl, _⟩ := backs_num _ _ _ h1
    refine ⟨⟨l, e1, rfl⟩, rfl, ?_, by simp, by simp, by simp, by simp, by simp, by simp, by simp⟩
    intro g hg hne
    simp only [sevenL, List.mem_cons, List.not_mem_nil, or_false] at hg
    rcases hg with rfl | rfl | rfl | rfl | rfl | rfl | rfl <;> first | exact absurd rfl hne | rfl
  · obtain ⟨n, r, h1, h2⟩ := bind_ok (p := rdNum L) h
    cases h2
    obtain ⟨l, e1, rfl, _⟩ := backs_num _ _ _ h1
    refine ⟨⟨l, e1, rfl⟩, rfl, ?_, by simp, by simp, by simp, by simp, by simp, by simp, by simp⟩
    intro g hg hne
    simp only [sevenL, List.mem_cons, List.not_mem_nil, or_false] at hg
    rcases hg with rfl | rfl | rfl | rfl | rfl | rfl | rfl <;> first | exact absurd rfl hne | rfl
  · obtain ⟨n, r, h1, h2⟩ := bind_ok (p := rdNum L) h
    cases h2
    obtain ⟨l, e1, rfl, _⟩ := backs_num _ _ _ h1
    refine ⟨⟨l, e1, rfl⟩, rfl, ?_, by simp, by simp, by simp, by simp, by simp, by simp, by simp⟩
    intro g hg hne
    simp only [sevenL, List.mem_cons, List.not_mem_nil, or_false] at hg
    rcases hg with rfl | rfl | rfl | rfl | rfl | rfl | rfl <;> first | exact absurd rfl hne | rfl
  · obtain ⟨n, r, h1, h2⟩ := bind_ok (p := rdNums 8 L) h
    cases h2
    obtain ⟨l, e1, rfl, _⟩ := backs_nums 8 _ _ _ h1
    refine ⟨⟨l, e1, rfl⟩, rfl, ?_, by simp, by simp, by simp, by simp, by simp, by simp, by simp⟩
    intro g hg hne
    simp only [sevenL, List.mem_cons, List.not_mem_nil, or_false] at hg
    rcases hg with rfl | rfl | rfl | rfl | rfl | rfl | rfl <;> first | exact absurd rfl hne | rfl
  · obtain ⟨n, r, h1, h2⟩ := bind_ok (p := rdTruth L) h
    cases h2
    obtain ⟨l, e1, rfl, _⟩ := backs_truth _ _ _ h1
    refine ⟨⟨l, e1, rfl⟩, rfl, ?_, by simp, by simp, by simp, by simp, by simp, by simp, by simp⟩
    intro g hg hne
    simp only [sevenL, List.mem_cons, List.not_mem_nil, or_false] at hg
    rcases hg with rfl | rfl | rfl | rfl | rfl | rfl | rfl <;> first | exact absurd rfl hne | rfl
theorem back_fields : ∀ (fs : List UInt8) (a o : OpD) (L X : List UInt8), (∀ f ∈ fs, f ∈ sevenL) → fs.Nodup → rdFields a fs L = .ok o X →
    (∃ l, encAll (encField o) fs = .ok l ∧ L = l ++ X) ∧ o.K = a.K ∧ (∀ g ∈ sevenL, g ∉ fs → encField o g = encField a g) ∧ (78 ∉ fs → o.N = a.N) ∧ (83 ∉ fs → o.S = a.S) ∧ (65 ∉ fs → o.A = a.A) ∧ (66 ∉ fs → o.B = a.B) ∧ (67 ∉ fs → o.C = a.C) ∧ (76 ∉ fs → o.L = a.L) ∧ (75 ∉ fs → o.T = a.T)
  | [], a, o, L, X, _, _, h => by
    cases h
    exact ⟨⟨[], rfl, rfl⟩, rfl, fun _ _ _ => rfl, fun _ => rfl, fun _ => rfl, fun _ => rfl, fun _ => rfl, fun _ => rfl, fun _ => rfl, fun _ => rfl⟩
  | f :: fs, a, o, L, X, hf, hn, h => by
    obtain ⟨a', r, h1, h2⟩ := bind_ok h
    obtain ⟨⟨l1, e1, rfl⟩, k1, g1, n1, s1, a1, b1, c1, t1, u1⟩ := back_field (hf f (by simp)) h1
    obtain ⟨⟨l2, e2, rfl⟩, k2, g2, n2, s2, a2, b2, c2, t2, u2⟩ := back_fields fs a' o r X (fun g hg => hf g (by simp [hg])) (List.nodup_cons.1 hn).2 h2
    have hfo : encField o f = .ok l1 := (g2 f (hf f (by simp)) (List.nodup_cons.1 hn).1).trans e1
    refine ⟨⟨l1 ++ l2, by simp only [encAll, hfo, e2]; rfl, by rw [List.append_assoc]⟩, k2.trans k1, ?_, ?_, ?_, ?_, ?_, ?_, ?_, ?_⟩
    · intro g hg hn
      simp only [List.mem_cons, not_or] at hn
      exact (g2 g hg hn.2).trans (g1 g hg hn.1)
    all_goals
      intro hn
      simp only [List.mem_cons, not_or] at hn
    · exact (n2 hn.2).trans (n1 (fun e => hn.1 e.symm))
    · exact (s2 hn.2).trans (s1 (fun e => hn.1 e.symm))
    · exact (a2 hn.2).trans (a1 (fun e => hn.1 e.symm))
    · exact (b2 hn.2).trans (b1 (fun e => hn.1 e.symm))
    · exact (c2 hn.2).trans (c1 (fun e => hn.1 e.symm))
    · exact (t2 hn.2).trans (t1 (fun e => hn.1 e.symm))
    · exact (u2 hn.2).trans (u1 (fun e => hn.1 e.symm))
theorem backs_op : Backs rdOp encOp (fun o => plainOp o = o) := by
  intro L o X h
  obtain ⟨k, r, h1, h2⟩ := bind_ok h
  obtain ⟨l1, e1, rfl, g1⟩ := backs_below 26 _ _ _ h1
  obtain ⟨⟨l2, e2, rfl⟩, hk, _, n2, s2, a2, b2, c2, t2, u2⟩ := back_fields _ _ _ _ _ (sevenL_of k).2 (sevenL_of k).1 h2
  have hk' : o.K = k := hk
  refine ⟨l1 ++ l2, by simp only [encOp, hk', e1, e2]; rfl, by rw [List.append_assoc], ?_⟩
  obtain ⟨K, A, B, C, N, S, Lo, T⟩ := o
  dsimp only at hk' n2 s2 a2 b2 c2 t2 u2 ⊢
  subst hk'
  have hb : ∀ f : UInt8, f ∉ fieldsL K ∨ hasB K f = true := fun f => by
    by_cases h : f ∈ fieldsL K
    · exact .inr (by simpa [hasB] using h)
    · exact .inl h
  have hbf : ∀ f : UInt8, f ∉ fieldsL K → hasB K f = false := fun f h => by simpa [hasB] using h
  simp only [plainOp, pickI, pickS, pickL, OpD.mk.injEq, true_and]
  refine ⟨?_, ?_, ?_, ?_, ?_, ?_, ?_⟩
  · rcases hb 65 with h | h
    · rw [hbf _ h, a2 h]; rfl
    · rw [h]; rfl
  · rcases hb 66 with h | h
    · rw [hbf _ h, b2 h]; rfl
    · rw [h]; rfl
  · rcases hb 67 with h | h
    · rw [hbf _ h, c2 h]; rfl
    · rw [h]; rfl
  · rcases hb 78 with h | h
    · rw [hbf _ h, n2 h]; rfl
    · rw [h]; rfl
  · rcases hb 83 with h | h
    · rw [hbf _ h, s2 h]; rfl
    · rw [h]; rfl
  · rcases hb 76 with h | h
    · rw [hbf _ h, t2 h]; rfl
    · rw [h]; rfl
  · rcases hb 75 with h | h
    · rw [hbf _ h, u2 h]; rfl
    · rw [h]; rfl
theorem back_target {L X : List UInt8} {t : Int} {Z : List Int} (h : rdTarget L = .ok (t, Z) X) : ∃ l, (encN t).and (encNums 8 Z) = .ok l ∧ L = l ++ X := by
  obtain ⟨n, r, h1, h2⟩ := bind_ok h
  obtain ⟨Z', r', h3, h4⟩ := bind_ok h2
  cases h4
  obtain ⟨l1, e1, rfl, _⟩ := backs_num _ _ _ h1
  obtain ⟨l2, e2, rfl, _⟩ := backs_nums 8 _ _ _ h3
  exact ⟨l1 ++ l2, by rw [e1, e2]; rfl, by rw [List.append_assoc]⟩
theorem backs_end : Backs rdEnd encEnd (fun e => plainEnd e = e) := by
  intro L e X h
  obtain ⟨k, r, h1, h2⟩ := bind_ok h
  obtain ⟨l1, e1, rfl, g1⟩ := backs_below 4 _ _ _ h1
  by_cases h0 : k = 0
  · subst h0
    simp only [if_true] at h2
    obtain ⟨⟨t, Z⟩, r', h3, h4⟩ := bind_ok h2
    cases h4
    obtain ⟨l2, e2, rfl⟩ := back_target h3
    exact ⟨l1 ++ l2, by simp only [encEnd, encRest, if_true, e1, e2]; rfl, by rw [List.append_assoc], by simp [plainEnd]⟩
  · simp only [if_neg h0] at h2
    by_cases h1' : k = 1
    · subst h1'
      simp only [if_true] at h2
      obtain ⟨a, r', h3, h4⟩ := bind_ok h2
      obtain ⟨⟨t, Z⟩, r2, h5, h6⟩ := bind_ok h4
      obtain ⟨⟨t2, Z2⟩, r3, h7, h8⟩ := bind_ok h6
      cases h8
      obtain ⟨l2, e2, rfl, _⟩ := backs_num _ _ _ h3
      obtain ⟨l3, e3, rfl⟩ := back_target h5
      obtain ⟨l4, e4, rfl⟩ := back_target h7
      refine ⟨l1 ++ (l2 ++ (l3 ++ l4)), ?_, by simp only [List.append_assoc], by simp [plainEnd]⟩
      simp only [encEnd, encRest, if_neg h0, if_true, e1, e2, ← Out.and_assoc (encN t) _ _, e3, e4]
      rfl
    · simp only [if_neg h1'] at h2
      obtain ⟨a, r', h3, h4⟩ := bind_ok h2
      cases h4
      obtain ⟨l2, e2, rfl, _⟩ := backs_num _ _ _ h3
      refine ⟨l1 ++ l2, by simp only [encEnd, encRest, if_neg h0, if_neg h1', e1, e2]; rfl, by rw [List.append_assoc], ?_⟩
      simp only [plainEnd, if_neg h0, if_neg h1']
      rw [if_pos (by omega)]
theorem backs_block : Backs rdBlock encBlock (fun b => plainBlock b = b) := by
  intro L b X h
  obtain ⟨ps, r, h1, h2⟩ := bind_ok h
  obtain ⟨os, r', h3, h4⟩ := bind_ok h2
  obtain ⟨e, r2, h5, h6⟩ := bind_ok h4
  cases h6
  obtain ⟨l1, e1, rfl, _⟩ := backs_nums 8 _ _ _ h1
  obtain ⟨l2, e2, rfl, g2⟩ := backs_list 700 backs_op _ _ _ h3
  obtain ⟨l3, e3, rfl, g3⟩ := backs_end _ _ _ h5
  refine ⟨l1 ++ (l2 ++ l3), by simp only [encBlock, e1, e2, e3]; rfl, by simp only [List.append_assoc], ?_⟩
  simp only [plainBlock, g3]
  rw [show os.map plainOp = os from by conv => rhs; rw [← List.map_id os]
                                       exact List.map_congr_left g2]
theorem backs_func : Backs rdFunc encFunc (fun f => plainFunc f = f) := by
  intro L f X h
  obtain ⟨t, r, h1, h2⟩ := bind_ok h
  obtain ⟨bs, r', h3, h4⟩ := bind_ok h2
  cases h4
  obtain ⟨l1, e1, rfl, _⟩ := backs_num _ _ _ h1
  obtain ⟨l2, e2, rfl, g2⟩ := backs_list 40 backs_block _ _ _ h3
  refine ⟨l1 ++ l2, by simp only [encFunc, e1, e2]; rfl, by simp only [List.append_assoc], ?_⟩
  simp only [plainFunc]
  rw [show bs.map plainBlock = bs from by conv => rhs; rw [← List.map_id bs]
                                          exact List.map_congr_left g2]
theorem backs_sig : Backs rdSig encSig (fun _ => True) := by
  intro L s X h
  obtain ⟨ps, r, h1, h2⟩ := bind_ok h
  obtain ⟨t, r', h3, h4⟩ := bind_ok h2
  cases h4
  obtain ⟨l1, e1, rfl, _⟩ := backs_nums 8 _ _ _ h1
  obtain ⟨l2, e2, rfl, g2⟩ := backs_num _ _ _ h3
  exact ⟨l1 ++ l2, by simp only [encSig, e1, e2]; rfl, by simp only [List.append_assoc], trivial⟩
theorem backs_class : Backs rdClass encClass (fun _ => True) := by
  intro L s X h
  obtain ⟨ps, r, h1, h2⟩ := bind_ok h
  obtain ⟨t, r', h3, h4⟩ := bind_ok h2
  cases h4
  obtain ⟨l1, e1, rfl, _⟩ := backs_nums 8 _ _ _ h1
  obtain ⟨l2, e2, rfl, g2⟩ := backs_nums 4 _ _ _ h3
  exact ⟨l1 ++ l2, by simp only [encClass, e1, e2]; rfl, by simp only [List.append_assoc], trivial⟩
/-- The program that bytes are is written as these bytes. -/
theorem backs_prog : Backs rdProg encProg (fun p => plainProg p = p) := by
  intro L s X h
  obtain ⟨ss, r, h1, h2⟩ := bind_ok h
  obtain ⟨cs, r', h3, h4⟩ := bind_ok h2
  obtain ⟨fs, r2, h5, h6⟩ := bind_ok h4
  cases h6
  obtain ⟨l1, e1, rfl, _⟩ := backs_list 4 backs_sig _ _ _ h1
  obtain ⟨l2, e2, rfl, _⟩ := backs_list 8 backs_class _ _ _ h3
  obtain ⟨l3, e3, rfl, g3⟩ := backs_list 16 backs_func _ _ _ h5
  refine ⟨l1 ++ (l2 ++ l3), by simp only [encProg, e1, e2, e3]; rfl, by simp only [List.append_assoc], ?_⟩
  simp only [plainProg]
  rw [show fs.map plainFunc = fs from by conv => rhs; rw [← List.map_id fs]
                                         exact List.map_congr_left g3]
end Go.Proofs.YtccajbgdlicbnaaDoor

/- Layer 5: code.Decode: the program that bytes are, or why none. -/
namespace Go.Proofs.YtccajbgdlicbnaaDoor
open Go.RowKit (wrap64 intOf Below)
set_option linter.unusedVariables false
set_option linter.unusedSimpArgs false

/-- What Decode comes to: too many bytes are none, nor are bytes with some behind. -/
def inBytes (L : List UInt8) : PR ProgD := if 65536 < L.length then .no 2 else (rdProg L).bind fun P r => if r.length = 0 then .ok P [] else .no 4
def DecPost (p : PR ProgD) (w : World) (e : Ending) (w' : World) : Prop :=
  (∃ P g s c f, p = .ok P [] ∧ e = .returned (.tuple #[.pointer (some ⟨g, 0, none⟩), .int .i64 0]) ∧ w.heap.size ≤ g ∧ WinAt w' g 0 [s, c, f] ∧ ProgO w' (From w.heap.size) [s, c, f] P ∧ Below w.heap.size w w') ∨
  (∃ er, p = .no er ∧ er ≠ 0 ∧ e = .returned (.tuple #[.pointer none, .int .i64 er]) ∧ Below w.heap.size w w')
theorem three_cells {cs : List Value} (h : cs.length = 3) : ∃ s c f, cs = [s, c, f] := by
  match cs, h with
  | [s, c, f], _ => exact ⟨s, c, f, rfl⟩
/-- Which errors a reader has: none of them is 0. -/
def NoZero {α : Type} (p : List UInt8 → PR α) : Prop := ∀ L e, p L = .no e → e ≠ 0
theorem NoZero.bind {α β : Type} {p : List UInt8 → PR α} {f : α → List UInt8 → PR β} (h : NoZero p) (h' : ∀ x, NoZero (f x)) : NoZero (fun L => (p L).bind f) := by
  intro L e he
  simp only at he
  cases hp : p L with
  | no e' => rw [hp] at he; cases he; exact h L _ hp
  | ok x r => rw [hp] at he; exact h' x r e he
theorem nz_num : NoZero rdNum := by
  intro L e h
  rcases gives_or_fails L with ⟨m, k, hg⟩ | ⟨er, hf⟩
  · rw [rdNum_yes hg] at h; cases h
  · rw [rdNum_no hf] at h
    cases h
    have := hf.2
    omega
theorem nz_ok {α : Type} (g : List UInt8 → PR α) (h : ∀ r, (∃ x r', g r = .ok x r') ∨ ∃ e, g r = .no e ∧ e ≠ 0) : NoZero g := by
  intro L e he
  rcases h L with ⟨x, r', h⟩ | ⟨e', h, hne⟩
  · rw [h] at he; cases he
  · rw [h] at he; cases he; exact hne
theorem nz_pure {α : Type} (x : α) : NoZero (fun r => .ok x r) := nz_ok _ fun r => .inl ⟨_, _, rfl⟩
theorem nz_map {α β : Type} {p : List UInt8 → PR α} (g : α → β) (h : NoZero p) : NoZero (fun L => (p L).bind fun x r => .ok (g x) r) := h.bind fun x => nz_pure (g x)
theorem nz_below (b : Int) : NoZero (rdBelow b) := nz_num.bind fun n => nz_ok _ fun r => by
  by_cases h : 0 ≤ n ∧ n < b
  · exact .inl ⟨_, _, if_pos h⟩
  · exact .inr ⟨4, if_neg h, by decide⟩
theorem nz_count (most : Nat) : NoZero (rdCount most) := nz_num.bind fun n => nz_ok _ fun r => by
  by_cases h : n < 0
  · exact .inr ⟨4, if_pos h, by decide⟩
  · by_cases h2 : (most : Int) < n
    · exact .inr ⟨2, by rw [if_neg h, if_pos h2], by decide⟩
    · exact .inl ⟨_, _, by rw [if_neg h, if_neg h2]⟩
theorem nz_times {α : Type} {p : List UInt8 → PR α} (h : NoZero p) : ∀ n, NoZero (rdTimes p n)
  | 0 => nz_pure _
  | n + 1 => h.bind fun x => nz_map (fun xs => x :: xs) (nz_times h n)
theorem nz_list {α : Type} {p : List UInt8 → PR α} (most : Nat) (h : NoZero p) : NoZero (rdList most p) := (nz_count most).bind fun n => nz_times h n
theorem nz_nums (most : Nat) : NoZero (rdNums most) := nz_list most nz_num
theorem nz_text : NoZero rdText := (nz_count 64).bind fun m => nz_ok _ fun r => by
  by_cases h : m ≤ r.length
  · exact .inl ⟨_, _, if_pos h⟩
  · exact .inr ⟨3, if_neg h, by decide⟩
theorem nz_truth : NoZero rdTruth := nz_map (fun n => n == 1) (nz_below 2)
theorem nz_field (o : OpD) (f : UInt8) : NoZero (rdField o f) := by
  intro L e h
  unfold rdField at h
  repeat' split at h
  · exact nz_map (fun n => { o with N := n }) nz_num L e h
  · exact nz_map (fun n => { o with S := n }) nz_text L e h
  · exact nz_map (fun n => { o with A := n }) nz_num L e h
  · exact nz_map (fun n => { o with B := n }) nz_num L e h
  · exact nz_map (fun n => { o with C := n }) nz_num L e h
  · exact nz_map (fun n => { o with L := n }) (nz_nums 8) L e h
  · exact nz_map (fun n => { o with T := n }) nz_truth L e h
theorem nz_fields : ∀ (fs : List UInt8) (o : OpD), NoZero (rdFields o fs)
  | [], o => nz_pure o
  | f :: fs, o => (nz_field o f).bind fun o' => nz_fields fs o'
theorem nz_op : NoZero rdOp := (nz_below 26).bind fun k => nz_fields _ _
theorem nz_target : NoZero rdTarget := nz_num.bind fun t => nz_map (fun Z => (t, Z)) (nz_nums 8)
theorem nz_end : NoZero rdEnd := (nz_below 4).bind fun k => by
  intro L e h
  repeat' split at h
  · exact nz_map (fun p => (⟨k, 0, p.1, 0, p.2, []⟩ : EndD)) nz_target L e h
  · exact (nz_num.bind fun a => nz_target.bind fun p => nz_map (fun q => (⟨k, a, p.1, q.1, p.2, q.2⟩ : EndD)) nz_target) L e h
  · exact nz_map (fun a => (⟨k, a, 0, 0, [], []⟩ : EndD)) nz_num L e h
theorem nz_block : NoZero rdBlock := (nz_nums 8).bind fun ps => (nz_list 700 nz_op).bind fun os => nz_map (fun e => (⟨ps, os, e⟩ : BlockD)) nz_end
theorem nz_func : NoZero rdFunc := nz_num.bind fun t => nz_map (fun bs => (⟨t, bs⟩ : FuncD)) (nz_list 40 nz_block)
theorem nz_sig : NoZero rdSig := (nz_nums 8).bind fun ps => nz_map (fun t => (⟨ps, t⟩ : SigD)) nz_num
theorem nz_class : NoZero rdClass := (nz_nums 8).bind fun ps => nz_map (fun t => (⟨ps, t⟩ : ClassD)) (nz_nums 4)
theorem nz_prog : NoZero rdProg := (nz_list 4 nz_sig).bind fun ss => (nz_list 8 nz_class).bind fun cs => nz_map (fun fs => (⟨ss, cs, fs⟩ : ProgD)) (nz_list 16 nz_func)

end Go.Proofs.YtccajbgdlicbnaaDoor

/- Layer 5: the document's reader (D): its lists of numbers. -/
namespace Go.Proofs.YtccajbgdlicbnaaDoor
open Go.RowKit (wrap64 intOf Below)
set_option linter.unusedVariables false
set_option linter.unusedSimpArgs false
attribute [local go_sem ↓] Go.wp_at_zero Go.wp_at_succ

section
variable {α β : Type} {L : List UInt8} {p p1 p2 : Nat} {y y1 y2 : Int}
theorem Ran.bind {f : List UInt8 → PR α} {g : α → List UInt8 → PR β} {x : α} {z : β} (h1 : Ran f L p y p1 y1 x) (h2 : Ran (g x) L p1 y1 p2 y2 z) : Ran (fun l => (f l).bind g) L p y p2 y2 z := by
  refine ⟨fun hy => ?_, fun hy => ⟨fun h => ?_, fun h => ?_⟩⟩
  · have e := h1.1 hy
    exact (h2.1 (by rw [e]; exact hy)).trans e
  · have h0 : y1 = 0 := Classical.byContradiction fun hn => hn ((h2.1 hn).symm.trans h)
    simp only [(h1.2 hy).1 h0, PR.bind]
    exact (h2.2 h0).1 h
  · by_cases h0 : y1 = 0
    · simp only [(h1.2 hy).1 h0, PR.bind]
      exact (h2.2 h0).2 h
    · rw [h2.1 h0]
      simp only [(h1.2 hy).2 h0, PR.bind]
theorem Ran.pure (x : α) : Ran (fun l => PR.ok x l) L p y p y x := ⟨fun _ => rfl, fun hy => ⟨fun _ => rfl, fun h => absurd hy h⟩⟩
theorem Ran.of {f g : List UInt8 → PR α} {x : α} (h : Ran f L p y p1 y1 x) (he : ∀ l, f l = g l) : Ran g L p y p1 y1 x := by
  have e : f = g := funext he
  rw [← e]; exact h
theorem rdTimes_stays {f : List UInt8 → PR α} {l : List UInt8} {e : Int} {i : Nat} (h : rdTimes f i l = .no e) : ∀ {k : Nat}, i ≤ k → rdTimes f k l = .no e
  | 0, hk => by obtain rfl : i = 0 := by omega
                exact h
  | k + 1, hk => by
    by_cases he : i = k + 1
    · rw [← he]; exact h
    · rw [rdTimes_more, rdTimes_stays h (show i ≤ k by omega)]; rfl
theorem Ran.times0 {f : List UInt8 → PR α} : Ran (rdTimes f 0) L p y p y [] := Ran.pure []
theorem Ran.snoc {f : List UInt8 → PR α} {i : Nat} {xs : List α} {x : α} (h1 : Ran (rdTimes f i) L p y p1 y1 xs) (h2 : Ran f L p1 y1 p2 y2 x) : Ran (rdTimes f (i + 1)) L p y p2 y2 (xs ++ [x]) :=
  (h1.bind (g := fun xs r => (f r).bind fun x r' => .ok (xs ++ [x]) r') (h2.bind (Ran.pure _))).of (fun l => (rdTimes_more f i l).symm)
theorem Ran.enough {f : List UInt8 → PR α} {i k : Nat} {xs : List α} (h : Ran (rdTimes f i) L p y p1 y1 xs) (hk : i ≤ k) (hn : i = k ∨ y1 ≠ 0) : Ran (rdTimes f k) L p y p1 y1 xs := by
  rcases hn with rfl | hn
  · exact h
  · exact ⟨h.1, fun hy => ⟨fun h0 => absurd h0 hn, fun _ => rdTimes_stays ((h.2 hy).2 hn) hk⟩⟩
end
/-- A row of the call's own behind a reader's call. -/
theorem ownsRow_off {w w' : World} {d base B e k n : Nat} {v : Value} {xs : List Value} (h : w.ownsRow base e k v n xs) (ho : Off (fun i => i = d) w w') (hB : ∀ b, v.ownBlock = some b → B ≤ b) (hd : d < B) : w'.ownsRow base e k v n xs :=
  ownsRow_heap h (fun b hb hlt => ho.block b hlt (fun he => by have := hB b hb; omega))
/-- A reader's call, and then what turns new blocks alone. -/
theorem Off.news {d : Nat} {w w1 w2 : World} (h : Off (fun k => k = d) w w1) (hb : Below w.heap.size w1 w2) : Off (fun k => k = d) w w2 :=
  h.trans_new (Y := fun k => w.heap.size ≤ k) (Off.of_below hb (fun i hi _ => hi)) (fun i hi => .inr hi)
def NumsOV (w : World) (S : Nat → Prop) (v : Value) (Z : List Int) : Prop := (∃ a n c, v = .slice a n c) ∧ NumsO w S v Z

end Go.Proofs.YtccajbgdlicbnaaDoor
