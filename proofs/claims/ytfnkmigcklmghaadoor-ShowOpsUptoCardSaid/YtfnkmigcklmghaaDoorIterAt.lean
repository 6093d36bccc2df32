/- A string's iterator, moved on: what stands otherwise. Nothing of the program is named here. -/
import Derived.Test.YtfnkmigcklmghaaDoorKindRen
import Derived.Lib.OthersKept
namespace Go.Proofs.YtfnkmigcklmghaaDoor
open Go.RowKit (wrap64 intOf Below)
set_option linter.unusedVariables false

/-- All blocks but one stand as they stood. -/
structure SameBut (r : Nat) (u u' : World) : Prop where
  size : u'.heap.size = u.heap.size
  same : ∀ i, i ≠ r → u'.heap[i]? = u.heap[i]?
  bel : ∀ B, B ≤ r → Below B u u'
  cell : ∀ p : Addr, p.block ≠ r → u'.cell? p = u.cell? p
  frozen : ∀ p : Addr, p.block ≠ r → u'.frozen? p = u.frozen? p
theorem iterAt_same (u : World) (r : Nat) (s : ByteArray) (pos : Nat) : SameBut r u (u.iterAt r s pos) := by
  refine ⟨Lib.iterAt_size u r s pos, fun i hi => Lib.iterAt_other u r i s pos hi, fun B hB => Lib.below_iterAt (Below.refl B u) hB s pos, fun p hp => ?_, fun p hp => ?_⟩
  · simp only [World.cell?, Lib.iterAt_other u r p.block s pos hp]
  · simp only [World.frozen?, Lib.iterAt_other u r p.block s pos hp]
theorem Box.same {u u' : World} {r g : Nat} {P : Array Value} (h : Box u g P) (hs : SameBut r u u') (hg : g ≠ r) : Box u' g P :=
  ⟨fun j => by rw [hs.cell ⟨g, j, none⟩ hg]; exact h.1 j, fun j => by rw [hs.frozen ⟨g, j, none⟩ hg]; exact h.2 j⟩
theorem Box.new (w : World) (C : Array Value) (t : TypeId) {n : Nat} (hn : n = w.heap.size) : Box (w.alloc (.cells C t)) n C := by
  subst hn
  exact ⟨fun j => World.cell?_alloc_mark _ _ _ _ _, fun j => World.frozen?_alloc_at _ _ _ _ rfl⟩
theorem Box.alloc {u : World} {g : Nat} {P : Array Value} (h : Box u g P) (hg : g < u.heap.size) (o : Obj) : Box (u.alloc o) g P := h.below ((Below.refl u.heap.size u).alloc (Nat.le_refl _) o) hg
theorem OwnsI.same {u u' : World} {r B : Nat} {e : TypeId} {v : Value} {Z : List Int} (h : OwnsI u B e v Z) (hs : SameBut r u u') (hr : r < B) : OwnsI u' B e v Z := by
  refine ⟨h.1, ?_⟩
  rcases h.2 with hn | ⟨g, cap, cur, rfl, hg, hh, rest⟩
  · exact .inl hn
  · refine .inr ⟨g, cap, cur, rfl, hg, ?_, rest⟩
    rw [hs.same g (by omega)]
    exact hh
theorem NumsAt.same {u u' : World} {r : Nat} {a : Option Addr} {n : Nat} {Z : List Int} (h : NumsAt u a n Z) (hs : SameBut r u u') (hr : ∀ ad, a = some ad → ad.block ≠ r) : NumsAt u' a n Z := by
  refine ⟨h.1, fun hn => ?_⟩
  obtain ⟨g, off, e, hg, hc⟩ := h.2 hn
  refine ⟨g, off, e, by rw [hs.size]; exact hg, fun j hj => ?_⟩
  rw [hs.cell ⟨g, off + j, none⟩ (hr ⟨g, off, none⟩ e)]
  exact hc j hj
end Go.Proofs.YtfnkmigcklmghaaDoor
