/- Layer 4, P4.1: what stands on the way while package kind renames a step in place. -/
import Derived.Test.YtgkcbaakdphigaaDoorKindUsesK
namespace Go.Proofs.YtgkcbaakdphigaaDoor
open Go.RowKit
set_option linter.unusedVariables false

theorem OwnsI.setOther {w : World} {B : Nat} {e : TypeId} {v : Value} {Z : List Int} (h : OwnsI w B e v Z) (p : Addr) (x : Value) (hp : ∀ k, v.ownBlock = some k → p.block ≠ k) : OwnsI (w.setCell p x) B e v Z := by
  refine ⟨h.1, ?_⟩
  rcases h.2 with hn | ⟨g, cap, cur, rfl, hg, hh, rest⟩
  · exact .inl hn
  · refine .inr ⟨g, cap, cur, rfl, hg, ?_, rest⟩
    rw [Below.heap_setCell _ _ _ _ (Ne.symm (hp g rfl))]
    exact hh
/-- A number of a row of the call's own is put. -/
theorem OwnsI.set {w : World} {B : Nat} {e : TypeId} {g n cap : Nat} {Z : List Int} (h : OwnsI w B e (.slice (some ⟨g, 0, none⟩) n cap) Z) (j : Nat) (z : Int) : OwnsI (w.setCell ⟨g, j, none⟩ (numV z)) B e (.slice (some ⟨g, 0, none⟩) n cap) (Z.set j z) := by
  refine ⟨by simp, ?_⟩
  rcases h.2 with ⟨he, _⟩ | ⟨g', cap', cur, he, hg, hh, h1, h2, h3, h4⟩
  · cases he
  · cases he
    refine .inr ⟨g, cap, cur.setIfInBounds j (numV z), by rw [List.length_set], hg, ?_, by rw [List.length_set]; exact h1, h2, by simpa using h3, ?_⟩
    · obtain ⟨hlt, hk⟩ := Array.getElem?_eq_some_iff.1 hh
      show (w.heap.modify g _)[g]? = _
      rw [Array.getElem?_eq_getElem (by rw [Array.size_modify]; exact hlt), Array.getElem_modify_self, hk]
      rfl
    · rw [List.map_set, ← h4, List.length_set, Array.toList_setIfInBounds, List.take_set]

section
variable {b g off ln : Nat} {K : Int}
/-- Where a place is. -/
theorem placeF_cases (i : Fin (placesL b g off ln K).length) : (placeF b g off ln K i = ⟨b, 1, none⟩ ∧ hasB K 65 = true) ∨ (placeF b g off ln K i = ⟨b, 2, none⟩ ∧ hasB K 66 = true) ∨ (placeF b g off ln K i = ⟨b, 3, none⟩ ∧ hasB K 67 = true) ∨ (∃ j, j < ln ∧ placeF b g off ln K i = ⟨g, off + j, none⟩ ∧ hasB K 76 = true) := by
  have hm : placeF b g off ln K i ∈ placesL b g off ln K := List.getElem_mem _
  obtain ⟨f, hf, hx⟩ := List.mem_flatMap.1 hm
  have hB : hasB K f = true := by unfold hasB; rw [List.contains_iff_mem]; exact hf
  unfold placeL at hx
  split at hx
  · rename_i h; subst h; simp only [List.mem_singleton] at hx; exact .inl ⟨hx, hB⟩
  · split at hx
    · rename_i h; subst h; simp only [List.mem_singleton] at hx; exact .inr (.inl ⟨hx, hB⟩)
    · split at hx
      · rename_i h; subst h; simp only [List.mem_singleton] at hx; exact .inr (.inr (.inl ⟨hx, hB⟩))
      · split at hx
        · rename_i h; subst h
          obtain ⟨j, hj, he⟩ := List.mem_map.1 hx
          exact .inr (.inr (.inr ⟨j, List.mem_range.1 hj, he.symm, hB⟩))
        · cases hx
theorem places_of {f : UInt8} {a : Addr} (hB : hasB K f = true) (ha : a ∈ placeL b g off ln f) : ∃ i, placeF b g off ln K i = a := by
  have hm : a ∈ placesL b g off ln K := List.mem_flatMap.2 ⟨f, by unfold hasB at hB; rwa [List.contains_iff_mem] at hB, ha⟩
  obtain ⟨i, hi, he⟩ := List.getElem_of_mem hm
  exact ⟨⟨i, hi⟩, he⟩
theorem places_nodup (hgb : 0 < ln → g ≠ b) : (placesL b g off ln K).Nodup := by
  have hr : ((List.range ln).map fun j => (⟨g, off + j, none⟩ : Addr)).Nodup := List.Pairwise.map _ (fun a c h e => h (by have := congrArg Addr.off e; dsimp only at this; omega)) List.nodup_range
  have hne : ∀ k j, j < ln → (⟨b, k, none⟩ : Addr) ≠ ⟨g, off + j, none⟩ := fun k j hj e => hgb (by omega) (congrArg Addr.block e).symm
  unfold placesL
  rcases kinds K with h | h
  · rcases h with rfl | rfl | rfl | rfl | rfl | rfl | rfl | rfl | rfl | rfl | rfl | rfl | rfl | rfl | rfl | rfl | rfl | rfl | rfl | rfl | rfl | rfl | rfl | rfl | rfl | rfl
    all_goals simp [fieldsL, placeL, hr]
    all_goals (intro j hj hb; first | exact absurd hb.symm (hgb (by omega)) | (intro _; exact absurd hb.symm (hgb (by omega))) | exact absurd hb (hgb (by omega)))
  · rw [fields_none h]
    simp
theorem placeF_inj (hgb : 0 < ln → g ≠ b) {i j : Fin (placesL b g off ln K).length} (h : placeF b g off ln K i = placeF b g off ln K j) : i = j := Fin.ext ((List.getElem_inj (places_nodup hgb)).1 h)
end

/-- What stands on the way: the step to be renamed in block b, its list from g on. -/
structure RnSt (w W : World) (b : Nat) (K X1 X2 X3 N' : Int) (S' : ByteArray) (T' : Bool) (va : Option Addr) (vn vc : Nat) (ma : Option Addr) (m mc : Nat) (Z : List Int) : Prop where
  box : Box W b #[.int .i64 K, .int .i64 X1, .int .i64 X2, .int .i64 X3, .int .i64 N', .string S', .slice va vn vc, .bool T']
  res : Box W (w.heap.size + 2) #[.int .i64 0, .int .i64 0, .int .i64 0, .int .i64 0, .int .i64 0, .string ⟨#[]⟩, .slice none 0 0, .bool false]
  to_ : Box W (w.heap.size + 1) #[.slice ma m mc]
  own : OwnsI W (w.heap.size + 3) 3 (.slice va vn vc) Z
  bel : Below w.heap.size w W
  siz : b + 2 ≤ W.heap.size
  lo : w.heap.size + 3 ≤ b
  hg : ∀ k, (Value.slice va vn vc).ownBlock = some k → k < b
/-- What each place holds on the way. -/
structure RnAt (w W : World) (b g : Nat) (K N' : Int) (S' : ByteArray) (T' : Bool) (va : Option Addr) (vn vc : Nat) (ma : Option Addr) (m mc : Nat) (cur : Fin (placesL b g 0 vn K).length → Int) : Prop where
  st : ∃ X1 X2 X3 Z, RnSt w W b K X1 X2 X3 N' S' T' va vn vc ma m mc Z ∧ (hasB K 65 = false → X1 = 0) ∧ (hasB K 66 = false → X2 = 0) ∧ (hasB K 67 = false → X3 = 0)
  cells : ∀ i, W.cell? (placeF b g 0 vn K i) = some (numV (cur i))
  frozen : ∀ i, W.frozen? (placeF b g 0 vn K i) = false

theorem RnSt.other {w W : World} {b : Nat} {K X1 X2 X3 N' : Int} {S' : ByteArray} {T' : Bool} {va : Option Addr} {vn vc : Nat} {ma : Option Addr} {m mc : Nat} {Z : List Int} (h : RnSt w W b K X1 X2 X3 N' S' T' va vn vc ma m mc Z) (X1' X2' X3' : Int) (j : Nat) (z : Int) (hj : j < 8)
    (hP : (#[.int .i64 K, .int .i64 X1', .int .i64 X2', .int .i64 X3', .int .i64 N', .string S', .slice va vn vc, .bool T'] : Array Value) = (#[.int .i64 K, .int .i64 X1, .int .i64 X2, .int .i64 X3, .int .i64 N', .string S', .slice va vn vc, .bool T'] : Array Value).setIfInBounds j (numV z)) :
    RnSt w (W.setCell ⟨b, j, none⟩ (numV z)) b K X1' X2' X3' N' S' T' va vn vc ma m mc Z :=
  have hlo := h.lo
  ⟨h.box.set j _ hj hP, h.res.other (by omega) _ _, h.to_.other (by omega) _ _, h.own.setOther _ _ (fun k hk e => by have := h.hg k hk; dsimp only at e; omega), h.bel.setCell (by show w.heap.size ≤ b; omega) _, by rw [setCell_size]; exact h.siz, h.lo, h.hg⟩
theorem RnSt.list {w W : World} {b g : Nat} {K X1 X2 X3 N' : Int} {S' : ByteArray} {T' : Bool} {vn vc : Nat} {ma : Option Addr} {m mc : Nat} {Z : List Int} (h : RnSt w W b K X1 X2 X3 N' S' T' (some ⟨g, 0, none⟩) vn vc ma m mc Z) (j : Nat) (z : Int) :
    RnSt w (W.setCell ⟨g, j, none⟩ (numV z)) b K X1 X2 X3 N' S' T' (some ⟨g, 0, none⟩) vn vc ma m mc (Z.set j z) :=
  have hlo := h.lo
  have hgb : g < b := h.hg g rfl
  have hg3 : w.heap.size + 3 ≤ g := (h.own.lt g rfl).1
  ⟨h.box.other (by omega) _ _, h.res.other (by omega) _ _, h.to_.other (by omega) _ _, h.own.set j z, h.bel.setCell (by show w.heap.size ≤ g; omega) _, by rw [setCell_size]; exact h.siz, h.lo, h.hg⟩

/-- A place is put. -/
theorem RnAt.put {w W : World} {b g : Nat} {K N' : Int} {S' : ByteArray} {T' : Bool} {va : Option Addr} {vn vc : Nat} {ma : Option Addr} {m mc : Nat} {cur : Fin (placesL b g 0 vn K).length → Int} (h : RnAt w W b g K N' S' T' va vn vc ma m mc cur)
    (hva : 0 < vn → va = some ⟨g, 0, none⟩) (x : Fin (placesL b g 0 vn K).length) (z : Int) :
    RnAt w (W.setCell (placeF b g 0 vn K x) (numV z)) b g K N' S' T' va vn vc ma m mc (fun i => if i = x then z else cur i) ∧ KeepsOthers W (W.setCell (placeF b g 0 vn K x) (numV z)) ∧ Kept (b + 1) b W (W.setCell (placeF b g 0 vn K x) (numV z)) := by
  obtain ⟨⟨X1, X2, X3, Z, hs, e1, e2, e3⟩, hc, hf⟩ := h
  have hgb : 0 < vn → g ≠ b := fun hv => Nat.ne_of_lt (hs.hg g (by rw [hva hv]; rfl))
  have hcells : ∀ i, (W.setCell (placeF b g 0 vn K x) (numV z)).cell? (placeF b g 0 vn K i) = some (numV (if i = x then z else cur i)) := fun i => by
    by_cases hi : i = x
    · subst hi
      rw [if_pos rfl]
      exact World.cell?_setCell_same' _ _ _ (by rw [hc]; rfl)
    · rw [if_neg hi]
      exact (World.cell?_setCell_other _ _ _ _ (fun e => hi (placeF_inj hgb e.symm))).trans (hc i)
  have hfr : ∀ i, (W.setCell (placeF b g 0 vn K x) (numV z)).frozen? (placeF b g 0 vn K i) = false := fun i => by rw [World.frozen?_setCell]; exact hf i
  have hk : KeepsOthers W (W.setCell (placeF b g 0 vn K x) (numV z)) := KeepsOthers.setCell _ _ _
  have kept : ∀ a : Addr, a ≠ ⟨b + 1, 0, none⟩ → a ≠ ⟨b, 6, none⟩ → Kept (b + 1) b W (W.setCell a (numV z)) := fun a h0 h6 =>
    ⟨(KeepsOthers.setCell W a (numV z)).walks, World.cell?_setCell_other _ _ _ _ h0, World.cell?_setCell_other _ _ _ _ h6⟩
  have hkp : Kept (b + 1) b W (W.setCell (placeF b g 0 vn K x) (numV z)) := by
    rcases placeF_cases x with ⟨e, _⟩ | ⟨e, _⟩ | ⟨e, _⟩ | ⟨j, hj, e, _⟩
    · rw [e]; exact kept _ (fun h => by have := congrArg Addr.block h; dsimp only at this; omega) (fun h => by have := congrArg Addr.off h; dsimp only at this; omega)
    · rw [e]; exact kept _ (fun h => by have := congrArg Addr.block h; dsimp only at this; omega) (fun h => by have := congrArg Addr.off h; dsimp only at this; omega)
    · rw [e]; exact kept _ (fun h => by have := congrArg Addr.block h; dsimp only at this; omega) (fun h => by have := congrArg Addr.off h; dsimp only at this; omega)
    · have hlt := hs.hg g (by rw [hva (by omega)]; rfl)
      rw [e]; exact kept _ (fun h => by have := congrArg Addr.block h; dsimp only at this; omega) (fun h => by have := congrArg Addr.block h; dsimp only at this; omega)
  refine ⟨⟨?_, hcells, hfr⟩, hk, hkp⟩
  rcases placeF_cases x with ⟨e, hB⟩ | ⟨e, hB⟩ | ⟨e, hB⟩ | ⟨j, hj, e, _⟩
  · rw [e]; exact ⟨z, X2, X3, Z, hs.other z X2 X3 1 z (by omega) (by simp [numV]), (fun h => by rw [hB] at h; cases h), e2, e3⟩
  · rw [e]; exact ⟨X1, z, X3, Z, hs.other X1 z X3 2 z (by omega) (by simp [numV]), e1, (fun h => by rw [hB] at h; cases h), e3⟩
  · rw [e]; exact ⟨X1, X2, z, Z, hs.other X1 X2 z 3 z (by omega) (by simp [numV]), e1, e2, (fun h => by rw [hB] at h; cases h)⟩
  · obtain rfl := hva (by omega)
    rw [e]
    exact ⟨X1, X2, X3, Z.set (0 + j) z, hs.list (0 + j) z, e1, e2, e3⟩

/-- What the rounds say of the places: those that came are renamed. -/
def RnRel (M : List Int) {N : Nat} (val cur : Fin N → Int) (pre : List (Fin N)) : Prop := ∀ k, k ≤ N → pre = firsts N k → ∀ i, cur i = if i.1 < k then toV M (val i) else val i
theorem RnRel.next {M : List Int} {N : Nat} {val cur : Fin N → Int} {pre : List (Fin N)} {x : Fin N} {z : Int} (h : RnRel M val cur pre) (hz : z = toV M (cur x)) : RnRel M val (fun i => if i = x then z else cur i) (pre ++ [x]) := by
  intro k hk he i
  cases k with
  | zero => simp [firsts] at he
  | succ k =>
    rw [← firsts_next (show k < N by omega)] at he
    obtain ⟨hp, hx⟩ := List.append_inj' he rfl
    have hxk : x.1 = k := by rw [(List.cons.inj hx).1]
    have hcur := h k (by omega) hp
    show (if i = x then z else cur i) = _
    by_cases hi : i = x
    · rw [if_pos hi, if_pos (by rw [hi]; omega), hz, hcur, if_neg (by omega), hi]
    · have hne : i.1 ≠ k := fun e => hi (Fin.ext (by omega))
      rw [if_neg hi, hcur]
      by_cases hlt : i.1 < k
      · rw [if_pos hlt, if_pos (by omega)]
      · rw [if_neg hlt, if_neg (by omega)]
theorem RnRel.start {M : List Int} {N : Nat} (val : Fin N → Int) : RnRel M val val [] := fun k hk he i => by
  have h0 : k = 0 := by
    have := congrArg List.length he
    rw [firsts_len hk] at this
    simpa using this.symm
  subst h0
  rw [if_neg (by omega)]
theorem RnRel.all {M : List Int} {N : Nat} {val cur : Fin N → Int} (h : RnRel M val cur (firsts N N)) (i : Fin N) : cur i = toV M (val i) := by
  rw [h N (Nat.le_refl _) rfl i, if_pos i.2]
end Go.Proofs.YtgkcbaakdphigaaDoor
