/- Layer 7: package cfg's Order: the blocks as the walk leaves them, turned about. -/
import Derived.Test.YtdchhfdmingnaaaDoorFCfgD
import Derived.Test.YtdchhfdmingnaaaDoorFCodeWr
import Derived.Test.YtdchhfdmingnaaaDoorFKindPlainW
import Derived.Test.YtdchhfdmingnaaaDoorFKindRef
import Derived.Test.YtdchhfdmingnaaaDoorFKindRefRes2
import Derived.Test.YtdchhfdmingnaaaDoorFKindUsesK
import Derived.Test.YtdchhfdmingnaaaDoorFT0
import Derived.Test.YtdchhfdmingnaaaDoorFT1
import Derived.Lib.OwnBridge
import Derived.Deep.DeepCutAuto
import Derived.Deep.RegionHeld3
import Derived.BigQuiet
import Derived.Deep.RegionWith
namespace Go.Proofs.YtdchhfdmingnaaaDoor
open Go.RowKit
set_option linter.unusedVariables false
set_option linter.unusedSimpArgs false
attribute [local go_sem] Oper.semAt_some
structure OrdSt (w W : World) (v : Value) (Z : List Int) : Prop where
  box : Boxed W (w.heap.size + 1) 34 v
  own : OwnsI W (w.heap.size + 3) 3 v Z
  bel : Below w.heap.size w W
  siz : w.heap.size + 3 ≤ W.heap.size
theorem OrdSt.lies {w W : World} {v : Value} {Z : List Int} (h : OrdSt w W v Z) : Lies (w.heap.size + 1) 34 W := by
  intro i hi
  rcases hi with rfl | ⟨v', hb, hv⟩
  · exact ⟨_, h.box, rfl⟩
  · have e : v' = v := by have h1 := hb; have h2 := h.box; unfold Boxed at h1 h2; rw [h1] at h2; cases h2; rfl
    subst e
    obtain ⟨cur, hc, _⟩ := rowW_blk h.own hv
    exact ⟨_, hc, rfl⟩
theorem OrdSt.grown {w W W' : World} {v : Value} {Z : List Int} {row : Option Nat} (h : OrdSt w W v Z) (hg : W.grownBy W' row) (hr : ∀ r, row = some r → w.heap.size ≤ r ∧ ¬ Owns (w.heap.size + 1) 34 W r) : OrdSt w W' v Z :=
  ⟨h.box.kept hg (fun e => (hr _ e.symm).2 (.inl rfl)), World.ownsRow.kept h.own hg (row_off fun r e hv => (hr r e).2 (.inr ⟨v, h.box, hv⟩)), h.bel.trans ((Below.grown (Below.refl w.heap.size W) hg (by have := h.siz; omega) (fun k e => (hr k e).1))), Nat.le_trans h.siz hg.size⟩
end Go.Proofs.YtdchhfdmingnaaaDoor

/- Layer 7: a function cut to its first sixty blocks; the living call of the statements. -/
namespace Go.Proofs.YtdchhfdmingnaaaDoor
open Go.RowKit (wrap64 intOf Below)
set_option linter.unusedVariables false
set_option linter.unusedSimpArgs false
theorem RowV.take {α : Type} {Q : World → List Value → α → Prop} {k : Nat} {W : World} {a : Option Addr} {n c : Nat} {xs : List α} (h : RowV Q k W (.slice a n c) xs) {m : Nat} (hm : m ≤ n) : RowV Q k W (.slice a m c) (xs.take m) := by
  obtain ⟨a', n', c', e, hl, h1, h2, h3⟩ := h
  cases e
  refine ⟨a, m, c, rfl, by simp; omega, h1, by omega, fun h0 => ?_⟩
  obtain ⟨g, off, rfl, hg, hcs⟩ := h3 (by omega)
  refine ⟨g, off, rfl, hg, fun i hi => ?_⟩
  have hi' : i < xs.length := by simp at hi; omega
  obtain ⟨cs, l, hc, hq⟩ := hcs i hi'
  refine ⟨cs, l, hc, ?_⟩
  rw [List.getElem_take]
  exact hq
theorem lit_nums {w : World} {Z : List Int} {t : TypeId} {n : Nat} (hn : n = Z.length) : NumsAt (w.alloc (.cells (Z.map numV).toArray t)) (some ⟨w.heap.size, 0, none⟩) n Z := by
  subst hn
  refine ⟨rfl, fun _ => ⟨w.heap.size, 0, rfl, by simp, fun j hj => ?_⟩⟩
  rw [Nat.zero_add, World.cell?_alloc_mark]
  simp [hj]
end Go.Proofs.YtdchhfdmingnaaaDoor

/- Layer 7: the law CfgOnce, walked (mk_once.py). -/
namespace Go.Proofs.YtdchhfdmingnaaaDoor
open Go.RowKit (wrap64 intOf Below)
set_option linter.unusedVariables false
set_option linter.unusedSimpArgs false
structure LawSt (w : World) (r : Int) (a : Option Addr) (n c : Nat) (va : Option Addr) (vn : Nat) (L : List Int) (W : World) : Prop where
  bel : Below w.heap.size w W
  siz : w.heap.size < W.heap.size
  c0 : W.cell? ⟨w.heap.size, 0, none⟩ = some (.int .i64 r)
  c1 : W.cell? ⟨w.heap.size, 1, none⟩ = some (.slice a n c)
  lis : NumsAt W va vn L
theorem LawSt.since {w : World} {r : Int} {a : Option Addr} {n c : Nat} {va : Option Addr} {vn : Nat} {L : List Int} {W W' : World} (h : LawSt w r a n c va vn L W) (hb : Below W.heap.size W W') : LawSt w r a n c va vn L W' :=
  ⟨h.bel.trans (hb.mono h.bel.size), Nat.lt_of_lt_of_le h.siz hb.size, (hb.cell (p := ⟨w.heap.size, 0, none⟩) h.siz).trans h.c0, (hb.cell (p := ⟨w.heap.size, 1, none⟩) h.siz).trans h.c1, h.lis.since hb⟩
theorem next_len (e : EndD) : (nextL e).length ≤ 2 := by
  unfold nextL
  split
  · simp
  · split
    · split <;> simp
    · simp
def BlockAt (u : World) (g off p : Nat) (e : EndD) (pa : Option Addr) (pn pc : Nat) (oa : Option Addr) (on oc : Nat) (la : Option Addr) (ln lc : Nat) (ma : Option Addr) (mn mc : Nat) : Prop :=
  u.cell? ⟨g, off + p * 8, none⟩ = some (.slice pa pn pc) ∧ u.cell? ⟨g, off + p * 8 + 1, none⟩ = some (.slice oa on oc) ∧ u.cell? ⟨g, off + p * 8 + 2, none⟩ = some (.int .i64 e.K) ∧ u.cell? ⟨g, off + p * 8 + 3, none⟩ = some (.int .i64 e.A) ∧ u.cell? ⟨g, off + p * 8 + 4, none⟩ = some (.int .i64 e.To) ∧ u.cell? ⟨g, off + p * 8 + 5, none⟩ = some (.int .i64 e.Else) ∧ u.cell? ⟨g, off + p * 8 + 6, none⟩ = some (.slice la ln lc) ∧ u.cell? ⟨g, off + p * 8 + 7, none⟩ = some (.slice ma mn mc)
theorem block_at {W : World} {a : Option Addr} {n c : Nat} {f : FuncD} (h : RowV BlockQ 8 W (.slice a n c) f.blocks) {p : Nat} (hp : p < n) : ∃ g off pa pn pc oa on oc la ln lc ma mn mc, a = some ⟨g, off, none⟩ ∧ g < W.heap.size ∧ ∀ u, Below W.heap.size W u → BlockAt u g off p (theEnd f p) pa pn pc oa on oc la ln lc ma mn mc := by
  obtain ⟨a', n', c', e, hl, _, _, hrow⟩ := h
  cases e
  obtain ⟨g, off, rfl, hg, hcs⟩ := hrow (by omega)
  obtain ⟨cs, h8, hc, pv, ov, es, rfl, hpv, hov, l, m, rfl, _, _, _, _, hL, hM⟩ := hcs p (by omega)
  obtain ⟨pa, pn, pc, rfl, _⟩ := hpv
  obtain ⟨oa, on, oc, rfl, _⟩ := hov
  obtain ⟨la, ln, lc, rfl, _⟩ := hL
  obtain ⟨ma, mn, mc, rfl, _⟩ := hM
  refine ⟨g, off, pa, pn, pc, oa, on, oc, la, ln, lc, ma, mn, mc, rfl, hg, fun u hb => ?_⟩
  rw [theEnd_at (by omega)]
  have hk : ∀ j (hj : j < 8), u.cell? ⟨g, off + p * 8 + j, none⟩ = _ := fun j hj => (hb.cell (p := ⟨g, off + p * 8 + j, none⟩) hg).trans (hc j hj)
  exact ⟨hk 0 (by omega), hk 1 (by omega), hk 2 (by omega), hk 3 (by omega), hk 4 (by omega), hk 5 (by omega), hk 6 (by omega), hk 7 (by omega)⟩
end Go.Proofs.YtdchhfdmingnaaaDoor

/- Layer 5: what lies in memory of the call's own, as the walk's list wants it; its list of numbers with a writer. -/
namespace Go.Proofs.YtdchhfdmingnaaaDoor
open Go.RowKit (wrap64 intOf Below)
set_option linter.unusedVariables false
attribute [local go_sem ↓] Go.wp_at_zero Go.wp_at_succ
theorem NumsO.form {w : World} {S : Nat → Prop} {v : Value} {Z : List Int} (h : NumsO w S v Z) :
    ∃ a c g, v = .slice a Z.length c ∧ Z.length * 8 ≤ 140737488351232 ∧ (a = none → c = 0) ∧ (0 < Z.length → a = some ⟨g, 0, none⟩ ∧ S g) ∧ ∀ k (hk : k < Z.length), WinAt w g k [.int .i64 Z[k]] ∧ -9223372036854775808 ≤ Z[k] ∧ Z[k] ≤ 9223372036854775807 := by
  obtain ⟨h1, h2, h3, h4⟩ := h
  have hown := h1
  rcases h1.2 with ⟨rfl, h0⟩ | ⟨g, cap, cur, rfl, hB, hg, hc1, hc2, hc3, htake⟩
  · have h0' : Z.length = 0 := h0
    refine ⟨none, 0, 0, by rw [h0'], h3, fun _ => rfl, fun hp => absurd hp (by omega), fun k hk => absurd hk (by omega)⟩
  · refine ⟨_, cap, g, rfl, h3, (fun h => by cases h), fun hp => ⟨rfl, h2 g rfl⟩, fun k hk => ⟨⟨cur, _, hg, fun j hj => ?_⟩, h4 _ (List.getElem_mem hk)⟩⟩
    obtain rfl : j = 0 := by simpa using hj
    have hz : (Z.map numV)[k]? = some (.int .i64 Z[k]) := by simp [hk, numV]
    rw [← htake, List.getElem?_take] at hz
    split at hz
    · simpa using hz
    · cases hz
theorem RowO.form {α : Type} {T K : Nat} {Q : World → (Nat → Prop) → List Value → α → Prop} (hQ : Holds Q) {w : World} {S : Nat → Prop} {v : Value} {xs : List α} (h : RowO T K Q w S v xs) :
    ∃ a c g, v = .slice a xs.length c ∧ xs.length ≤ 140737488351232 ∧ (a = Option.none → c = 0) ∧ (0 < xs.length → a = some ⟨g, 0, Option.none⟩ ∧ S g) ∧ ∀ k (hk : k < xs.length), ∃ cs, cs.length = K ∧ WinAt w g (k * K) cs ∧ Q w S cs xs[k] := by
  obtain ⟨css, h1, h2, h3, h4, h5, h6⟩ := h
  have hown := h1
  rcases h1.2 with ⟨rfl, h0⟩ | ⟨g, cap, cur, rfl, hB, hg, hc1, hc2, hc3, htake⟩
  · refine ⟨Option.none, 0, 0, by rw [h0], h5, fun _ => rfl, fun hp => absurd hp (by omega), fun k hk => absurd hk (by omega)⟩
  · refine ⟨_, cap, g, rfl, h5, (fun h => by cases h), fun hp => ⟨rfl, h4 g rfl⟩, fun k hk => ?_⟩
    have hk' : k < css.length := by omega
    exact ⟨css[k], h3 _ (List.getElem_mem hk'), ownsRow_win hown h3 rfl hk', hQ.wider (h6 k hk hk') (fun b _ hb => hb.1)⟩
end Go.Proofs.YtdchhfdmingnaaaDoor

/- Layer 5: Copy's small parts: apart, copiedSig, copiedClass, plain (of an end). -/
namespace Go.Proofs.YtdchhfdmingnaaaDoor
open Go.RowKit (wrap64 intOf Below)
set_option linter.unusedVariables false
set_option linter.unusedSimpArgs false
attribute [local go_sem ↓] Go.wp_at_zero Go.wp_at_succ
theorem OwnsI.numsO {w : World} {B : Nat} {v : Value} {Z : List Int} (h : OwnsI w B 3 v Z) (hl : Z.length * 8 ≤ 140737488351232) (hr : ∀ z ∈ Z, InR z) : NumsO w (From B) v Z :=
  ⟨h.mono (Nat.zero_le _), fun b hb => (h.lt b hb).1, hl, hr⟩
structure Laid2 (w : World) (C0 C1 : Array Value) (u : World) : Prop where
  bel : Below w.heap.size w u
  c0 : ∀ j, u.cell? ⟨w.heap.size, j, none⟩ = C0[j]?
  c1 : ∀ j, u.cell? ⟨w.heap.size + 1, j, none⟩ = C1[j]?
  f0 : ∀ j, u.frozen? ⟨w.heap.size, j, none⟩ = false
  f1 : ∀ j, u.frozen? ⟨w.heap.size + 1, j, none⟩ = false
  size : w.heap.size + 2 ≤ u.heap.size
theorem Laid2.start (w : World) (C0 C1 : Array Value) (t0 t1 : TypeId) : Laid2 w C0 C1 ((w.alloc (.cells C0 t0)).alloc (.cells C1 t1)).drew := by
  have h := cell_laid2 (C0 := C0) (C1 := C1) (t0 := t0) (t1 := t1) (show Below (w.heap.size + 2) ((w.alloc (.cells C0 t0)).alloc (.cells C1 t1)) ((w.alloc (.cells C0 t0)).alloc (.cells C1 t1)).drew from (Below.refl _ _).drew)
  exact ⟨(((Below.refl _ _).alloc (Nat.le_refl _) _).alloc (by simp) _).drew, h.1, h.2.1, h.2.2.1, h.2.2.2, by simp [World.drew]⟩
theorem Laid2.step {w : World} {C0 C1 : Array Value} {u u' : World} (h : Laid2 w C0 C1 u) (hb : Below u.heap.size u u') : Laid2 w C0 C1 u' := by
  have hs := h.size
  exact ⟨keepB h.bel hb, fun j => (hb.cell (p := ⟨w.heap.size, j, none⟩) (by simp; omega)).trans (h.c0 j), fun j => (hb.cell (p := ⟨w.heap.size + 1, j, none⟩) (by simp; omega)).trans (h.c1 j), fun j => (hb.frozen (p := ⟨w.heap.size, j, none⟩) (by simp; omega)).trans (h.f0 j), fun j => (hb.frozen (p := ⟨w.heap.size + 1, j, none⟩) (by simp; omega)).trans (h.f1 j), Nat.le_trans hs hb.size⟩
theorem NumsO.first {w u : World} {v : Value} {Z : List Int} {C0 C1 : Array Value} (hl : Laid2 w C0 C1 u) {u' : World} (h : NumsO u' (From u.heap.size) v Z) : NumsO u' (From (w.heap.size + 2)) v Z :=
  h.wider (fun b _ hb => Nat.le_trans hl.size hb)
end Go.Proofs.YtdchhfdmingnaaaDoor

/- Layer 4, P4.2: what the statement KindFlags asks, walked out of the contracts of package kind's calls. -/
namespace Go.Proofs.YtdchhfdmingnaaaDoor
open Go.RowKit (wrap64 intOf Below)
set_option linter.unusedVariables false
theorem first_cells {w u : World} {C0 : Array Value} {t0 : TypeId} (hb : Below (w.heap.size + 1) (w.alloc (.cells C0 t0)) u) (j : Nat) (v : Value) (h : C0[j]? = some v) : u.cell? ⟨w.heap.size, j, none⟩ = some v := by
  rw [cell_first hb j, h]
end Go.Proofs.YtdchhfdmingnaaaDoor

/- Layer 4, P4.1: what stands on the way while package kind renames a step in place. -/
namespace Go.Proofs.YtdchhfdmingnaaaDoor
open Go.RowKit
set_option linter.unusedVariables false
theorem OwnsI.setOther {w : World} {B : Nat} {e : TypeId} {v : Value} {Z : List Int} (h : OwnsI w B e v Z) (p : Addr) (x : Value) (hp : ∀ k, v.ownBlock = some k → p.block ≠ k) : OwnsI (w.setCell p x) B e v Z := by
  refine ⟨h.1, ?_⟩
  rcases h.2 with hn | ⟨g, cap, cur, rfl, hg, hh, rest⟩
  · exact .inl hn
  · refine .inr ⟨g, cap, cur, rfl, hg, ?_, rest⟩
    rw [Below.heap_setCell _ _ _ _ (Ne.symm (hp g rfl))]
    exact hh
theorem OwnsI.set {w : World} {B : Nat} {e : TypeId} {g n cap : Nat} {Z : List Int} (h : OwnsI w B e (.slice (some ⟨g, 0, none⟩) n cap) Z) (j : Nat) (z : Int) : OwnsI (w.setCell ⟨g, j, none⟩ (numV z)) B e (.slice (some ⟨g, 0, none⟩) n cap) (Z.set j z) := by
  refine ⟨by simp, ?_⟩
  rcases h.2 with ⟨he, _⟩ | ⟨g', cap', cur, he, hg, hh, h1, h2, h3, h4⟩
  · cases he
  · cases he
    refine .inr ⟨g, cap, cur.setIfInBounds j (numV z), by rw [List.length_set], hg, ?_, by rw [List.length_set]; exact h1, h2, by simpa using h3, ?_⟩
    · obtain ⟨hlt, hk⟩ := Array.getElem?_eq_some_iff.1 hh
      show (w.heap.modify g _)[g]? = _
      rw [Array.getElem?_eq_getElem (by rw [Array.size_modify]; exact hlt), Array.getElem_modify_self, hk]
      rfl
    · rw [List.map_set, ← h4, List.length_set, Array.toList_setIfInBounds, List.take_set]
section
variable {b g off ln : Nat} {K : Int}
theorem placeF_cases (i : Fin (placesL b g off ln K).length) : (placeF b g off ln K i = ⟨b, 1, none⟩ ∧ hasB K 65 = true) ∨ (placeF b g off ln K i = ⟨b, 2, none⟩ ∧ hasB K 66 = true) ∨ (placeF b g off ln K i = ⟨b, 3, none⟩ ∧ hasB K 67 = true) ∨ (∃ j, j < ln ∧ placeF b g off ln K i = ⟨g, off + j, none⟩ ∧ hasB K 76 = true) := by
  have hm : placeF b g off ln K i ∈ placesL b g off ln K := List.getElem_mem _
  obtain ⟨f, hf, hx⟩ := List.mem_flatMap.1 hm
  have hB : hasB K f = true := by unfold hasB; rw [List.contains_iff_mem]; exact hf
  unfold placeL at hx
  split at hx
  · rename_i h; subst h; simp only [List.mem_singleton] at hx; exact .inl ⟨hx, hB⟩
  · split at hx
    · rename_i h; subst h; simp only [List.mem_singleton] at hx; exact .inr (.inl ⟨hx, hB⟩)
    · split at hx
      · rename_i h; subst h; simp only [List.mem_singleton] at hx; exact .inr (.inr (.inl ⟨hx, hB⟩))
      · split at hx
        · rename_i h; subst h
          obtain ⟨j, hj, he⟩ := List.mem_map.1 hx
          exact .inr (.inr (.inr ⟨j, List.mem_range.1 hj, he.symm, hB⟩))
        · cases hx
theorem places_nodup (hgb : 0 < ln → g ≠ b) : (placesL b g off ln K).Nodup := by
  have hr : ((List.range ln).map fun j => (⟨g, off + j, none⟩ : Addr)).Nodup := List.Pairwise.map _ (fun a c h e => h (by have := congrArg Addr.off e; dsimp only at this; omega)) List.nodup_range
  have hne : ∀ k j, j < ln → (⟨b, k, none⟩ : Addr) ≠ ⟨g, off + j, none⟩ := fun k j hj e => hgb (by omega) (congrArg Addr.block e).symm
  unfold placesL
  rcases kinds K with h | h
  · rcases h with rfl | rfl | rfl | rfl | rfl | rfl | rfl | rfl | rfl | rfl | rfl | rfl | rfl | rfl | rfl | rfl | rfl | rfl | rfl | rfl | rfl | rfl | rfl | rfl | rfl | rfl
    all_goals simp [fieldsL, placeL, hr]
    all_goals (intro j hj hb; first | exact absurd hb.symm (hgb (by omega)) | (intro _; exact absurd hb.symm (hgb (by omega))) | exact absurd hb (hgb (by omega)))
  · rw [fields_none h]
    simp
theorem placeF_inj (hgb : 0 < ln → g ≠ b) {i j : Fin (placesL b g off ln K).length} (h : placeF b g off ln K i = placeF b g off ln K j) : i = j := Fin.ext ((List.getElem_inj (places_nodup hgb)).1 h)
end
structure RnSt (w W : World) (b : Nat) (K X1 X2 X3 N' : Int) (S' : ByteArray) (T' : Bool) (va : Option Addr) (vn vc : Nat) (ma : Option Addr) (m mc : Nat) (Z : List Int) : Prop where
  box : Box W b #[.int .i64 K, .int .i64 X1, .int .i64 X2, .int .i64 X3, .int .i64 N', .string S', .slice va vn vc, .bool T']
  res : Box W (w.heap.size + 2) #[.int .i64 0, .int .i64 0, .int .i64 0, .int .i64 0, .int .i64 0, .string ⟨#[]⟩, .slice none 0 0, .bool false]
  to_ : Box W (w.heap.size + 1) #[.slice ma m mc]
  own : OwnsI W (w.heap.size + 3) 3 (.slice va vn vc) Z
  bel : Below w.heap.size w W
  siz : b + 2 ≤ W.heap.size
  lo : w.heap.size + 3 ≤ b
  hg : ∀ k, (Value.slice va vn vc).ownBlock = some k → k < b
structure RnAt (w W : World) (b g : Nat) (K N' : Int) (S' : ByteArray) (T' : Bool) (va : Option Addr) (vn vc : Nat) (ma : Option Addr) (m mc : Nat) (cur : Fin (placesL b g 0 vn K).length → Int) : Prop where
  st : ∃ X1 X2 X3 Z, RnSt w W b K X1 X2 X3 N' S' T' va vn vc ma m mc Z ∧ (hasB K 65 = false → X1 = 0) ∧ (hasB K 66 = false → X2 = 0) ∧ (hasB K 67 = false → X3 = 0)
  cells : ∀ i, W.cell? (placeF b g 0 vn K i) = some (numV (cur i))
  frozen : ∀ i, W.frozen? (placeF b g 0 vn K i) = false
theorem RnSt.other {w W : World} {b : Nat} {K X1 X2 X3 N' : Int} {S' : ByteArray} {T' : Bool} {va : Option Addr} {vn vc : Nat} {ma : Option Addr} {m mc : Nat} {Z : List Int} (h : RnSt w W b K X1 X2 X3 N' S' T' va vn vc ma m mc Z) (X1' X2' X3' : Int) (j : Nat) (z : Int) (hj : j < 8)
    (hP : (#[.int .i64 K, .int .i64 X1', .int .i64 X2', .int .i64 X3', .int .i64 N', .string S', .slice va vn vc, .bool T'] : Array Value) = (#[.int .i64 K, .int .i64 X1, .int .i64 X2, .int .i64 X3, .int .i64 N', .string S', .slice va vn vc, .bool T'] : Array Value).setIfInBounds j (numV z)) :
    RnSt w (W.setCell ⟨b, j, none⟩ (numV z)) b K X1' X2' X3' N' S' T' va vn vc ma m mc Z :=
  have hlo := h.lo
  ⟨h.box.set j _ hj hP, h.res.other (by omega) _ _, h.to_.other (by omega) _ _, h.own.setOther _ _ (fun k hk e => by have := h.hg k hk; dsimp only at e; omega), h.bel.setCell (by show w.heap.size ≤ b; omega) _, by rw [setCell_size]; exact h.siz, h.lo, h.hg⟩
theorem RnSt.list {w W : World} {b g : Nat} {K X1 X2 X3 N' : Int} {S' : ByteArray} {T' : Bool} {vn vc : Nat} {ma : Option Addr} {m mc : Nat} {Z : List Int} (h : RnSt w W b K X1 X2 X3 N' S' T' (some ⟨g, 0, none⟩) vn vc ma m mc Z) (j : Nat) (z : Int) :
    RnSt w (W.setCell ⟨g, j, none⟩ (numV z)) b K X1 X2 X3 N' S' T' (some ⟨g, 0, none⟩) vn vc ma m mc (Z.set j z) :=
  have hlo := h.lo
  have hgb : g < b := h.hg g rfl
  have hg3 : w.heap.size + 3 ≤ g := (h.own.lt g rfl).1
  ⟨h.box.other (by omega) _ _, h.res.other (by omega) _ _, h.to_.other (by omega) _ _, h.own.set j z, h.bel.setCell (by show w.heap.size ≤ g; omega) _, by rw [setCell_size]; exact h.siz, h.lo, h.hg⟩
theorem RnAt.put {w W : World} {b g : Nat} {K N' : Int} {S' : ByteArray} {T' : Bool} {va : Option Addr} {vn vc : Nat} {ma : Option Addr} {m mc : Nat} {cur : Fin (placesL b g 0 vn K).length → Int} (h : RnAt w W b g K N' S' T' va vn vc ma m mc cur)
    (hva : 0 < vn → va = some ⟨g, 0, none⟩) (x : Fin (placesL b g 0 vn K).length) (z : Int) :
    RnAt w (W.setCell (placeF b g 0 vn K x) (numV z)) b g K N' S' T' va vn vc ma m mc (fun i => if i = x then z else cur i) ∧ KeepsOthers W (W.setCell (placeF b g 0 vn K x) (numV z)) ∧ Kept (b + 1) b W (W.setCell (placeF b g 0 vn K x) (numV z)) := by
  obtain ⟨⟨X1, X2, X3, Z, hs, e1, e2, e3⟩, hc, hf⟩ := h
  have hgb : 0 < vn → g ≠ b := fun hv => Nat.ne_of_lt (hs.hg g (by rw [hva hv]; rfl))
  have hcells : ∀ i, (W.setCell (placeF b g 0 vn K x) (numV z)).cell? (placeF b g 0 vn K i) = some (numV (if i = x then z else cur i)) := fun i => by
    by_cases hi : i = x
    · subst hi
      rw [if_pos rfl]
      exact World.cell?_setCell_same' _ _ _ (by rw [hc]; rfl)
    · rw [if_neg hi]
      exact (World.cell?_setCell_other _ _ _ _ (fun e => hi (placeF_inj hgb e.symm))).trans (hc i)
  have hfr : ∀ i, (W.setCell (placeF b g 0 vn K x) (numV z)).frozen? (placeF b g 0 vn K i) = false := fun i => by rw [World.frozen?_setCell]; exact hf i
  have hk : KeepsOthers W (W.setCell (placeF b g 0 vn K x) (numV z)) := KeepsOthers.setCell _ _ _
  have kept : ∀ a : Addr, a ≠ ⟨b + 1, 0, none⟩ → a ≠ ⟨b, 6, none⟩ → Kept (b + 1) b W (W.setCell a (numV z)) := fun a h0 h6 =>
    ⟨(KeepsOthers.setCell W a (numV z)).walks, World.cell?_setCell_other _ _ _ _ h0, World.cell?_setCell_other _ _ _ _ h6⟩
  have hkp : Kept (b + 1) b W (W.setCell (placeF b g 0 vn K x) (numV z)) := by
    rcases placeF_cases x with ⟨e, _⟩ | ⟨e, _⟩ | ⟨e, _⟩ | ⟨j, hj, e, _⟩
    · rw [e]; exact kept _ (fun h => by have := congrArg Addr.block h; dsimp only at this; omega) (fun h => by have := congrArg Addr.off h; dsimp only at this; omega)
    · rw [e]; exact kept _ (fun h => by have := congrArg Addr.block h; dsimp only at this; omega) (fun h => by have := congrArg Addr.off h; dsimp only at this; omega)
    · rw [e]; exact kept _ (fun h => by have := congrArg Addr.block h; dsimp only at this; omega) (fun h => by have := congrArg Addr.off h; dsimp only at this; omega)
    · have hlt := hs.hg g (by rw [hva (by omega)]; rfl)
      rw [e]; exact kept _ (fun h => by have := congrArg Addr.block h; dsimp only at this; omega) (fun h => by have := congrArg Addr.block h; dsimp only at this; omega)
  refine ⟨⟨?_, hcells, hfr⟩, hk, hkp⟩
  rcases placeF_cases x with ⟨e, hB⟩ | ⟨e, hB⟩ | ⟨e, hB⟩ | ⟨j, hj, e, _⟩
  · rw [e]; exact ⟨z, X2, X3, Z, hs.other z X2 X3 1 z (by omega) (by simp [numV]), (fun h => by rw [hB] at h; cases h), e2, e3⟩
  · rw [e]; exact ⟨X1, z, X3, Z, hs.other X1 z X3 2 z (by omega) (by simp [numV]), e1, (fun h => by rw [hB] at h; cases h), e3⟩
  · rw [e]; exact ⟨X1, X2, z, Z, hs.other X1 X2 z 3 z (by omega) (by simp [numV]), e1, e2, (fun h => by rw [hB] at h; cases h)⟩
  · obtain rfl := hva (by omega)
    rw [e]
    exact ⟨X1, X2, X3, Z.set (0 + j) z, hs.list (0 + j) z, e1, e2, e3⟩
def RnRel (M : List Int) {N : Nat} (val cur : Fin N → Int) (pre : List (Fin N)) : Prop := ∀ k, k ≤ N → pre = firsts N k → ∀ i, cur i = if i.1 < k then toV M (val i) else val i
theorem RnRel.next {M : List Int} {N : Nat} {val cur : Fin N → Int} {pre : List (Fin N)} {x : Fin N} {z : Int} (h : RnRel M val cur pre) (hz : z = toV M (cur x)) : RnRel M val (fun i => if i = x then z else cur i) (pre ++ [x]) := by
  intro k hk he i
  cases k with
  | zero => simp [firsts] at he
  | succ k =>
    rw [← firsts_next (show k < N by omega)] at he
    obtain ⟨hp, hx⟩ := List.append_inj' he rfl
    have hxk : x.1 = k := by rw [(List.cons.inj hx).1]
    have hcur := h k (by omega) hp
    show (if i = x then z else cur i) = _
    by_cases hi : i = x
    · rw [if_pos hi, if_pos (by rw [hi]; omega), hz, hcur, if_neg (by omega), hi]
    · have hne : i.1 ≠ k := fun e => hi (Fin.ext (by omega))
      rw [if_neg hi, hcur]
      by_cases hlt : i.1 < k
      · rw [if_pos hlt, if_pos (by omega)]
      · rw [if_neg hlt, if_neg (by omega)]
theorem RnRel.start {M : List Int} {N : Nat} (val : Fin N → Int) : RnRel M val val [] := fun k hk he i => by
  have h0 : k = 0 := by
    have := congrArg List.length he
    rw [firsts_len hk] at this
    simpa using this.symm
  subst h0
  rw [if_neg (by omega)]
theorem RnRel.all {M : List Int} {N : Nat} {val cur : Fin N → Int} (h : RnRel M val cur (firsts N N)) (i : Fin N) : cur i = toV M (val i) := by
  rw [h N (Nat.le_refl _) rfl i, if_pos i.2]
end Go.Proofs.YtdchhfdmingnaaaDoor

/- Layer 4, P4.1: package kind's Renamed, walked: a step of its own is renamed place by place. -/
namespace Go.Proofs.YtdchhfdmingnaaaDoor
open Go.RowKit
set_option linter.unusedVariables false
attribute [local go_sem] Oper.semAt_some
theorem RnSt.start {w w1 : World} {K A B C N' : Int} {S' : ByteArray} {T' : Bool} {va : Option Addr} {vn vc : Nat} {ma : Option Addr} {m mc : Nat} {L' : List Int} {t t' u0 u1 u2 : TypeId} {O : Array Value}
    (hown : OwnsI w1 (w.heap.size + 3) 3 (.slice va vn vc) L') (hb : Below (w.heap.size + 3) (((w.alloc (.cells O u0)).alloc (.cells #[.slice ma m mc] u1)).alloc (.cells #[.int .i64 0, .int .i64 0, .int .i64 0, .int .i64 0, .int .i64 0, .string ⟨#[]⟩, .slice none 0 0, .bool false] u2)) w1) :
    RnSt w ((w1.alloc (.cells #[.int .i64 K, .int .i64 A, .int .i64 B, .int .i64 C, .int .i64 N', .string S', .slice va vn vc, .bool T'] t)).alloc (.cells #[.pointer (some ⟨w1.heap.size, 0, none⟩)] t')) w1.heap.size K A B C N' S' T' va vn vc ma m mc L' := by
  have hz : w.heap.size + 3 ≤ w1.heap.size := by have := hb.size; simp at this; omega
  have hB2 : Below w1.heap.size w1 ((w1.alloc (.cells #[.int .i64 K, .int .i64 A, .int .i64 B, .int .i64 C, .int .i64 N', .string S', .slice va vn vc, .bool T'] t)).alloc (.cells #[.pointer (some ⟨w1.heap.size, 0, none⟩)] t')) := ((Below.refl w1.heap.size w1).alloc (Nat.le_refl _) _).alloc (by simp) _
  refine ⟨(Box.new w1 _ t rfl).alloc (by simp) _, ?_, ?_, hown.below hB2, ?_, by simp, hz, fun k hk => (hown.lt k hk).2⟩
  · exact ((Box.new _ _ u2 (by simp)).below hb (by omega)).below hB2 (by omega)
  · exact (((Box.new _ _ u1 (by simp)).alloc (by simp) _).below hb (by omega)).below hB2 (by omega)
  · exact (((((Below.refl w.heap.size w).alloc (Nat.le_refl _) _).alloc (by simp) _).alloc (by simp <;> omega) _).trans (hb.mono (by omega))).trans (hB2.mono (by omega))
theorem RnAt.of {w W : World} {b g : Nat} {K A B C N' : Int} {S' : ByteArray} {T' : Bool} {va : Option Addr} {vn vc : Nat} {ma : Option Addr} {m mc : Nat} {L' : List Int} (hs : RnSt w W b K A B C N' S' T' va vn vc ma m mc L') (hva : 0 < vn → va = some ⟨g, 0, none⟩)
    (h65 : hasB K 65 = false → A = 0) (h66 : hasB K 66 = false → B = 0) (h67 : hasB K 67 = false → C = 0) : RnAt w W b g K N' S' T' va vn vc ma m mc (valF b g 0 vn K A B C L') := by
  refine ⟨⟨A, B, C, L', hs, h65, h66, h67⟩, fun i => pairs_cells hs.own.read.1 hva hs.box.1 hs.own.read _ (pair_mem i), fun i => ?_⟩
  rcases placeF_cases i with ⟨e, _⟩ | ⟨e, _⟩ | ⟨e, _⟩ | ⟨j, hj, e, _⟩
  · rw [e]; exact hs.box.2 1
  · rw [e]; exact hs.box.2 2
  · rw [e]; exact hs.box.2 3
  · rw [e]
    obtain rfl := hva (by omega)
    rcases hs.own.2 with ⟨he, _⟩ | ⟨g', cap, cur, he, _, hgb, _⟩
    · cases he
    · cases he
      simp only [World.frozen?, hgb]
      rfl
theorem OwnsI.belowAt {W W' : World} {B B' : Nat} {e : TypeId} {v : Value} {Z : List Int} (h : OwnsI W B e v Z) (hb : Below B' W W') (hk : ∀ k, v.ownBlock = some k → k < B') : OwnsI W' B e v Z := by
  refine ⟨h.1, ?_⟩
  rcases h.2 with hn | ⟨g, cap, cur, rfl, hB, hg, rest⟩
  · exact .inl hn
  · refine .inr ⟨g, cap, cur, rfl, hB, ?_, rest⟩
    rw [hb.block g (hk g rfl)]
    exact hg
theorem RnSt.below {w W W' : World} {b : Nat} {K X1 X2 X3 N' : Int} {S' : ByteArray} {T' : Bool} {va : Option Addr} {vn vc : Nat} {ma : Option Addr} {m mc : Nat} {Z : List Int} (h : RnSt w W b K X1 X2 X3 N' S' T' va vn vc ma m mc Z) (hb : Below (b + 2) W W') : RnSt w W' b K X1 X2 X3 N' S' T' va vn vc ma m mc Z :=
  have hlo := h.lo
  ⟨h.box.below hb (by omega), h.res.below hb (by omega), h.to_.below hb (by omega), h.own.belowAt hb (fun k hk => by have := h.hg k hk; omega), h.bel.trans (hb.mono (by omega)), Nat.le_trans h.siz hb.size, h.lo, h.hg⟩
theorem RnAt.grown {w W W' : World} {b g : Nat} {K N' : Int} {S' : ByteArray} {T' : Bool} {va : Option Addr} {vn vc : Nat} {ma : Option Addr} {m mc : Nat} {cur : Fin (placesL b g 0 vn K).length → Int} {row : Option Nat} (h : RnAt w W b g K N' S' T' va vn vc ma m mc cur)
    (hva : 0 < vn → va = some ⟨g, 0, none⟩) (hg : W.grownBy W' row) (hr : ∀ r, row = some r → b + 2 ≤ r ∧ ∃ o : Obj, W.heap[r]? = some o ∧ o.isCells = false) : RnAt w W' b g K N' S' T' va vn vc ma m mc cur := by
  obtain ⟨⟨X1, X2, X3, Z, hs, e⟩, hc, hf⟩ := h
  have hb : Below (b + 2) W W' := Below.grown (Below.refl _ W) hg hs.siz (fun k e => (hr k e).1)
  have hlt : ∀ i, (placeF b g 0 vn K i).block < b + 2 := fun i => by
    rcases placeF_cases i with ⟨e, _⟩ | ⟨e, _⟩ | ⟨e, _⟩ | ⟨j, hj, e, _⟩
    · rw [e]; show b < b + 2; omega
    · rw [e]; show b < b + 2; omega
    · rw [e]; show b < b + 2; omega
    · have := hs.hg g (by rw [hva (by omega)]; rfl)
      rw [e]; show g < b + 2; omega
  exact ⟨⟨X1, X2, X3, Z, hs.below hb, e⟩, fun i => (hb.cell (hlt i)).trans (hc i), fun i => (hb.frozen (hlt i)).trans (hf i)⟩
theorem RnRel.same {M : List Int} {N : Nat} {val cur : Fin N → Int} {pre : List (Fin N)} {x : Fin N} (h : RnRel M val cur pre) (hz : toV M (cur x) = cur x) : RnRel M val cur (pre ++ [x]) := by
  have h1 := h.next (x := x) (z := cur x) hz.symm
  have h2 : (fun i => if i = x then cur x else cur i) = cur := funext fun i => by
    by_cases hi : i = x
    · rw [if_pos hi, hi]
    · rw [if_neg hi]
  rw [h2] at h1
  exact h1
theorem Box.putObj {u : World} {g l : Nat} {P : Array Value} (h : Box u g P) (o : Obj) (hl : g ≠ l) : Box (u.putObj l o) g P :=
  ⟨fun j => by simp only [World.cell?, World.putObj_heap_other hl]; exact h.1 j, fun j => by simp only [World.frozen?, World.putObj_heap_other hl]; exact h.2 j⟩
end Go.Proofs.YtdchhfdmingnaaaDoor

/- Layer 4, P4.3: package kind's all, walked: whether there are all values that a step is of. -/
namespace Go.Proofs.YtdchhfdmingnaaaDoor
open Go.RowKit
set_option linter.unusedVariables false
attribute [local go_sem] Oper.semAt_some
def usesB (K A B C : Int) (L : List Int) (m : Int) : Bool := (usesL K A B C L).all fun v => kinB v m
structure AllSt (w W : World) (O : Array Value) (m : Int) : Prop where
  inb : Box W w.heap.size O
  many : Box W (w.heap.size + 1) #[.int .i64 m]
  res : Box W (w.heap.size + 2) #[.bool false]
  bel : Below w.heap.size w W
  siz : w.heap.size + 4 ≤ W.heap.size
theorem AllSt.grown {w W W' : World} {O : Array Value} {m : Int} {row : Option Nat} (h : AllSt w W O m) (hg : W.grownBy W' row) (hr : ∀ r, row = some r → w.heap.size + 4 ≤ r) : AllSt w W' O m :=
  have hb : Below (w.heap.size + 4) W W' := Below.grown (Below.refl _ W) hg h.siz hr
  ⟨h.inb.below hb (by omega), h.many.below hb (by omega), h.res.below hb (by omega), h.bel.trans (hb.mono (by omega)), Nat.le_trans h.siz hb.size⟩
theorem AllSt.drew {w W : World} {O : Array Value} {m : Int} (h : AllSt w W O m) : AllSt w W.drew O m := ⟨h.inb, h.many, h.res, h.bel.drew, h.siz⟩
theorem AllSt.put {w W : World} {O : Array Value} {m : Int} (h : AllSt w W O m) : AllSt w (W.setCell ⟨w.heap.size + 1 + 1, 0, none⟩ (.bool false)) O m :=
  ⟨h.inb.other (by omega) _ _, h.many.other (by omega) _ _, h.res.set (g := w.heap.size + 2) 0 _ (by simp) (by simp), h.bel.setCell (by show w.heap.size ≤ w.heap.size + 1 + 1; omega) _, by rw [setCell_size]; exact h.siz⟩
theorem Kept.drew (Bo b : Nat) (W : World) : Kept Bo b W W.drew := ⟨(KeepsOthers.drew W).walks, rfl, rfl⟩
end Go.Proofs.YtdchhfdmingnaaaDoor

/- Layer 4, P4.3: package kind's Result, walked. -/
namespace Go.Proofs.YtdchhfdmingnaaaDoor
open Go.RowKit (wrap64 intOf Below)
set_option linter.unusedVariables false
def resS (P : ProgD) (K A B C N : Int) (S : ByteArray) (L ts : List Int) : Int × Bool :=
  if usesB K A B C L ts.length = true then (if (rowS P K N S ((usesL K A B C L).map (tyAt ts))).2 = true then ((rowS P K N S ((usesL K A B C L).map (tyAt ts))).1, true) else (-1, false)) else (-1, false)
def ResPost (r : Int × Bool) (w : World) (e : Ending) (w' : World) : Prop := e = .returned (.tuple #[.int .i64 r.1, .bool r.2]) ∧ Below w.heap.size w w'
end Go.Proofs.YtdchhfdmingnaaaDoor

/- Layer 5: the reader (code.reader): what is left to read, and what its two calls make of it. -/
namespace Go.Proofs.YtdchhfdmingnaaaDoor
open Go.RowKit (wrap64 intOf Below)
set_option linter.unusedVariables false
set_option linter.unusedSimpArgs false
attribute [local go_sem ↓] Go.wp_at_zero Go.wp_at_succ
def RX (r : Nat) : Nat → Prop := fun k => k = r
def rdText (L : List UInt8) : PR ByteArray := (rdCount 64 L).bind fun m r => if m ≤ r.length then .ok (mk (r.take m)) (r.drop m) else .no 3
end Go.Proofs.YtdchhfdmingnaaaDoor

/- Layer 4, P4.3: the document's Type, and what the statement KindTypes asks, walked out of the contracts of package kind's calls. -/
namespace Go.Proofs.YtdchhfdmingnaaaDoor
open Go.RowKit (wrap64 intOf Below)
set_option linter.unusedVariables false
theorem type_any (g : Nat) (ca : Option Addr) (cn cc : Nat) (t : Int) (w : World) (hc : w.cell? ⟨g, 1, none⟩ = some (.slice ca cn cc)) (ht : -9223372036854775808 ≤ t ∧ t ≤ 9223372036854775807) (hn : cn ≤ 140737488355328) :
    Calls Tryd.prog 52 #[.pointer (some ⟨g, 0, none⟩), .int .i64 t] w fun e w' => e = .returned (.bool (typB cn t)) ∧ w = w' := by
  obtain ⟨ht0, ht1⟩ := ht
  by_cases h0 : t < 0
  · have HT := Lib.hid (typB_no (n := cn) (t := t) (by omega))
    go_enter Tryd.func52, Tryd.ntmps52
    go_wp2
    all_goals go_ret
    all_goals exact ⟨by rw [HT.out]; rfl, rfl⟩
  · by_cases h5 : t ≤ 5
    · have HT := Lib.hid (typB_yes (n := cn) (t := t) (by omega))
      have h0' : 0 ≤ t := by omega
      go_enter Tryd.func52, Tryd.ntmps52
      go_wp2
      all_goals go_ret
      all_goals exact ⟨by rw [HT.out]; rfl, rfl⟩
    · have h6 : 6 ≤ t := by omega
      by_cases hl : t - 6 < cn
      · have HT := Lib.hid (typB_yes (n := cn) (t := t) (by omega))
        go_enter Tryd.func52, Tryd.ntmps52
        go_wp2
        all_goals go_ret
        all_goals exact ⟨by rw [HT.out]; rfl, rfl⟩
      · have HT := Lib.hid (typB_no (n := cn) (t := t) (by omega))
        go_enter Tryd.func52, Tryd.ntmps52
        go_wp2
        all_goals go_ret
        all_goals exact ⟨by rw [HT.out]; rfl, rfl⟩
end Go.Proofs.YtdchhfdmingnaaaDoor

/- Layer 4, P4.3: what the document's result at a program's parts asks for. (Its text: by wip/gen/refres3.py.) -/
namespace Go.Proofs.YtdchhfdmingnaaaDoor
open Go.RowKit (wrap64 intOf Below)
set_option linter.unusedVariables false
theorem NumsAt.drop {w : World} {a : Option Addr} {n c : Nat} {L : List Int} (h : NumsAt w a n L) (hc : n ≤ c) (k : Nat) (hk : k ≤ n) : NumsAt w (fromA a c k) (n - k) (L.drop k) := by
  refine ⟨by rw [List.length_drop, h.1], fun hn => ?_⟩
  obtain ⟨g, off, rfl, hg, hcell⟩ := h.2 (by omega)
  refine ⟨g, off + k, by rw [fromA_some _ _ _ (by omega), addr_plain], hg, fun j hj => ?_⟩
  rw [List.length_drop] at hj
  rw [List.getElem_drop, Nat.add_assoc]
  exact hcell (k + j) (by omega)
theorem size_int : ∀ w, (sizeOf 3).run Tryd.prog w = .ok 1 w := fun w => by
  obtain ⟨i0, hi, hz0, hz1, hz2⟩ := info_parts info_int
  simp [sizeOf, typeInfo, hi, hz1]
theorem quiet_add_of {P : Program} {f : FuncId} {args : Array Value} {w : World} {a n : Nat} {v : Value} (h : Calls P f args (w.drewN (a + n)) fun e w' => e = .returned v ∧ ∃ m, w' = (w.drewN (a + n)).drewN m) :
    Calls P f args (w.drewN (a + n)) fun e w'' => e = .returned v ∧ ∃ m, w'' = w.drewN (a + m) :=
  h.mono fun _ _ ⟨he, m, hm⟩ => ⟨he, n + m, by rw [hm, World.drewN_drewN, Nat.add_assoc]⟩
end Go.Proofs.YtdchhfdmingnaaaDoor

/- Layer 4, P4.3: the document's result, walked at kind 10. (Its text: by wip/gen/refres3.py.) -/
namespace Go.Proofs.YtdchhfdmingnaaaDoor
open Go.RowKit (wrap64 intOf Below)
set_option linter.unusedVariables false
set_option maxRecDepth 100000 in
set_option maxHeartbeats 20000000 in
theorem rres_10 (g : Nat) {sa : Option Addr} {sn sc : Nat} {ca : Option Addr} {cn cc : Nat} {fa : Option Addr} {fn fc : Nat} {P : ProgD} (A B C N : Int) (S : ByteArray) (la : Option Addr) (ln lc : Nat) (T : Bool) (va : Option Addr) (vn vc : Nat) (w : World) (x : Int)
    (hP : ProgAt w g sa sn sc ca cn cc fa fn fc P) (hv : NumsAt w va vn [x]) (hvn : vn ≤ 140737488355328) (hr : ∀ z ∈ [x], InR z) (hN : InR N) :
    Calls Tryd.prog 68 #[.pointer (some ⟨g, 0, none⟩), .agg #[.int .i64 10, .int .i64 A, .int .i64 B, .int .i64 C, .int .i64 N, .string S, .slice la ln lc, .bool T], .slice va vn vc] w (RowPost (rowS P 10 N S [x]) w) := by
  obtain ⟨W0, hW0⟩ : ∃ W0, W0 = w.alloc (.cells #[.int .i64 10, .int .i64 A, .int .i64 B, .int .i64 C, .int .i64 N, .string S, .slice la ln lc, .bool T] 52) := ⟨_, rfl⟩
  have hw0 : ∀ u, Below (w.heap.size + 1) W0 u → Below w.heap.size w u := fun u hu => by rw [hW0] at hu; exact first_below hu
  have HW := Lib.hid hw0
  have H2 : RowKit.Hid (Below (w.heap.size + 1) W0 W0) := Lib.hid (Below.refl _ _)
  have hp := hP.since (hw0 _ H2.out)
  have hq := hv.since (hw0 _ H2.out)
  obtain ⟨z0, z1, z2, z3, z4, z5, z6, z7⟩ : W0.cell? ⟨w.heap.size, 0, none⟩ = some (.int .i64 10) ∧ W0.cell? ⟨w.heap.size, 1, none⟩ = some (.int .i64 A) ∧ W0.cell? ⟨w.heap.size, 2, none⟩ = some (.int .i64 B) ∧ W0.cell? ⟨w.heap.size, 3, none⟩ = some (.int .i64 C) ∧ W0.cell? ⟨w.heap.size, 4, none⟩ = some (.int .i64 N) ∧ W0.cell? ⟨w.heap.size, 5, none⟩ = some (.string S) ∧ W0.cell? ⟨w.heap.size, 6, none⟩ = some (.slice la ln lc) ∧ W0.cell? ⟨w.heap.size, 7, none⟩ = some (.bool T) :=
    by have hu := H2.out; rw [hW0] at hu ⊢; exact ⟨first_cells hu 0 _ rfl, first_cells hu 1 _ rfl, first_cells hu 2 _ rfl, first_cells hu 3 _ rfl, first_cells hu 4 _ rfl, first_cells hu 5 _ rfl, first_cells hu 6 _ rfl, first_cells hu 7 _ rfl⟩
  have z8 := hp.c0
  have z9 := hp.c1
  have z10 := hp.c2
  obtain ⟨lg, lo, rfl, _, hlc⟩ := hq.2 (by have := hv.1; simp at this; omega)
  have hl0 : W0.cell? ⟨lg, lo, none⟩ = some (.int .i64 x) := hlc 0 (by simp)
  have hvn0 : vn = 1 := hv.1.symm
  subst hvn0
  have hlc1 := hP.c.len
  obtain ⟨hx1, hx2⟩ : InR x := hr x (by simp)
  have hrr : rowS P 10 N S [x] = fieldS P x N := rfl
  by_cases h6 : x < 6
  · have HR : RowKit.Hid ((rowS P 10 N S [x]).2 = false) := Lib.hid (by
      have e : fieldS P x N = (-1, false) := by unfold fieldS; rw [if_neg (by omega)]
      rw [hrr, e])
    clear hP hv hp hq hw0 hr hN hlc hrr
    go_enter Tryd.func68, Tryd.ntmps68
    go_wp2_with (go_at_call 77; (with_reducible refine (wants_10 _).mono ?_); rintro e w' ⟨rfl, rfl⟩; rw [← hW0]; clear hW0)
    go_quiet (fail)
    go_wp2_with fail
    refine bodyPost_ret (v := .tuple #[.int .i64 (-1), .bool false]) (by simp [results, Tryd.results68, go_sem]) rfl ⟨-1, by rw [HR.out], fun h => (by rw [HR.out] at h; cases h), HW.out _ (by first | exact H2.out.drewq _ | exact (H2.out.drewq _).drewq _ | exact ((H2.out.drewq _).drewq _).drewq _ | exact H2.out)⟩
  · by_cases hc : x - 6 < (cn : Int)
    · obtain ⟨k, hk⟩ := Int.eq_ofNat_of_zero_le (show 0 ≤ x - 6 by omega)
      have hkn : k < cn := by omega
      obtain ⟨cg, co, cs, hx, rfl, hcl, hcs, f, m, rfl, ⟨a, fnn, fcc, rfl, hfa, _, hfb, _⟩, _⟩ := hp.c.elem hkn
      have hc0 : W0.cell? ⟨cg, co + k * 2, none⟩ = some (.slice a fnn fcc) := hcs 0 (by simp)
      have hfo : fieldsOf P k = (P.classes[k]).fields := by unfold fieldsOf; rw [List.getElem?_eq_getElem hx]
      obtain ⟨d, hd⟩ : ∃ d, (P.classes[k]).fields = d := ⟨_, rfl⟩
      rw [hd] at hfa hfo
      have hfl := hfa.1
      have hc3 : 6 ≤ x := by omega
      have hwr : IntKind.i64.wrap (x - 6) = (k : Int) := by rw [hk]; exact wrap_small _ (by omega) (by omega)
      have hkc : (k : Int) < (cn : Int) := by omega
      by_cases hn0 : N < 0
      · have HR : RowKit.Hid ((rowS P 10 N S [x]).2 = false) := Lib.hid (by
          have e : fieldS P x N = (-1, false) := by unfold fieldS; rw [if_pos (by omega), hk, show ((k : Int)).toNat = k from rfl, hfo, if_neg (by omega)]
          rw [hrr, e])
        clear hP hv hp hq hw0 hr hN hlc hrr hcs hfa hd hfo hk h6 hc
        go_enter Tryd.func68, Tryd.ntmps68
        go_wp2_with (go_at_call 77; (with_reducible refine (wants_10 _).mono ?_); rintro e w' ⟨rfl, rfl⟩; rw [← hW0]; clear hW0)
        go_quiet (fail)
        go_wp2_with fail
        go_quiet (fail)
        go_wp2_with fail
        refine bodyPost_ret (v := .tuple #[.int .i64 (-1), .bool false]) (by simp [results, Tryd.results68, go_sem]) rfl ⟨-1, by rw [HR.out], fun h => (by rw [HR.out] at h; cases h), HW.out _ (by first | exact H2.out.drewq _ | exact (H2.out.drewq _).drewq _ | exact ((H2.out.drewq _).drewq _).drewq _ | exact H2.out)⟩
      · by_cases hn1 : N < (fnn : Int)
        · obtain ⟨i, rfl⟩ := Int.eq_ofNat_of_zero_le (show 0 ≤ N by omega)
          have hi : i < fnn := by omega
          obtain ⟨fg, fo, rfl, _, hfc⟩ := hfa.2 (by omega)
          have hci : W0.cell? ⟨fg, fo + i, none⟩ = some (.int .i64 (nth d i)) := by have h3 := hfc i (by omega); rw [nth_is (by omega)]; exact h3
          have e : fieldS P x (i : Int) = (nth d i, true) := by unfold fieldS; rw [if_pos (by omega), hk, show ((k : Int)).toNat = k from rfl, hfo, if_pos (by omega)]; rfl
          have HR : RowKit.Hid ((rowS P 10 (i : Int) S [x]).2 = true) := Lib.hid (by rw [hrr, e])
          have HR1 : RowKit.Hid ((rowS P 10 (i : Int) S [x]).1 = nth d i) := Lib.hid (by rw [hrr, e])
          clear hP hv hp hq hw0 hr hN hlc hrr hcs hfa hd hfo hk h6 hc hfc e
          go_enter Tryd.func68, Tryd.ntmps68
          go_wp2_with (go_at_call 77; (with_reducible refine (wants_10 _).mono ?_); rintro e w' ⟨rfl, rfl⟩; rw [← hW0]; clear hW0)
          go_quiet (fail)
          go_wp2_with fail
          go_quiet (fail)
          go_wp2_with fail
          refine bodyPost_ret (v := .tuple #[.int .i64 (nth d i), .bool true]) (by simp [results, Tryd.results68, go_sem]) rfl ⟨nth d i, by rw [HR.out], fun _ => HR1.out.symm, HW.out _ (by first | exact H2.out.drewq _ | exact (H2.out.drewq _).drewq _ | exact ((H2.out.drewq _).drewq _).drewq _ | exact H2.out)⟩
        · have HR : RowKit.Hid ((rowS P 10 N S [x]).2 = false) := Lib.hid (by
            have e : fieldS P x N = (-1, false) := by unfold fieldS; rw [if_pos (by omega), hk, show ((k : Int)).toNat = k from rfl, hfo, if_neg (by omega)]
            rw [hrr, e])
          clear hP hv hp hq hw0 hr hN hlc hrr hcs hfa hd hfo hk h6 hc
          have hn2 : (fnn : Int) ≤ N := by omega
          have hn3 : 0 ≤ N := by omega
          clear hn0 hn1
          go_enter Tryd.func68, Tryd.ntmps68
          go_wp2_with (go_at_call 77; (with_reducible refine (wants_10 _).mono ?_); rintro e w' ⟨rfl, rfl⟩; rw [← hW0]; clear hW0)
          go_quiet (fail)
          go_wp2_with fail
          go_quiet (fail)
          go_wp2_with fail
          refine bodyPost_ret (v := .tuple #[.int .i64 (-1), .bool false]) (by simp [results, Tryd.results68, go_sem]) rfl ⟨-1, by rw [HR.out], fun h => (by rw [HR.out] at h; cases h), HW.out _ (by first | exact H2.out.drewq _ | exact (H2.out.drewq _).drewq _ | exact ((H2.out.drewq _).drewq _).drewq _ | exact H2.out)⟩
    · have HR : RowKit.Hid ((rowS P 10 N S [x]).2 = false) := Lib.hid (by
        have e : fieldS P x N = (-1, false) := by unfold fieldS; rw [if_neg (by omega)]
        rw [hrr, e])
      clear hP hv hp hq hw0 hr hN hlc hrr
      have hwr : IntKind.i64.wrap (x - 6) = x - 6 := wrap_small _ (by omega) (by omega)
      have hc2 : (cn : Int) ≤ x - 6 := by omega
      have hc3 : 6 ≤ x := by omega
      clear hc h6
      go_enter Tryd.func68, Tryd.ntmps68
      go_wp2_with (go_at_call 77; (with_reducible refine (wants_10 _).mono ?_); rintro e w' ⟨rfl, rfl⟩; rw [← hW0]; clear hW0)
      go_quiet (fail)
      go_wp2_with fail
      refine bodyPost_ret (v := .tuple #[.int .i64 (-1), .bool false]) (by simp [results, Tryd.results68, go_sem]) rfl ⟨-1, by rw [HR.out], fun h => (by rw [HR.out] at h; cases h), HW.out _ (by first | exact H2.out.drewq _ | exact (H2.out.drewq _).drewq _ | exact ((H2.out.drewq _).drewq _).drewq _ | exact H2.out)⟩
end Go.Proofs.YtdchhfdmingnaaaDoor

/- Layer 4, P4.3: the document's result, walked at kind 11. (Its text: by wip/gen/refres3.py.) -/
namespace Go.Proofs.YtdchhfdmingnaaaDoor
open Go.RowKit (wrap64 intOf Below)
set_option linter.unusedVariables false
set_option maxRecDepth 100000 in
set_option maxHeartbeats 20000000 in
theorem rres_11 (g : Nat) {sa : Option Addr} {sn sc : Nat} {ca : Option Addr} {cn cc : Nat} {fa : Option Addr} {fn fc : Nat} {P : ProgD} (A B C N : Int) (S : ByteArray) (la : Option Addr) (ln lc : Nat) (T : Bool) (va : Option Addr) (vn vc : Nat) (w : World) (x y : Int)
    (hP : ProgAt w g sa sn sc ca cn cc fa fn fc P) (hv : NumsAt w va vn [x, y]) (hvn : vn ≤ 140737488355328) (hr : ∀ z ∈ [x, y], InR z) (hN : InR N) :
    Calls Tryd.prog 68 #[.pointer (some ⟨g, 0, none⟩), .agg #[.int .i64 11, .int .i64 A, .int .i64 B, .int .i64 C, .int .i64 N, .string S, .slice la ln lc, .bool T], .slice va vn vc] w (RowPost (rowS P 11 N S [x, y]) w) := by
  obtain ⟨W0, hW0⟩ : ∃ W0, W0 = w.alloc (.cells #[.int .i64 11, .int .i64 A, .int .i64 B, .int .i64 C, .int .i64 N, .string S, .slice la ln lc, .bool T] 52) := ⟨_, rfl⟩
  have hw0 : ∀ u, Below (w.heap.size + 1) W0 u → Below w.heap.size w u := fun u hu => by rw [hW0] at hu; exact first_below hu
  have HW := Lib.hid hw0
  have H2 : RowKit.Hid (Below (w.heap.size + 1) W0 W0) := Lib.hid (Below.refl _ _)
  have hp := hP.since (hw0 _ H2.out)
  have hq := hv.since (hw0 _ H2.out)
  obtain ⟨z0, z1, z2, z3, z4, z5, z6, z7⟩ : W0.cell? ⟨w.heap.size, 0, none⟩ = some (.int .i64 11) ∧ W0.cell? ⟨w.heap.size, 1, none⟩ = some (.int .i64 A) ∧ W0.cell? ⟨w.heap.size, 2, none⟩ = some (.int .i64 B) ∧ W0.cell? ⟨w.heap.size, 3, none⟩ = some (.int .i64 C) ∧ W0.cell? ⟨w.heap.size, 4, none⟩ = some (.int .i64 N) ∧ W0.cell? ⟨w.heap.size, 5, none⟩ = some (.string S) ∧ W0.cell? ⟨w.heap.size, 6, none⟩ = some (.slice la ln lc) ∧ W0.cell? ⟨w.heap.size, 7, none⟩ = some (.bool T) :=
    by have hu := H2.out; rw [hW0] at hu ⊢; exact ⟨first_cells hu 0 _ rfl, first_cells hu 1 _ rfl, first_cells hu 2 _ rfl, first_cells hu 3 _ rfl, first_cells hu 4 _ rfl, first_cells hu 5 _ rfl, first_cells hu 6 _ rfl, first_cells hu 7 _ rfl⟩
  have z8 := hp.c0
  have z9 := hp.c1
  have z10 := hp.c2
  obtain ⟨lg, lo, rfl, _, hlc⟩ := hq.2 (by have := hv.1; simp at this; omega)
  have hl0 : W0.cell? ⟨lg, lo, none⟩ = some (.int .i64 x) := hlc 0 (by simp)
  have hl1 : W0.cell? ⟨lg, lo + 1, none⟩ = some (.int .i64 y) := hlc 1 (by simp)
  have hvn0 : vn = 2 := hv.1.symm
  subst hvn0
  have hlc1 := hP.c.len
  obtain ⟨hx1, hx2⟩ : InR x := hr x (by simp)
  have hrr : rowS P 11 N S [x, y] = (-1, (fieldS P x N).2 && (y == (fieldS P x N).1)) := rfl
  by_cases h6 : x < 6
  · have HR : RowKit.Hid ((rowS P 11 N S [x, y]).2 = false) := Lib.hid (by
      have e : fieldS P x N = (-1, false) := by unfold fieldS; rw [if_neg (by omega)]
      rw [hrr, e]; rfl)
    clear hP hv hp hq hw0 hr hN hlc hrr
    go_enter Tryd.func68, Tryd.ntmps68
    go_wp2_with (go_at_call 77; (with_reducible refine (wants_11 _).mono ?_); rintro e w' ⟨rfl, rfl⟩; rw [← hW0]; clear hW0)
    go_quiet (fail)
    go_wp2_with fail
    refine bodyPost_ret (v := .tuple #[.int .i64 (-1), .bool false]) (by simp [results, Tryd.results68, go_sem]) rfl ⟨-1, by rw [HR.out], fun h => (by rw [HR.out] at h; cases h), HW.out _ (by first | exact H2.out.drewq _ | exact (H2.out.drewq _).drewq _ | exact ((H2.out.drewq _).drewq _).drewq _ | exact H2.out)⟩
  · by_cases hc : x - 6 < (cn : Int)
    · obtain ⟨k, hk⟩ := Int.eq_ofNat_of_zero_le (show 0 ≤ x - 6 by omega)
      have hkn : k < cn := by omega
      obtain ⟨cg, co, cs, hx, rfl, hcl, hcs, f, m, rfl, ⟨a, fnn, fcc, rfl, hfa, _, hfb, _⟩, _⟩ := hp.c.elem hkn
      have hc0 : W0.cell? ⟨cg, co + k * 2, none⟩ = some (.slice a fnn fcc) := hcs 0 (by simp)
      have hfo : fieldsOf P k = (P.classes[k]).fields := by unfold fieldsOf; rw [List.getElem?_eq_getElem hx]
      obtain ⟨d, hd⟩ : ∃ d, (P.classes[k]).fields = d := ⟨_, rfl⟩
      rw [hd] at hfa hfo
      have hfl := hfa.1
      have hc3 : 6 ≤ x := by omega
      have hwr : IntKind.i64.wrap (x - 6) = (k : Int) := by rw [hk]; exact wrap_small _ (by omega) (by omega)
      have hkc : (k : Int) < (cn : Int) := by omega
      by_cases hn0 : N < 0
      · have HR : RowKit.Hid ((rowS P 11 N S [x, y]).2 = false) := Lib.hid (by
          have e : fieldS P x N = (-1, false) := by unfold fieldS; rw [if_pos (by omega), hk, show ((k : Int)).toNat = k from rfl, hfo, if_neg (by omega)]
          rw [hrr, e]; rfl)
        clear hP hv hp hq hw0 hr hN hlc hrr hcs hfa hd hfo hk h6 hc
        go_enter Tryd.func68, Tryd.ntmps68
        go_wp2_with (go_at_call 77; (with_reducible refine (wants_11 _).mono ?_); rintro e w' ⟨rfl, rfl⟩; rw [← hW0]; clear hW0)
        go_quiet (fail)
        go_wp2_with fail
        go_quiet (fail)
        go_wp2_with fail
        refine bodyPost_ret (v := .tuple #[.int .i64 (-1), .bool false]) (by simp [results, Tryd.results68, go_sem]) rfl ⟨-1, by rw [HR.out], fun h => (by rw [HR.out] at h; cases h), HW.out _ (by first | exact H2.out.drewq _ | exact (H2.out.drewq _).drewq _ | exact ((H2.out.drewq _).drewq _).drewq _ | exact H2.out)⟩
      · by_cases hn1 : N < (fnn : Int)
        · obtain ⟨i, rfl⟩ := Int.eq_ofNat_of_zero_le (show 0 ≤ N by omega)
          have hi : i < fnn := by omega
          obtain ⟨fg, fo, rfl, _, hfc⟩ := hfa.2 (by omega)
          have hci : W0.cell? ⟨fg, fo + i, none⟩ = some (.int .i64 (nth d i)) := by have h3 := hfc i (by omega); rw [nth_is (by omega)]; exact h3
          have e : fieldS P x (i : Int) = (nth d i, true) := by unfold fieldS; rw [if_pos (by omega), hk, show ((k : Int)).toNat = k from rfl, hfo, if_pos (by omega)]; rfl
          have HR : RowKit.Hid ((rowS P 11 (i : Int) S [x, y]).2 = (y == nth d i)) := Lib.hid (by rw [hrr, e]; rfl)
          have HR1 : RowKit.Hid ((rowS P 11 (i : Int) S [x, y]).1 = -1) := Lib.hid (by rw [hrr])
          clear hP hv hp hq hw0 hr hN hlc hrr hcs hfa hd hfo hk h6 hc hfc e
          go_enter Tryd.func68, Tryd.ntmps68
          go_wp2_with (go_at_call 77; (with_reducible refine (wants_11 _).mono ?_); rintro e w' ⟨rfl, rfl⟩; rw [← hW0]; clear hW0)
          go_quiet (fail)
          go_wp2_with fail
          go_quiet (fail)
          go_wp2_with fail
          go_quiet (fail)
          go_wp2_with fail
          refine bodyPost_ret (v := .tuple #[.int .i64 (-1), .bool (y == nth d i)]) (by simp [results, Tryd.results68, go_sem]) rfl ⟨-1, by rw [HR.out], fun _ => HR1.out.symm, HW.out _ (by first | exact H2.out.drewq _ | exact (H2.out.drewq _).drewq _ | exact ((H2.out.drewq _).drewq _).drewq _ | exact H2.out)⟩
        · have HR : RowKit.Hid ((rowS P 11 N S [x, y]).2 = false) := Lib.hid (by
            have e : fieldS P x N = (-1, false) := by unfold fieldS; rw [if_pos (by omega), hk, show ((k : Int)).toNat = k from rfl, hfo, if_neg (by omega)]
            rw [hrr, e]; rfl)
          clear hP hv hp hq hw0 hr hN hlc hrr hcs hfa hd hfo hk h6 hc
          have hn2 : (fnn : Int) ≤ N := by omega
          have hn3 : 0 ≤ N := by omega
          clear hn0 hn1
          go_enter Tryd.func68, Tryd.ntmps68
          go_wp2_with (go_at_call 77; (with_reducible refine (wants_11 _).mono ?_); rintro e w' ⟨rfl, rfl⟩; rw [← hW0]; clear hW0)
          go_quiet (fail)
          go_wp2_with fail
          go_quiet (fail)
          go_wp2_with fail
          refine bodyPost_ret (v := .tuple #[.int .i64 (-1), .bool false]) (by simp [results, Tryd.results68, go_sem]) rfl ⟨-1, by rw [HR.out], fun h => (by rw [HR.out] at h; cases h), HW.out _ (by first | exact H2.out.drewq _ | exact (H2.out.drewq _).drewq _ | exact ((H2.out.drewq _).drewq _).drewq _ | exact H2.out)⟩
    · have HR : RowKit.Hid ((rowS P 11 N S [x, y]).2 = false) := Lib.hid (by
        have e : fieldS P x N = (-1, false) := by unfold fieldS; rw [if_neg (by omega)]
        rw [hrr, e]; rfl)
      clear hP hv hp hq hw0 hr hN hlc hrr
      have hwr : IntKind.i64.wrap (x - 6) = x - 6 := wrap_small _ (by omega) (by omega)
      have hc2 : (cn : Int) ≤ x - 6 := by omega
      have hc3 : 6 ≤ x := by omega
      clear hc h6
      go_enter Tryd.func68, Tryd.ntmps68
      go_wp2_with (go_at_call 77; (with_reducible refine (wants_11 _).mono ?_); rintro e w' ⟨rfl, rfl⟩; rw [← hW0]; clear hW0)
      go_quiet (fail)
      go_wp2_with fail
      refine bodyPost_ret (v := .tuple #[.int .i64 (-1), .bool false]) (by simp [results, Tryd.results68, go_sem]) rfl ⟨-1, by rw [HR.out], fun h => (by rw [HR.out] at h; cases h), HW.out _ (by first | exact H2.out.drewq _ | exact (H2.out.drewq _).drewq _ | exact ((H2.out.drewq _).drewq _).drewq _ | exact H2.out)⟩
end Go.Proofs.YtdchhfdmingnaaaDoor

/- Layer 4, P4.3: the document's result, walked at kind 23. (Its text: by wip/gen/refres3.py.) -/
namespace Go.Proofs.YtdchhfdmingnaaaDoor
open Go.RowKit (wrap64 intOf Below)
set_option linter.unusedVariables false
set_option maxRecDepth 100000 in
set_option maxHeartbeats 20000000 in
theorem rres_23 (g : Nat) {sa : Option Addr} {sn sc : Nat} {ca : Option Addr} {cn cc : Nat} {fa : Option Addr} {fn fc : Nat} {P : ProgD} (A B C N : Int) (S : ByteArray) (la : Option Addr) (ln lc : Nat) (T : Bool) (va : Option Addr) (vn vc : Nat) (w : World) (l : List Int)
    (hP : ProgAt w g sa sn sc ca cn cc fa fn fc P) (hv : NumsAt w va vn l) (hvn : vn ≤ 140737488355328) (hr : ∀ z ∈ l, InR z) (hN : InR N) :
    Calls Tryd.prog 68 #[.pointer (some ⟨g, 0, none⟩), .agg #[.int .i64 23, .int .i64 A, .int .i64 B, .int .i64 C, .int .i64 N, .string S, .slice la ln lc, .bool T], .slice va vn vc] w (RowPost (rowS P 23 N S l) w) := by
  obtain ⟨W0, hW0⟩ : ∃ W0, W0 = w.alloc (.cells #[.int .i64 23, .int .i64 A, .int .i64 B, .int .i64 C, .int .i64 N, .string S, .slice la ln lc, .bool T] 52) := ⟨_, rfl⟩
  have hw0 : ∀ u, Below (w.heap.size + 1) W0 u → Below w.heap.size w u := fun u hu => by rw [hW0] at hu; exact first_below hu
  have HW := Lib.hid hw0
  have H2 : RowKit.Hid (Below (w.heap.size + 1) W0 W0) := Lib.hid (Below.refl _ _)
  have hp := hP.since (hw0 _ H2.out)
  have hq := hv.since (hw0 _ H2.out)
  obtain ⟨z0, z1, z2, z3, z4, z5, z6, z7⟩ : W0.cell? ⟨w.heap.size, 0, none⟩ = some (.int .i64 23) ∧ W0.cell? ⟨w.heap.size, 1, none⟩ = some (.int .i64 A) ∧ W0.cell? ⟨w.heap.size, 2, none⟩ = some (.int .i64 B) ∧ W0.cell? ⟨w.heap.size, 3, none⟩ = some (.int .i64 C) ∧ W0.cell? ⟨w.heap.size, 4, none⟩ = some (.int .i64 N) ∧ W0.cell? ⟨w.heap.size, 5, none⟩ = some (.string S) ∧ W0.cell? ⟨w.heap.size, 6, none⟩ = some (.slice la ln lc) ∧ W0.cell? ⟨w.heap.size, 7, none⟩ = some (.bool T) :=
    by have hu := H2.out; rw [hW0] at hu ⊢; exact ⟨first_cells hu 0 _ rfl, first_cells hu 1 _ rfl, first_cells hu 2 _ rfl, first_cells hu 3 _ rfl, first_cells hu 4 _ rfl, first_cells hu 5 _ rfl, first_cells hu 6 _ rfl, first_cells hu 7 _ rfl⟩
  have z8 := hp.c0
  have z9 := hp.c1
  have z10 := hp.c2
  have hlc1 := hP.f.len
  have hrr : rowS P 23 N S l = (if 0 ≤ N ∧ N < P.funcs.length ∧ (funcOf P N.toNat).blocks.length ≠ 0 then ((funcOf P N.toNat).ret, sameB l (paramsOf (funcOf P N.toNat))) else (-1, false)) := rfl
  by_cases h0 : N < 0
  · have HR : RowKit.Hid ((rowS P 23 N S l).2 = false) := Lib.hid (by rw [hrr, if_neg (by omega)])
    clear hP hv hp hq hw0 hr hN hrr
    go_enter Tryd.func68, Tryd.ntmps68
    go_wp2_with (go_at_call 77; (with_reducible refine (wants_23 _).mono ?_); rintro e w' ⟨rfl, rfl⟩; rw [← hW0]; clear hW0)
    go_quiet (fail)
    go_wp2_with fail
    refine bodyPost_ret (v := .tuple #[.int .i64 (-1), .bool false]) (by simp [results, Tryd.results68, go_sem]) rfl ⟨-1, by rw [HR.out], fun h => (by rw [HR.out] at h; cases h), HW.out _ (by first | exact H2.out.drewq _ | exact (H2.out.drewq _).drewq _ | exact ((H2.out.drewq _).drewq _).drewq _ | exact H2.out)⟩
  · by_cases h1 : N < (fn : Int)
    · obtain ⟨k, rfl⟩ := Int.eq_ofNat_of_zero_le (show 0 ≤ N by omega)
      have hk : k < fn := by omega
      obtain ⟨fg, fo, cs, hx, rfl, hcl, hcs, bv, rfl, _, hbl⟩ := hp.f.elem hk
      have hb2 := hbl
      obtain ⟨ba, bn, bc, rfl, _⟩ := hb2
      have hc0 : W0.cell? ⟨fg, fo + k * 2, none⟩ = some (.int .i64 (P.funcs[k]).ret) := hcs 0 (by simp)
      have hc1 : W0.cell? ⟨fg, fo + k * 2 + 1, none⟩ = some (.slice ba bn bc) := hcs 1 (by simp)
      have hfo : funcOf P k = P.funcs[k] := by unfold funcOf; rw [List.getElem?_eq_getElem hx]
      obtain ⟨G, hG⟩ : ∃ G, P.funcs[k] = G := ⟨_, rfl⟩
      rw [hG] at hbl hfo hc0
      have hbln := hbl.len
      have hkc : (k : Int) < (fn : Int) := by omega
      rw [show ((k : Int)).toNat = k from rfl, hfo] at hrr
      by_cases hb0 : bn = 0
      · subst hb0
        have HR : RowKit.Hid ((rowS P 23 (k : Int) S l).2 = false) := Lib.hid (by rw [hrr, if_neg (fun hh => hh.2.2 hbln.1)])
        clear hP hv hp hq hw0 hr hN hrr hcs hbl hG hfo hbln
        go_enter Tryd.func68, Tryd.ntmps68
        go_wp2_with (go_at_call 77; (with_reducible refine (wants_23 _).mono ?_); rintro e w' ⟨rfl, rfl⟩; rw [← hW0]; clear hW0)
        go_quiet (fail)
        go_wp2_with fail
        refine bodyPost_ret (v := .tuple #[.int .i64 (-1), .bool false]) (by simp [results, Tryd.results68, go_sem]) rfl ⟨-1, by rw [HR.out], fun h => (by rw [HR.out] at h; cases h), HW.out _ (by first | exact H2.out.drewq _ | exact (H2.out.drewq _).drewq _ | exact ((H2.out.drewq _).drewq _).drewq _ | exact H2.out)⟩
      · obtain ⟨bg, bo, cs2, hx2, rfl, hcl2, hcs2, p, ov, es, rfl, ⟨pa, pn, pc, rfl, hpat, _, hpb, _⟩, _⟩ := hbl.elem (i := 0) (by omega)
        have hc2 : W0.cell? ⟨bg, bo, none⟩ = some (.slice pa pn pc) := by have := hcs2 0 (by simp); rw [Nat.zero_mul] at this; exact this
        have hps : paramsOf G = G.blocks[0].params := by
          unfold paramsOf
          clear hcs2 hpat
          revert hx2
          cases G.blocks with
          | nil => intro hx2; exact absurd hx2 (by simp)
          | cons b r => intros; rfl
        obtain ⟨d, hd⟩ : ∃ d, G.blocks[0].params = d := ⟨_, rfl⟩
        rw [hd] at hpat hps
        obtain ⟨b, hb⟩ : ∃ b, sameB l d = b := ⟨_, rfl⟩
        have CI : RowKit.Hid (∀ u, Below (w.heap.size + 1) W0 u → Calls Tryd.prog 16 #[.slice va vn vc, .slice pa pn pc] u (BoolPost b u)) := Lib.hid (fun u hu => by rw [← hb]; exact ints_any va pa vn pn vc pc l d u (hv.since (hw0 u hu)) (hpat.below hu (by show W0.heap.size ≤ w.heap.size + 1; rw [hW0]; simp)) hvn (by omega))
        have HR : RowKit.Hid ((rowS P 23 (k : Int) S l).2 = b) := Lib.hid (by rw [hrr, if_pos ⟨by omega, by omega, by omega⟩, hps, hb])
        have HR1 : RowKit.Hid ((rowS P 23 (k : Int) S l).1 = G.ret) := Lib.hid (by rw [hrr, if_pos ⟨by omega, by omega, by omega⟩])
        have hbn : ((bn : Int) == 0) = false := by simpa using hb0
        have hbp : (0 : Int) < (bn : Int) := by omega
        have hbq : 0 < bn := by omega
        clear hP hv hp hq hw0 hr hN hrr hcs hbl hG hfo hbln hcs2 hpat hps hd hb
        go_enter Tryd.func68, Tryd.ntmps68
        go_wp2_with (go_at_call 77; (with_reducible refine (wants_23 _).mono ?_); rintro e w' ⟨rfl, rfl⟩; rw [← hW0]; clear hW0)
        go_quiet (fail)
        go_wp2_with fail
        go_quiet (((go_at_call 16; first | exact quiet_add_of (CI.out _ (H2.out.drewq _)) | exact Calls.quiet_of (CI.out _ (H2.out.drewq _)))))
        go_wp2_with fail
        refine bodyPost_ret (v := .tuple #[.int .i64 G.ret, .bool b]) (by simp [results, Tryd.results68, go_sem]) rfl ⟨G.ret, by rw [HR.out], fun _ => HR1.out.symm, HW.out _ (by first | exact H2.out.drewq _ | exact (H2.out.drewq _).drewq _ | exact ((H2.out.drewq _).drewq _).drewq _ | exact H2.out)⟩
    · have HR : RowKit.Hid ((rowS P 23 N S l).2 = false) := Lib.hid (by rw [hrr, if_neg (by omega)])
      have h1' : (fn : Int) ≤ N := by omega
      have h0' : 0 ≤ N := by omega
      have hd1 : decide ((fn : Int) ≤ N) = true := decide_eq_true h1'
      have hd0 : decide (N < 0) = false := decide_eq_false (by omega)
      clear hP hv hp hq hw0 hr hN h1 h0 hrr
      go_enter Tryd.func68, Tryd.ntmps68
      go_wp2_with (go_at_call 77; (with_reducible refine (wants_23 _).mono ?_); rintro e w' ⟨rfl, rfl⟩; rw [← hW0]; clear hW0)
      go_quiet (fail)
      go_wp2_with fail
      refine bodyPost_ret (v := .tuple #[.int .i64 (-1), .bool false]) (by simp [results, Tryd.results68, go_sem]) rfl ⟨-1, by rw [HR.out], fun h => (by rw [HR.out] at h; cases h), HW.out _ (by first | exact H2.out.drewq _ | exact (H2.out.drewq _).drewq _ | exact ((H2.out.drewq _).drewq _).drewq _ | exact H2.out)⟩
end Go.Proofs.YtdchhfdmingnaaaDoor

/- Layer 4, P4.3: the document's result, walked at kind 24. (Its text: by wip/gen/refres3.py.) -/
namespace Go.Proofs.YtdchhfdmingnaaaDoor
open Go.RowKit (wrap64 intOf Below)
set_option linter.unusedVariables false
set_option maxRecDepth 100000 in
set_option maxHeartbeats 20000000 in
theorem rres_24 (g : Nat) {sa : Option Addr} {sn sc : Nat} {ca : Option Addr} {cn cc : Nat} {fa : Option Addr} {fn fc : Nat} {P : ProgD} (A B C N : Int) (S : ByteArray) (la : Option Addr) (ln lc : Nat) (T : Bool) (va : Option Addr) (vn vc : Nat) (w : World) (x : Int) (l : List Int) (hcap : vn ≤ vc)
    (hP : ProgAt w g sa sn sc ca cn cc fa fn fc P) (hv : NumsAt w va vn (x :: l)) (hvn : vn ≤ 140737488355328) (hr : ∀ z ∈ (x :: l), InR z) (hN : InR N) :
    Calls Tryd.prog 68 #[.pointer (some ⟨g, 0, none⟩), .agg #[.int .i64 24, .int .i64 A, .int .i64 B, .int .i64 C, .int .i64 N, .string S, .slice la ln lc, .bool T], .slice va vn vc] w (RowPost (rowS P 24 N S (x :: l)) w) := by
  obtain ⟨W0, hW0⟩ : ∃ W0, W0 = w.alloc (.cells #[.int .i64 24, .int .i64 A, .int .i64 B, .int .i64 C, .int .i64 N, .string S, .slice la ln lc, .bool T] 52) := ⟨_, rfl⟩
  have hw0 : ∀ u, Below (w.heap.size + 1) W0 u → Below w.heap.size w u := fun u hu => by rw [hW0] at hu; exact first_below hu
  have HW := Lib.hid hw0
  have H2 : RowKit.Hid (Below (w.heap.size + 1) W0 W0) := Lib.hid (Below.refl _ _)
  have hp := hP.since (hw0 _ H2.out)
  have hq := hv.since (hw0 _ H2.out)
  obtain ⟨z0, z1, z2, z3, z4, z5, z6, z7⟩ : W0.cell? ⟨w.heap.size, 0, none⟩ = some (.int .i64 24) ∧ W0.cell? ⟨w.heap.size, 1, none⟩ = some (.int .i64 A) ∧ W0.cell? ⟨w.heap.size, 2, none⟩ = some (.int .i64 B) ∧ W0.cell? ⟨w.heap.size, 3, none⟩ = some (.int .i64 C) ∧ W0.cell? ⟨w.heap.size, 4, none⟩ = some (.int .i64 N) ∧ W0.cell? ⟨w.heap.size, 5, none⟩ = some (.string S) ∧ W0.cell? ⟨w.heap.size, 6, none⟩ = some (.slice la ln lc) ∧ W0.cell? ⟨w.heap.size, 7, none⟩ = some (.bool T) :=
    by have hu := H2.out; rw [hW0] at hu ⊢; exact ⟨first_cells hu 0 _ rfl, first_cells hu 1 _ rfl, first_cells hu 2 _ rfl, first_cells hu 3 _ rfl, first_cells hu 4 _ rfl, first_cells hu 5 _ rfl, first_cells hu 6 _ rfl, first_cells hu 7 _ rfl⟩
  have z8 := hp.c0
  have z9 := hp.c1
  have z10 := hp.c2
  obtain ⟨lg, lo, rfl, _, hlc⟩ := hq.2 (by have := hv.1; simp at this; omega)
  have hl0 : W0.cell? ⟨lg, lo, none⟩ = some (.int .i64 x) := hlc 0 (by simp)
  have hlc1 := hP.s.len
  have hvl := hv.1
  simp only [List.length_cons] at hvl
  have hv0 : 0 < vn := by omega
  have hv1 : (0 : Int) < (vn : Int) := by omega
  have hrr : rowS P 24 N S (x :: l) = (if 0 ≤ N ∧ N < P.sigs.length then ((sigOf P N.toNat).ret, x == 5 && sameB l (sigOf P N.toNat).params) else (-1, false)) := rfl
  by_cases h0 : N < 0
  · have HR : RowKit.Hid ((rowS P 24 N S (x :: l)).2 = false) := Lib.hid (by rw [hrr, if_neg (by omega)])
    clear hP hv hp hq hw0 hr hN hlc hrr
    go_enter Tryd.func68, Tryd.ntmps68
    go_wp2_with (go_at_call 77; (with_reducible refine (wants_24 _).mono ?_); rintro e w' ⟨rfl, rfl⟩; rw [← hW0]; clear hW0)
    go_quiet (fail)
    go_wp2_with fail
    refine bodyPost_ret (v := .tuple #[.int .i64 (-1), .bool false]) (by simp [results, Tryd.results68, go_sem]) rfl ⟨-1, by rw [HR.out], fun h => (by rw [HR.out] at h; cases h), HW.out _ (by first | exact H2.out.drewq _ | exact (H2.out.drewq _).drewq _ | exact ((H2.out.drewq _).drewq _).drewq _ | exact H2.out)⟩
  · by_cases h1 : N < (sn : Int)
    · obtain ⟨k, rfl⟩ := Int.eq_ofNat_of_zero_le (show 0 ≤ N by omega)
      have hk : k < sn := by omega
      obtain ⟨sg, so, cs, hx, rfl, hcl, hcs, p, rfl, ⟨pa, pn, pc, rfl, hpa, _, hpb, _⟩, _⟩ := hp.s.elem hk
      have hc0 : W0.cell? ⟨sg, so + k * 2, none⟩ = some (.slice pa pn pc) := hcs 0 (by simp)
      have hc1 : W0.cell? ⟨sg, so + k * 2 + 1, none⟩ = some (.int .i64 (P.sigs[k]).ret) := hcs 1 (by simp)
      have hfo : sigOf P k = P.sigs[k] := by unfold sigOf; rw [List.getElem?_eq_getElem hx]
      obtain ⟨G, hG⟩ : ∃ G, P.sigs[k] = G := ⟨_, rfl⟩
      rw [hG] at hpa hfo hc1
      have hkc : (k : Int) < (sn : Int) := by omega
      rw [show ((k : Int)).toNat = k from rfl, hfo, if_pos (by omega)] at hrr
      cases e5 : (x == 5) with
      | false =>
        have e5' : (x != 5) = true := by unfold bne; rw [e5]; rfl
        have HR : RowKit.Hid ((rowS P 24 (k : Int) S (x :: l)).2 = false) := Lib.hid (by rw [hrr, e5]; rfl)
        clear hP hv hp hq hw0 hr hN hlc hrr hcs hpa hG hfo
        go_enter Tryd.func68, Tryd.ntmps68
        go_wp2_with (go_at_call 77; (with_reducible refine (wants_24 _).mono ?_); rintro e w' ⟨rfl, rfl⟩; rw [← hW0]; clear hW0)
        go_quiet (fail)
        go_wp2_with fail
        refine bodyPost_ret (v := .tuple #[.int .i64 (-1), .bool false]) (by simp [results, Tryd.results68, go_sem]) rfl ⟨-1, by rw [HR.out], fun h => (by rw [HR.out] at h; cases h), HW.out _ (by first | exact H2.out.drewq _ | exact (H2.out.drewq _).drewq _ | exact ((H2.out.drewq _).drewq _).drewq _ | exact H2.out)⟩
      | true =>
        have e5' : (x != 5) = false := by unfold bne; rw [e5]; rfl
        obtain ⟨b, hb⟩ : ∃ b, sameB l G.params = b := ⟨_, rfl⟩
        have hvp : 1 ≤ vn := by omega
        have hdr := NumsAt.drop hv hcap 1 hvp
        obtain ⟨s1, hs1⟩ : ∃ s1, fromA (some ⟨lg, lo, none⟩) vc 1 = s1 := ⟨_, rfl⟩
        have hsl : ∀ u, (Instr.slice 34 (.slice (some ⟨lg, lo, none⟩) vn vc) (some (.int .i64 1)) none none).run Tryd.prog u = .ok (.slice s1 (vn - 1) (vc - 1)) u := fun u => by
          have := run_from Tryd.underlying34 size_int (some ⟨lg, lo, none⟩) vn vc 1 hvp u
          rw [hs1] at this
          exact this
        rw [hs1] at hdr
        have CI : RowKit.Hid (∀ u, Below (w.heap.size + 1) W0 u → Calls Tryd.prog 16 #[.slice s1 (vn - 1) (vc - 1), .slice pa pn pc] u (BoolPost b u)) := Lib.hid (fun u hu => by rw [← hb]; exact ints_any s1 pa (vn - 1) pn (vc - 1) pc l G.params u (hdr.since (hw0 u hu)) (hpa.below hu (by show W0.heap.size ≤ w.heap.size + 1; rw [hW0]; simp)) (by omega) (by omega))
        have HR : RowKit.Hid ((rowS P 24 (k : Int) S (x :: l)).2 = b) := Lib.hid (by rw [hrr, e5, hb]; rfl)
        have HR1 : RowKit.Hid ((rowS P 24 (k : Int) S (x :: l)).1 = G.ret) := Lib.hid (by rw [hrr])
        clear hP hv hp hq hw0 hr hN hlc hrr hcs hpa hG hfo hdr hs1 hb
        go_enter Tryd.func68, Tryd.ntmps68
        go_wp2_with (go_at_call 77; (with_reducible refine (wants_24 _).mono ?_); rintro e w' ⟨rfl, rfl⟩; rw [← hW0]; clear hW0)
        go_quiet (fail)
        go_wp2_with fail
        go_quiet (((go_at_call 16; first | exact quiet_add_of (CI.out _ (H2.out.drewq _)) | exact Calls.quiet_of (CI.out _ (H2.out.drewq _)))))
        go_wp2_with fail
        refine bodyPost_ret (v := .tuple #[.int .i64 G.ret, .bool b]) (by simp [results, Tryd.results68, go_sem]) rfl ⟨G.ret, by rw [HR.out], fun _ => HR1.out.symm, HW.out _ (by first | exact H2.out.drewq _ | exact (H2.out.drewq _).drewq _ | exact ((H2.out.drewq _).drewq _).drewq _ | exact H2.out)⟩
    · have HR : RowKit.Hid ((rowS P 24 N S (x :: l)).2 = false) := Lib.hid (by rw [hrr, if_neg (by omega)])
      have h1' : (sn : Int) ≤ N := by omega
      have h0' : 0 ≤ N := by omega
      clear hP hv hp hq hw0 hr hN h1 h0 hrr hlc
      go_enter Tryd.func68, Tryd.ntmps68
      go_wp2_with (go_at_call 77; (with_reducible refine (wants_24 _).mono ?_); rintro e w' ⟨rfl, rfl⟩; rw [← hW0]; clear hW0)
      go_quiet (fail)
      go_wp2_with fail
      refine bodyPost_ret (v := .tuple #[.int .i64 (-1), .bool false]) (by simp [results, Tryd.results68, go_sem]) rfl ⟨-1, by rw [HR.out], fun h => (by rw [HR.out] at h; cases h), HW.out _ (by first | exact H2.out.drewq _ | exact (H2.out.drewq _).drewq _ | exact ((H2.out.drewq _).drewq _).drewq _ | exact H2.out)⟩
end Go.Proofs.YtdchhfdmingnaaaDoor

/- Layer 4, P4.3: the document's result, walked at the sign of a number's step and at what is no kind. (By wip/gen/refres4.py.) -/
namespace Go.Proofs.YtdchhfdmingnaaaDoor
open Go.RowKit (wrap64 intOf Below)
set_option linter.unusedVariables false
theorem rwants_none (K : Int) (h : K < 0 ∨ 25 < K) (w : World) : Calls Tryd.prog 77 #[.int .i64 K] w fun e w' => e = .returned (.tuple #[.slice none 0 0, .int .i64 (-1), .bool false]) ∧ w' = w := by
  have k0 : (K == 0) = false := by simp; omega
  have k1 : (K == 1) = false := by simp; omega
  have k2 : (K == 2) = false := by simp; omega
  have k3 : (K == 3) = false := by simp; omega
  have k4 : (K == 4) = false := by simp; omega
  have k5 : (K == 5) = false := by simp; omega
  have k6 : (K == 6) = false := by simp; omega
  have k7 : (K == 7) = false := by simp; omega
  have k8 : (K == 8) = false := by simp; omega
  have k9 : (K == 9) = false := by simp; omega
  have k10 : (K == 10) = false := by simp; omega
  have k11 : (K == 11) = false := by simp; omega
  have k12 : (K == 12) = false := by simp; omega
  have k13 : (K == 13) = false := by simp; omega
  have k14 : (K == 14) = false := by simp; omega
  have k15 : (K == 15) = false := by simp; omega
  have k16 : (K == 16) = false := by simp; omega
  have k17 : (K == 17) = false := by simp; omega
  have k18 : (K == 18) = false := by simp; omega
  have k19 : (K == 19) = false := by simp; omega
  have k20 : (K == 20) = false := by simp; omega
  have k21 : (K == 21) = false := by simp; omega
  have k22 : (K == 22) = false := by simp; omega
  have k23 : (K == 23) = false := by simp; omega
  have k24 : (K == 24) = false := by simp; omega
  have k25 : (K == 25) = false := by simp; omega
  clear h
  go_enter Tryd.func77, Tryd.ntmps77
  go_wp2
  exact bodyPost_ret (v := .tuple #[.slice none 0 0, .int .i64 (-1), .bool false]) (by simp [results, Tryd.results77, go_sem]) rfl ⟨rfl, rfl⟩
theorem rrowS_none {P : ProgD} {K N : Int} {S : ByteArray} {l : List Int} (h : K < 0 ∨ 25 < K) : rowS P K N S l = (-1, false) := by
  unfold rowS
  repeat rw [if_neg (by omega)]
set_option maxRecDepth 100000 in
theorem rres_none (pv : Value) (P : ProgD) (K : Int) (h : K < 0 ∨ 25 < K) (A B C N : Int) (S : ByteArray) (la : Option Addr) (ln lc : Nat) (T : Bool) (va : Option Addr) (vn vc : Nat) (l : List Int) (w : World) :
    Calls Tryd.prog 68 #[pv, .agg #[.int .i64 K, .int .i64 A, .int .i64 B, .int .i64 C, .int .i64 N, .string S, .slice la ln lc, .bool T], .slice va vn vc] w (RowPost (rowS P K N S l) w) := by
  rw [rrowS_none h]
  have HW := Lib.hid (rwants_none K h)
  have k0 : (K == 0) = false := by simp; omega
  have k1 : (K == 1) = false := by simp; omega
  have k2 : (K == 2) = false := by simp; omega
  have k3 : (K == 3) = false := by simp; omega
  have k4 : (K == 4) = false := by simp; omega
  have k5 : (K == 5) = false := by simp; omega
  have k6 : (K == 6) = false := by simp; omega
  have k7 : (K == 7) = false := by simp; omega
  have k8 : (K == 8) = false := by simp; omega
  have k9 : (K == 9) = false := by simp; omega
  have k10 : (K == 10) = false := by simp; omega
  have k11 : (K == 11) = false := by simp; omega
  have k12 : (K == 12) = false := by simp; omega
  have k13 : (K == 13) = false := by simp; omega
  have k14 : (K == 14) = false := by simp; omega
  have k15 : (K == 15) = false := by simp; omega
  have k16 : (K == 16) = false := by simp; omega
  have k17 : (K == 17) = false := by simp; omega
  have k18 : (K == 18) = false := by simp; omega
  have k19 : (K == 19) = false := by simp; omega
  have k20 : (K == 20) = false := by simp; omega
  have k21 : (K == 21) = false := by simp; omega
  have k22 : (K == 22) = false := by simp; omega
  have k23 : (K == 23) = false := by simp; omega
  have k24 : (K == 24) = false := by simp; omega
  have k25 : (K == 25) = false := by simp; omega
  clear h
  go_enter Tryd.func68, Tryd.ntmps68
  go_wp2_with (go_at_call 77; (with_reducible refine (HW.out _).mono ?_); rintro e w' ⟨rfl, rfl⟩)
  exact bodyPost_ret (v := .tuple #[.int .i64 (-1), .bool false]) (by simp [results, Tryd.results68, go_sem]) rfl ⟨-1, rfl, (fun h => by cases h), below1 _ _ _⟩
set_option maxRecDepth 100000 in
set_option maxHeartbeats 20000000 in
theorem rres_3 (pv : Value) (P : ProgD) (A B C N : Int) (S : ByteArray) (la : Option Addr) (ln lc : Nat) (T : Bool) (va : Option Addr) (vn vc : Nat) (l : List Int) (w : World) (hv : NumsAt w va vn l) (hvn : vn ≤ 140737488355328) :
    Calls Tryd.prog 68 #[pv, .agg #[.int .i64 3, .int .i64 A, .int .i64 B, .int .i64 C, .int .i64 N, .string S, .slice la ln lc, .bool T], .slice va vn vc] w (RowPost (rowS P 3 N S l) w) := by
  have hr : rowS P 3 N S l = (tlV N, decide (0 ≤ N ∧ N ≤ 13) && sameB l [0, 0]) := rfl
  obtain ⟨W0, hW0⟩ : ∃ W0, W0 = w.alloc (.cells #[.int .i64 3, .int .i64 A, .int .i64 B, .int .i64 C, .int .i64 N, .string S, .slice la ln lc, .bool T] 52) := ⟨_, rfl⟩
  have HT := Lib.hid (rt_any N)
  obtain ⟨t, ht⟩ : ∃ t, tlV N = t := ⟨_, rfl⟩
  obtain ⟨z0, z4⟩ : W0.cell? ⟨w.heap.size, 0, none⟩ = some (.int .i64 3) ∧ W0.cell? ⟨w.heap.size, 4, none⟩ = some (.int .i64 N) := by
    have hu : Below (w.heap.size + 1) W0 W0 := Below.refl _ _
    rw [hW0] at hu ⊢
    exact ⟨first_cells hu 0 _ rfl, first_cells hu 4 _ rfl⟩
  have HW : RowKit.Hid (∀ u, Below (w.heap.size + 1) W0 u → Below w.heap.size w u) := Lib.hid (fun u hu => by rw [hW0] at hu; exact first_below hu)
  have H2 : RowKit.Hid (Below (w.heap.size + 1) W0 W0) := Lib.hid (Below.refl _ _)
  have HR1 : RowKit.Hid ((rowS P 3 N S l).1 = t) := Lib.hid (by rw [hr, ht])
  rw [ht] at HT
  by_cases h0 : N < 0
  · have HR : RowKit.Hid ((rowS P 3 N S l).2 = false) := Lib.hid (by rw [hr, decide_eq_false (by omega)]; rfl)
    have hd : decide (0 ≤ N) = false := decide_eq_false (by omega)
    clear hv hr ht
    go_enter Tryd.func68, Tryd.ntmps68
    go_wp2_with (go_at_call 77; (with_reducible refine (wants_3 _).mono ?_); rintro e w' ⟨rfl, rfl⟩; rw [← hW0]; clear hW0)
    go_quiet ((go_at_call 78; exact quiet_left (HT.out _)))
    go_wp2_with fail
    exact bodyPost_ret (v := .tuple #[.int .i64 t, .bool false]) (by simp [results, Tryd.results68, go_sem]) rfl ⟨t, by rw [HR.out], fun _ => HR1.out.symm, HW.out _ (H2.out.drewq _)⟩
  by_cases h1 : 13 < N
  · have HR : RowKit.Hid ((rowS P 3 N S l).2 = false) := Lib.hid (by rw [hr, decide_eq_false (by omega)]; rfl)
    have h0' : 0 ≤ N := by omega
    have hd : decide (N ≤ 13) = false := decide_eq_false (by omega)
    clear hv hr ht h0
    go_enter Tryd.func68, Tryd.ntmps68
    go_wp2_with (go_at_call 77; (with_reducible refine (wants_3 _).mono ?_); rintro e w' ⟨rfl, rfl⟩; rw [← hW0]; clear hW0)
    go_quiet ((go_at_call 78; exact quiet_left (HT.out _)))
    go_wp2_with fail
    exact bodyPost_ret (v := .tuple #[.int .i64 t, .bool false]) (by simp [results, Tryd.results68, go_sem]) rfl ⟨t, by rw [HR.out], fun _ => HR1.out.symm, HW.out _ (H2.out.drewq _)⟩
  obtain ⟨b, hb⟩ : ∃ b, sameB l [0, 0] = b := ⟨_, rfl⟩
  have HR : RowKit.Hid ((rowS P 3 N S l).2 = b) := Lib.hid (by rw [hr, hb, decide_eq_true (by omega)]; rfl)
  have h0' : 0 ≤ N := by omega
  have h1' : N ≤ 13 := by omega
  have hW1 : W0.heap.size = w.heap.size + 1 := by rw [hW0]; simp
  have HB2 : RowKit.Hid (Below (w.heap.size + 1) W0 (W0.alloc (.cells #[.int .i64 0, .int .i64 0] 3))) := Lib.hid ((Below.refl _ _).alloc (by omega) _)
  have CI : RowKit.Hid (∀ q, Calls Tryd.prog 16 #[.slice va vn vc, .slice (some ⟨W0.heap.size, 0, none⟩) 2 2] ((W0.alloc (.cells #[.int .i64 0, .int .i64 0] 3)).drewN q) (BoolPost b ((W0.alloc (.cells #[.int .i64 0, .int .i64 0] 3)).drewN q))) := Lib.hid (fun q => by
    rw [← hb]
    exact ints_any va _ vn 2 vc 2 l [0, 0] _ (hv.since (HW.out _ (HB2.out.drewq q))) ((nums_laid 2 [0, 0] _ rfl rfl rfl).drewN q) hvn (by decide))
  clear hv hr ht h0 h1 hb hW1
  go_enter Tryd.func68, Tryd.ntmps68
  go_wp2_with (go_at_call 77; (with_reducible refine (wants_3 _).mono ?_); rintro e w' ⟨rfl, rfl⟩; rw [← hW0]; clear hW0)
  go_region_with (first | (go_at_call 78; (refine (HT.out _).mono ?_); rintro e w' ⟨rfl, rfl⟩) | (go_at_call 16; (refine (CI.out 1).mono ?_); rintro e w' ⟨rfl, n, rfl⟩))
  all_goals
    go_wp2_with fail
    exact bodyPost_ret (v := .tuple #[.int .i64 t, .bool b]) (by simp [results, Tryd.results68, go_sem]) rfl ⟨t, by rw [HR.out], fun _ => HR1.out.symm, HW.out _ (by first | exact HB2.out.drewq _ | exact (HB2.out.drewq _).drewq _)⟩
end Go.Proofs.YtdchhfdmingnaaaDoor
