/- Layer 4, P4.1: package kind's Renamed, walked: a step of its own is renamed place by place. -/
import Derived.Test.YtgkcbaakdphigaaDoorRenSt
import Derived.Test.YtgkcbaakdphigaaDoorKindPlainW
namespace Go.Proofs.YtgkcbaakdphigaaDoor
open Go.RowKit
set_option linter.unusedVariables false
attribute [local go_sem] Oper.semAt_some

def RenPost (K A B C N : Int) (S : ByteArray) (T : Bool) (L M : List Int) (w : World) (e : Ending) (w' : World) : Prop :=
  ∃ va vn vc, e = .returned (.agg #[.int .i64 K, .int .i64 (rnI M (hasB K 65) A), .int .i64 (rnI M (hasB K 66) B), .int .i64 (rnI M (hasB K 67) C), .int .i64 (pickI (hasB K 78) N), .string (pickS (hasB K 83) S), .slice va vn vc, .bool (hasB K 75 && T)]) ∧
    OwnsI w' w.heap.size 3 (.slice va vn vc) (rnL M (hasB K 76) L) ∧ Below w.heap.size w w'
/-- Before the first round. -/
theorem RnSt.start {w w1 : World} {K A B C N' : Int} {S' : ByteArray} {T' : Bool} {va : Option Addr} {vn vc : Nat} {ma : Option Addr} {m mc : Nat} {L' : List Int} {t t' u0 u1 u2 : TypeId} {O : Array Value}
    (hown : OwnsI w1 (w.heap.size + 3) 3 (.slice va vn vc) L') (hb : Below (w.heap.size + 3) (((w.alloc (.cells O u0)).alloc (.cells #[.slice ma m mc] u1)).alloc (.cells #[.int .i64 0, .int .i64 0, .int .i64 0, .int .i64 0, .int .i64 0, .string ⟨#[]⟩, .slice none 0 0, .bool false] u2)) w1) :
    RnSt w ((w1.alloc (.cells #[.int .i64 K, .int .i64 A, .int .i64 B, .int .i64 C, .int .i64 N', .string S', .slice va vn vc, .bool T'] t)).alloc (.cells #[.pointer (some ⟨w1.heap.size, 0, none⟩)] t')) w1.heap.size K A B C N' S' T' va vn vc ma m mc L' := by
  have hz : w.heap.size + 3 ≤ w1.heap.size := by have := hb.size; simp at this; omega
  have hB2 : Below w1.heap.size w1 ((w1.alloc (.cells #[.int .i64 K, .int .i64 A, .int .i64 B, .int .i64 C, .int .i64 N', .string S', .slice va vn vc, .bool T'] t)).alloc (.cells #[.pointer (some ⟨w1.heap.size, 0, none⟩)] t')) := ((Below.refl w1.heap.size w1).alloc (Nat.le_refl _) _).alloc (by simp) _
  refine ⟨(Box.new w1 _ t rfl).alloc (by simp) _, ?_, ?_, hown.below hB2, ?_, by simp, hz, fun k hk => (hown.lt k hk).2⟩
  · exact ((Box.new _ _ u2 (by simp)).below hb (by omega)).below hB2 (by omega)
  · exact (((Box.new _ _ u1 (by simp)).alloc (by simp) _).below hb (by omega)).below hB2 (by omega)
  · exact (((((Below.refl w.heap.size w).alloc (Nat.le_refl _) _).alloc (by simp) _).alloc (by simp <;> omega) _).trans (hb.mono (by omega))).trans (hB2.mono (by omega))
theorem RnAt.of {w W : World} {b g : Nat} {K A B C N' : Int} {S' : ByteArray} {T' : Bool} {va : Option Addr} {vn vc : Nat} {ma : Option Addr} {m mc : Nat} {L' : List Int} (hs : RnSt w W b K A B C N' S' T' va vn vc ma m mc L') (hva : 0 < vn → va = some ⟨g, 0, none⟩)
    (h65 : hasB K 65 = false → A = 0) (h66 : hasB K 66 = false → B = 0) (h67 : hasB K 67 = false → C = 0) : RnAt w W b g K N' S' T' va vn vc ma m mc (valF b g 0 vn K A B C L') := by
  refine ⟨⟨A, B, C, L', hs, h65, h66, h67⟩, fun i => pairs_cells hs.own.read.1 hva hs.box.1 hs.own.read _ (pair_mem i), fun i => ?_⟩
  rcases placeF_cases i with ⟨e, _⟩ | ⟨e, _⟩ | ⟨e, _⟩ | ⟨j, hj, e, _⟩
  · rw [e]; exact hs.box.2 1
  · rw [e]; exact hs.box.2 2
  · rw [e]; exact hs.box.2 3
  · rw [e]
    obtain rfl := hva (by omega)
    rcases hs.own.2 with ⟨he, _⟩ | ⟨g', cap, cur, he, _, hgb, _⟩
    · cases he
    · cases he
      simp only [World.frozen?, hgb]
      rfl
theorem OwnsI.belowAt {W W' : World} {B B' : Nat} {e : TypeId} {v : Value} {Z : List Int} (h : OwnsI W B e v Z) (hb : Below B' W W') (hk : ∀ k, v.ownBlock = some k → k < B') : OwnsI W' B e v Z := by
  refine ⟨h.1, ?_⟩
  rcases h.2 with hn | ⟨g, cap, cur, rfl, hB, hg, rest⟩
  · exact .inl hn
  · refine .inr ⟨g, cap, cur, rfl, hB, ?_, rest⟩
    rw [hb.block g (hk g rfl)]
    exact hg
theorem RnSt.below {w W W' : World} {b : Nat} {K X1 X2 X3 N' : Int} {S' : ByteArray} {T' : Bool} {va : Option Addr} {vn vc : Nat} {ma : Option Addr} {m mc : Nat} {Z : List Int} (h : RnSt w W b K X1 X2 X3 N' S' T' va vn vc ma m mc Z) (hb : Below (b + 2) W W') : RnSt w W' b K X1 X2 X3 N' S' T' va vn vc ma m mc Z :=
  have hlo := h.lo
  ⟨h.box.below hb (by omega), h.res.below hb (by omega), h.to_.below hb (by omega), h.own.belowAt hb (fun k hk => by have := h.hg k hk; omega), h.bel.trans (hb.mono (by omega)), Nat.le_trans h.siz hb.size, h.lo, h.hg⟩
theorem RnAt.grown {w W W' : World} {b g : Nat} {K N' : Int} {S' : ByteArray} {T' : Bool} {va : Option Addr} {vn vc : Nat} {ma : Option Addr} {m mc : Nat} {cur : Fin (placesL b g 0 vn K).length → Int} {row : Option Nat} (h : RnAt w W b g K N' S' T' va vn vc ma m mc cur)
    (hva : 0 < vn → va = some ⟨g, 0, none⟩) (hg : W.grownBy W' row) (hr : ∀ r, row = some r → b + 2 ≤ r ∧ ∃ o : Obj, W.heap[r]? = some o ∧ o.isCells = false) : RnAt w W' b g K N' S' T' va vn vc ma m mc cur := by
  obtain ⟨⟨X1, X2, X3, Z, hs, e⟩, hc, hf⟩ := h
  have hb : Below (b + 2) W W' := Below.grown (Below.refl _ W) hg hs.siz (fun k e => (hr k e).1)
  have hlt : ∀ i, (placeF b g 0 vn K i).block < b + 2 := fun i => by
    rcases placeF_cases i with ⟨e, _⟩ | ⟨e, _⟩ | ⟨e, _⟩ | ⟨j, hj, e, _⟩
    · rw [e]; show b < b + 2; omega
    · rw [e]; show b < b + 2; omega
    · rw [e]; show b < b + 2; omega
    · have := hs.hg g (by rw [hva (by omega)]; rfl)
      rw [e]; show g < b + 2; omega
  exact ⟨⟨X1, X2, X3, Z, hs.below hb, e⟩, fun i => (hb.cell (hlt i)).trans (hc i), fun i => (hb.frozen (hlt i)).trans (hf i)⟩
theorem RnRel.same {M : List Int} {N : Nat} {val cur : Fin N → Int} {pre : List (Fin N)} {x : Fin N} (h : RnRel M val cur pre) (hz : toV M (cur x) = cur x) : RnRel M val cur (pre ++ [x]) := by
  have h1 := h.next (x := x) (z := cur x) hz.symm
  have h2 : (fun i => if i = x then cur x else cur i) = cur := funext fun i => by
    by_cases hi : i = x
    · rw [if_pos hi, hi]
    · rw [if_neg hi]
  rw [h2] at h1
  exact h1
/-- Behind the last round. -/
theorem RnAt.ends {w W W0 : World} {b g : Nat} {K A B C N' : Int} {S' : ByteArray} {T' : Bool} {va : Option Addr} {vn vc : Nat} {ma : Option Addr} {m mc : Nat} {L M : List Int} {val cur : Fin (placesL b g 0 vn K).length → Int} (h : RnAt w W b g K N' S' T' va vn vc ma m mc cur) (hva : 0 < vn → va = some ⟨g, 0, none⟩)
    (hall : ∀ i, cur i = toV M (val i)) (h0 : ∀ i, W0.cell? (placeF b g 0 vn K i) = some (numV (val i))) (hs0 : RnSt w W0 b K (pickI (hasB K 65) A) (pickI (hasB K 66) B) (pickI (hasB K 67) C) N' S' T' va vn vc ma m mc (pickL (hasB K 76) L)) :
    RnSt w W b K (rnI M (hasB K 65) A) (rnI M (hasB K 66) B) (rnI M (hasB K 67) C) N' S' T' va vn vc ma m mc (rnL M (hasB K 76) L) := by
  obtain ⟨⟨X1, X2, X3, Z, hs, e1, e2, e3⟩, hc, _⟩ := h
  have key : ∀ a x y, (∃ i, placeF b g 0 vn K i = a) → W.cell? a = some (numV x) → W0.cell? a = some (numV y) → x = toV M y := by
    rintro a x y ⟨i, rfl⟩ hx hy
    rw [hc i, hall i] at hx
    rw [h0 i] at hy
    simp only [numV, Option.some.injEq, Value.int.injEq, true_and] at hx hy
    rw [← hx, hy]
  have x1 : X1 = rnI M (hasB K 65) A := by
    cases hB : hasB K 65 with
    | false => exact e1 hB
    | true =>
      have := key ⟨b, 1, none⟩ X1 (pickI (hasB K 65) A) (places_of hB (by simp [placeL])) (by rw [hs.box.1]; rfl) (by rw [hs0.box.1]; rfl)
      rw [hB] at this
      exact this
  have x2 : X2 = rnI M (hasB K 66) B := by
    cases hB : hasB K 66 with
    | false => exact e2 hB
    | true =>
      have := key ⟨b, 2, none⟩ X2 (pickI (hasB K 66) B) (places_of hB (by simp [placeL])) (by rw [hs.box.1]; rfl) (by rw [hs0.box.1]; rfl)
      rw [hB] at this
      exact this
  have x3 : X3 = rnI M (hasB K 67) C := by
    cases hB : hasB K 67 with
    | false => exact e3 hB
    | true =>
      have := key ⟨b, 3, none⟩ X3 (pickI (hasB K 67) C) (places_of hB (by simp [placeL])) (by rw [hs.box.1]; rfl) (by rw [hs0.box.1]; rfl)
      rw [hB] at this
      exact this
  have zl := hs.own.read.1
  have zl0 := hs0.own.read.1
  have x4 : Z = rnL M (hasB K 76) L := by
    cases hB : hasB K 76 with
    | false =>
      rw [hB] at zl0
      have h1 : vn = 0 := zl0.symm
      rw [h1] at zl
      exact List.eq_nil_of_length_eq_zero zl
    | true =>
      rw [hB] at hs0 zl0
      show Z = L.map (toV M)
      have zl1 : L.length = vn := zl0
      apply List.ext_getElem
      · rw [List.length_map]; omega
      · intro j h1 h2
        rw [List.getElem_map]
        have hj : j < vn := by omega
        obtain rfl := hva (by omega)
        obtain ⟨g1, o1, q1, _, c1⟩ := hs.own.read.2 (by omega)
        obtain ⟨g2, o2, q2, _, c2⟩ := hs0.own.read.2 (by omega)
        cases q1
        cases q2
        exact key ⟨g, 0 + j, none⟩ _ _ (places_of hB (List.mem_map.2 ⟨j, List.mem_range.2 hj, rfl⟩)) (c1 j h1) (c2 j (by show j < L.length; omega))
  rw [← x1, ← x2, ← x3, ← x4]
  exact hs

theorem fill_keeps (u : World) (g : Nat) (v0 v1 v2 v3 v4 v5 v6 v7 : Value) :
    KeepsOthers u ((((((((u.setCell ⟨g, 0, none⟩ v0).setCell ⟨g, 1, none⟩ v1).setCell ⟨g, 2, none⟩ v2).setCell ⟨g, 3, none⟩ v3).setCell ⟨g, 4, none⟩ v4).setCell ⟨g, 5, none⟩ v5).setCell ⟨g, 6, none⟩ v6).setCell ⟨g, 7, none⟩ v7) :=
  (((((((KeepsOthers.setCell u _ v0).trans (KeepsOthers.setCell _ _ v1)).trans (KeepsOthers.setCell _ _ v2)).trans (KeepsOthers.setCell _ _ v3)).trans (KeepsOthers.setCell _ _ v4)).trans (KeepsOthers.setCell _ _ v5)).trans (KeepsOthers.setCell _ _ v6)).trans (KeepsOthers.setCell _ _ v7)
theorem OwnsI.fill {B : Nat} {e : TypeId} {v : Value} {Z : List Int} {u : World} (h : OwnsI u B e v Z) (g : Nat) (hg : ∀ k, v.ownBlock = some k → g ≠ k) (v0 v1 v2 v3 v4 v5 v6 v7 : Value) :
    OwnsI ((((((((u.setCell ⟨g, 0, none⟩ v0).setCell ⟨g, 1, none⟩ v1).setCell ⟨g, 2, none⟩ v2).setCell ⟨g, 3, none⟩ v3).setCell ⟨g, 4, none⟩ v4).setCell ⟨g, 5, none⟩ v5).setCell ⟨g, 6, none⟩ v6).setCell ⟨g, 7, none⟩ v7) B e v Z :=
  (((((((h.setOther _ _ hg).setOther _ _ hg).setOther _ _ hg).setOther _ _ hg).setOther _ _ hg).setOther _ _ hg).setOther _ _ hg).setOther _ _ hg
theorem Box.putObj {u : World} {g l : Nat} {P : Array Value} (h : Box u g P) (o : Obj) (hl : g ≠ l) : Box (u.putObj l o) g P :=
  ⟨fun j => by simp only [World.cell?, World.putObj_heap_other hl]; exact h.1 j, fun j => by simp only [World.frozen?, World.putObj_heap_other hl]; exact h.2 j⟩
set_option maxRecDepth 100000 in
set_option maxHeartbeats 4000000 in
theorem krenamed_any (K A B C N : Int) (S : ByteArray) (la : Option Addr) (ln lc : Nat) (T : Bool) (L : List Int) (ma : Option Addr) (m mc : Nat) (M : List Int) (w : World) (hft : FT w) (hat : NumsAt w la ln L) (hnil : la = none → lc = 0) (hn : ln ≤ 17592186044000) (hM : NumsAt w ma m M) (hm : m ≤ 140737488355328) :
    Calls Tryd.prog 18 #[.agg #[.int .i64 K, .int .i64 A, .int .i64 B, .int .i64 C, .int .i64 N, .string S, .slice la ln lc, .bool T], .slice ma m mc] w (RenPost K A B C N S T L M w) := by
  have HA := Lib.hid hat
  have HM := Lib.hid hM
  have HNIL := Lib.hid hnil
  have HFT := Lib.hid hft
  have hmix : Tryd.prog.follows .mixedOrders = true := by kernel_rfl
  clear hat hnil hM hft
  have HBB : RowKit.Hid (∀ C0 C1 C2 t0 t1 t2, Below w.heap.size w (((w.alloc (.cells C0 t0)).alloc (.cells C1 t1)).alloc (.cells C2 t2))) := Lib.hid (fun _ _ _ _ _ _ => (((Below.refl w.heap.size w).alloc (Nat.le_refl _) _).alloc (by simp) _).alloc (by simp <;> omega) _)
  refine (callsIn_wide (n := 9)).1 ?_
  refine callsIn_of_wp_marks Tryd.func18 rfl trivial ?_ rfl
  simp only [Tryd.ntmps18, List.size_toArray, List.length_cons, List.length_nil, Nat.reduceAdd, Nat.reduceSub, Array.replicate_succ, Array.replicate_zero, List.push_toArray, List.append_toArray, List.nil_append, List.cons_append]
  gi_wp2_with (refine ⟨trivial, ?_⟩; gi_at_call 8; refine (callsIn_wide.2 (kplain_any K A B C N S la ln lc T L _ (HFT.out.since (HBB.out _ _ _ _ _ _)) (HA.out.since (HBB.out _ _ _ _ _ _)) HNIL.out (by omega))).mono ?_; rintro e w1 ⟨va, vn, vc, rfl, hown, hb⟩)
  have hb' := hb.mono (B' := w.heap.size + 3) (by simp)
  have HO := Lib.hid (hown.mono (B' := w.heap.size + 3) (by simp))
  have HB := Lib.hid hb'
  clear hown hb hb'
  gi_wp2_with (refine ⟨trivial, ?_⟩; gi_at_call 28; refine (callsIn_wide.2 (places_any _ _)).mono ?_; rintro e w' ⟨rfl, rfl⟩)
  obtain ⟨g, hva⟩ : ∃ g, 0 < vn → va = some ⟨g, 0, none⟩ := by
    rcases HO.out.2 with ⟨he, h0⟩ | ⟨g, cap, cur, he, _⟩
    · cases he; exact ⟨0, fun h => absurd h (by omega)⟩
    · cases he; exact ⟨g, fun _ => rfl⟩
  have HVA := Lib.hid hva
  have HS0 := Lib.hid (RnSt.start (K := K) (N' := pickI (hasB K 78) N) (S' := pickS (hasB K 83) S) (T' := hasB K 75 && T) (t := 24) (t' := 52) (A := pickI (hasB K 65) A) (B := pickI (hasB K 66) B) (C := pickI (hasB K 67) C) HO.out HB.out)
  have HVN : RowKit.Hid (vn ≤ ln ∧ (pickL (hasB K 76) L).length = vn) := Lib.hid ⟨by have h1 := HO.out.read.1; have h2 : (pickL (hasB K 76) L).length ≤ L.length := by { unfold pickL; split <;> simp }; have h3 := HA.out.1; omega, HO.out.read.1⟩
  have hcB : ((w1.alloc (.cells #[.int .i64 K, .int .i64 (pickI (hasB K 65) A), .int .i64 (pickI (hasB K 66) B), .int .i64 (pickI (hasB K 67) C), .int .i64 (pickI (hasB K 78) N), .string (pickS (hasB K 83) S), .slice va vn vc, .bool (hasB K 75 && T)] 24)).alloc (.cells #[.pointer (some ⟨w1.heap.size, 0, none⟩)] 52)).cell? ⟨w1.heap.size + 1, 0, none⟩ = some (.pointer (some ⟨w1.heap.size, 0, none⟩)) := by
    rw [show w1.heap.size + 1 = (w1.alloc (.cells #[.int .i64 K, .int .i64 (pickI (hasB K 65) A), .int .i64 (pickI (hasB K 66) B), .int .i64 (pickI (hasB K 67) C), .int .i64 (pickI (hasB K 78) N), .string (pickS (hasB K 83) S), .slice va vn vc, .bool (hasB K 75 && T)] 24)).heap.size by simp]
    exact World.cell?_alloc_mark _ _ _ _ _
  obtain ⟨W0, hW0⟩ : ∃ W0, ((w1.alloc (.cells #[.int .i64 K, .int .i64 (pickI (hasB K 65) A), .int .i64 (pickI (hasB K 66) B), .int .i64 (pickI (hasB K 67) C), .int .i64 (pickI (hasB K 78) N), .string (pickS (hasB K 83) S), .slice va vn vc, .bool (hasB K 75 && T)] 24)).alloc (.cells #[.pointer (some ⟨w1.heap.size, 0, none⟩)] 52)) = W0 := ⟨_, rfl⟩
  have hz0 : W0.heap.size = w1.heap.size + 2 := by rw [← hW0]; simp
  rw [hW0] at HS0 hcB ⊢
  clear hW0
  have HR0 := Lib.hid (RnAt.of HS0.out hva (fun h => by rw [h]; rfl) (fun h => by rw [h]; rfl) (fun h => by rw [h]; rfl))
  have hs0 := HS0.out
  have hst := places_stops K (w1.heap.size + 1) w1.heap.size g 0 vn vc va hva (by have := HVN.out.1; omega) 8 W0 (HFT.out.since hs0.bel) hcB (by rw [hs0.box.1]; rfl) (by rw [hs0.box.1]; rfl)
  clear hs0
  refine wpIn_rangeFunc_ownF rfl (by omega) (gf := 34) (lb := #[.pointer (some ⟨w1.heap.size + 1, 0, none⟩)]) rfl trivial (enters_of Tryd.func34 (by kernel_rfl) rfl) hst Kept.trans ?hKb (Below.refl _ _) (fun _ => rfl)
    (fun pre W => ∃ cur, RnAt w W w1.heap.size g K (pickI (hasB K 78) N) (pickS (hasB K 83) S) (hasB K 75 && T) va vn vc ma m mc cur ∧ RnRel M (valF w1.heap.size g 0 vn K (pickI (hasB K 65) A) (pickI (hasB K 66) B) (pickI (hasB K 67) C) (pickL (hasB K 76) L)) cur pre)
    (fun _ _ _ => False) ?hI (fun _ _ _ _ _ hs _ _ => hs) ⟨_, HR0.out, RnRel.start _⟩
    (fun i => { tmps := #[.agg #[.int .i64 K, .int .i64 A, .int .i64 B, .int .i64 C, .int .i64 N, .string S, .slice la ln lc, .bool T], .slice ma m mc, .pointer (some ⟨w.heap.size, 0, none⟩), .pointer (some ⟨w.heap.size + 1, 0, none⟩), .pointer (some ⟨w.heap.size + 1 + 1, 0, none⟩), .pointer (some ⟨w1.heap.size, 0, none⟩), .pointer (some (placeF w1.heap.size g 0 vn K i)), undef,
      .agg #[.int .i64 K, .int .i64 A, .int .i64 B, .int .i64 C, .int .i64 N, .string S, .slice la ln lc, .bool T], .agg #[.int .i64 K, .int .i64 (pickI (hasB K 65) A), .int .i64 (pickI (hasB K 66) B), .int .i64 (pickI (hasB K 67) C), .int .i64 (pickI (hasB K 78) N), .string (pickS (hasB K 83) S), .slice va vn vc, .bool (hasB K 75 && T)],
      .func (.func 34) #[] #[.pointer (some ⟨w1.heap.size + 1, 0, none⟩)], .pointer (some (placeF w1.heap.size g 0 vn K i)), undef, undef, undef, undef, undef, undef, undef, undef, undef, undef, undef, undef, undef, undef, undef, undef, undef, undef], defers := [] }) ?assign ?body ?done ?stop
  case hKb => exact kept_putObj (n0 := W0.heap.size) (by omega) (by omega)
  case hI => rintro pre W W' row ⟨cur, hR, hrel⟩ hg hr; exact ⟨cur, hR.grown HVA.out hg (fun r e => by rw [← hz0]; exact hr r e), hrel⟩
  case assign =>
    intro l x W K hK
    gi_wp2
    exact hK
  case body =>
    rintro l pre x W ⟨cur, hR, hrel⟩ hlen
    have HR := Lib.hid hR
    have HREL := Lib.hid hrel
    have hcx := hR.cells x
    have hfx := hR.frozen x
    obtain ⟨X1, X2, X3, Z, hs, _⟩ := hR.st
    have hct := hs.to_.1
    have HMW := Lib.hid (HM.out.since hs.bel)
    have HP := Lib.hid (HR.out.put HVA.out x)
    obtain ⟨ad, had⟩ : ∃ ad, placeF w1.heap.size g 0 vn K x = ad := ⟨_, rfl⟩
    obtain ⟨z, hz⟩ : ∃ z, cur x = z := ⟨_, rfl⟩
    rw [had, hz] at hcx
    rw [had] at hfx HP ⊢
    unfold numV at hcx
    have HZ := Lib.hid hz
    clear hR hrel hs hz
    by_cases h0 : 0 ≤ z
    · by_cases h1 : z < (m : Int)
      · obtain ⟨k, rfl⟩ := Int.eq_ofNat_of_zero_le h0
        have hk : k < m := by omega
        have hkl : k < M.length := by rw [HMW.out.1]; exact hk
        have HT : RowKit.Hid (toV M (k : Int) = M[k]) := Lib.hid (toV_in hkl)
        obtain ⟨mg, mo, hme, _, hmc⟩ := HMW.out.2 (by omega)
        subst hme
        have hcm : W.cell? ⟨mg, mo + k, none⟩ = some (.int .i64 M[k]) := hmc k hkl
        clear hmc h0 h1
        gi_wp2
        exact ⟨(HP.out _).2.1, (HP.out _).2.2, _, (HP.out _).1, HREL.out.next (by rw [HZ.out, HT.out])⟩
      · have HSAME := Lib.hid (HREL.out.same (by rw [HZ.out]; exact toV_out (.inr (by rw [HMW.out.1]; omega))))
        have h1' : (m : Int) ≤ z := by omega
        gi_wp2
        exact ⟨KeepsOthers.refl _, Kept.refl _ _ _, cur, HR.out, HSAME.out⟩
    · have HSAME := Lib.hid (HREL.out.same (by rw [HZ.out]; exact toV_out (.inl (by omega))))
      have h0' : z < 0 := by omega
      gi_wp2
      exact ⟨KeepsOthers.refl _, Kept.refl _ _ _, cur, HR.out, HSAME.out⟩
  case done =>
    rintro D ys W hD rfl ⟨cur, hR, hrel⟩ hK
    have HE := Lib.hid (hR.ends HVA.out hrel.all HR0.out.cells HS0.out)
    have hc := HE.out.box.1
    have hr1 := HE.out.res.1
    have hr2 := HE.out.res.2
    clear hR hrel
    gi_wp2
    have HKO := Lib.hid (fill_keeps W (w.heap.size + 1 + 1) (.int .i64 K) (.int .i64 (rnI M (hasB K 65) A)) (.int .i64 (rnI M (hasB K 66) B)) (.int .i64 (rnI M (hasB K 67) C)) (.int .i64 (pickI (hasB K 78) N)) (.string (pickS (hasB K 83) S)) (.slice va vn vc) (.bool (hasB K 75 && T)))
    have hK2 := HKO.out.same D _ hK rfl
    have hlo := HE.out.lo
    refine ⟨by simp, .inl ⟨_, _, rfl, run_takeDeferred hK2, ?_⟩⟩
    have hbx : Box _ (w.heap.size + 2) #[.int .i64 K, .int .i64 (rnI M (hasB K 65) A), .int .i64 (rnI M (hasB K 66) B), .int .i64 (rnI M (hasB K 67) C), .int .i64 (pickI (hasB K 78) N), .string (pickS (hasB K 83) S), .slice va vn vc, .bool (hasB K 75 && T)] := (HE.out.res.fill).putObj (l := D) (.deferred none) (by omega)
    have HOW := Lib.hid (((HE.out.own.mono (B' := w.heap.size) (by omega)).fill (w.heap.size + 1 + 1) (fun k hk e => by have := (HE.out.own.lt k hk).1; omega) (.int .i64 K) (.int .i64 (rnI M (hasB K 65) A)) (.int .i64 (rnI M (hasB K 66) B)) (.int .i64 (rnI M (hasB K 67) C)) (.int .i64 (pickI (hasB K 78) N)) (.string (pickS (hasB K 83) S)) (.slice va vn vc) (.bool (hasB K 75 && T))).putObj (.deferred none) hK2 rfl)
    have HBW := Lib.hid ((fill_below HE.out.bel (w.heap.size + 1 + 1) (by omega) (.int .i64 K) (.int .i64 (rnI M (hasB K 65) A)) (.int .i64 (rnI M (hasB K 66) B)) (.int .i64 (rnI M (hasB K 67) C)) (.int .i64 (pickI (hasB K 78) N)) (.string (pickS (hasB K 83) S)) (.slice va vn vc) (.bool (hasB K 75 && T))).trans (belowK_b (w := w) (Nat.le_refl _) _ D _ (.deferred none) (by omega) hK2 rfl rfl))
    clear HKO hc hr1 hr2
    revert hbx HOW HBW
    generalize World.putObj _ D (.deferred none) = W3
    intro hbx HOW HBW
    have hc3 : ∀ j, W3.cell? ⟨w.heap.size + 1 + 1, j, none⟩ = _ := hbx.1
    exact ⟨.agg #[.int .i64 K, .int .i64 (rnI M (hasB K 65) A), .int .i64 (rnI M (hasB K 66) B), .int .i64 (rnI M (hasB K 67) C), .int .i64 (pickI (hasB K 78) N), .string (pickS (hasB K 83) S), .slice va vn vc, .bool (hasB K 75 && T)], (by simp [results, Tryd.results18, go_sem, hc3]), va, vn, vc, rfl, HOW.out, HBW.out⟩
  case stop =>
    rintro D c pre W _ _ h _
    exact h.elim
end Go.Proofs.YtgkcbaakdphigaaDoor
