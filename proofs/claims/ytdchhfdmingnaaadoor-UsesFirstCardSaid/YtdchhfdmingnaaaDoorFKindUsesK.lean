/- Layer 4, P4.1: package kind's Uses, walked: the values at its places, in their order. -/
import Derived.Test.YtdchhfdmingnaaaDoorFT1
import Derived.RangeFuncBox
import Derived.Maps.AppendAt
namespace Go.Proofs.YtdchhfdmingnaaaDoor
open Go.RowKit
set_option linter.unusedVariables false
attribute [local go_sem] Oper.semAt_some
theorem stepIn_append_num {F : Fence} {n : Nat} {P : Program} {u : World} {ops : Array Oper} {o : Oper} {a : Act} {K : Act → World → Prop} {Q : Exit → Act → World → Prop} {E : Prop} (hgd : o.guard = none) (s x : Operand) (t : TypeId)
    (ho : o.op = .call { callee := .builtin .append, args := #[s, x], argTypes := #[t, t] }) (e : TypeId) (ht : P.underlying t = some (.slice e))
    (hinfo : (P.info? e).map (fun i => (i.zero, i.size, i.bytes)) = some (some (.int .i64 0), 1, 8))
    (B : Nat) (v : Value) (Z : List Int) (hs : a.eval s = v) (hown : OwnsI u B e v Z) (hB : B ≤ u.heap.size)
    (c g : Nat) (z : Int) (hx : a.eval x = .slice (some ⟨g, 0, none⟩) 1 c) (hc : u.cell? ⟨g, 0, none⟩ = some (.int .i64 z)) (hlen : (Z.length + 1) * 8 ≤ 140737488355328)
    (h : ∀ va vn vc w', OwnsI w' B e (.slice va vn vc) (Z ++ [z]) → u.grownBy w' v.ownBlock → K (a.put o.dst (.slice va vn vc)) w') :
    if Region.wanted o (yielded ops a.tmps) = true then Oper.wpIn F n P o a u K Q else E := by
  have hw : Region.wanted o (yielded ops a.tmps) = true := by simp [Region.wanted, hgd]
  rw [if_pos hw]
  obtain ⟨i0, hi, hz0, hz1, hz2⟩ := info_parts hinfo
  obtain ⟨v', w', hrun, r1, r2, r3⟩ := run_append_own (P := P) u B t o.type e i0 (.int .i64 0) 1 8 ht hi hz0 hz1 hz2 rfl (by decide) v Z.length (Z.map numV) hown ⟨g, 0, none⟩ 1 c [.int .i64 z] rfl (fun j y hy => by
    cases j with
    | zero => simp at hy; subst hy; exact hc
    | succ j => simp at hy) (by intro y hy; simp at hy; subst hy; rfl) (by unfold maxLen; omega) hlen hB
  have hown' : OwnsI w' B e v' (Z ++ [z]) := by
    show w'.ownsRow B e 1 v' (Z ++ [z]).length ((Z ++ [z]).map numV)
    rw [List.map_append, List.length_append]
    exact r1
  obtain ⟨va, vn, vc, rfl, _⟩ := hown'.nums
  unfold Oper.wpIn
  refine ⟨?_, ?_⟩
  · simp [Oper.about, ho, resolve, Target.leads, Sem.run_pure]
  · rw [Oper.semAt_plain F _ _ (by rw [ho]; intro c hc'; cases hc')]
    simp [execOp, ho, resolve, invoke, builtin, hs, hx, hrun, Result.andThen]
    exact h va vn vc w' hown' r2
structure UseSt (w : World) (W : World) (O : Array Value) (v : Value) (Z : List Int) : Prop where
  inb : Box W w.heap.size O
  box : Boxed W (w.heap.size + 1) 34 v
  own : OwnsI W (w.heap.size + 3) 3 v Z
  bel : Below w.heap.size w W
  siz : w.heap.size + 3 ≤ W.heap.size
theorem UseSt.append {w W w1 : World} {O : Array Value} {v : Value} {Z : List Int} {z : Int} {va : Option Addr} {vn vc : Nat} {tmp : Obj} (h : UseSt w W O v Z) (ho : OwnsI w1 (w.heap.size + 3) 3 (.slice va vn vc) (Z ++ [z])) (hg : ((W.alloc tmp).drew).grownBy w1 v.ownBlock) :
    Boxed w1 (w.heap.size + 1) 34 v ∧ UseSt w (w1.setCell ⟨w.heap.size + 1, 0, none⟩ (.slice va vn vc)) O (.slice va vn vc) (Z ++ [z]) ∧ KeepsOthers W (w1.setCell ⟨w.heap.size + 1, 0, none⟩ (.slice va vn vc)) ∧ Kept (w.heap.size + 1 + 1) w.heap.size W (w1.setCell ⟨w.heap.size + 1, 0, none⟩ (.slice va vn vc)) := by
  have hsz := h.siz
  have hb : Below (w.heap.size + 3) W w1 := Below.grown (((Below.refl (w.heap.size + 3) W).alloc h.siz tmp).drew) hg (by show _ ≤ (W.alloc tmp).heap.size; simp; omega) (fun k hk => (h.own.lt k hk).1)
  have hbx : Boxed w1 (w.heap.size + 1) 34 v := (hb.block _ (by omega)).trans h.box
  have hk : KeepsOthers W (w1.setCell ⟨w.heap.size + 1, 0, none⟩ (.slice va vn vc)) := by
    refine (((KeepsOthers.alloc W tmp).trans (KeepsOthers.drew _)).trans (KeepsOthers.of_grownBy hg fun j o ej hj => ?_)).trans (KeepsOthers.setCell _ _ _)
    have hlt := h.own.lt j ej
    have hj' : W.heap[j]? = some o := by
      have h1 : ((W.alloc tmp).drew).heap[j]? = W.heap[j]? := ((Below.refl W.heap.size W).alloc (Nat.le_refl _) tmp).block j hlt.2
      exact h1.symm.trans hj
    rcases h.own.2 with ⟨he, _⟩ | ⟨g, cap, cur, he, _, hgb, _⟩
    · subst he; simp [Value.ownBlock] at ej
    · subst he
      obtain rfl : g = j := by simpa [Value.ownBlock] using ej
      rw [hgb] at hj'; cases hj'; rfl
  refine ⟨hbx, ⟨(h.inb.below hb (by omega)).other (by omega) _ _, hbx.set _, ho.setCell _ _ (by show w.heap.size + 1 < w.heap.size + 3; omega), (h.bel.trans (hb.mono (by omega))).setCell (by show w.heap.size ≤ w.heap.size + 1; omega) _, by rw [setCell_size]; exact Nat.le_trans h.siz hb.size⟩, hk, hk.walks, ?_, ?_⟩
  · exact (World.cell?_setCell_other _ _ _ _ (fun he => by have := congrArg Addr.block he; dsimp only at this; omega)).trans (hb.cell (p := ⟨w.heap.size + 1 + 1, 0, none⟩) (by show w.heap.size + 1 + 1 < w.heap.size + 3; omega))
  · exact (World.cell?_setCell_other _ _ _ _ (fun he => by have := congrArg Addr.block he; dsimp only at this; omega)).trans (hb.cell (p := ⟨w.heap.size, 6, none⟩) (by show w.heap.size < w.heap.size + 3; omega))
theorem UseSt.grown {w W W' : World} {O : Array Value} {v : Value} {Z : List Int} {row : Option Nat} (h : UseSt w W O v Z) (hg : W.grownBy W' row) (hr : ∀ r, row = some r → w.heap.size + 3 ≤ r ∧ ∃ o : Obj, W.heap[r]? = some o ∧ o.isCells = false) : UseSt w W' O v Z := by
  have hb : Below (w.heap.size + 3) W W' := Below.grown (Below.refl _ W) hg h.siz (fun k e => (hr k e).1)
  refine ⟨h.inb.below hb (by omega), (hb.block _ (by omega)).trans h.box, World.ownsRow.kept h.own hg ?_, h.bel.trans (hb.mono (by omega)), Nat.le_trans h.siz hb.size⟩
  rcases h.own.2 with ⟨he, _⟩ | ⟨g, cap, cur, he, _, hgb, _⟩
  · exact .inl (by rw [he]; rfl)
  · refine .inr fun e' => ?_
    obtain ⟨_, o, ho, hc⟩ := hr g (by rw [← e', he]; rfl)
    rw [hgb] at ho; cases ho; cases hc
theorem kept_putObj {Bo b n0 : Nat} (h0 : Bo < n0) (h1 : b < n0) (W : World) (l : Nat) (o o' : Obj) (hl : n0 ≤ l) (ho : W.heap[l]? = some o) (_ : o.isCells = false) (hw : o.isWalk = false) : Kept Bo b W (W.putObj l o') :=
  ⟨KeepsWalks.putObj _ ho hw, by simp only [World.cell?, World.putObj_heap_other (show Bo ≠ l by omega)], by simp only [World.cell?, World.putObj_heap_other (show b ≠ l by omega)]⟩
theorem OwnsI.putObj {W : World} {B : Nat} {e : TypeId} {v : Value} {Z : List Int} (h : OwnsI W B e v Z) {l : Nat} {o : Obj} (o' : Obj) (hl : W.heap[l]? = some o) (ho : o.isCells = false) : OwnsI (W.putObj l o') B e v Z := ownsRow_putObj h o' hl ho
theorem places_len (b g off ln : Nat) (K : Int) : (placesL b g off ln K).length ≤ ln + 3 := by
  have h := congrArg List.length (pairs_snd (b := b) (g := g) (off := off) (ln := ln) (K := K) (A := 0) (B := 0) (C := 0) (L := List.replicate ln 0) (by simp))
  rw [List.length_map, pairs_len] at h
  rw [h]
  unfold usesL
  have h1 := oneL_len (hasB K 65) 0
  have h2 := oneL_len (hasB K 66) 0
  have h3 := oneL_len (hasB K 67) 0
  have h4 : (pickL (hasB K 76) (List.replicate ln 0)).length ≤ ln := by unfold pickL; split <;> simp
  simp only [List.length_append]
  omega
set_option maxRecDepth 100000 in
set_option maxHeartbeats 4000000 in
theorem kuses_any (K A B C N : Int) (S : ByteArray) (la : Option Addr) (ln lc : Nat) (T : Bool) (L : List Int) (w : World) (hft : FT w) (hat : NumsAt w la ln L) (hnil : la = none → lc = 0) (hn : ln ≤ 17592186044000) :
    Calls Tryd.prog 38 #[.agg #[.int .i64 K, .int .i64 A, .int .i64 B, .int .i64 C, .int .i64 N, .string S, .slice la ln lc, .bool T]] w
      fun e w' => ∃ va vn vc, e = .returned (.slice va vn vc) ∧ OwnsI w' w.heap.size 3 (.slice va vn vc) (usesL K A B C L) ∧ Below w.heap.size w w' := by
  obtain ⟨g, off, hla⟩ : ∃ g off, 0 < ln → la = some ⟨g, off, none⟩ := by
    by_cases h : 0 < ln
    · obtain ⟨g, off, e, _⟩ := hat.2 h
      exact ⟨g, off, fun _ => e⟩
    · exact ⟨0, 0, fun h' => absurd h' h⟩
  have HA := Lib.hid hat
  have HNIL := Lib.hid hnil
  have HFT := Lib.hid hft
  have HLA := Lib.hid hla
  have HPL := Lib.hid (places_len w.heap.size g off ln K)
  have hmix : Tryd.prog.follows .mixedOrders = true := by kernel_rfl
  clear hat hnil hft hla
  refine (callsIn_wide (n := 9)).1 ?_
  refine callsIn_of_wp_marks Tryd.func38 rfl trivial ?_ rfl
  simp only [Tryd.ntmps38, List.size_toArray, List.length_cons, List.length_nil, Nat.reduceAdd, Nat.reduceSub, Array.replicate_succ, Array.replicate_zero, List.push_toArray, List.append_toArray, List.nil_append, List.cons_append]
  gi_wp2_with (refine ⟨trivial, ?_⟩; gi_at_call 58; refine (callsIn_wide.2 (places_any _ _)).mono ?_; rintro e w' ⟨rfl, rfl⟩)
  have HS0 : RowKit.Hid (UseSt w (((w.alloc (.cells #[.int .i64 K, .int .i64 A, .int .i64 B, .int .i64 C, .int .i64 N, .string S, .slice la ln lc, .bool T] 52)).alloc (.cells #[.slice none 0 0] 34)).alloc (.cells #[.pointer (some ⟨w.heap.size, 0, none⟩)] 106)) #[.int .i64 K, .int .i64 A, .int .i64 B, .int .i64 C, .int .i64 N, .string S, .slice la ln lc, .bool T] (.slice none 0 0) []) :=
    Lib.hid ⟨((Box.new _ _ _ rfl).alloc (by simp) _).alloc (by simp <;> omega) _, by have h := (Boxed.new (w.alloc (.cells #[.int .i64 K, .int .i64 A, .int .i64 B, .int .i64 C, .int .i64 N, .string S, .slice la ln lc, .bool T] 52)) 34 (.slice none 0 0)).alloc (.cells #[.pointer (some ⟨w.heap.size, 0, none⟩)] 106); rw [World.size_alloc] at h; exact h, World.ownsRow_nil _ _ _ 1, (((Below.refl w.heap.size w).alloc (Nat.le_refl _) _).alloc (by simp) _).alloc (by simp <;> omega) _, by simp⟩
  have hcB : (((w.alloc (.cells #[.int .i64 K, .int .i64 A, .int .i64 B, .int .i64 C, .int .i64 N, .string S, .slice la ln lc, .bool T] 52)).alloc (.cells #[.slice none 0 0] 34)).alloc (.cells #[.pointer (some ⟨w.heap.size, 0, none⟩)] 106)).cell? ⟨w.heap.size + 1 + 1, 0, none⟩ = some (.pointer (some ⟨w.heap.size, 0, none⟩)) := by
    rw [show w.heap.size + 1 + 1 = ((w.alloc (.cells #[.int .i64 K, .int .i64 A, .int .i64 B, .int .i64 C, .int .i64 N, .string S, .slice la ln lc, .bool T] 52)).alloc (.cells #[.slice none 0 0] 34)).heap.size by simp]
    exact World.cell?_alloc_mark _ _ _ _ _
  obtain ⟨W0, hW0⟩ : ∃ W0, (((w.alloc (.cells #[.int .i64 K, .int .i64 A, .int .i64 B, .int .i64 C, .int .i64 N, .string S, .slice la ln lc, .bool T] 52)).alloc (.cells #[.slice none 0 0] 34)).alloc (.cells #[.pointer (some ⟨w.heap.size, 0, none⟩)] 106)) = W0 := ⟨_, rfl⟩
  have hz0 : W0.heap.size = w.heap.size + 3 := by rw [← hW0]; simp
  rw [hW0] at HS0 hcB ⊢
  have HW0 := Lib.hid hW0
  clear hW0
  have hst := places_stops K (w.heap.size + 1 + 1) w.heap.size g off ln lc la HLA.out (by omega) 8 W0 (HFT.out.since HS0.out.bel) hcB (by rw [HS0.out.inb.1]; rfl) (by rw [HS0.out.inb.1]; rfl)
  refine wpIn_rangeFunc_ownF rfl (by omega) (gf := 70) (lb := #[.pointer (some ⟨w.heap.size + 1 + 1, 0, none⟩)]) rfl trivial (enters_of Tryd.func70 (by kernel_rfl) rfl) hst Kept.trans ?hKb (Below.refl _ _) (fun _ => rfl)
    (fun pre W => ∃ v, UseSt w W #[.int .i64 K, .int .i64 A, .int .i64 B, .int .i64 C, .int .i64 N, .string S, .slice la ln lc, .bool T] v (pre.map (valF w.heap.size g off ln K A B C L)))
    (fun _ _ _ => False) ?hI (fun _ _ _ _ _ hs _ _ => hs) ⟨_, HS0.out⟩
    (fun i => { tmps := #[.agg #[.int .i64 K, .int .i64 A, .int .i64 B, .int .i64 C, .int .i64 N, .string S, .slice la ln lc, .bool T], .pointer (some ⟨w.heap.size, 0, none⟩), .slice none 0 0, .pointer (some ⟨w.heap.size + 1, 0, none⟩), .pointer (some (placeF w.heap.size g off ln K i)), .func (.func 70) #[] #[.pointer (some ⟨w.heap.size + 1 + 1, 0, none⟩)], .pointer (some (placeF w.heap.size g off ln K i)), undef, undef, undef, undef, undef, undef, undef], defers := [] }) ?assign ?body ?done ?stop
  case hKb => exact kept_putObj (n0 := W0.heap.size) (by omega) (by omega)
  case hI => rintro pre W W' row ⟨v, hS⟩ hg hr; exact ⟨v, hS.grown hg (fun r e => by rw [← hz0]; exact hr r e)⟩
  case assign =>
    intro l x W K hK
    gi_wp2
    exact hK
  case body =>
    rintro l pre x W ⟨v, hS⟩ hlen
    have HS := Lib.hid hS
    have hv := hS.box.cell
    have hvf := hS.box.frozen
    have hcx : W.cell? (placeF w.heap.size g off ln K x) = some (numV (valF w.heap.size g off ln K A B C L x)) := pairs_cells HA.out.1 HLA.out hS.inb.1 (HA.out.since hS.bel) _ (pair_mem x)
    obtain ⟨ad, had⟩ : ∃ ad, placeF w.heap.size g off ln K x = ad := ⟨_, rfl⟩
    obtain ⟨z, hz⟩ : ∃ z, valF w.heap.size g off ln K A B C L x = z := ⟨_, rfl⟩
    rw [had, hz] at hcx
    rw [had]
    unfold numV at hcx
    have HOA : RowKit.Hid (OwnsI ((W.alloc (.cells #[.int .i64 z] 3)).drew) (w.heap.size + 3) 3 v (pre.map (valF w.heap.size g off ln K A B C L))) := Lib.hid (hS.own.below ((Below.refl _ W).alloc (Nat.le_refl _) _).drew)
    have HBA : RowKit.Hid (w.heap.size + 3 ≤ ((W.alloc (.cells #[.int .i64 z] 3)).drew).heap.size) := Lib.hid (by have := hS.siz; show _ ≤ (W.alloc _).heap.size; simp; omega)
    have HCA : RowKit.Hid (((W.alloc (.cells #[.int .i64 z] 3)).drew).cell? ⟨W.heap.size, 0, none⟩ = some (.int .i64 z)) := Lib.hid (World.cell?_alloc_mark _ _ _ _ _)
    have HLN : RowKit.Hid (((pre.map (valF w.heap.size g off ln K A B C L)).length + 1) * 8 ≤ 140737488355328) := Lib.hid (by rw [List.length_map]; have := HPL.out; omega)
    have HSNEXT : RowKit.Hid (∀ v' W', UseSt w W' #[.int .i64 K, .int .i64 A, .int .i64 B, .int .i64 C, .int .i64 N, .string S, .slice la ln lc, .bool T] v' (pre.map (valF w.heap.size g off ln K A B C L) ++ [z]) → UseSt w W' #[.int .i64 K, .int .i64 A, .int .i64 B, .int .i64 C, .int .i64 N, .string S, .slice la ln lc, .bool T] v' ((pre ++ [x]).map (valF w.heap.size g off ln K A B C L))) := Lib.hid (fun v' W' h => by rw [List.map_append, List.map_cons, List.map_nil, hz]; exact h)
    have hva : (W.alloc (.cells #[.int .i64 z] 3)).cell? ⟨w.heap.size + 1, 0, none⟩ = some v := (((Below.refl _ W).alloc (Nat.le_refl _) _).cell (p := ⟨w.heap.size + 1, 0, none⟩) hS.box.lt).trans hv
    clear hS hz had
    gi_wp2
    refine wpIn_region_any hmix ?_
    change wpAnyIn _ _ _ _ _ _ _ _ _ (World.drew _)
    refine wpAnyIn_ready (rs := [0, 1]) (by kernel_rfl) (by simp) ?_
    refine AllReadyIn.cons rfl (fun K hK => ?_) (AllReadyIn.cons rfl (fun K hK => ?_) AllReadyIn.nil)
    · go_simp
      refine hK _ _ ?_
      clear hK K
      refine wpAnyIn_ready (rs := [1]) (by kernel_rfl) (by simp) ?_
      refine AllReadyIn.cons rfl (fun K hK => ?_) AllReadyIn.nil
      go_simp
      refine hK _ _ ?_
      clear hK K
      refine wpAnyIn_ready (rs := [2]) (by kernel_rfl) (by simp) ?_
      refine AllReadyIn.cons rfl (fun K hK => ?_) AllReadyIn.nil
      go_simp
      refine hK _ _ ?_
      clear hK K
      refine wpAnyIn_ready (rs := [3]) (by kernel_rfl) (by simp) ?_
      refine AllReadyIn.cons rfl (fun K hK => ?_) AllReadyIn.nil
      go_simp
      refine hK _ _ ?_
      clear hK K
      refine wpAnyIn_ready (rs := [4]) (by kernel_rfl) (by simp) ?_
      refine AllReadyIn.cons rfl (fun K hK => ?_) AllReadyIn.nil
      go_simp
      refine hK _ _ ?_
      clear hK K
      refine wpAnyIn_ready (rs := [5]) (by kernel_rfl) (by simp) ?_
      refine AllReadyIn.cons rfl (fun K hK => ?_) AllReadyIn.nil
      refine stepIn_append_num rfl _ _ 34 rfl 3 Tryd.underlying34 info_int (w.heap.size + 3) _ _ rfl HOA.out HBA.out _ _ z rfl HCA.out HLN.out ?_
      intro va vn vc w1 hown1 hgrow1
      have HS1 := Lib.hid (HS.out.append hown1 hgrow1)
      have hc1 := HS1.out.1.cell
      have hf1 := HS1.out.1.frozen
      clear hown1 hgrow1
      refine hK _ _ ?_
      clear hK K
      refine wpAnyIn_ready (rs := [6]) (by kernel_rfl) (by simp) ?_
      refine AllReadyIn.cons rfl (fun K hK => ?_) AllReadyIn.nil
      go_simp
      refine hK _ _ ?_
      clear hK K
      refine wpAnyIn_done (by kernel_rfl) ?_ _
      exact ⟨HS1.out.2.2.1, HS1.out.2.2.2, _, HSNEXT.out _ _ HS1.out.2.1⟩
    · go_simp
      refine hK _ _ ?_
      clear hK K
      refine wpAnyIn_ready (rs := [0, 2]) (by kernel_rfl) (by simp) ?_
      refine AllReadyIn.cons rfl (fun K hK => ?_) (AllReadyIn.cons rfl (fun K hK => ?_) AllReadyIn.nil)
      · go_simp
        refine hK _ _ ?_
        clear hK K
        refine wpAnyIn_ready (rs := [2]) (by kernel_rfl) (by simp) ?_
        refine AllReadyIn.cons rfl (fun K hK => ?_) AllReadyIn.nil
        go_simp
        refine hK _ _ ?_
        clear hK K
        refine wpAnyIn_ready (rs := [3]) (by kernel_rfl) (by simp) ?_
        refine AllReadyIn.cons rfl (fun K hK => ?_) AllReadyIn.nil
        go_simp
        refine hK _ _ ?_
        clear hK K
        refine wpAnyIn_ready (rs := [4]) (by kernel_rfl) (by simp) ?_
        refine AllReadyIn.cons rfl (fun K hK => ?_) AllReadyIn.nil
        go_simp
        refine hK _ _ ?_
        clear hK K
        refine wpAnyIn_ready (rs := [5]) (by kernel_rfl) (by simp) ?_
        refine AllReadyIn.cons rfl (fun K hK => ?_) AllReadyIn.nil
        refine stepIn_append_num rfl _ _ 34 rfl 3 Tryd.underlying34 info_int (w.heap.size + 3) _ _ rfl HOA.out HBA.out _ _ z rfl HCA.out HLN.out ?_
        intro va vn vc w1 hown1 hgrow1
        have HS1 := Lib.hid (HS.out.append hown1 hgrow1)
        have hc1 := HS1.out.1.cell
        have hf1 := HS1.out.1.frozen
        clear hown1 hgrow1
        refine hK _ _ ?_
        clear hK K
        refine wpAnyIn_ready (rs := [6]) (by kernel_rfl) (by simp) ?_
        refine AllReadyIn.cons rfl (fun K hK => ?_) AllReadyIn.nil
        go_simp
        refine hK _ _ ?_
        clear hK K
        refine wpAnyIn_done (by kernel_rfl) ?_ _
        exact ⟨HS1.out.2.2.1, HS1.out.2.2.2, _, HSNEXT.out _ _ HS1.out.2.1⟩
      · go_simp
        refine hK _ _ ?_
        clear hK K
        refine wpAnyIn_ready (rs := [0, 3]) (by kernel_rfl) (by simp) ?_
        refine AllReadyIn.cons rfl (fun K hK => ?_) (AllReadyIn.cons rfl (fun K hK => ?_) AllReadyIn.nil)
        · go_simp
          refine hK _ _ ?_
          clear hK K
          refine wpAnyIn_ready (rs := [3]) (by kernel_rfl) (by simp) ?_
          refine AllReadyIn.cons rfl (fun K hK => ?_) AllReadyIn.nil
          go_simp
          refine hK _ _ ?_
          clear hK K
          refine wpAnyIn_ready (rs := [4]) (by kernel_rfl) (by simp) ?_
          refine AllReadyIn.cons rfl (fun K hK => ?_) AllReadyIn.nil
          go_simp
          refine hK _ _ ?_
          clear hK K
          refine wpAnyIn_ready (rs := [5]) (by kernel_rfl) (by simp) ?_
          refine AllReadyIn.cons rfl (fun K hK => ?_) AllReadyIn.nil
          refine stepIn_append_num rfl _ _ 34 rfl 3 Tryd.underlying34 info_int (w.heap.size + 3) _ _ rfl HOA.out HBA.out _ _ z rfl HCA.out HLN.out ?_
          intro va vn vc w1 hown1 hgrow1
          have HS1 := Lib.hid (HS.out.append hown1 hgrow1)
          have hc1 := HS1.out.1.cell
          have hf1 := HS1.out.1.frozen
          clear hown1 hgrow1
          refine hK _ _ ?_
          clear hK K
          refine wpAnyIn_ready (rs := [6]) (by kernel_rfl) (by simp) ?_
          refine AllReadyIn.cons rfl (fun K hK => ?_) AllReadyIn.nil
          go_simp
          refine hK _ _ ?_
          clear hK K
          refine wpAnyIn_done (by kernel_rfl) ?_ _
          exact ⟨HS1.out.2.2.1, HS1.out.2.2.2, _, HSNEXT.out _ _ HS1.out.2.1⟩
        · go_simp
          refine hK _ _ ?_
          clear hK K
          refine wpAnyIn_ready (rs := [0, 4]) (by kernel_rfl) (by simp) ?_
          refine AllReadyIn.cons rfl (fun K hK => ?_) (AllReadyIn.cons rfl (fun K hK => ?_) AllReadyIn.nil)
          · go_simp
            refine hK _ _ ?_
            clear hK K
            refine wpAnyIn_ready (rs := [4]) (by kernel_rfl) (by simp) ?_
            refine AllReadyIn.cons rfl (fun K hK => ?_) AllReadyIn.nil
            go_simp
            refine hK _ _ ?_
            clear hK K
            refine wpAnyIn_ready (rs := [5]) (by kernel_rfl) (by simp) ?_
            refine AllReadyIn.cons rfl (fun K hK => ?_) AllReadyIn.nil
            refine stepIn_append_num rfl _ _ 34 rfl 3 Tryd.underlying34 info_int (w.heap.size + 3) _ _ rfl HOA.out HBA.out _ _ z rfl HCA.out HLN.out ?_
            intro va vn vc w1 hown1 hgrow1
            have HS1 := Lib.hid (HS.out.append hown1 hgrow1)
            have hc1 := HS1.out.1.cell
            have hf1 := HS1.out.1.frozen
            clear hown1 hgrow1
            refine hK _ _ ?_
            clear hK K
            refine wpAnyIn_ready (rs := [6]) (by kernel_rfl) (by simp) ?_
            refine AllReadyIn.cons rfl (fun K hK => ?_) AllReadyIn.nil
            go_simp
            refine hK _ _ ?_
            clear hK K
            refine wpAnyIn_done (by kernel_rfl) ?_ _
            exact ⟨HS1.out.2.2.1, HS1.out.2.2.2, _, HSNEXT.out _ _ HS1.out.2.1⟩
          · go_simp
            refine hK _ _ ?_
            clear hK K
            refine wpAnyIn_ready (rs := [0]) (by kernel_rfl) (by simp) ?_
            refine AllReadyIn.cons rfl (fun K hK => ?_) AllReadyIn.nil
            go_simp
            refine hK _ _ ?_
            clear hK K
            refine wpAnyIn_ready (rs := [5]) (by kernel_rfl) (by simp) ?_
            refine AllReadyIn.cons rfl (fun K hK => ?_) AllReadyIn.nil
            refine stepIn_append_num rfl _ _ 34 rfl 3 Tryd.underlying34 info_int (w.heap.size + 3) _ _ rfl HOA.out HBA.out _ _ z rfl HCA.out HLN.out ?_
            intro va vn vc w1 hown1 hgrow1
            have HS1 := Lib.hid (HS.out.append hown1 hgrow1)
            have hc1 := HS1.out.1.cell
            have hf1 := HS1.out.1.frozen
            clear hown1 hgrow1
            refine hK _ _ ?_
            clear hK K
            refine wpAnyIn_ready (rs := [6]) (by kernel_rfl) (by simp) ?_
            refine AllReadyIn.cons rfl (fun K hK => ?_) AllReadyIn.nil
            go_simp
            refine hK _ _ ?_
            clear hK K
            refine wpAnyIn_done (by kernel_rfl) ?_ _
            exact ⟨HS1.out.2.2.1, HS1.out.2.2.2, _, HSNEXT.out _ _ HS1.out.2.1⟩
  case done =>
    rintro D ys W hD rfl ⟨v, hS⟩ hK
    rw [vals_all HA.out.1] at hS
    obtain ⟨va, vn, vc, rfl, _⟩ := hS.own.nums
    have hc := hS.box.cell
    have HS := Lib.hid hS
    clear hS
    gi_wp2
    refine ⟨by simp, .inl ⟨_, _, rfl, run_takeDeferred hK, ?_⟩⟩
    exact ⟨_, results_tmp rfl _ _ _, va, vn, vc, rfl, (HS.out.own.mono (by omega)).putObj _ hK rfl, HS.out.bel.trans (belowK_b (w := w) (Nat.le_refl _) W D _ _ (by omega) hK rfl rfl)⟩
  case stop =>
    rintro D c pre W _ _ h _
    exact h.elim
end Go.Proofs.YtdchhfdmingnaaaDoor
