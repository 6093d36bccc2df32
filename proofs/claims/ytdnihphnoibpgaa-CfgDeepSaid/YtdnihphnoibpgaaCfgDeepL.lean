/- Layer 7: the law CfgDeep, walked (mk_dpl.py). -/
import Derived.Test.YtdnihphnoibpgaaCfgO
import Derived.Deep.RegionHeld3
namespace Go.Proofs.Ytdnihphnoibpgaa
open Go.RowKit (wrap64 intOf Below)
set_option linter.unusedVariables false
set_option linter.unusedSimpArgs false

set_option maxRecDepth 100000 in
set_option maxHeartbeats 8000000 in
theorem dpl_walk (r : Int) (a : Option Addr) (n c : Nat) (f : FuncD) (w : World) (hrow : RowV BlockQ 8 w (.slice a n c) f.blocks) (hnc : n ≤ c) (hc : c ≤ 9223372036854775807) :
    Calls Try.prog 4 #[.agg #[.int .i64 r, .slice a n c]] w fun e w' => e = .returned (.bool true) ∧ Below w.heap.size w w' := by
  have hn : n ≤ 140737488351232 := by obtain ⟨_, _, _, e, _, _, h, _⟩ := hrow; cases e; exact h
  have hrow2 := hrow.few
  have hlen : fewN n = (fewF f).blocks.length := by obtain ⟨_, _, _, e, h, _⟩ := hrow2; cases e; exact h.symm
  have hn60 := fewN_le n
  have HFEW : RowKit.Hid (∀ u : World, Calls Try.prog 11 #[.agg #[.int .i64 r, .slice a n c]] u fun e w' => e = .returned (.agg #[.int .i64 r, .slice a (fewN n) c]) ∧ Below u.heap.size u w') := Lib.hid fun u => few_any r a n c u (by omega) hnc hc
  generalize fewF f = F at *
  generalize fewN n = m at *
  have HROW := Lib.hid hrow2
  have HLEN := Lib.hid hlen
  clear hrow hrow2 hlen hnc hc hn
  go_enter Try.func4, Try.ntmps4
  go_upto_region 2 with ((go_at_call 11; refine (HFEW.out _).mono ?_); rintro e w1 ⟨rfl, hb⟩; have hbl : w.heap.size < w1.heap.size := (by have := hb.size; simp at this; omega); have hheap : w1.heap[w.heap.size]? = some (.cells #[.int .i64 r, .slice a n c] 24 (0, 0)) := ((hb.block w.heap.size (by simp)).trans (World.alloc_heap_new w _)); have hx0 : w1.cell? ⟨w.heap.size, 0, none⟩ = some (.int .i64 r) := (by simp [World.cell?, hheap]); have hx1 : w1.cell? ⟨w.heap.size, 1, none⟩ = some (.slice a n c) := (by simp [World.cell?, hheap]); have hxf0 : w1.frozen? ⟨w.heap.size, 0, none⟩ = false := (by simp [World.frozen?, hheap]); have hxf1 : w1.frozen? ⟨w.heap.size, 1, none⟩ = false := (by simp [World.frozen?, hheap]); have HTC := Lib.hid (two_cells (u := .int .i64 r) (v := .slice a m c) hx0 hx1); have HB0 := Lib.hid (show Below w.heap.size w w1 from ((Below.refl w.heap.size w).alloc (Nat.le_refl _) _).trans (hb.mono (by simp))); have HST := Lib.hid (law_st HB0.out hbl HTC.out (Below.refl _ _) (NumsAt.nil _ none)); clear hb hheap)
  clear hbl hx0 hx1 hxf0 hxf1 HTC HB0 HFEW
  obtain ⟨U, hU⟩ : ∃ U, (w1.setCell ⟨w.heap.size, 0, none⟩ (.int .i64 r)).setCell ⟨w.heap.size, 1, none⟩ (.slice a m c) = U := ⟨_, rfl⟩
  rw [hU] at HST ⊢
  clear hU
  have HKT : RowKit.Hid (∀ u, Below U.heap.size U u → u.cell? ⟨w.heap.size, 0, none⟩ = some (.int .i64 r) ∧ u.cell? ⟨w.heap.size, 1, none⟩ = some (.slice a m c)) := Lib.hid fun u hb => ⟨(hb.cell (p := ⟨w.heap.size, 0, none⟩) HST.out.siz).trans HST.out.c0, (hb.cell (p := ⟨w.heap.size, 1, none⟩) HST.out.siz).trans HST.out.c1⟩
  have CDP : RowKit.Hid (∀ u, Below U.heap.size U u → Calls Try.prog 20 #[.agg #[.int .i64 r, .slice a m c]] u fun e w' => ∃ va vn vc DL, e = .returned (.slice va vn vc) ∧ OwnsI w' u.heap.size 3 (.slice va vn vc) DL ∧ DL.length = m ∧ Far m (nxF F) (nth DL) ∧ Below u.heap.size u w') := Lib.hid fun u hb => deep_any r a m c F u (HROW.out.since BlockQ.lasts (HST.out.bel.trans (hb.mono HST.out.bel.size))) (by omega)
  have CRD : RowKit.Hid (∀ u, Below U.heap.size U u → Calls Try.prog 21 #[.agg #[.int .i64 r, .slice a m c]] u fun e w' => ∃ va vn vc DL, e = .returned (.slice va vn vc) ∧ OwnsI w' u.heap.size 3 (.slice va vn vc) DL ∧ DL.length = m ∧ Far m (nxF F) (nth DL) ∧ Below u.heap.size u w') := Lib.hid fun u hb => refdeep_any r a m c F u (HROW.out.since BlockQ.lasts (HST.out.bel.trans (hb.mono HST.out.bel.size))) (by omega)
  have hk0 : Below U.heap.size U U.drew := (Below.refl _ _).drew
  refine wp_region_held_drew (S := (fun u : World => u.cell? ⟨w.heap.size, 0, none⟩ = some (.int .i64 r) ∧ u.cell? ⟨w.heap.size, 1, none⟩ = some (.slice a m c))) (by kernel_rfl) (HKT.out _ hk0) (fun hHeld => ?_)
  refine wpAnyH_take (i := 0) (oi := ⟨some 5, _, _, _, _, _⟩) (v := ?_) rfl (by kernel_rfl) (by kernel_rfl) (by kernel_rfl) (fun _ _ _ h => h) (Or.inl ⟨by rfl, ?_⟩) (by assumption) ?_
  rotate_left
  · ((intro w hSw; (try dsimp only at hSw); go_simp); try with_reducible rfl)
  (try simp only [Act.put, List.setIfInBounds_toArray, List.set_cons_zero, List.set_cons_succ])
  refine wpAnyH_take (i := 2) (oi := ⟨some 7, _, _, _, _, _⟩) (v := ?_) rfl (by kernel_rfl) (by kernel_rfl) (by kernel_rfl) (fun _ _ _ h => h) (Or.inl ⟨by rfl, ?_⟩) (by assumption) ?_
  rotate_left
  · ((intro w hSw; (try dsimp only at hSw); go_simp); try with_reducible rfl)
  (try simp only [Act.put, List.setIfInBounds_toArray, List.set_cons_zero, List.set_cons_succ])
  refine wpAnyH_ready (rs := [1]) (by kernel_rfl) (by simp) (AllReadyH.cons rfl (fun K hK => ?_) AllReadyH.nil)
  rw [if_pos (by rfl)]
  go_simp
  go_at_call 20
  (with_reducible refine (CDP.out _ hk0).mono ?_)
  rintro e v1 ⟨va, vn, vc, D1, rfl, ho1, hl1, hf1, hb1⟩
  have hk1 : Below U.heap.size U v1 := hk0.trans (hb1.mono hk0.size)
  have HO1 := Lib.hid ho1
  have HL1 := Lib.hid hl1
  have HF1 := Lib.hid hf1
  clear ho1 hl1 hf1 hb1
  refine hK.out _ _ (HKT.out _ hk1) (fun hHeld => ?_)
  clear hK K
  (try simp only [Act.put, List.setIfInBounds_toArray, List.set_cons_zero, List.set_cons_succ])
  refine wpAnyH_ready (rs := [3]) (by kernel_rfl) (by simp) (AllReadyH.cons rfl (fun K hK => ?_) AllReadyH.nil)
  rw [if_pos (by rfl)]
  go_simp
  go_at_call 21
  (with_reducible refine (CRD.out _ hk1).mono ?_)
  rintro e v2 ⟨ua, un, uc, D2, rfl, ho2, hl2, hf2, hb2⟩
  have hk2 : Below U.heap.size U v2 := hk1.trans (hb2.mono hk1.size)
  have HEQ : RowKit.Hid (D1 = D2) := Lib.hid (far_same HF1.out hf2 HL1.out hl2)
  have HX := Lib.hid (ints_any va ua vn un vc uc D1 D2 v2 (HO1.out.read.since hb2) ho2.read (by have h1 := HO1.out.read.1; have h2 := HL1.out; omega) (by have h1 := ho2.read.1; omega))
  clear ho2 hl2 hf2 hb2
  refine hK.out _ _ (HKT.out _ hk2) (fun hHeld => ?_)
  clear hK K
  (try simp only [Act.put, List.setIfInBounds_toArray, List.set_cons_zero, List.set_cons_succ])
  refine wpAnyH_ready (rs := [4]) (by kernel_rfl) (by simp) (AllReadyH.cons rfl (fun K hK => ?_) AllReadyH.nil)
  rw [if_pos (by rfl)]
  go_simp
  go_at_call 15
  (with_reducible refine HX.out.mono ?_)
  rintro e v3 ⟨rfl, q3, rfl⟩
  rw [show sameB D1 D2 = true from decide_eq_true HEQ.out]
  have hk3 : Below U.heap.size U (v2.drewN q3) := below_drewN q3 hk2
  generalize v2.drewN q3 = v3 at hk3 ⊢
  refine hK.out _ _ (HKT.out _ hk3) (fun hHeld => ?_)
  clear hK K
  (try simp only [Act.put, List.setIfInBounds_toArray, List.set_cons_zero, List.set_cons_succ])
  refine wpAnyH_take (i := 5) (oi := ⟨some 10, _, _, _, _, _⟩) (v := ?_) rfl (by kernel_rfl) (by kernel_rfl) (by kernel_rfl) (fun _ _ _ h => h) (Or.inl ⟨by rfl, ?_⟩) (by assumption) ?_
  rotate_left
  · ((intro w hSw; (try dsimp only at hSw); go_simp); try with_reducible rfl)
  (try simp only [Act.put, List.setIfInBounds_toArray, List.set_cons_zero, List.set_cons_succ])
  refine wpAnyH_ready (rs := [6]) (by kernel_rfl) (by simp) (AllReadyH.cons rfl (fun K hK => ?_) AllReadyH.nil)
  rw [if_pos (by rfl)]
  go_simp
  go_at_call 19
  (with_reducible refine (lives_any v3).mono ?_)
  rintro e v4 ⟨rfl, hb4⟩
  have hk4 : Below U.heap.size U v4 := hk3.trans (hb4.mono hk3.size)
  clear hb4
  refine hK.out _ _ (HKT.out _ hk4) (fun hHeld => ?_)
  clear hK K
  (try simp only [Act.put, List.setIfInBounds_toArray, List.set_cons_zero, List.set_cons_succ])
  refine wpAnyH_take (i := 7) (oi := ⟨some 12, _, _, _, _, _⟩) (v := ?_) rfl (by kernel_rfl) (by kernel_rfl) (by kernel_rfl) (fun _ _ _ h => h) (Or.inl ⟨by rfl, ?_⟩) (by assumption) ?_
  rotate_left
  · ((intro w hSw; (try dsimp only at hSw); go_simp); try with_reducible rfl)
  (try simp only [Act.put, List.setIfInBounds_toArray, List.set_cons_zero, List.set_cons_succ])
  refine wpAnyH_take (i := 8) (oi := ⟨some 2, _, _, _, _, _⟩) (v := ?_) rfl (by kernel_rfl) (by kernel_rfl) (by kernel_rfl) (fun _ _ _ h => h) (Or.inl ⟨by rfl, ?_⟩) (by assumption) ?_
  rotate_left
  · ((intro w hSw; (try dsimp only at hSw); go_simp); try with_reducible rfl)
  (try simp only [Act.put, List.setIfInBounds_toArray, List.set_cons_zero, List.set_cons_succ])
  refine wpAnyH_done (by kernel_rfl) ?_ _
  have HK4 := Lib.hid hk4
  clear hk0 hk1 hk2 hk3 hk4 hHeld HX CDP CRD HKT
  go_wp2_with fail
  go_ret
  exact ⟨rfl, HST.out.bel.trans (HK4.out.mono HST.out.bel.size)⟩
end Go.Proofs.Ytdnihphnoibpgaa
