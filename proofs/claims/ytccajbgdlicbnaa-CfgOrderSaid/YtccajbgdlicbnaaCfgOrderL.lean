/- Layer 7: the law CfgOrder, walked (mk_ord.py). -/
import Derived.Test.YtccajbgdlicbnaaCfgX
namespace Go.Proofs.Ytccajbgdlicbnaa
open Go.RowKit (wrap64 intOf Below)
set_option linter.unusedVariables false
set_option linter.unusedSimpArgs false

theorem bools_since {w w' : World} {B n g : Nat} {Z : List Int} (h : w.ownsRow B 4 1 (.slice (some ⟨g, 0, none⟩) n n) n (metVals n Z)) (hb : Below w.heap.size w w') : w'.ownsRow B 4 1 (.slice (some ⟨g, 0, none⟩) n n) n (metVals n Z) :=
  ⟨h.1, by
    rcases h.2 with hn | ⟨g', cap, cur, e, hB, hg, rest⟩
    · exact .inl hn
    · exact .inr ⟨g', cap, cur, e, hB, (hb.block g' (Array.getElem?_eq_some_iff.1 hg).1).trans hg, rest⟩⟩
theorem bools_at {w : World} {B n g : Nat} {Z : List Int} (h : w.ownsRow B 4 1 (.slice (some ⟨g, 0, none⟩) n n) n (metVals n Z)) {j : Nat} (hj : j < n) : w.cell? ⟨g, j, none⟩ = some (.bool (inL Z j)) := by
  have := World.ownsRow.cells h rfl j _ (metVals_at (met := Z) hj)
  rwa [addr_plain, Nat.zero_add] at this

set_option maxRecDepth 100000 in
set_option maxHeartbeats 8000000 in
theorem ord_walk (r : Int) (a : Option Addr) (n c : Nat) (f : FuncD) (w : World) (hrow : RowV BlockQ 8 w (.slice a n c) f.blocks) (hnc : n ≤ c) (hc : c ≤ 9223372036854775807) :
    Calls Try.prog 4 #[.agg #[.int .i64 r, .slice a n c]] w fun e w' => e = .returned (.bool true) ∧ Below w.heap.size w w' := by
  have hn : n ≤ 140737488351232 := by obtain ⟨_, _, _, e, _, _, h, _⟩ := hrow; cases e; exact h
  have hrow2 := hrow.few
  have hlen : fewN n = (fewF f).blocks.length := by obtain ⟨_, _, _, e, h, _⟩ := hrow2; cases e; exact h.symm
  have hn60 := fewN_le n
  have HFEW : RowKit.Hid (∀ u : World, Calls Try.prog 13 #[.agg #[.int .i64 r, .slice a n c]] u fun e w' => e = .returned (.agg #[.int .i64 r, .slice a (fewN n) c]) ∧ Below u.heap.size u w') := Lib.hid fun u => few_any r a n c u (by omega) hnc hc
  generalize fewF f = F at *
  generalize fewN n = m at *
  have HROW := Lib.hid hrow2
  have HLEN := Lib.hid hlen
  clear hrow hrow2 hlen hnc hc hn
  go_enter Try.func4, Try.ntmps4
  go_upto_region 2 with ((go_at_call 13; refine (HFEW.out _).mono ?_); rintro e w1 ⟨rfl, hb⟩; have hbl : w.heap.size < w1.heap.size := (by have := hb.size; simp at this; omega); have hheap : w1.heap[w.heap.size]? = some (.cells #[.int .i64 r, .slice a n c] 24 (0, 0)) := ((hb.block w.heap.size (by simp)).trans (World.alloc_heap_new w _)); have hx0 : w1.cell? ⟨w.heap.size, 0, none⟩ = some (.int .i64 r) := (by simp [World.cell?, hheap]); have hx1 : w1.cell? ⟨w.heap.size, 1, none⟩ = some (.slice a n c) := (by simp [World.cell?, hheap]); have hxf0 : w1.frozen? ⟨w.heap.size, 0, none⟩ = false := (by simp [World.frozen?, hheap]); have hxf1 : w1.frozen? ⟨w.heap.size, 1, none⟩ = false := (by simp [World.frozen?, hheap]); have HTC := Lib.hid (two_cells (u := .int .i64 r) (v := .slice a m c) hx0 hx1); have HB0 := Lib.hid (show Below w.heap.size w w1 from ((Below.refl w.heap.size w).alloc (Nat.le_refl _) _).trans (hb.mono (by simp))); have HST := Lib.hid (law_st HB0.out hbl HTC.out (Below.refl _ _) (NumsAt.nil _ none)); clear hb hheap)
  clear hbl hx0 hx1 hxf0 hxf1 HTC HB0 HFEW
  obtain ⟨U, hU⟩ : ∃ U, (w1.setCell ⟨w.heap.size, 0, none⟩ (.int .i64 r)).setCell ⟨w.heap.size, 1, none⟩ (.slice a m c) = U := ⟨_, rfl⟩
  rw [hU] at HST ⊢
  clear hU
  have HKT : RowKit.Hid (∀ u, Below U.heap.size U u → u.cell? ⟨w.heap.size, 0, none⟩ = some (.int .i64 r) ∧ u.cell? ⟨w.heap.size, 1, none⟩ = some (.slice a m c)) := Lib.hid fun u hb => ⟨(hb.cell (p := ⟨w.heap.size, 0, none⟩) HST.out.siz).trans HST.out.c0, (hb.cell (p := ⟨w.heap.size, 1, none⟩) HST.out.siz).trans HST.out.c1⟩
  have COR : RowKit.Hid (∀ u, Below U.heap.size U u → Calls Try.prog 22 #[.agg #[.int .i64 r, .slice a m c]] u fun e w' => ∃ va vn vc, e = .returned (.slice va vn vc) ∧ OwnsI w' u.heap.size 3 (.slice va vn vc) (orderL F) ∧ Below u.heap.size u w') := Lib.hid fun u hb => order_any r a m c F u (HROW.out.since BlockQ.lasts (HST.out.bel.trans (hb.mono HST.out.bel.size))) (by omega)
  have CRE : RowKit.Hid (∀ u, Below U.heap.size U u → Calls Try.prog 23 #[.agg #[.int .i64 r, .slice a m c]] u fun e w' => ∃ g, e = .returned (.slice (some ⟨g, 0, none⟩) m m) ∧ w'.ownsRow u.heap.size 4 1 (.slice (some ⟨g, 0, none⟩) m m) m (metVals m (orderL F)) ∧ Below u.heap.size u w') := Lib.hid fun u hb => reached_any r a m c F u (HROW.out.since BlockQ.lasts (HST.out.bel.trans (hb.mono HST.out.bel.size))) (by omega)
  have CRF : RowKit.Hid (∀ u, Below U.heap.size U u → Calls Try.prog 24 #[.agg #[.int .i64 r, .slice a m c]] u fun e w' => ∃ va vn vc, e = .returned (.slice va vn vc) ∧ OwnsI w' u.heap.size 3 (.slice va vn vc) (orderL F) ∧ Below u.heap.size u w') := Lib.hid fun u hb => reforder_any r a m c F u (HROW.out.since BlockQ.lasts (HST.out.bel.trans (hb.mono HST.out.bel.size))) (by omega)
  have HVM : RowKit.Hid ((orderL F).length ≤ m) := Lib.hid (by rw [HLEN.out]; exact order_len F)
  have hk0 : Below U.heap.size U U.drew := (Below.refl _ _).drew
  refine wp_region_held_drew (S := (fun u : World => u.cell? ⟨w.heap.size, 0, none⟩ = some (.int .i64 r) ∧ u.cell? ⟨w.heap.size, 1, none⟩ = some (.slice a m c))) (by kernel_rfl) (HKT.out _ hk0) (fun hHeld => ?_)
  refine wpAnyH_take (i := 0) (oi := ⟨some 8, _, _, _, _, _⟩) (v := ?_) rfl (by kernel_rfl) (by kernel_rfl) (by kernel_rfl) (fun _ _ _ h => h) (Or.inl ⟨by rfl, ?_⟩) (by assumption) ?_
  rotate_left
  · ((intro w hSw; (try dsimp only at hSw); go_simp); try with_reducible rfl)
  (try simp only [Act.put, List.setIfInBounds_toArray, List.set_cons_zero, List.set_cons_succ])
  refine wpAnyH_take (i := 2) (oi := ⟨some 10, _, _, _, _, _⟩) (v := ?_) rfl (by kernel_rfl) (by kernel_rfl) (by kernel_rfl) (fun _ _ _ h => h) (Or.inl ⟨by rfl, ?_⟩) (by assumption) ?_
  rotate_left
  · ((intro w hSw; (try dsimp only at hSw); go_simp); try with_reducible rfl)
  (try simp only [Act.put, List.setIfInBounds_toArray, List.set_cons_zero, List.set_cons_succ])
  refine wpAnyH_ready (rs := [1]) (by kernel_rfl) (by simp) (AllReadyH.cons rfl (fun K hK => ?_) AllReadyH.nil)
  rw [if_pos (by rfl)]
  go_simp
  go_at_call 22
  (with_reducible refine (COR.out _ hk0).mono ?_)
  rintro e v1 ⟨va, vn, vc, rfl, ho, hb1⟩
  have hk1 : Below U.heap.size U v1 := hk0.trans (hb1.mono hk0.size)
  have HO := Lib.hid ho
  clear ho hb1
  refine hK.out _ _ (HKT.out _ hk1) (fun hHeld => ?_)
  clear hK K
  (try simp only [Act.put, List.setIfInBounds_toArray, List.set_cons_zero, List.set_cons_succ])
  refine wpAnyH_ready (rs := [3]) (by kernel_rfl) (by simp) (AllReadyH.cons rfl (fun K hK => ?_) AllReadyH.nil)
  rw [if_pos (by rfl)]
  go_simp
  go_at_call 23
  (with_reducible refine (CRE.out _ hk1).mono ?_)
  rintro e v2 ⟨gr, rfl, hr, hb2⟩
  have HB2 := Lib.hid hb2
  have hk2 : Below U.heap.size U v2 := hk1.trans (hb2.mono hk1.size)
  have HR := Lib.hid hr
  clear hr hb2
  refine hK.out _ _ (HKT.out _ hk2) (fun hHeld => ?_)
  clear hK K
  (try simp only [Act.put, List.setIfInBounds_toArray, List.set_cons_zero, List.set_cons_succ])
  refine wpAnyH_take (i := 4) (oi := ⟨some 3, _, _, _, _, _⟩) (v := ?_) rfl (by kernel_rfl) (by kernel_rfl) (by kernel_rfl) (fun _ _ _ h => h) (Or.inl ⟨by rfl, ?_⟩) (by assumption) ?_
  rotate_left
  · ((intro w hSw; (try dsimp only at hSw); go_simp); try with_reducible rfl)
  (try simp only [Act.put, List.setIfInBounds_toArray, List.set_cons_zero, List.set_cons_succ])
  refine wpAnyH_take (i := 5) (oi := ⟨some 4, _, _, _, _, _⟩) (v := ?_) rfl (by kernel_rfl) (by kernel_rfl) (by kernel_rfl) (fun _ _ _ h => h) (Or.inl ⟨by rfl, ?_⟩) (by assumption) ?_
  rotate_left
  · ((intro w hSw; (try dsimp only at hSw); go_simp); try with_reducible rfl)
  (try simp only [Act.put, List.setIfInBounds_toArray, List.set_cons_zero, List.set_cons_succ])
  refine wpAnyH_done (by kernel_rfl) ?_ _
  have hc0 := (HKT.out _ hk2).1
  have hc1 := (HKT.out _ hk2).2
  have HK2 := Lib.hid hk2
  have HO2 := Lib.hid (HO.out.read.since HB2.out)
  have hvn : (orderL F).length = vn := HO.out.read.1
  have HVN := Lib.hid hvn
  have hvm : vn ≤ 60 := by have := HVM.out; omega
  clear hk0 hk1 hk2 hvn HKT COR CRE hHeld
  go_wp2_with (first
    | ((go_at_call 24; refine (CRF.out _ HK2.out).mono ?_); rintro e v3 ⟨xa, xn, xc, rfl, ho, hb3⟩; have HB3 := Lib.hid hb3; have hxn : xn = vn := ho.read.1.symm.trans HVN.out; have HIN := Lib.hid (ints_any va xa vn xn vc xc (orderL F) (orderL F) v3 (HO2.out.since hb3) ho.read (Nat.le_trans hvm (by decide)) (by rw [hxn]; exact Nat.le_trans hvm (by decide))); clear ho hb3 hxn)
    | ((go_at_call 17; refine HIN.out.mono ?_); rintro e v4 ⟨rfl, q4, rfl⟩; rw [show sameB (orderL F) (orderL F) = true from decide_eq_true rfl]; have hd1 : (v3.drewN q4).cell? ⟨w.heap.size, 1, none⟩ = some (.slice a m c) := ((HB3.out.cell (p := ⟨w.heap.size, 1, none⟩) (Nat.lt_of_lt_of_le HST.out.siz HK2.out.size)).trans hc1)))
  have HR3 := Lib.hid (bools_since HR.out HB3.out)
  have HO3 := Lib.hid (HO2.out.since HB3.out)
  have HU3 : RowKit.Hid (Below w.heap.size w v3) := Lib.hid (HST.out.bel.trans ((HK2.out.trans (HB3.out.mono HK2.out.size)).mono HST.out.bel.size))
  have hvb : vn ≤ 140737488355328 := Nat.le_trans hvm (by decide)
  clear HIN CRF hd1 hc0 hc1
  go_loopw [5] (fun v5 wr => ∃ i : Nat, i ≤ m ∧ v5 = .int .i64 (i : Int) ∧ RowKit.Hid (Below v3.heap.size v3 wr)) (fun v5 _ => m - (intOf v5).toNat)
  case atStart => exact ⟨0, Nat.zero_le _, rfl, Lib.hid (below_drewN q4 (Below.refl v3.heap.size v3))⟩
  case round =>
    obtain ⟨i, hi, rfl, HI⟩ := hrel
    obtain ⟨wo, hwo⟩ : ∃ u, u = wr := ⟨_, rfl⟩
    rw [← hwo] at HI ⊢
    clear hwo
    have hwi : wrap64 ((i : Int) + 1) = (i : Int) + 1 := by unfold wrap64; omega
    by_cases hlt : i < m
    · have hli : (i : Int) < (m : Int) := by omega
      obtain ⟨bb, hbb⟩ : ∃ b, b = inL (orderL F) (i : Int) := ⟨_, rfl⟩
      have hcb : v3.cell? ⟨gr, i, none⟩ = some (.bool bb) := by rw [hbb]; exact bools_at HR3.out hlt
      have hgl : gr < v3.heap.size := World.block_lt_of_cell? (a := ⟨gr, i, none⟩) _ hcb
      have HBB := Lib.hid hbb
      have HKT : RowKit.Hid (∀ u, Below v3.heap.size v3 u → (fun u : World => u.cell? ⟨gr, i, none⟩ = some (.bool bb)) u) := Lib.hid fun u hb => (hb.cell (p := ⟨gr, i, none⟩) hgl).trans hcb
      have CH : RowKit.Hid (∀ u, Below v3.heap.size v3 u → Calls Try.prog 25 #[.slice va vn vc, .int .i64 (i : Int)] u fun e w' => e = .returned (.bool bb) ∧ u = w') := Lib.hid fun u hb => by rw [HBB.out]; exact has_any va vn vc _ (i : Int) u (HO3.out.since hb) hvb
      have hk0 : Below v3.heap.size v3 wo.drew := HI.out.drew
      clear hbb hcb hgl
      go_upto_region 8 with fail
      refine wp_region_held_drew (S := (fun u : World => u.cell? ⟨gr, i, none⟩ = some (.bool bb))) (by kernel_rfl) (HKT.out _ hk0) (fun hHeld => ?_)
      refine wpAnyH_take (i := 0) (oi := ⟨some 31, _, _, _, _, _⟩) (v := ?_) rfl (by kernel_rfl) (by kernel_rfl) (by kernel_rfl) (fun _ _ _ h => h) (Or.inl ⟨by rfl, ?_⟩) (by assumption) ?_
      rotate_left
      · ((intro w hSw; (try dsimp only at hSw); go_simp); try with_reducible rfl)
      (try simp only [Act.put, List.setIfInBounds_toArray, List.set_cons_zero, List.set_cons_succ])
      refine wpAnyH_take (i := 1) (oi := ⟨some 32, _, _, _, _, _⟩) (v := ?_) rfl (by kernel_rfl) (by kernel_rfl) (by kernel_rfl) (fun _ _ _ h => h) (Or.inl ⟨by rfl, ?_⟩) (by assumption) ?_
      rotate_left
      · ((intro w hSw; (try dsimp only at hSw); go_simp); try with_reducible rfl)
      (try simp only [Act.put, List.setIfInBounds_toArray, List.set_cons_zero, List.set_cons_succ])
      refine wpAnyH_take (i := 2) (oi := ⟨some 33, _, _, _, _, _⟩) (v := ?_) rfl (by kernel_rfl) (by kernel_rfl) (by kernel_rfl) (fun _ _ _ h => h) (Or.inl ⟨by rfl, ?_⟩) (by assumption) ?_
      rotate_left
      · ((intro w hSw; (try dsimp only at hSw); go_simp); try with_reducible rfl)
      (try simp only [Act.put, List.setIfInBounds_toArray, List.set_cons_zero, List.set_cons_succ])
      refine wpAnyH_take (i := 3) (oi := ⟨some 34, _, _, _, _, _⟩) (v := ?_) rfl (by kernel_rfl) (by kernel_rfl) (by kernel_rfl) (fun _ _ _ h => h) (Or.inl ⟨by rfl, ?_⟩) (by assumption) ?_
      rotate_left
      · ((intro w hSw; (try dsimp only at hSw); go_simp); try with_reducible rfl)
      (try simp only [Act.put, List.setIfInBounds_toArray, List.set_cons_zero, List.set_cons_succ])
      refine wpAnyH_take (i := 4) (oi := ⟨some 35, _, _, _, _, _⟩) (v := ?_) rfl (by kernel_rfl) (by kernel_rfl) (by kernel_rfl) (fun _ _ _ h => h) (Or.inl ⟨by rfl, ?_⟩) (by assumption) ?_
      rotate_left
      · ((intro w hSw; (try dsimp only at hSw); go_simp); try with_reducible rfl)
      (try simp only [Act.put, List.setIfInBounds_toArray, List.set_cons_zero, List.set_cons_succ])
      refine wpAnyH_take (i := 5) (oi := ⟨some 36, _, _, _, _, _⟩) (v := ?_) rfl (by kernel_rfl) (by kernel_rfl) (by kernel_rfl) (fun _ _ _ h => h) (Or.inl ⟨by rfl, ?_⟩) (by assumption) ?_
      rotate_left
      · ((intro w hSw; (try dsimp only at hSw); go_simp); try with_reducible rfl)
      (try simp only [Act.put, List.setIfInBounds_toArray, List.set_cons_zero, List.set_cons_succ])
      refine wpAnyH_ready (rs := [6]) (by kernel_rfl) (by simp) (AllReadyH.cons rfl (fun K hK => ?_) AllReadyH.nil)
      rw [if_pos (by rfl)]
      go_simp
      go_at_call 25
      (with_reducible refine (CH.out _ hk0).mono ?_)
      rintro e v9 ⟨rfl, rfl⟩
      refine hK.out _ _ (HKT.out _ hk0) (fun hHeld => ?_)
      clear hK K
      (try simp only [Act.put, List.setIfInBounds_toArray, List.set_cons_zero, List.set_cons_succ])
      refine wpAnyH_take (i := 7) (oi := ⟨some 38, _, _, _, _, _⟩) (v := ?_) rfl (by kernel_rfl) (by kernel_rfl) (by kernel_rfl) (fun _ _ _ h => h) (Or.inl ⟨by rfl, ?_⟩) (by assumption) ?_
      rotate_left
      · ((intro w hSw; (try dsimp only at hSw); go_simp); try with_reducible rfl)
      (try simp only [Act.put, List.setIfInBounds_toArray, List.set_cons_zero, List.set_cons_succ])
      refine wpAnyH_done (by kernel_rfl) ?_ _
      have HK0 := Lib.hid hk0
      clear hk0 hHeld
      go_wp2_with fail
      go_roundw
      case rel => exact ⟨i + 1, by omega, by go_num, HK0⟩
      case measure => simp [intOf, hwi]; omega
    · obtain rfl : i = m := by omega
      go_wp2_with (go_at_call 21; refine (lives_any wo).mono ?_; rintro e w9 ⟨rfl, hb9⟩; have HB9 := Lib.hid hb9; clear hb9)
      go_ret
      have hb := HU3.out.trans (HI.out.mono HU3.out.size)
      exact ⟨rfl, hb.trans (HB9.out.mono hb.size)⟩
end Go.Proofs.Ytccajbgdlicbnaa
