/- Layer 8: the law DomEdges (mk_edl.py), walked. -/
import Derived.Test.YtnnccahpgailiaaQDomEf
import Derived.Test.YtnnccahpgailiaaQDomEg
import Derived.Test.YtnnccahpgailiaaQT11

namespace Go.Proofs.Ytnnccahpgailiaa
open Go.RowKit (wrap64 intOf Below)
set_option linter.unusedVariables false
set_option linter.unusedSimpArgs false

set_option maxRecDepth 100000 in
set_option maxHeartbeats 8000000 in
theorem domedges_walk (r : Int) (a : Option Addr) (n c : Nat) (f : FuncD) (w : World) (hrow : RowV BlockQ 8 w (.slice a n c) f.blocks) (hnc : n ≤ c) (hc : c ≤ 9223372036854775807) :
    Calls Try.prog 3 #[.agg #[.int .i64 r, .slice a n c]] w fun e w' => e = .returned (.bool true) ∧ Below w.heap.size w w' := by
  have hn : n ≤ 140737488351232 := by obtain ⟨_, _, _, e, _, _, h, _⟩ := hrow; cases e; exact h
  have hrow2 := hrow.few8
  have hlen : fewN8 n = (fewF8 f).blocks.length := by obtain ⟨_, _, _, e, h, _⟩ := hrow2; cases e; exact h.symm
  have hn60 := fewN8_le n
  have HFEW : RowKit.Hid (∀ u : World, Calls Try.prog 9 #[.agg #[.int .i64 r, .slice a n c]] u fun e w' => e = .returned (.agg #[.int .i64 r, .slice a (fewN8 n) c]) ∧ Below u.heap.size u w') := Lib.hid fun u => few8_any r a n c u (by omega) hnc hc
  generalize fewF8 f = F at *
  generalize fewN8 n = m at *
  have HROW0 := Lib.hid hrow2
  have HLEN := Lib.hid hlen
  clear hrow hrow2 hlen hnc hc hn
  go_enter Try.func3, Try.ntmps3
  go_upto_region 2 with ((go_at_call 9; refine (HFEW.out _).mono ?_); rintro e w1 ⟨rfl, hb⟩; have hbl : w.heap.size < w1.heap.size := (by have := hb.size; simp at this; omega); have hheap : w1.heap[w.heap.size]? = some (.cells #[.int .i64 r, .slice a n c] 24 (0, 0)) := ((hb.block w.heap.size (by simp)).trans (World.alloc_heap_new w _)); have hx0 : w1.cell? ⟨w.heap.size, 0, none⟩ = some (.int .i64 r) := (by simp [World.cell?, hheap]); have hx1 : w1.cell? ⟨w.heap.size, 1, none⟩ = some (.slice a n c) := (by simp [World.cell?, hheap]); have hxf0 : w1.frozen? ⟨w.heap.size, 0, none⟩ = false := (by simp [World.frozen?, hheap]); have hxf1 : w1.frozen? ⟨w.heap.size, 1, none⟩ = false := (by simp [World.frozen?, hheap]); have HTC := Lib.hid (two_cells (u := .int .i64 r) (v := .slice a m c) hx0 hx1); have HB0 := Lib.hid (show Below w.heap.size w w1 from ((Below.refl w.heap.size w).alloc (Nat.le_refl _) _).trans (hb.mono (by simp))); have HST := Lib.hid (law_st (va := none) (vn := 0) (L := []) HB0.out hbl HTC.out (Below.refl _ _) (NumsAt.nil _ none)); clear hb hheap)
  clear hbl hx0 hx1 hxf0 hxf1 HTC HB0 HFEW
  obtain ⟨U, hU⟩ : ∃ U, (w1.setCell ⟨w.heap.size, 0, none⟩ (.int .i64 r)).setCell ⟨w.heap.size, 1, none⟩ (.slice a m c) = U := ⟨_, rfl⟩
  rw [hU] at HST ⊢
  clear hU
  have HROW : RowKit.Hid (∀ u, Below U.heap.size U u → RowV BlockQ 8 u (.slice a m c) F.blocks) := Lib.hid fun u hb => HROW0.out.since BlockQ.lasts (HST.out.bel.trans (hb.mono HST.out.bel.size))
  have HKT : RowKit.Hid (∀ u, Below U.heap.size U u → u.cell? ⟨w.heap.size, 0, none⟩ = some (.int .i64 r) ∧ u.cell? ⟨w.heap.size, 1, none⟩ = some (.slice a m c)) := Lib.hid fun u hb => ⟨(hb.cell (p := ⟨w.heap.size, 0, none⟩) HST.out.siz).trans HST.out.c0, (hb.cell (p := ⟨w.heap.size, 1, none⟩) HST.out.siz).trans HST.out.c1⟩
  have CE : RowKit.Hid (∀ u, Below U.heap.size U u → Calls Try.prog 10 #[.agg #[.int .i64 r, .slice a m c]] u fun e w' => ∃ ge us, e = .returned (.slice (some ⟨ge, 0, none⟩) m m) ∧ Rows2 w' u.heap.size 29 3 (.slice (some ⟨ge, 0, none⟩) m m) us (edRow F m m (fun _ => False)) ∧ us.length = m ∧ Below u.heap.size u w') := Lib.hid fun u hb => edge_any r a m c F u (HROW.out u hb) (by omega)
  have hc0 := HST.out.c0
  have hc1 := HST.out.c1
  go_upto_region 3 with (go_at_call 10; (with_reducible refine (CE.out _ (Below.refl _ _)).mono ?_); rintro e v1 ⟨ge, us, rfl, hr, hul, hb1⟩; have HK1 := Lib.hid hb1; have HR := Lib.hid hr; have HUL := Lib.hid hul; have hd0 := (HKT.out _ hb1).1; have hd1 := (HKT.out _ hb1).2; clear hr hul hb1)
  clear hc0 hc1
  have HBW : RowKit.Hid (Below w.heap.size w v1) := Lib.hid (HST.out.bel.trans (HK1.out.mono HST.out.bel.size))
  have HLS : RowKit.Hid (LawSt w r a m c none 0 [] v1 ∧ Rows2 v1 U.heap.size 29 3 (.slice (some ⟨ge, 0, none⟩) m m) us (edRow F m m (fun _ => False))) := Lib.hid ⟨⟨HBW.out, Nat.lt_of_lt_of_le HST.out.siz HK1.out.size, hd0, hd1, NumsAt.nil _ _⟩, HR.out⟩
  clear HKT CE HROW hd0 HR
  have HROW : RowKit.Hid (∀ u, Below w.heap.size w u → RowV BlockQ 8 u (.slice a m c) F.blocks) := Lib.hid fun u hb => HROW0.out.since BlockQ.lasts hb
  have hmm : ((m : Int) != (m : Int)) = false := by simp
  go_wp2_with fail
  clear hd1 hmm
  go_loopw [4] (fun v4 wr => ∃ i : Nat, i ≤ m ∧ v4 = .int .i64 (i : Int) ∧ RowKit.Hid (LawSt w r a m c none 0 [] wr ∧ Rows2 wr U.heap.size 29 3 (.slice (some ⟨ge, 0, none⟩) m m) us (edRow F m m (fun _ => False)))) (fun v4 _ => m - (intOf v4).toNat)
  case atStart => exact ⟨0, Nat.zero_le _, rfl, HLS⟩
  case round =>
    obtain ⟨i, hi, rfl, HI⟩ := hrel
    clear HLS
    obtain ⟨wo, hwo⟩ : ∃ u, u = wr := ⟨_, rfl⟩
    rw [← hwo] at HI ⊢
    clear hwo
    have hw : wrap64 ((i : Int) + 1) = (i : Int) + 1 := by unfold wrap64; omega
    by_cases hlt : i < m
    · have hiu : i < us.length := by rw [HUL.out]; exact hlt
      have hiZ : i < (edRow F m m (fun _ => False)).length := by rw [edRow_len]; exact hlt
      have hown := HI.out.2.own i hiu hiZ
      rw [edgeL_all F m i hlt (fun _ => False) (fun _ h => h)] at hown
      obtain ⟨ya, yn, yc, hyv, hyn⟩ := hown.nums
      have hcy : wo.cell? ⟨ge, i, none⟩ = some (.slice ya yn yc) := by rw [← hyv]; exact HI.out.2.cell hiu
      have HY := Lib.hid hyn
      have HBL : RowKit.Hid (yn ≤ 100000) := Lib.hid (by have h1 := hyn.1; have h2 := edgeL_len F m m i; omega)
      have hgl := World.block_lt_of_cell? (a := ⟨ge, i, none⟩) _ hcy
      have CRE : RowKit.Hid (∀ u, Below wo.heap.size wo u → Calls Try.prog 12 #[.agg #[.int .i64 r, .slice a m c], .int .i64 (i : Int)] u fun e w' => ∃ va vn vc, e = .returned (.slice va vn vc) ∧ OwnsI w' u.heap.size 3 (.slice va vn vc) (edgeL F m m i) ∧ Below u.heap.size u w') := Lib.hid fun u hb => refedge_any r a m c F i u (HROW.out u (HI.out.1.bel.trans (hb.mono HI.out.1.bel.size))) (by omega)
      have hk0 : Below wo.heap.size wo wo.drew := (Below.refl _ _).drew
      have HKT : RowKit.Hid (∀ u, Below wo.heap.size wo u → (fun u : World => u.cell? ⟨w.heap.size, 0, none⟩ = some (.int .i64 r) ∧ u.cell? ⟨w.heap.size, 1, none⟩ = some (.slice a m c) ∧ u.cell? ⟨ge, i, none⟩ = some (.slice ya yn yc)) u) := Lib.hid fun u hb => ⟨(hb.cell (p := ⟨w.heap.size, 0, none⟩) HI.out.1.siz).trans HI.out.1.c0, (hb.cell (p := ⟨w.heap.size, 1, none⟩) HI.out.1.siz).trans HI.out.1.c1, (hb.cell (p := ⟨ge, i, none⟩) hgl).trans hcy⟩
      have HEL : RowKit.Hid ((edgeL F m m i).length ≤ 100000) := Lib.hid (by have h2 := edgeL_len F m m i; omega)
      have hi0 : (0 : Int) ≤ (i : Int) := by omega
      have him : (i : Int) < (m : Int) := by omega
      generalize edgeL F m m i = EL at *
      clear hown hyv hcy hyn hgl hiZ hiu
      go_upto_region 8 with fail
      refine wp_region_held_drew (S := (fun u : World => u.cell? ⟨w.heap.size, 0, none⟩ = some (.int .i64 r) ∧ u.cell? ⟨w.heap.size, 1, none⟩ = some (.slice a m c) ∧ u.cell? ⟨ge, i, none⟩ = some (.slice ya yn yc))) (by kernel_rfl) (HKT.out _ hk0) (fun hHeld => ?_)
      refine wpAnyH_take (i := 0) (oi := ⟨some 21, _, _, _, _, _⟩) (v := ?_) rfl (by kernel_rfl) (by kernel_rfl) (by kernel_rfl) (fun _ _ _ h => h) (Or.inl ⟨by rfl, ?_⟩) (by assumption) ?_
      rotate_left
      · ((intro w hSw; (try dsimp only at hSw); go_simp); try with_reducible rfl)
      (try simp only [Act.put, List.setIfInBounds_toArray, List.set_cons_zero, List.set_cons_succ])
      refine wpAnyH_take (i := 1) (oi := ⟨some 22, _, _, _, _, _⟩) (v := ?_) rfl (by kernel_rfl) (by kernel_rfl) (by kernel_rfl) (fun _ _ _ h => h) (Or.inl ⟨by rfl, ?_⟩) (by assumption) ?_
      rotate_left
      · ((intro w hSw; (try dsimp only at hSw); go_simp); try with_reducible rfl)
      (try simp only [Act.put, List.setIfInBounds_toArray, List.set_cons_zero, List.set_cons_succ])
      refine wpAnyH_take (i := 2) (oi := ⟨some 23, _, _, _, _, _⟩) (v := ?_) rfl (by kernel_rfl) (by kernel_rfl) (by kernel_rfl) (fun _ _ _ h => h) (Or.inl ⟨by rfl, ?_⟩) (by assumption) ?_
      rotate_left
      · ((intro w hSw; (try dsimp only at hSw); go_simp); try with_reducible rfl)
      (try simp only [Act.put, List.setIfInBounds_toArray, List.set_cons_zero, List.set_cons_succ])
      refine wpAnyH_take (i := 3) (oi := ⟨some 24, _, _, _, _, _⟩) (v := ?_) rfl (by kernel_rfl) (by kernel_rfl) (by kernel_rfl) (fun _ _ _ h => h) (Or.inl ⟨by rfl, ?_⟩) (by assumption) ?_
      rotate_left
      · ((intro w hSw; (try dsimp only at hSw); go_simp); try with_reducible rfl)
      (try simp only [Act.put, List.setIfInBounds_toArray, List.set_cons_zero, List.set_cons_succ])
      refine wpAnyH_take (i := 4) (oi := ⟨some 25, _, _, _, _, _⟩) (v := ?_) rfl (by kernel_rfl) (by kernel_rfl) (by kernel_rfl) (fun _ _ _ h => h) (Or.inl ⟨by rfl, ?_⟩) (by assumption) ?_
      rotate_left
      · ((intro w hSw; (try dsimp only at hSw); go_simp); try with_reducible rfl)
      (try simp only [Act.put, List.setIfInBounds_toArray, List.set_cons_zero, List.set_cons_succ])
      refine wpAnyH_take (i := 5) (oi := ⟨some 26, _, _, _, _, _⟩) (v := ?_) rfl (by kernel_rfl) (by kernel_rfl) (by kernel_rfl) (fun _ _ _ h => h) (Or.inl ⟨by rfl, ?_⟩) (by assumption) ?_
      rotate_left
      · ((intro w hSw; (try dsimp only at hSw); go_simp); try with_reducible rfl)
      (try simp only [Act.put, List.setIfInBounds_toArray, List.set_cons_zero, List.set_cons_succ])
      refine wpAnyH_ready (rs := [6]) (by kernel_rfl) (by simp) (AllReadyH.cons rfl (fun K hK => ?_) AllReadyH.nil)
      rw [if_pos (by rfl)]
      go_simp
      go_at_call 12
      (with_reducible refine (CRE.out _ hk0).mono ?_)
      rintro e v2 ⟨va, vn, vc, rfl, ho, hb2⟩
      have hk2 : Below wo.heap.size wo v2 := hk0.trans (hb2.mono hk0.size)
      have HV := Lib.hid ho.read
      clear ho hb2
      have CI : RowKit.Hid (Calls Try.prog 11 #[.slice ya yn yc, .slice va vn vc] v2 (BoolPost true v2)) := Lib.hid (by have h := ints_any ya va yn vn yc vc EL EL v2 (HY.out.since hk2) HV.out (by have := HBL.out; omega) (by have := HV.out.1; have := HEL.out; omega); rw [show sameB EL EL = true from decide_eq_true rfl] at h; exact h)
      refine hK.out _ _ (HKT.out _ hk2) (fun hHeld => ?_)
      clear hK K
      (try simp only [Act.put, List.setIfInBounds_toArray, List.set_cons_zero, List.set_cons_succ])
      refine wpAnyH_ready (rs := [7]) (by kernel_rfl) (by simp) (AllReadyH.cons rfl (fun K hK => ?_) AllReadyH.nil)
      rw [if_pos (by rfl)]
      go_simp
      go_at_call 11
      (with_reducible refine CI.out.mono ?_)
      rintro e v3 ⟨rfl, q, hq3⟩
      have hk3 : Below wo.heap.size wo v3 := by rw [hq3]; exact hk2.trans ((below_drewN q (Below.refl v2.heap.size v2)).mono hk2.size)
      clear hq3
      refine hK.out _ _ (HKT.out _ hk3) (fun hHeld => ?_)
      clear hK K
      (try simp only [Act.put, List.setIfInBounds_toArray, List.set_cons_zero, List.set_cons_succ])
      refine wpAnyH_take (i := 8) (oi := ⟨some 29, _, _, _, _, _⟩) (v := ?_) rfl (by kernel_rfl) (by kernel_rfl) (by kernel_rfl) (fun _ _ _ h => h) (Or.inl ⟨by rfl, ?_⟩) (by assumption) ?_
      rotate_left
      · ((intro w hSw; (try dsimp only at hSw); go_simp); try with_reducible rfl)
      (try simp only [Act.put, List.setIfInBounds_toArray, List.set_cons_zero, List.set_cons_succ])
      refine wpAnyH_done (by kernel_rfl) ?_ _
      have HI6 : RowKit.Hid (LawSt w r a m c none 0 [] v3 ∧ Rows2 v3 U.heap.size 29 3 (.slice (some ⟨ge, 0, none⟩) m m) us (edRow F m m (fun _ => False))) := Lib.hid ⟨HI.out.1.since hk3, HI.out.2.since hk3⟩
      clear hk0 hk2 hk3 HKT CRE CI
      go_wp2_with fail
      go_roundw
      case rel => exact ⟨i + 1, hlt, by go_num, HI6⟩
      case measure => simp [intOf, hw]; omega
    · obtain rfl : i = m := by omega
      go_wp2_with (go_at_call 13; refine (lives8_any wo).mono ?_; rintro e w9 ⟨rfl, hb9⟩; have HB9 := Lib.hid hb9; clear hb9)
      go_ret
      exact ⟨rfl, HI.out.1.bel.trans (HB9.out.mono HI.out.1.bel.size)⟩
end Go.Proofs.Ytnnccahpgailiaa
