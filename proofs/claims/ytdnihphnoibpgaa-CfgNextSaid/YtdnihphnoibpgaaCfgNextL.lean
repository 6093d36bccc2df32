/- Layer 7: the law CfgNext, walked (mk_nxt.py). -/
import Derived.Test.YtdnihphnoibpgaaCfgK
import Derived.Deep.RegionHeld3
namespace Go.Proofs.Ytdnihphnoibpgaa
open Go.RowKit (wrap64 intOf Below)
set_option linter.unusedVariables false
set_option linter.unusedSimpArgs false

theorem tgV_lists {W : World} {e : EndD} {la : Option Addr} {ln lc : Nat} {ma : Option Addr} {mn mc : Nat} (hL : ListAt W la ln lc e.L) (hM : ListAt W ma mn mc e.M) : (tgV e.K e.To e.Else la ln lc ma mn mc).length = (tgts e).length ∧ ∀ k (h1 : k < (tgV e.K e.To e.Else la ln lc ma mn mc).length) (h2 : k < (tgts e).length), (tgV e.K e.To e.Else la ln lc ma mn mc)[k].1 = (tgts e)[k].1 ∧ ListAt W (tgV e.K e.To e.Else la ln lc ma mn mc)[k].2.1 (tgV e.K e.To e.Else la ln lc ma mn mc)[k].2.2.1 (tgV e.K e.To e.Else la ln lc ma mn mc)[k].2.2.2 (tgts e)[k].2 := by
  unfold tgV tgts
  by_cases h0 : e.K = 0
  · simp only [if_pos h0]
    refine ⟨rfl, fun k h1 h2 => ?_⟩
    have : k = 0 := by simp at h1; omega
    subst this
    exact ⟨rfl, hL⟩
  · by_cases h1 : e.K = 1
    · simp only [if_neg h0, if_pos h1]
      refine ⟨rfl, fun k h1 h2 => ?_⟩
      have : k = 0 ∨ k = 1 := by simp at h1; omega
      rcases this with rfl | rfl
      · exact ⟨rfl, hL⟩
      · exact ⟨rfl, hM⟩
    · simp only [if_neg h0, if_neg h1]
      exact ⟨rfl, fun k h1 h2 => absurd h1 (by simp)⟩
theorem meas_succ {k t : Nat} (h : k < t) (hw : wrap64 ((k : Int) + 1) = (k : Int) + 1) : t - (intOf (.int .i64 (wrap64 ((k : Int) + 1)))).toNat < t - (intOf (.int .i64 (k : Int))).toNat := by
  have e : (intOf (.int .i64 (wrap64 ((k : Int) + 1)))).toNat = k + 1 := by rw [hw]; rfl
  rw [e]
  exact Nat.sub_lt_sub_left h (Nat.lt_succ_self k)
theorem val_succ {k : Nat} (hw : wrap64 ((k : Int) + 1) = (k : Int) + 1) : Value.int .i64 (wrap64 ((k : Int) + 1)) = Value.int .i64 ((k + 1 : Nat) : Int) := by
  rw [hw]; rfl
theorem ahRow_end {f : FuncD} {m i : Nat} (h : i < (ahRow f m 0).length) : (ahRow f m 0)[i] = ahL f m i := by
  rw [ahRow_at]; simp

set_option maxRecDepth 100000 in
set_option maxHeartbeats 16000000 in
theorem nxt_walk (r : Int) (a : Option Addr) (n c : Nat) (f : FuncD) (w : World) (hrow : RowV BlockQ 8 w (.slice a n c) f.blocks) (hnc : n ≤ c) (hc : c ≤ 9223372036854775807) :
    Calls Try.prog 3 #[.agg #[.int .i64 r, .slice a n c]] w fun e w' => e = .returned (.bool true) ∧ Below w.heap.size w w' := by
  have hn : n ≤ 140737488351232 := by obtain ⟨_, _, _, e, _, _, h, _⟩ := hrow; cases e; exact h
  have hrow2 := hrow.few
  have hlen : fewN n = (fewF f).blocks.length := by obtain ⟨_, _, _, e, h, _⟩ := hrow2; cases e; exact h.symm
  have hn60 := fewN_le n
  have HFEW : RowKit.Hid (∀ u : World, Calls Try.prog 11 #[.agg #[.int .i64 r, .slice a n c]] u fun e w' => e = .returned (.agg #[.int .i64 r, .slice a (fewN n) c]) ∧ Below u.heap.size u w') := Lib.hid fun u => few_any r a n c u (by omega) hnc hc
  generalize fewF f = F at *
  generalize fewN n = m at *
  have HROW := Lib.hid hrow2
  have HLEN := Lib.hid hlen
  clear hrow hrow2 hlen hnc hc hn
  go_enter Try.func3, Try.ntmps3
  go_wp2_with (first
    | ((go_at_call 11; refine (HFEW.out _).mono ?_); rintro e w1 ⟨rfl, hb⟩; have hbl : w.heap.size < w1.heap.size := (by have := hb.size; simp at this; omega); have hheap : w1.heap[w.heap.size]? = some (.cells #[.int .i64 r, .slice a n c] 24 (0, 0)) := ((hb.block w.heap.size (by simp)).trans (World.alloc_heap_new w _)); have hx0 : w1.cell? ⟨w.heap.size, 0, none⟩ = some (.int .i64 r) := (by simp [World.cell?, hheap]); have hx1 : w1.cell? ⟨w.heap.size, 1, none⟩ = some (.slice a n c) := (by simp [World.cell?, hheap]); have hxf0 : w1.frozen? ⟨w.heap.size, 0, none⟩ = false := (by simp [World.frozen?, hheap]); have hxf1 : w1.frozen? ⟨w.heap.size, 1, none⟩ = false := (by simp [World.frozen?, hheap]); have HTC := Lib.hid (two_cells (u := .int .i64 r) (v := .slice a m c) hx0 hx1); have HB0 := Lib.hid (show Below w.heap.size w w1 from ((Below.refl w.heap.size w).alloc (Nat.le_refl _) _).trans (hb.mono (by simp))); clear hb hheap)
    | ((go_at_call 12; refine (ahead_any r a m c F _ (HROW.out.since BlockQ.lasts ((HB0.out.setCell (p := ⟨w.heap.size, 0, none⟩) (Nat.le_refl _) _).setCell (p := ⟨w.heap.size, 1, none⟩) (Nat.le_refl _) _)) (by omega)).mono ?_); rintro e w2 ⟨vs, rfl, hah⟩; have HST := Lib.hid (law_st HB0.out hbl HTC.out (Below.mono hah.bel (Nat.le_refl _)) (NumsAt.nil _ none)); have hrw := hah.row; simp only [World.setCell, Array.size_modify] at hrw; have HAH := Lib.hid hrw; have HVL := Lib.hid hah.len; have hc1 := HST.out.c1; clear hrw hah hbl hx0 hx1 hxf0 hxf1 HTC HB0))
  clear HFEW
  generalize w1.heap.size + 1 = gA at *
  clear hc1
  go_loopw [4] (fun v4 wr => ∃ i : Nat, i ≤ m ∧ v4 = .int .i64 (i : Int) ∧ RowKit.Hid (Below w2.heap.size w2 wr)) (fun v4 _ => m - (intOf v4).toNat)
  case atStart => exact ⟨0, Nat.zero_le _, rfl, Lib.hid (Below.refl _ _)⟩
  case round =>
    obtain ⟨i, hi, rfl, HI⟩ := hrel
    obtain ⟨wo, hwo⟩ : ∃ u, u = wr := ⟨_, rfl⟩
    rw [← hwo] at HI ⊢
    clear hwo
    have hc1 : wo.cell? ⟨w.heap.size, 1, none⟩ = some (.slice a m c) := (HI.out.cell (p := ⟨w.heap.size, 1, none⟩) HST.out.siz).trans HST.out.c1
    by_cases hlt : i < m
    · have HLT := Lib.hid hlt
      have hli : (i : Int) < (m : Int) := by omega
      have hi0 : (0 : Int) ≤ (i : Int) := by omega
      obtain ⟨g, off, pa, pn, pc, oa, on, oc, la, ln, lc, ma, mn, mc, rfl, hg, hblk, hlL, hlM⟩ := block_atL (HROW.out.since BlockQ.lasts HST.out.bel) hlt
      have hvl : i < vs.length := by rw [HVL.out]; exact hlt
      have hzl : i < (ahRow F m 0).length := by rw [← HAH.out.len]; exact hvl
      have hown := HAH.out.own i hvl hzl
      obtain ⟨xa, xn, xc, hxv, hxn⟩ := hown.nums
      have hcr : w2.cell? ⟨gA, i, none⟩ = some (.slice xa xn xc) := by rw [← hxv]; exact HAH.out.cell hvl
      have hgA : gA < w2.heap.size := World.block_lt_of_cell? (a := ⟨gA, i, none⟩) _ hcr
      have HXN : RowKit.Hid (NumsAt w2 xa xn (ahL F m i)) := Lib.hid (by rw [← ahRow_end hzl]; exact hxn)
      have hxn60 : xn ≤ 60 := by have h1 := HXN.out.1; have h2 := ahL_len F m i; omega
      have HNL : RowKit.Hid ((nxF F i).length ≤ 2) := Lib.hid (next_len _)
      have HNXF : RowKit.Hid (nextL (theEnd F i) = nxF F i) := Lib.hid rfl
      have HTV := Lib.hid (tgV_lists hlL hlM)
      have HTL : RowKit.Hid ((tgV (theEnd F i).K (theEnd F i).To (theEnd F i).Else la ln lc ma mn mc).length ≤ 2) := Lib.hid (tgV_len _ _ _ _ _ _ _ _ _)
      have CT : RowKit.Hid (∀ u, Below w2.heap.size w2 u → Calls Try.prog 13 #[.agg #[.int .i64 (theEnd F i).K, .int .i64 (theEnd F i).A, .int .i64 (theEnd F i).To, .int .i64 (theEnd F i).Else, .slice la ln lc, .slice ma mn mc]] u fun e' w' => ∃ va vn vc l, e' = .returned (.slice va vn vc) ∧ OwnsT w' u.heap.size (.slice va vn vc) l ∧ Cops w' u.heap.size l (tgts (theEnd F i)) ∧ Below u.heap.size u w') := Lib.hid fun u hb => ctargets_any (theEnd F i).A la ln lc ma mn mc (theEnd F i) u (hlL.since hb).1 hlL.2.1 hlL.2.2 (hlM.since hb).1 hlM.2.1 hlM.2.2
      have CU : RowKit.Hid (∀ u, Calls Try.prog 14 #[.agg #[.int .i64 (theEnd F i).K, .int .i64 (theEnd F i).A, .int .i64 (theEnd F i).To, .int .i64 (theEnd F i).Else, .slice la ln lc, .slice ma mn mc]] u fun e' w' => ∃ va vn vc, e' = .returned (.slice va vn vc) ∧ OwnsT w' u.heap.size (.slice va vn vc) (tgV (theEnd F i).K (theEnd F i).To (theEnd F i).Else la ln lc ma mn mc) ∧ Below u.heap.size u w') := Lib.hid fun u => reftargets_any (theEnd F i).K (theEnd F i).A (theEnd F i).To (theEnd F i).Else la ln lc ma mn mc u
      have CN : RowKit.Hid (∀ u, Calls Try.prog 16 #[.agg #[.slice pa pn pc, .slice oa on oc, .int .i64 (theEnd F i).K, .int .i64 (theEnd F i).A, .int .i64 (theEnd F i).To, .int .i64 (theEnd F i).Else, .slice la ln lc, .slice ma mn mc]] u fun e' w' => ∃ va vn vc, e' = .returned (.slice va vn vc) ∧ OwnsI w' u.heap.size 3 (.slice va vn vc) (nxF F i) ∧ Below u.heap.size u w') := Lib.hid fun u => by rw [← HNXF.out]; exact next_any pa pn pc oa on oc (theEnd F i).A la ln lc ma mn mc (theEnd F i) u
      have CM : RowKit.Hid (∀ u, Calls Try.prog 17 #[.agg #[.slice pa pn pc, .slice oa on oc, .int .i64 (theEnd F i).K, .int .i64 (theEnd F i).A, .int .i64 (theEnd F i).To, .int .i64 (theEnd F i).Else, .slice la ln lc, .slice ma mn mc]] u fun e' w' => ∃ va vn vc, e' = .returned (.slice va vn vc) ∧ OwnsI w' u.heap.size 3 (.slice va vn vc) (nxF F i) ∧ Below u.heap.size u w') := Lib.hid fun u => by rw [← HNXF.out]; exact refnext_any pa pn pc oa on oc (theEnd F i).A la ln lc ma mn mc (theEnd F i) u
      have CA : RowKit.Hid (∀ u, Below w2.heap.size w2 u → Calls Try.prog 18 #[.agg #[.int .i64 r, .slice (some ⟨g, off, none⟩) m c], .int .i64 (i : Int)] u fun e' w' => ∃ va vn vc, e' = .returned (.slice va vn vc) ∧ OwnsI w' u.heap.size 3 (.slice va vn vc) (ahL F m i) ∧ Below u.heap.size u w') := Lib.hid fun u hb => refahead_any r (some ⟨g, off, none⟩) m c F i u (HROW.out.since BlockQ.lasts (HST.out.bel.trans (hb.mono HST.out.bel.size))) (by omega)
      have HKT : RowKit.Hid (∀ u, Below w2.heap.size w2 u → (fun u : World => u.cell? ⟨w.heap.size, 0, none⟩ = some (.int .i64 r) ∧ u.cell? ⟨w.heap.size, 1, none⟩ = some (.slice (some ⟨g, off, none⟩) m c) ∧ u.cell? ⟨gA, i, none⟩ = some (.slice xa xn xc) ∧ u.cell? ⟨g, off + i * 8, none⟩ = some (.slice pa pn pc) ∧ u.cell? ⟨g, off + i * 8 + 1, none⟩ = some (.slice oa on oc) ∧ u.cell? ⟨g, off + i * 8 + 2, none⟩ = some (.int .i64 (theEnd F i).K) ∧ u.cell? ⟨g, off + i * 8 + 3, none⟩ = some (.int .i64 (theEnd F i).A) ∧ u.cell? ⟨g, off + i * 8 + 4, none⟩ = some (.int .i64 (theEnd F i).To) ∧ u.cell? ⟨g, off + i * 8 + 5, none⟩ = some (.int .i64 (theEnd F i).Else) ∧ u.cell? ⟨g, off + i * 8 + 6, none⟩ = some (.slice la ln lc) ∧ u.cell? ⟨g, off + i * 8 + 7, none⟩ = some (.slice ma mn mc)) u) := Lib.hid fun u hb => ⟨(hb.cell (p := ⟨w.heap.size, 0, none⟩) HST.out.siz).trans HST.out.c0, (hb.cell (p := ⟨w.heap.size, 1, none⟩) HST.out.siz).trans HST.out.c1, (hb.cell (p := ⟨gA, i, none⟩) hgA).trans hcr, hblk u hb⟩
      generalize tgts (theEnd F i) = TS at *
      generalize tgV (theEnd F i).K (theEnd F i).To (theEnd F i).Else la ln lc ma mn mc = TV at *
      generalize (theEnd F i).K = EK at *
      generalize (theEnd F i).A = EA at *
      generalize (theEnd F i).To = ET at *
      generalize (theEnd F i).Else = EE at *
      clear hblk hlL hlM hg hxn hvl hzl hown hxv hcr hgA HNXF
      have hk0 : Below w2.heap.size w2 wo.drew := HI.out.drew
      go_upto_region 8 with fail
      refine wp_region_held_drew (S := (fun u : World => u.cell? ⟨w.heap.size, 0, none⟩ = some (.int .i64 r) ∧ u.cell? ⟨w.heap.size, 1, none⟩ = some (.slice (some ⟨g, off, none⟩) m c) ∧ u.cell? ⟨gA, i, none⟩ = some (.slice xa xn xc) ∧ u.cell? ⟨g, off + i * 8, none⟩ = some (.slice pa pn pc) ∧ u.cell? ⟨g, off + i * 8 + 1, none⟩ = some (.slice oa on oc) ∧ u.cell? ⟨g, off + i * 8 + 2, none⟩ = some (.int .i64 EK) ∧ u.cell? ⟨g, off + i * 8 + 3, none⟩ = some (.int .i64 EA) ∧ u.cell? ⟨g, off + i * 8 + 4, none⟩ = some (.int .i64 ET) ∧ u.cell? ⟨g, off + i * 8 + 5, none⟩ = some (.int .i64 EE) ∧ u.cell? ⟨g, off + i * 8 + 6, none⟩ = some (.slice la ln lc) ∧ u.cell? ⟨g, off + i * 8 + 7, none⟩ = some (.slice ma mn mc))) (by kernel_rfl) (HKT.out _ hk0) (fun hHeld => ?_)
      refine wpAnyH_take (i := 0) (oi := ⟨some 25, _, _, _, _, _⟩) (v := ?_) rfl (by kernel_rfl) (by kernel_rfl) (by kernel_rfl) (fun _ _ _ h => h) (Or.inl ⟨by rfl, ?_⟩) (by assumption) ?_
      rotate_left
      · ((intro w hSw; (try dsimp only at hSw); go_simp); try with_reducible rfl)
      (try simp only [Act.put, List.setIfInBounds_toArray, List.set_cons_zero, List.set_cons_succ])
      refine wpAnyH_take (i := 1) (oi := ⟨some 26, _, _, _, _, _⟩) (v := ?_) rfl (by kernel_rfl) (by kernel_rfl) (by kernel_rfl) (fun _ _ _ h => h) (Or.inl ⟨by rfl, ?_⟩) (by assumption) ?_
      rotate_left
      · ((intro w hSw; (try dsimp only at hSw); go_simp); try with_reducible rfl)
      (try simp only [Act.put, List.setIfInBounds_toArray, List.set_cons_zero, List.set_cons_succ])
      refine wpAnyH_take (i := 2) (oi := ⟨some 27, _, _, _, _, _⟩) (v := ?_) rfl (by kernel_rfl) (by kernel_rfl) (by kernel_rfl) (fun _ _ _ h => h) (Or.inl ⟨by rfl, ?_⟩) (by assumption) ?_
      rotate_left
      · ((intro w hSw; (try dsimp only at hSw); go_simp); try with_reducible rfl)
      (try simp only [Act.put, List.setIfInBounds_toArray, List.set_cons_zero, List.set_cons_succ])
      refine wpAnyH_take (i := 3) (oi := ⟨some 28, _, _, _, _, _⟩) (v := ?_) rfl (by kernel_rfl) (by kernel_rfl) (by kernel_rfl) (fun _ _ _ h => h) (Or.inl ⟨by rfl, ?_⟩) (by assumption) ?_
      rotate_left
      · ((intro w hSw; (try dsimp only at hSw); go_simp); try with_reducible rfl)
      (try simp only [Act.put, List.setIfInBounds_toArray, List.set_cons_zero, List.set_cons_succ])
      refine wpAnyH_take (i := 4) (oi := ⟨some 29, _, _, _, _, _⟩) (v := ?_) rfl (by kernel_rfl) (by kernel_rfl) (by kernel_rfl) (fun _ _ _ h => h) (Or.inl ⟨by rfl, ?_⟩) (by assumption) ?_
      rotate_left
      · ((intro w hSw; (try dsimp only at hSw); go_simp); try with_reducible rfl)
      (try simp only [Act.put, List.setIfInBounds_toArray, List.set_cons_zero, List.set_cons_succ])
      refine wpAnyH_take (i := 5) (oi := ⟨some 30, _, _, _, _, _⟩) (v := ?_) rfl (by kernel_rfl) (by kernel_rfl) (by kernel_rfl) (fun _ _ _ h => h) (Or.inl ⟨by rfl, ?_⟩) (by assumption) ?_
      rotate_left
      · ((intro w hSw; (try dsimp only at hSw); go_simp); try with_reducible rfl)
      (try simp only [Act.put, List.setIfInBounds_toArray, List.set_cons_zero, List.set_cons_succ])
      refine wpAnyH_take (i := 7) (oi := ⟨some 32, _, _, _, _, _⟩) (v := ?_) rfl (by kernel_rfl) (by kernel_rfl) (by kernel_rfl) (fun _ _ _ h => h) (Or.inl ⟨by rfl, ?_⟩) (by assumption) ?_
      rotate_left
      · ((intro w hSw; (try dsimp only at hSw); go_simp); try with_reducible rfl)
      (try simp only [Act.put, List.setIfInBounds_toArray, List.set_cons_zero, List.set_cons_succ])
      refine wpAnyH_take (i := 8) (oi := ⟨some 33, _, _, _, _, _⟩) (v := ?_) rfl (by kernel_rfl) (by kernel_rfl) (by kernel_rfl) (fun _ _ _ h => h) (Or.inl ⟨by rfl, ?_⟩) (by assumption) ?_
      rotate_left
      · ((intro w hSw; (try dsimp only at hSw); go_simp); try with_reducible rfl)
      (try simp only [Act.put, List.setIfInBounds_toArray, List.set_cons_zero, List.set_cons_succ])
      refine wpAnyH_take (i := 9) (oi := ⟨some 34, _, _, _, _, _⟩) (v := ?_) rfl (by kernel_rfl) (by kernel_rfl) (by kernel_rfl) (fun _ _ _ h => h) (Or.inl ⟨by rfl, ?_⟩) (by assumption) ?_
      rotate_left
      · ((intro w hSw; (try dsimp only at hSw); go_simp); try with_reducible rfl)
      (try simp only [Act.put, List.setIfInBounds_toArray, List.set_cons_zero, List.set_cons_succ])
      refine wpAnyH_take (i := 10) (oi := ⟨some 35, _, _, _, _, _⟩) (v := ?_) rfl (by kernel_rfl) (by kernel_rfl) (by kernel_rfl) (fun _ _ _ h => h) (Or.inl ⟨by rfl, ?_⟩) (by assumption) ?_
      rotate_left
      · ((intro w hSw; (try dsimp only at hSw); go_simp); try with_reducible rfl)
      (try simp only [Act.put, List.setIfInBounds_toArray, List.set_cons_zero, List.set_cons_succ])
      refine wpAnyH_take (i := 11) (oi := ⟨some 36, _, _, _, _, _⟩) (v := ?_) rfl (by kernel_rfl) (by kernel_rfl) (by kernel_rfl) (fun _ _ _ h => h) (Or.inl ⟨by rfl, ?_⟩) (by assumption) ?_
      rotate_left
      · ((intro w hSw; (try dsimp only at hSw); go_simp); try with_reducible rfl)
      (try simp only [Act.put, List.setIfInBounds_toArray, List.set_cons_zero, List.set_cons_succ])
      refine wpAnyH_take (i := 12) (oi := ⟨some 37, _, _, _, _, _⟩) (v := ?_) rfl (by kernel_rfl) (by kernel_rfl) (by kernel_rfl) (fun _ _ _ h => h) (Or.inl ⟨by rfl, ?_⟩) (by assumption) ?_
      rotate_left
      · ((intro w hSw; (try dsimp only at hSw); go_simp); try with_reducible rfl)
      (try simp only [Act.put, List.setIfInBounds_toArray, List.set_cons_zero, List.set_cons_succ])
      refine wpAnyH_ready (rs := [6]) (by kernel_rfl) (by simp) (AllReadyH.cons rfl (fun K hK => ?_) AllReadyH.nil)
      rw [if_pos (by rfl)]
      go_simp
      go_at_call 13
      (with_reducible refine (CT.out _ hk0).mono ?_)
      rintro e v1 ⟨ta, tn, tc, tl, rfl, ho1, hco1, hb1⟩
      have hk1 : Below w2.heap.size w2 v1 := hk0.trans (hb1.mono hk0.size)
      have HO1 := Lib.hid ho1
      have HC1 := Lib.hid hco1
      clear ho1 hco1 hb1
      refine hK.out _ _ (HKT.out _ hk1) (fun hHeld => ?_)
      clear hK K
      (try simp only [Act.put, List.setIfInBounds_toArray, List.set_cons_zero, List.set_cons_succ])
      refine wpAnyH_ready (rs := [13]) (by kernel_rfl) (by simp) (AllReadyH.cons rfl (fun K hK => ?_) AllReadyH.nil)
      rw [if_pos (by rfl)]
      go_simp
      go_at_call 14
      (with_reducible refine (CU.out _).mono ?_)
      rintro e v2 ⟨ua, un, uc, rfl, ho2, hb2⟩
      have hk2 : Below w2.heap.size w2 v2 := hk1.trans (hb2.mono hk1.size)
      have HO2 := Lib.hid ho2
      have HB2 := Lib.hid hb2
      clear ho2 hb2
      refine hK.out _ _ (HKT.out _ hk2) (fun hHeld => ?_)
      clear hK K
      (try simp only [Act.put, List.setIfInBounds_toArray, List.set_cons_zero, List.set_cons_succ])
      refine wpAnyH_take (i := 14) (oi := ⟨some 5, _, _, _, _, _⟩) (v := ?_) rfl (by kernel_rfl) (by kernel_rfl) (by kernel_rfl) (fun _ _ _ h => h) (Or.inl ⟨by rfl, ?_⟩) (by assumption) ?_
      rotate_left
      · ((intro w hSw; (try dsimp only at hSw); go_simp); try with_reducible rfl)
      (try simp only [Act.put, List.setIfInBounds_toArray, List.set_cons_zero, List.set_cons_succ])
      refine wpAnyH_take (i := 15) (oi := ⟨some 6, _, _, _, _, _⟩) (v := ?_) rfl (by kernel_rfl) (by kernel_rfl) (by kernel_rfl) (fun _ _ _ h => h) (Or.inl ⟨by rfl, ?_⟩) (by assumption) ?_
      rotate_left
      · ((intro w hSw; (try dsimp only at hSw); go_simp); try with_reducible rfl)
      (try simp only [Act.put, List.setIfInBounds_toArray, List.set_cons_zero, List.set_cons_succ])
      refine wpAnyH_done (by kernel_rfl) ?_ _
      as_aux_lemma =>
        have HW2 : RowKit.Hid (Below w2.heap.size w2 v2) := Lib.hid hk2
        have HT2 : RowKit.Hid (OwnsT v2 w2.heap.size (.slice ta tn tc) tl ∧ Cops v2 w2.heap.size tl TS) := Lib.hid ⟨(HO1.out.below HB2.out).mono hk0.size, HC1.out.all fun x t hx => ⟨hx.1, (hx.2.below HB2.out).mono hk0.size⟩⟩
        clear HO1 HC1 CT CU hHeld hk1
        have hkd : Below w2.heap.size w2 v2.drew := hk2.drew
        go_upto_region 9 with fail
        have HTN : RowKit.Hid (tn = TS.length ∧ un = TV.length ∧ tn = un) := Lib.hid (by have h1 := HT2.out.1.read.1; have h2 := HT2.out.2.len; have h3 := HO2.out.read.1; have h4 := HTV.out.1; exact ⟨by omega, by omega, by omega⟩)
        have htu : tn = un := HTN.out.2.2
        subst htu
        refine wp_region_held_drew (S := (fun u : World => u.cell? ⟨w.heap.size, 0, none⟩ = some (.int .i64 r) ∧ u.cell? ⟨w.heap.size, 1, none⟩ = some (.slice (some ⟨g, off, none⟩) m c) ∧ u.cell? ⟨gA, i, none⟩ = some (.slice xa xn xc) ∧ u.cell? ⟨g, off + i * 8, none⟩ = some (.slice pa pn pc) ∧ u.cell? ⟨g, off + i * 8 + 1, none⟩ = some (.slice oa on oc) ∧ u.cell? ⟨g, off + i * 8 + 2, none⟩ = some (.int .i64 EK) ∧ u.cell? ⟨g, off + i * 8 + 3, none⟩ = some (.int .i64 EA) ∧ u.cell? ⟨g, off + i * 8 + 4, none⟩ = some (.int .i64 ET) ∧ u.cell? ⟨g, off + i * 8 + 5, none⟩ = some (.int .i64 EE) ∧ u.cell? ⟨g, off + i * 8 + 6, none⟩ = some (.slice la ln lc) ∧ u.cell? ⟨g, off + i * 8 + 7, none⟩ = some (.slice ma mn mc))) (by kernel_rfl) (HKT.out _ hkd) (fun hHeld => ?_)
        refine wpAnyH_take (i := 0) (oi := ⟨some 39, _, _, _, _, _⟩) (v := ?_) rfl (by kernel_rfl) (by kernel_rfl) (by kernel_rfl) (fun _ _ _ h => h) (Or.inl ⟨by rfl, ?_⟩) (by assumption) ?_
        rotate_left
        · ((intro w hSw; (try dsimp only at hSw); go_simp); try with_reducible rfl)
        (try simp only [Act.put, List.setIfInBounds_toArray, List.set_cons_zero, List.set_cons_succ])
        refine wpAnyH_take (i := 1) (oi := ⟨some 40, _, _, _, _, _⟩) (v := ?_) rfl (by kernel_rfl) (by kernel_rfl) (by kernel_rfl) (fun _ _ _ h => h) (Or.inl ⟨by rfl, ?_⟩) (by assumption) ?_
        rotate_left
        · ((intro w hSw; (try dsimp only at hSw); go_simp); try with_reducible rfl)
        (try simp only [Act.put, List.setIfInBounds_toArray, List.set_cons_zero, List.set_cons_succ])
        refine wpAnyH_take (i := 2) (oi := ⟨some 41, _, _, _, _, _⟩) (v := ?_) rfl (by kernel_rfl) (by kernel_rfl) (by kernel_rfl) (fun _ _ _ h => h) (Or.inl ⟨by rfl, ?_⟩) (by assumption) ?_
        rotate_left
        · ((intro w hSw; (try dsimp only at hSw); go_simp); try with_reducible rfl)
        (try simp only [Act.put, List.setIfInBounds_toArray, List.set_cons_zero, List.set_cons_succ])
        refine wpAnyH_take (i := 3) (oi := ⟨some 42, _, _, _, _, _⟩) (v := ?_) rfl (by kernel_rfl) (by kernel_rfl) (by kernel_rfl) (fun _ _ _ h => h) (Or.inl ⟨by rfl, ?_⟩) (by assumption) ?_
        rotate_left
        · ((intro w hSw; (try dsimp only at hSw); go_simp); try with_reducible rfl)
        (try simp only [Act.put, List.setIfInBounds_toArray, List.set_cons_zero, List.set_cons_succ])
        refine wpAnyH_take (i := 4) (oi := ⟨some 43, _, _, _, _, _⟩) (v := ?_) rfl (by kernel_rfl) (by kernel_rfl) (by kernel_rfl) (fun _ _ _ h => h) (Or.inl ⟨by rfl, ?_⟩) (by assumption) ?_
        rotate_left
        · ((intro w hSw; (try dsimp only at hSw); go_simp); try with_reducible rfl)
        (try simp only [Act.put, List.setIfInBounds_toArray, List.set_cons_zero, List.set_cons_succ])
        refine wpAnyH_take (i := 6) (oi := ⟨some 45, _, _, _, _, _⟩) (v := ?_) rfl (by kernel_rfl) (by kernel_rfl) (by kernel_rfl) (fun _ _ _ h => h) (Or.inl ⟨by rfl, ?_⟩) (by assumption) ?_
        rotate_left
        · ((intro w hSw; (try dsimp only at hSw); go_simp); try with_reducible rfl)
        (try simp only [Act.put, List.setIfInBounds_toArray, List.set_cons_zero, List.set_cons_succ])
        as_aux_lemma =>
          refine wpAnyH_take (i := 7) (oi := ⟨some 46, _, _, _, _, _⟩) (v := ?_) rfl (by kernel_rfl) (by kernel_rfl) (by kernel_rfl) (fun _ _ _ h => h) (Or.inl ⟨by rfl, ?_⟩) (by assumption) ?_
          rotate_left
          · ((intro w hSw; (try dsimp only at hSw); go_simp); try with_reducible rfl)
          (try simp only [Act.put, List.setIfInBounds_toArray, List.set_cons_zero, List.set_cons_succ])
          refine wpAnyH_take (i := 8) (oi := ⟨some 47, _, _, _, _, _⟩) (v := ?_) rfl (by kernel_rfl) (by kernel_rfl) (by kernel_rfl) (fun _ _ _ h => h) (Or.inl ⟨by rfl, ?_⟩) (by assumption) ?_
          rotate_left
          · ((intro w hSw; (try dsimp only at hSw); go_simp); try with_reducible rfl)
          (try simp only [Act.put, List.setIfInBounds_toArray, List.set_cons_zero, List.set_cons_succ])
          refine wpAnyH_take (i := 9) (oi := ⟨some 48, _, _, _, _, _⟩) (v := ?_) rfl (by kernel_rfl) (by kernel_rfl) (by kernel_rfl) (fun _ _ _ h => h) (Or.inl ⟨by rfl, ?_⟩) (by assumption) ?_
          rotate_left
          · ((intro w hSw; (try dsimp only at hSw); go_simp); try with_reducible rfl)
          (try simp only [Act.put, List.setIfInBounds_toArray, List.set_cons_zero, List.set_cons_succ])
          refine wpAnyH_take (i := 10) (oi := ⟨some 49, _, _, _, _, _⟩) (v := ?_) rfl (by kernel_rfl) (by kernel_rfl) (by kernel_rfl) (fun _ _ _ h => h) (Or.inl ⟨by rfl, ?_⟩) (by assumption) ?_
          rotate_left
          · ((intro w hSw; (try dsimp only at hSw); go_simp); try with_reducible rfl)
          (try simp only [Act.put, List.setIfInBounds_toArray, List.set_cons_zero, List.set_cons_succ])
          refine wpAnyH_ready (rs := [5]) (by kernel_rfl) (by simp) (AllReadyH.cons rfl (fun K hK => ?_) AllReadyH.nil)
          rw [if_pos (by rfl)]
          go_simp
          go_at_call 16
          (with_reducible refine (CN.out _).mono ?_)
          rintro e v3 ⟨ya, yn, yc, rfl, ho3, hb3⟩
          have hk3 : Below w2.heap.size w2 v3 := hkd.trans (hb3.mono hkd.size)
          have HO3 := Lib.hid ho3
          have HD3 : RowKit.Hid (Below v2.heap.size v2 v3) := Lib.hid ((Below.refl _ v2).drew.trans hb3)
          clear ho3 hb3
          refine hK.out _ _ (HKT.out _ hk3) (fun hHeld => ?_)
          clear hK K
          (try simp only [Act.put, List.setIfInBounds_toArray, List.set_cons_zero, List.set_cons_succ])
          refine wpAnyH_ready (rs := [11]) (by kernel_rfl) (by simp) (AllReadyH.cons rfl (fun K hK => ?_) AllReadyH.nil)
          rw [if_pos (by rfl)]
          go_simp
          go_at_call 17
          (with_reducible refine (CM.out _).mono ?_)
          rintro e v4 ⟨za, zn, zc, rfl, ho4, hb4⟩
          have hk4 : Below w2.heap.size w2 v4 := hk3.trans (hb4.mono hk3.size)
          have hyn : yn ≤ 2 := by have := HO3.out.read.1; have := HNL.out; omega
          have hzn : zn ≤ 2 := by have := ho4.read.1; have := HNL.out; omega
          have HX1 := Lib.hid (ints_any ya za yn zn yc zc (nxF F i) (nxF F i) v4 (HO3.out.read.since hb4) ho4.read (by omega) (by omega))
          have HD4 : RowKit.Hid (Below v2.heap.size v2 v4) := Lib.hid (HD3.out.trans (hb4.mono HD3.out.size))
          clear ho4 hb4 hyn hzn
          refine hK.out _ _ (HKT.out _ hk4) (fun hHeld => ?_)
          clear hK K
          (try simp only [Act.put, List.setIfInBounds_toArray, List.set_cons_zero, List.set_cons_succ])
          refine wpAnyH_ready (rs := [12]) (by kernel_rfl) (by simp) (AllReadyH.cons rfl (fun K hK => ?_) AllReadyH.nil)
          rw [if_pos (by rfl)]
          go_simp
          go_at_call 15
          (with_reducible refine HX1.out.mono ?_)
          rintro e v5 ⟨rfl, q5, rfl⟩
          rw [show sameB (nxF F i) (nxF F i) = true from decide_eq_true rfl]
          have hk5 : Below w2.heap.size w2 (v4.drewN q5) := below_drewN q5 hk4
          have HD5 : RowKit.Hid (Below v2.heap.size v2 (v4.drewN q5)) := Lib.hid (below_drewN q5 HD4.out)
          generalize v4.drewN q5 = v5 at hk5 HD5 ⊢
          refine hK.out _ _ (HKT.out _ hk5) (fun hHeld => ?_)
          clear hK K
          (try simp only [Act.put, List.setIfInBounds_toArray, List.set_cons_zero, List.set_cons_succ])
          as_aux_lemma =>
            refine wpAnyH_take (i := 13) (oi := ⟨some 52, _, _, _, _, _⟩) (v := ?_) rfl (by kernel_rfl) (by kernel_rfl) (by kernel_rfl) (fun _ _ _ h => h) (Or.inl ⟨by rfl, ?_⟩) (by assumption) ?_
            rotate_left
            · ((intro w hSw; (try dsimp only at hSw); go_simp); try with_reducible rfl)
            (try simp only [Act.put, List.setIfInBounds_toArray, List.set_cons_zero, List.set_cons_succ])
            refine wpAnyH_take (i := 14) (oi := ⟨some 53, _, _, _, _, _⟩) (v := ?_) rfl (by kernel_rfl) (by kernel_rfl) (by kernel_rfl) (fun _ _ _ h => h) (Or.inl ⟨by rfl, ?_⟩) (by assumption) ?_
            rotate_left
            · ((intro w hSw; (try dsimp only at hSw); go_simp); try with_reducible rfl)
            (try simp only [Act.put, List.setIfInBounds_toArray, List.set_cons_zero, List.set_cons_succ])
            refine wpAnyH_take (i := 15) (oi := ⟨some 54, _, _, _, _, _⟩) (v := ?_) rfl (by kernel_rfl) (by kernel_rfl) (by kernel_rfl) (fun _ _ _ h => h) (Or.inl ⟨by rfl, ?_⟩) (by assumption) ?_
            rotate_left
            · ((intro w hSw; (try dsimp only at hSw); go_simp); try with_reducible rfl)
            (try simp only [Act.put, List.setIfInBounds_toArray, List.set_cons_zero, List.set_cons_succ])
            refine wpAnyH_take (i := 16) (oi := ⟨some 55, _, _, _, _, _⟩) (v := ?_) rfl (by kernel_rfl) (by kernel_rfl) (by kernel_rfl) (fun _ _ _ h => h) (Or.inl ⟨by rfl, ?_⟩) (by assumption) ?_
            rotate_left
            · ((intro w hSw; (try dsimp only at hSw); go_simp); try with_reducible rfl)
            (try simp only [Act.put, List.setIfInBounds_toArray, List.set_cons_zero, List.set_cons_succ])
            refine wpAnyH_take (i := 17) (oi := ⟨some 56, _, _, _, _, _⟩) (v := ?_) rfl (by kernel_rfl) (by kernel_rfl) (by kernel_rfl) (fun _ _ _ h => h) (Or.inl ⟨by rfl, ?_⟩) (by assumption) ?_
            rotate_left
            · ((intro w hSw; (try dsimp only at hSw); go_simp); try with_reducible rfl)
            (try simp only [Act.put, List.setIfInBounds_toArray, List.set_cons_zero, List.set_cons_succ])
            refine wpAnyH_take (i := 18) (oi := ⟨some 57, _, _, _, _, _⟩) (v := ?_) rfl (by kernel_rfl) (by kernel_rfl) (by kernel_rfl) (fun _ _ _ h => h) (Or.inl ⟨by rfl, ?_⟩) (by assumption) ?_
            rotate_left
            · ((intro w hSw; (try dsimp only at hSw); go_simp); try with_reducible rfl)
            (try simp only [Act.put, List.setIfInBounds_toArray, List.set_cons_zero, List.set_cons_succ])
            refine wpAnyH_take (i := 19) (oi := ⟨some 58, _, _, _, _, _⟩) (v := ?_) rfl (by kernel_rfl) (by kernel_rfl) (by kernel_rfl) (fun _ _ _ h => h) (Or.inl ⟨by rfl, ?_⟩) (by assumption) ?_
            rotate_left
            · ((intro w hSw; (try dsimp only at hSw); go_simp); try with_reducible rfl)
            (try simp only [Act.put, List.setIfInBounds_toArray, List.set_cons_zero, List.set_cons_succ])
            as_aux_lemma =>
              refine wpAnyH_take (i := 20) (oi := ⟨some 59, _, _, _, _, _⟩) (v := ?_) rfl (by kernel_rfl) (by kernel_rfl) (by kernel_rfl) (fun _ _ _ h => h) (Or.inl ⟨by rfl, ?_⟩) (by assumption) ?_
              rotate_left
              · ((intro w hSw; (try dsimp only at hSw); go_simp); try with_reducible rfl)
              (try simp only [Act.put, List.setIfInBounds_toArray, List.set_cons_zero, List.set_cons_succ])
              refine wpAnyH_ready (rs := [21]) (by kernel_rfl) (by simp) (AllReadyH.cons rfl (fun K hK => ?_) AllReadyH.nil)
              rw [if_pos (by rfl)]
              go_simp
              go_at_call 18
              (with_reducible refine (CA.out _ hk5).mono ?_)
              rintro e v6 ⟨ja, jn, jc, rfl, ho6, hb6⟩
              have hk6 : Below w2.heap.size w2 v6 := hk5.trans (hb6.mono hk5.size)
              have hjn : jn ≤ 60 := by have h1 := ho6.read.1; have h2 := ahL_len F m i; omega
              have HX2 := Lib.hid (ints_any xa ja xn jn xc jc (ahL F m i) (ahL F m i) v6 (HXN.out.since hk6) ho6.read (by omega) (by omega))
              have HD6 : RowKit.Hid (Below v2.heap.size v2 v6) := Lib.hid (HD5.out.trans (hb6.mono HD5.out.size))
              clear ho6 hb6 hjn
              refine hK.out _ _ (HKT.out _ hk6) (fun hHeld => ?_)
              clear hK K
              (try simp only [Act.put, List.setIfInBounds_toArray, List.set_cons_zero, List.set_cons_succ])
              refine wpAnyH_ready (rs := [22]) (by kernel_rfl) (by simp) (AllReadyH.cons rfl (fun K hK => ?_) AllReadyH.nil)
              rw [if_pos (by rfl)]
              go_simp
              go_at_call 15
              (with_reducible refine HX2.out.mono ?_)
              rintro e v7 ⟨rfl, q7, rfl⟩
              rw [show sameB (ahL F m i) (ahL F m i) = true from decide_eq_true rfl]
              have hk7 : Below w2.heap.size w2 (v6.drewN q7) := below_drewN q7 hk6
              have HD7 : RowKit.Hid (Below v2.heap.size v2 (v6.drewN q7)) := Lib.hid (below_drewN q7 HD6.out)
              generalize v6.drewN q7 = v8 at hk7 HD7 ⊢
              refine hK.out _ _ (HKT.out _ hk7) (fun hHeld => ?_)
              clear hK K
              (try simp only [Act.put, List.setIfInBounds_toArray, List.set_cons_zero, List.set_cons_succ])
              refine wpAnyH_take (i := 23) (oi := ⟨some 62, _, _, _, _, _⟩) (v := ?_) rfl (by kernel_rfl) (by kernel_rfl) (by kernel_rfl) (fun _ _ _ h => h) (Or.inl ⟨by rfl, ?_⟩) (by assumption) ?_
              rotate_left
              · ((intro w hSw; (try dsimp only at hSw); go_simp); try with_reducible rfl)
              (try simp only [Act.put, List.setIfInBounds_toArray, List.set_cons_zero, List.set_cons_succ])
              refine wpAnyH_take (i := 24) (oi := ⟨some 63, _, _, _, _, _⟩) (v := ?_) rfl (by kernel_rfl) (by kernel_rfl) (by kernel_rfl) (fun _ _ _ h => h) (Or.inl ⟨by rfl, ?_⟩) (by assumption) ?_
              rotate_left
              · ((intro w hSw; (try dsimp only at hSw); go_simp); try with_reducible rfl)
              (try simp only [Act.put, List.setIfInBounds_toArray, List.set_cons_zero, List.set_cons_succ])
              refine wpAnyH_take (i := 25) (oi := ⟨some 64, _, _, _, _, _⟩) (v := ?_) rfl (by kernel_rfl) (by kernel_rfl) (by kernel_rfl) (fun _ _ _ h => h) (Or.inl ⟨by rfl, ?_⟩) (by assumption) ?_
              rotate_left
              · ((intro w hSw; (try dsimp only at hSw); go_simp); try with_reducible rfl)
              (try simp only [Act.put, List.setIfInBounds_toArray, List.set_cons_zero, List.set_cons_succ])
              refine wpAnyH_take (i := 26) (oi := ⟨some 65, _, _, _, _, _⟩) (v := ?_) rfl (by kernel_rfl) (by kernel_rfl) (by kernel_rfl) (fun _ _ _ h => h) (Or.inl ⟨by rfl, ?_⟩) (by assumption) ?_
              rotate_left
              · ((intro w hSw; (try dsimp only at hSw); go_simp); try with_reducible rfl)
              (try simp only [Act.put, List.setIfInBounds_toArray, List.set_cons_zero, List.set_cons_succ])
              as_aux_lemma =>
                refine wpAnyH_take (i := 27) (oi := ⟨some 66, _, _, _, _, _⟩) (v := ?_) rfl (by kernel_rfl) (by kernel_rfl) (by kernel_rfl) (fun _ _ _ h => h) (Or.inl ⟨by rfl, ?_⟩) (by assumption) ?_
                rotate_left
                · ((intro w hSw; (try dsimp only at hSw); go_simp); try with_reducible rfl)
                (try simp only [Act.put, List.setIfInBounds_toArray, List.set_cons_zero, List.set_cons_succ])
                refine wpAnyH_take (i := 28) (oi := ⟨some 67, _, _, _, _, _⟩) (v := ?_) rfl (by kernel_rfl) (by kernel_rfl) (by kernel_rfl) (fun _ _ _ h => h) (Or.inl ⟨by rfl, ?_⟩) (by assumption) ?_
                rotate_left
                · ((intro w hSw; (try dsimp only at hSw); go_simp); try with_reducible rfl)
                (try simp only [Act.put, List.setIfInBounds_toArray, List.set_cons_zero, List.set_cons_succ])
                refine wpAnyH_take (i := 29) (oi := ⟨some 68, _, _, _, _, _⟩) (v := ?_) rfl (by kernel_rfl) (by kernel_rfl) (by kernel_rfl) (fun _ _ _ h => h) (Or.inl ⟨by rfl, ?_⟩) (by assumption) ?_
                rotate_left
                · ((intro w hSw; (try dsimp only at hSw); go_simp); try with_reducible rfl)
                (try simp only [Act.put, List.setIfInBounds_toArray, List.set_cons_zero, List.set_cons_succ])
                refine wpAnyH_take (i := 30) (oi := ⟨some 69, _, _, _, _, _⟩) (v := ?_) rfl (by kernel_rfl) (by kernel_rfl) (by kernel_rfl) (fun _ _ _ h => h) (Or.inl ⟨by rfl, ?_⟩) (by assumption) ?_
                rotate_left
                · ((intro w hSw; (try dsimp only at hSw); go_simp); try with_reducible rfl)
                (try simp only [Act.put, List.setIfInBounds_toArray, List.set_cons_zero, List.set_cons_succ])
                refine wpAnyH_take (i := 31) (oi := ⟨some 70, _, _, _, _, _⟩) (v := ?_) rfl (by kernel_rfl) (by kernel_rfl) (by kernel_rfl) (fun _ _ _ h => h) (Or.inl ⟨by rfl, ?_⟩) (by assumption) ?_
                rotate_left
                · ((intro w hSw; (try dsimp only at hSw); go_simp); try with_reducible rfl)
                (try simp only [Act.put, List.setIfInBounds_toArray, List.set_cons_zero, List.set_cons_succ])
                refine wpAnyH_done (by kernel_rfl) ?_ _
                as_aux_lemma =>
                  have HK7 := Lib.hid hk7
                  clear hk0 hk2 hkd hk3 hk4 hk5 hk6 hk7 hHeld CN CM CA HX1 HX2 HD3 HD4 HD5 HD6 HO3
                  go_wp2_with fail
                  go_loopw [7] (fun v7 wr => ∃ k : Nat, k ≤ tn ∧ v7 = .int .i64 (k : Int) ∧ RowKit.Hid (Below v8.heap.size v8 wr)) (fun v7 _ => tn - (intOf v7).toNat)
                  case atStart => exact ⟨0, Nat.zero_le _, rfl, Lib.hid (Below.refl _ _)⟩
                  case round =>
                    obtain ⟨k, hk, rfl, HQ⟩ := hrel
                    obtain ⟨wq, hwq⟩ : ∃ u, u = wr := ⟨_, rfl⟩
                    rw [← hwq] at HQ ⊢
                    clear hwq
                    have hwk : wrap64 ((k : Int) + 1) = (k : Int) + 1 := by have := HTN.out.2.1; have := HTL.out; unfold wrap64; omega
                    by_cases hkl : k < tn
                    · have HKL := Lib.hid hkl
                      have hkt : k < TS.length := by rw [← HTN.out.1]; exact hkl
                      have hkv : k < TV.length := by rw [← HTN.out.2.1]; exact hkl
                      have hkl2 : k < tl.length := by rw [HT2.out.2.len]; exact hkt
                      have hr1 := HT2.out.1.read.2
                      obtain ⟨gt, rfl, _, hgt, hct⟩ := hr1 (by omega)
                      have hr2 := HO2.out.read.2
                      obtain ⟨gu, rfl, _, hgu, hcu⟩ := hr2 (by omega)
                      obtain ⟨c1, c2⟩ := hct k hkl2
                      obtain ⟨d1, d2⟩ := hcu k hkv
                      obtain ⟨e1, e2⟩ := HT2.out.2.at k hkl2 hkt
                      obtain ⟨i1, i2, i3, i4⟩ := HTV.out.2 k hkv hkt
                      obtain ⟨z, hz⟩ : ∃ z, z = TS[k].1 := ⟨_, rfl⟩
                      rw [e1, ← hz] at c1
                      rw [i1, ← hz] at d1
                      generalize tl[k] = X at *
                      generalize TV[k] = Y at *
                      generalize TS[k].2 = Z at *
                      obtain ⟨x1, xa1, xn1, xc1⟩ := X
                      obtain ⟨y1, ya1, yn1, yc1⟩ := Y
                      dsimp only at c1 c2 d1 d2 e1 e2 i1 i2 i3 i4
                      have h2x : NumsAt v2 xa1 xn1 Z := e2.read
                      have h2y : NumsAt v2 ya1 yn1 Z := i2.since HW2.out
                      have hl1 : xn1 = yn1 := h2x.1.symm.trans h2y.1
                      subst hl1
                      have HIN : RowKit.Hid (∀ u, Below v8.heap.size v8 u → Calls Try.prog 15 #[.slice xa1 xn1 xc1, .slice ya1 xn1 yc1] u (BoolPost (sameB Z Z) u)) := Lib.hid fun u hb => ints_any xa1 ya1 xn1 xn1 xc1 yc1 Z Z u (h2x.since (HD7.out.trans (hb.mono HD7.out.size))) (h2y.since (HD7.out.trans (hb.mono HD7.out.size))) (by omega) (by omega)
                      have HK2 : RowKit.Hid (∀ u, Below v8.heap.size v8 u → (fun u : World => u.cell? ⟨gt, k * 2, none⟩ = some (.int .i64 z) ∧ u.cell? ⟨gt, k * 2 + 1, none⟩ = some (.slice xa1 xn1 xc1) ∧ u.cell? ⟨gu, k * 2, none⟩ = some (.int .i64 z) ∧ u.cell? ⟨gu, k * 2 + 1, none⟩ = some (.slice ya1 xn1 yc1)) u) := Lib.hid fun u hb => by
                        have hb2 := HD7.out.trans (hb.mono HD7.out.size)
                        exact ⟨(hb2.cell (p := ⟨gt, k * 2, none⟩) hgt).trans c1, (hb2.cell (p := ⟨gt, k * 2 + 1, none⟩) hgt).trans c2, (hb2.cell (p := ⟨gu, k * 2, none⟩) hgu).trans d1, (hb2.cell (p := ⟨gu, k * 2 + 1, none⟩) hgu).trans d2⟩
                      have hki : (k : Int) < (tn : Int) := by omega
                      have hk0 : (0 : Int) ≤ (k : Int) := by omega
                      have hq0 : Below v8.heap.size v8 wq.drew := HQ.out.drew
                      clear c1 c2 d1 d2 e1 e2 i1 i2 i3 i4 h2x h2y hr1 hr2 hct hcu hz hgt hgu hkt hkv hkl2
                      go_upto_region 14 with fail
                      refine wp_region_held_drew (S := (fun u : World => u.cell? ⟨gt, k * 2, none⟩ = some (.int .i64 z) ∧ u.cell? ⟨gt, k * 2 + 1, none⟩ = some (.slice xa1 xn1 xc1) ∧ u.cell? ⟨gu, k * 2, none⟩ = some (.int .i64 z) ∧ u.cell? ⟨gu, k * 2 + 1, none⟩ = some (.slice ya1 xn1 yc1))) (by kernel_rfl) (HK2.out _ hq0) (fun hHeld => ?_)
                      refine wpAnyH_take (i := 0) (oi := ⟨some 77, _, _, _, _, _⟩) (v := ?_) rfl (by kernel_rfl) (by kernel_rfl) (by kernel_rfl) (fun _ _ _ h => h) (Or.inl ⟨by rfl, ?_⟩) (by assumption) ?_
                      rotate_left
                      · ((intro w hSw; (try dsimp only at hSw); go_simp); try with_reducible rfl)
                      (try simp only [Act.put, List.setIfInBounds_toArray, List.set_cons_zero, List.set_cons_succ])
                      refine wpAnyH_take (i := 1) (oi := ⟨some 78, _, _, _, _, _⟩) (v := ?_) rfl (by kernel_rfl) (by kernel_rfl) (by kernel_rfl) (fun _ _ _ h => h) (Or.inl ⟨by rfl, ?_⟩) (by assumption) ?_
                      rotate_left
                      · ((intro w hSw; (try dsimp only at hSw); go_simp); try with_reducible rfl)
                      (try simp only [Act.put, List.setIfInBounds_toArray, List.set_cons_zero, List.set_cons_succ])
                      refine wpAnyH_take (i := 2) (oi := ⟨some 79, _, _, _, _, _⟩) (v := ?_) rfl (by kernel_rfl) (by kernel_rfl) (by kernel_rfl) (fun _ _ _ h => h) (Or.inl ⟨by rfl, ?_⟩) (by assumption) ?_
                      rotate_left
                      · ((intro w hSw; (try dsimp only at hSw); go_simp); try with_reducible rfl)
                      (try simp only [Act.put, List.setIfInBounds_toArray, List.set_cons_zero, List.set_cons_succ])
                      refine wpAnyH_take (i := 3) (oi := ⟨some 80, _, _, _, _, _⟩) (v := ?_) rfl (by kernel_rfl) (by kernel_rfl) (by kernel_rfl) (fun _ _ _ h => h) (Or.inl ⟨by rfl, ?_⟩) (by assumption) ?_
                      rotate_left
                      · ((intro w hSw; (try dsimp only at hSw); go_simp); try with_reducible rfl)
                      (try simp only [Act.put, List.setIfInBounds_toArray, List.set_cons_zero, List.set_cons_succ])
                      refine wpAnyH_take (i := 4) (oi := ⟨some 81, _, _, _, _, _⟩) (v := ?_) rfl (by kernel_rfl) (by kernel_rfl) (by kernel_rfl) (fun _ _ _ h => h) (Or.inl ⟨by rfl, ?_⟩) (by assumption) ?_
                      rotate_left
                      · ((intro w hSw; (try dsimp only at hSw); go_simp); try with_reducible rfl)
                      (try simp only [Act.put, List.setIfInBounds_toArray, List.set_cons_zero, List.set_cons_succ])
                      refine wpAnyH_take (i := 5) (oi := ⟨some 82, _, _, _, _, _⟩) (v := ?_) rfl (by kernel_rfl) (by kernel_rfl) (by kernel_rfl) (fun _ _ _ h => h) (Or.inl ⟨by rfl, ?_⟩) (by assumption) ?_
                      rotate_left
                      · ((intro w hSw; (try dsimp only at hSw); go_simp); try with_reducible rfl)
                      (try simp only [Act.put, List.setIfInBounds_toArray, List.set_cons_zero, List.set_cons_succ])
                      as_aux_lemma =>
                        refine wpAnyH_take (i := 6) (oi := ⟨some 83, _, _, _, _, _⟩) (v := ?_) rfl (by kernel_rfl) (by kernel_rfl) (by kernel_rfl) (fun _ _ _ h => h) (Or.inl ⟨by rfl, ?_⟩) (by assumption) ?_
                        rotate_left
                        · ((intro w hSw; (try dsimp only at hSw); go_simp); try with_reducible rfl)
                        (try simp only [Act.put, List.setIfInBounds_toArray, List.set_cons_zero, List.set_cons_succ])
                        refine wpAnyH_take (i := 7) (oi := ⟨some 84, _, _, _, _, _⟩) (v := ?_) rfl (by kernel_rfl) (by kernel_rfl) (by kernel_rfl) (fun _ _ _ h => h) (Or.inl ⟨by rfl, ?_⟩) (by assumption) ?_
                        rotate_left
                        · ((intro w hSw; (try dsimp only at hSw); go_simp); try with_reducible rfl)
                        (try simp only [Act.put, List.setIfInBounds_toArray, List.set_cons_zero, List.set_cons_succ])
                        refine wpAnyH_take (i := 8) (oi := ⟨some 85, _, _, _, _, _⟩) (v := ?_) rfl (by kernel_rfl) (by kernel_rfl) (by kernel_rfl) (fun _ _ _ h => h) (Or.inl ⟨by rfl, ?_⟩) (by assumption) ?_
                        rotate_left
                        · ((intro w hSw; (try dsimp only at hSw); go_simp); try with_reducible rfl)
                        (try simp only [Act.put, List.setIfInBounds_toArray, List.set_cons_zero, List.set_cons_succ])
                        refine wpAnyH_take (i := 9) (oi := ⟨some 86, _, _, _, _, _⟩) (v := ?_) rfl (by kernel_rfl) (by kernel_rfl) (by kernel_rfl) (fun _ _ _ h => h) (Or.inl ⟨by rfl, ?_⟩) (by assumption) ?_
                        rotate_left
                        · ((intro w hSw; (try dsimp only at hSw); go_simp); try with_reducible rfl)
                        (try simp only [Act.put, List.setIfInBounds_toArray, List.set_cons_zero, List.set_cons_succ])
                        refine wpAnyH_take (i := 10) (oi := ⟨some 87, _, _, _, _, _⟩) (v := ?_) rfl (by kernel_rfl) (by kernel_rfl) (by kernel_rfl) (fun _ _ _ h => h) (Or.inl ⟨by rfl, ?_⟩) (by assumption) ?_
                        rotate_left
                        · ((intro w hSw; (try dsimp only at hSw); go_simp); try with_reducible rfl)
                        (try simp only [Act.put, List.setIfInBounds_toArray, List.set_cons_zero, List.set_cons_succ])
                        refine wpAnyH_take (i := 11) (oi := ⟨some 88, _, _, _, _, _⟩) (v := ?_) rfl (by kernel_rfl) (by kernel_rfl) (by kernel_rfl) (fun _ _ _ h => h) (Or.inl ⟨by rfl, ?_⟩) (by assumption) ?_
                        rotate_left
                        · ((intro w hSw; (try dsimp only at hSw); go_simp); try with_reducible rfl)
                        (try simp only [Act.put, List.setIfInBounds_toArray, List.set_cons_zero, List.set_cons_succ])
                        refine wpAnyH_take (i := 12) (oi := ⟨some 89, _, _, _, _, _⟩) (v := ?_) rfl (by kernel_rfl) (by kernel_rfl) (by kernel_rfl) (fun _ _ _ h => h) (Or.inl ⟨by rfl, ?_⟩) (by assumption) ?_
                        rotate_left
                        · ((intro w hSw; (try dsimp only at hSw); go_simp); try with_reducible rfl)
                        (try simp only [Act.put, List.setIfInBounds_toArray, List.set_cons_zero, List.set_cons_succ])
                        as_aux_lemma =>
                          refine wpAnyH_take (i := 13) (oi := ⟨some 90, _, _, _, _, _⟩) (v := ?_) rfl (by kernel_rfl) (by kernel_rfl) (by kernel_rfl) (fun _ _ _ h => h) (Or.inl ⟨by rfl, ?_⟩) (by assumption) ?_
                          rotate_left
                          · ((intro w hSw; (try dsimp only at hSw); go_simp); try with_reducible rfl)
                          (try simp only [Act.put, List.setIfInBounds_toArray, List.set_cons_zero, List.set_cons_succ])
                          refine wpAnyH_take (i := 14) (oi := ⟨some 91, _, _, _, _, _⟩) (v := ?_) rfl (by kernel_rfl) (by kernel_rfl) (by kernel_rfl) (fun _ _ _ h => h) (Or.inl ⟨by rfl, ?_⟩) (by assumption) ?_
                          rotate_left
                          · ((intro w hSw; (try dsimp only at hSw); go_simp); try with_reducible rfl)
                          (try simp only [Act.put, List.setIfInBounds_toArray, List.set_cons_zero, List.set_cons_succ])
                          refine wpAnyH_take (i := 15) (oi := ⟨some 92, _, _, _, _, _⟩) (v := ?_) rfl (by kernel_rfl) (by kernel_rfl) (by kernel_rfl) (fun _ _ _ h => h) (Or.inl ⟨by rfl, ?_⟩) (by assumption) ?_
                          rotate_left
                          · ((intro w hSw; (try dsimp only at hSw); go_simp); try with_reducible rfl)
                          (try simp only [Act.put, List.setIfInBounds_toArray, List.set_cons_zero, List.set_cons_succ])
                          refine wpAnyH_take (i := 16) (oi := ⟨some 93, _, _, _, _, _⟩) (v := ?_) rfl (by kernel_rfl) (by kernel_rfl) (by kernel_rfl) (fun _ _ _ h => h) (Or.inl ⟨by rfl, ?_⟩) (by assumption) ?_
                          rotate_left
                          · ((intro w hSw; (try dsimp only at hSw); go_simp); try with_reducible rfl)
                          (try simp only [Act.put, List.setIfInBounds_toArray, List.set_cons_zero, List.set_cons_succ])
                          refine wpAnyH_take (i := 17) (oi := ⟨some 94, _, _, _, _, _⟩) (v := ?_) rfl (by kernel_rfl) (by kernel_rfl) (by kernel_rfl) (fun _ _ _ h => h) (Or.inl ⟨by rfl, ?_⟩) (by assumption) ?_
                          rotate_left
                          · ((intro w hSw; (try dsimp only at hSw); go_simp); try with_reducible rfl)
                          (try simp only [Act.put, List.setIfInBounds_toArray, List.set_cons_zero, List.set_cons_succ])
                          refine wpAnyH_take (i := 18) (oi := ⟨some 95, _, _, _, _, _⟩) (v := ?_) rfl (by kernel_rfl) (by kernel_rfl) (by kernel_rfl) (fun _ _ _ h => h) (Or.inl ⟨by rfl, ?_⟩) (by assumption) ?_
                          rotate_left
                          · ((intro w hSw; (try dsimp only at hSw); go_simp); try with_reducible rfl)
                          (try simp only [Act.put, List.setIfInBounds_toArray, List.set_cons_zero, List.set_cons_succ])
                          refine wpAnyH_take (i := 19) (oi := ⟨some 96, _, _, _, _, _⟩) (v := ?_) rfl (by kernel_rfl) (by kernel_rfl) (by kernel_rfl) (fun _ _ _ h => h) (Or.inl ⟨by rfl, ?_⟩) (by assumption) ?_
                          rotate_left
                          · ((intro w hSw; (try dsimp only at hSw); go_simp); try with_reducible rfl)
                          (try simp only [Act.put, List.setIfInBounds_toArray, List.set_cons_zero, List.set_cons_succ])
                          as_aux_lemma =>
                            refine wpAnyH_take (i := 20) (oi := ⟨some 97, _, _, _, _, _⟩) (v := ?_) rfl (by kernel_rfl) (by kernel_rfl) (by kernel_rfl) (fun _ _ _ h => h) (Or.inl ⟨by rfl, ?_⟩) (by assumption) ?_
                            rotate_left
                            · ((intro w hSw; (try dsimp only at hSw); go_simp); try with_reducible rfl)
                            (try simp only [Act.put, List.setIfInBounds_toArray, List.set_cons_zero, List.set_cons_succ])
                            refine wpAnyH_take (i := 21) (oi := ⟨some 98, _, _, _, _, _⟩) (v := ?_) rfl (by kernel_rfl) (by kernel_rfl) (by kernel_rfl) (fun _ _ _ h => h) (Or.inl ⟨by rfl, ?_⟩) (by assumption) ?_
                            rotate_left
                            · ((intro w hSw; (try dsimp only at hSw); go_simp); try with_reducible rfl)
                            (try simp only [Act.put, List.setIfInBounds_toArray, List.set_cons_zero, List.set_cons_succ])
                            refine wpAnyH_ready (rs := [22]) (by kernel_rfl) (by simp) (AllReadyH.cons rfl (fun K hK => ?_) AllReadyH.nil)
                            rw [if_pos (by rfl)]
                            go_simp
                            go_at_call 15
                            (with_reducible refine (HIN.out _ hq0).mono ?_)
                            rintro e v9 ⟨rfl, q9, rfl⟩
                            rw [show sameB Z Z = true from decide_eq_true rfl]
                            have hq9 : Below v8.heap.size v8 (wq.drew.drewN q9) := below_drewN q9 hq0
                            generalize wq.drew.drewN q9 = v9 at hq9 ⊢
                            refine hK.out _ _ (HK2.out _ hq9) (fun hHeld => ?_)
                            clear hK K
                            (try simp only [Act.put, List.setIfInBounds_toArray, List.set_cons_zero, List.set_cons_succ])
                            refine wpAnyH_take (i := 23) (oi := ⟨some 100, _, _, _, _, _⟩) (v := ?_) rfl (by kernel_rfl) (by kernel_rfl) (by kernel_rfl) (fun _ _ _ h => h) (Or.inl ⟨by rfl, ?_⟩) (by assumption) ?_
                            rotate_left
                            · ((intro w hSw; (try dsimp only at hSw); go_simp); try with_reducible rfl)
                            (try simp only [Act.put, List.setIfInBounds_toArray, List.set_cons_zero, List.set_cons_succ])
                            refine wpAnyH_take (i := 24) (oi := ⟨some 101, _, _, _, _, _⟩) (v := ?_) rfl (by kernel_rfl) (by kernel_rfl) (by kernel_rfl) (fun _ _ _ h => h) (Or.inl ⟨by rfl, ?_⟩) (by assumption) ?_
                            rotate_left
                            · ((intro w hSw; (try dsimp only at hSw); go_simp); try with_reducible rfl)
                            (try simp only [Act.put, List.setIfInBounds_toArray, List.set_cons_zero, List.set_cons_succ])
                            refine wpAnyH_done (by kernel_rfl) ?_ _
                            as_aux_lemma =>
                              have HQ9 := Lib.hid hq9
                              clear hq0 hq9 HIN HK2 hHeld
                              clear HTN HTL HTV HT2 HO2 HW2 HD7 HXN HNL HAH HVL HST
                              go_wp2_with fail
                              as_aux_lemma =>
                                have hk1 : k + 1 ≤ tn := HKL.out
                                have hms := meas_succ HKL.out hwk
                                have hvk := val_succ hwk
                                as_aux_lemma =>
                                  go_roundw
                                  case rel => exact ⟨k + 1, hk1, hvk, HQ9⟩
                                  case measure => exact hms
                    · obtain rfl : k = tn := by omega
                      have hw : wrap64 ((i : Int) + 1) = (i : Int) + 1 := by unfold wrap64; omega
                      have hvi := Lib.hid (val_succ hw)
                      have hmi := Lib.hid (meas_succ HLT.out hw)
                      go_wp2_with fail
                      go_roundw
                      case rel => exact ⟨i + 1, HLT.out, by have h := hvi.out; rw [hw] at h; exact h, Lib.hid (HK7.out.trans (HQ.out.mono HK7.out.size))⟩
                      case measure => have h := hmi.out; rw [hw] at h; exact h
    · obtain rfl : i = m := by omega
      go_wp2_with (go_at_call 19; refine (lives_any wo).mono ?_; rintro e w9 ⟨rfl, hb9⟩; have HB9 := Lib.hid hb9; clear hb9)
      go_ret
      have hb := HST.out.bel.trans (HI.out.mono HST.out.bel.size)
      exact ⟨rfl, hb.trans (HB9.out.mono hb.size)⟩
end Go.Proofs.Ytdnihphnoibpgaa
