/- Layer 8: the law DomLoops (mk_lpl.py), walked. -/
import Derived.Test.YtnnccahpgailiaaQDomEh
import Derived.Test.YtnnccahpgailiaaQT11

namespace Go.Proofs.Ytnnccahpgailiaa
open Go.RowKit (wrap64 intOf Below)
set_option linter.unusedVariables false
set_option linter.unusedSimpArgs false

theorem OwnsLp.read {w : World} {B : Nat} {va : Option Addr} {vn vc : Nat} {l : List TgV} (h : OwnsLp w B (.slice va vn vc) l) : vn = l.length ∧ (0 < vn → ∃ g, va = some ⟨g, 0, none⟩ ∧ B ≤ g ∧ g < w.heap.size ∧ ∀ i (hi : i < l.length), w.cell? ⟨g, i * 2, none⟩ = some (.int .i64 l[i].1) ∧ w.cell? ⟨g, i * 2 + 1, none⟩ = some (.slice l[i].2.1 l[i].2.2.1 l[i].2.2.2)) := by
  have hown : w.ownsRow B 36 2 (.slice va vn vc) l.length (flatT l) := h
  rcases h.2 with ⟨e, h0⟩ | ⟨g, cap, cur, e, hB, hh, _⟩
  · cases e
    exact ⟨h0.symm, fun hp => by omega⟩
  · cases e
    refine ⟨rfl, fun _ => ⟨g, rfl, hB, (Array.getElem?_eq_some_iff.1 hh).1, fun i hi => ?_⟩⟩
    obtain ⟨h1, h2⟩ := flatT_at l i hi
    have c1 := World.ownsRow.cells hown rfl _ _ h1
    have c2 := World.ownsRow.cells hown rfl _ _ h2
    rw [addr_plain, Nat.zero_add] at c1 c2
    exact ⟨c1, c2⟩
theorem OwnsLp.since {w w' : World} {B : Nat} {v : Value} {l : List TgV} (h : OwnsLp w B v l) (hb : Below w.heap.size w w') : OwnsLp w' B v l := h.at_ fun k hk => hb.block k (h.lt hk).2
theorem Cops.since {w w' : World} {B : Nat} {l : List TgV} {ts : List (Int × List Int)} (h : Cops w B l ts) (hb : Below w.heap.size w w') : Cops w' B l ts := h.all fun x t hx => ⟨hx.1, hx.2.below hb⟩
/-- Both lists of loops, as they lie. -/
def Both (W : World) (B : Nat) (xa : Option Addr) (xn xc : Nat) (l1 : List TgV) (ya : Option Addr) (yn yc : Nat) (l2 : List TgV) (LL : List (Int × List Int)) : Prop :=
  OwnsLp W B (.slice xa xn xc) l1 ∧ Cops W B l1 LL ∧ OwnsLp W B (.slice ya yn yc) l2 ∧ Cops W B l2 LL
theorem Both.since {W W' : World} {B : Nat} {xa : Option Addr} {xn xc : Nat} {l1 : List TgV} {ya : Option Addr} {yn yc : Nat} {l2 : List TgV} {LL : List (Int × List Int)} (h : Both W B xa xn xc l1 ya yn yc l2 LL) (hb : Below W.heap.size W W') : Both W' B xa xn xc l1 ya yn yc l2 LL :=
  ⟨h.1.since hb, h.2.1.since hb, h.2.2.1.since hb, h.2.2.2.since hb⟩
/-- The i-th of both. -/
theorem Both.at_ {W : World} {B : Nat} {xa : Option Addr} {xn xc : Nat} {l1 : List TgV} {ya : Option Addr} {yn yc : Nat} {l2 : List TgV} {LL : List (Int × List Int)} (h : Both W B xa xn xc l1 ya yn yc l2 LL) {i : Nat} (hi : i < LL.length) :
    ∃ g1 g2 z pa pn pc qa qn qc, xa = some ⟨g1, 0, none⟩ ∧ ya = some ⟨g2, 0, none⟩ ∧ g1 < W.heap.size ∧ g2 < W.heap.size ∧ W.cell? ⟨g1, i * 2, none⟩ = some (.int .i64 z) ∧ W.cell? ⟨g1, i * 2 + 1, none⟩ = some (.slice pa pn pc) ∧ W.cell? ⟨g2, i * 2, none⟩ = some (.int .i64 z) ∧ W.cell? ⟨g2, i * 2 + 1, none⟩ = some (.slice qa qn qc) ∧ NumsAt W pa pn LL[i].2 ∧ NumsAt W qa qn LL[i].2 ∧ z = LL[i].1 := by
  obtain ⟨h1, c1, h2, c2⟩ := h
  have n1 := c1.len
  have n2 := c2.len
  obtain ⟨e1, f1⟩ := h1.read
  obtain ⟨e2, f2⟩ := h2.read
  obtain ⟨g1, rfl, _, hg1, k1⟩ := f1 (by omega)
  obtain ⟨g2, rfl, _, hg2, k2⟩ := f2 (by omega)
  obtain ⟨a1, a2⟩ := k1 i (by omega)
  obtain ⟨b1, b2⟩ := k2 i (by omega)
  have p1 := c1.at i (by omega) hi
  have p2 := c2.at i (by omega) hi
  exact ⟨g1, g2, LL[i].1, _, _, _, _, _, _, rfl, rfl, hg1, hg2, by rw [a1, p1.1], a2, by rw [b1, p2.1], b2, OwnsI.read p1.2, OwnsI.read p2.2, rfl⟩
/-- A loop's head is over all of its blocks, told of ways alone. -/
theorem loop_over2 {f : FuncD} {n h b : Nat} (hb : backL f n h ≠ []) (hi : InLoop f n h b) : OverF f h b := by
  obtain ⟨p0, hp0⟩ := List.exists_mem_of_ne_nil _ hb
  have hover : ∀ p ∈ backL f n h, OverF f h p := fun p hp => by
    unfold backL at hp
    exact overB_iff.1 (List.mem_filter.1 hp).2
  have hMh := (hover p0 hp0).1
  rcases hi with rfl | ⟨hMb, p, hp, v, rfl, k, hk, hkl, hw⟩
  · refine ⟨hMh, hMh, ?_⟩
    rintro ⟨v, hv, k, hk, hkl, hw⟩
    exact hw.last (by omega)
  · refine ⟨hMh, (mi_met f b).2 hMb, ?_⟩
    rintro ⟨v', hv', k', hk', hkl', hw'⟩
    refine (hover _ hp).2.2 ⟨v, rfl, k', hk', hkl', ?_⟩
    have e : k = v' := by omega
    subst e
    exact hw'.append hw
theorem loops_fact {f : FuncD} {n i : Nat} (hi : i < (loopsL f n n).length) : ∃ h : Nat, (loopsL f n n)[i].1 = (h : Int) ∧ (loopsL f n n)[i].2.length ≤ n ∧ ∀ z ∈ (loopsL f n n)[i].2, overB f (h : Int) z = true := by
  have hm := List.getElem_mem hi
  unfold loopsL at hm
  obtain ⟨h, hh, e⟩ := List.mem_map.1 hm
  have hne : backL f n h ≠ [] := by
    have := (List.mem_filter.1 hh).2
    intro e
    rw [e] at this
    simp at this
  have e2 : (loopsL f n n)[i] = ((h : Int), loopB f n n h) := e.symm
  rw [e2]
  refine ⟨h, rfl, loopB_len f n n h, fun z hz => ?_⟩
  obtain ⟨b, rfl, _, hb⟩ := loopB_mem.1 hz
  exact overB_iff.2 (loop_over2 hne hb)
set_option maxRecDepth 100000 in
set_option maxHeartbeats 8000000 in
theorem domloops_walk (r : Int) (a : Option Addr) (n c : Nat) (f : FuncD) (w : World) (hrow : RowV BlockQ 8 w (.slice a n c) f.blocks) (hnc : n ≤ c) (hc : c ≤ 9223372036854775807) :
    Calls Try.prog 4 #[.agg #[.int .i64 r, .slice a n c]] w fun e w' => e = .returned (.bool true) ∧ Below w.heap.size w w' := by
  have hn : n ≤ 140737488351232 := by obtain ⟨_, _, _, e, _, _, h, _⟩ := hrow; cases e; exact h
  have hrow2 := hrow.few8
  have hlen : fewN8 n = (fewF8 f).blocks.length := by obtain ⟨_, _, _, e, h, _⟩ := hrow2; cases e; exact h.symm
  have hn60 := fewN8_le n
  have HFEW : RowKit.Hid (∀ u : World, Calls Try.prog 9 #[.agg #[.int .i64 r, .slice a n c]] u fun e w' => e = .returned (.agg #[.int .i64 r, .slice a (fewN8 n) c]) ∧ Below u.heap.size u w') := Lib.hid fun u => few8_any r a n c u (by omega) hnc hc
  generalize fewF8 f = F at *
  generalize fewN8 n = m at *
  have HROW0 := Lib.hid hrow2
  have HLEN := Lib.hid hlen
  clear hrow hrow2 hlen hnc hc hn
  go_enter Try.func4, Try.ntmps4
  go_upto_region 2 with ((go_at_call 9; refine (HFEW.out _).mono ?_); rintro e w1 ⟨rfl, hb⟩; have hbl : w.heap.size < w1.heap.size := (by have := hb.size; simp at this; omega); have hheap : w1.heap[w.heap.size]? = some (.cells #[.int .i64 r, .slice a n c] 24 (0, 0)) := ((hb.block w.heap.size (by simp)).trans (World.alloc_heap_new w _)); have hx0 : w1.cell? ⟨w.heap.size, 0, none⟩ = some (.int .i64 r) := (by simp [World.cell?, hheap]); have hx1 : w1.cell? ⟨w.heap.size, 1, none⟩ = some (.slice a n c) := (by simp [World.cell?, hheap]); have hxf0 : w1.frozen? ⟨w.heap.size, 0, none⟩ = false := (by simp [World.frozen?, hheap]); have hxf1 : w1.frozen? ⟨w.heap.size, 1, none⟩ = false := (by simp [World.frozen?, hheap]); have HTC := Lib.hid (two_cells (u := .int .i64 r) (v := .slice a m c) hx0 hx1); have HB0 := Lib.hid (show Below w.heap.size w w1 from ((Below.refl w.heap.size w).alloc (Nat.le_refl _) _).trans (hb.mono (by simp))); have HST := Lib.hid (law_st (va := none) (vn := 0) (L := []) HB0.out hbl HTC.out (Below.refl _ _) (NumsAt.nil _ none)); clear hb hheap)
  clear hbl hx0 hx1 hxf0 hxf1 HTC HB0 HFEW
  obtain ⟨U, hU⟩ : ∃ U, (w1.setCell ⟨w.heap.size, 0, none⟩ (.int .i64 r)).setCell ⟨w.heap.size, 1, none⟩ (.slice a m c) = U := ⟨_, rfl⟩
  rw [hU] at HST ⊢
  clear hU
  have HROW : RowKit.Hid (∀ u, Below U.heap.size U u → RowV BlockQ 8 u (.slice a m c) F.blocks) := Lib.hid fun u hb => HROW0.out.since BlockQ.lasts (HST.out.bel.trans (hb.mono HST.out.bel.size))
  have HKT : RowKit.Hid (∀ u, Below U.heap.size U u → u.cell? ⟨w.heap.size, 0, none⟩ = some (.int .i64 r) ∧ u.cell? ⟨w.heap.size, 1, none⟩ = some (.slice a m c)) := Lib.hid fun u hb => ⟨(hb.cell (p := ⟨w.heap.size, 0, none⟩) HST.out.siz).trans HST.out.c0, (hb.cell (p := ⟨w.heap.size, 1, none⟩) HST.out.siz).trans HST.out.c1⟩
  have C1 : RowKit.Hid (∀ u, Below U.heap.size U u → Calls Try.prog 14 #[.agg #[.int .i64 r, .slice a m c]] u fun e w' => ∃ va vn vc l, e = .returned (.slice va vn vc) ∧ OwnsLp w' u.heap.size (.slice va vn vc) l ∧ Cops w' u.heap.size l (loopsL F m m) ∧ Below u.heap.size u w') := Lib.hid fun u hb => loops_any r a m c F u (HROW.out u hb) (by omega)
  have C2 : RowKit.Hid (∀ u, Below U.heap.size U u → Calls Try.prog 15 #[.agg #[.int .i64 r, .slice a m c]] u fun e w' => ∃ va vn vc l, e = .returned (.slice va vn vc) ∧ OwnsLp w' u.heap.size (.slice va vn vc) l ∧ Cops w' u.heap.size l (loopsL F m m) ∧ Below u.heap.size u w') := Lib.hid fun u hb => refloops_any r a m c F u (HROW.out u hb) (by omega)
  have HFACT : RowKit.Hid (∀ i (hi : i < (loopsL F m m).length), ∃ h : Nat, (loopsL F m m)[i].1 = (h : Int) ∧ (loopsL F m m)[i].2.length ≤ m ∧ ∀ z ∈ (loopsL F m m)[i].2, overB F (h : Int) z = true) := Lib.hid fun i hi => loops_fact hi
  have HLL : RowKit.Hid ((loopsL F m m).length ≤ m) := Lib.hid (loopsL_len F m m)
  generalize loopsL F m m = LL at *
  have hk0 : Below U.heap.size U U.drew := (Below.refl _ _).drew
  refine wp_region_held_drew (S := (fun u : World => u.cell? ⟨w.heap.size, 0, none⟩ = some (.int .i64 r) ∧ u.cell? ⟨w.heap.size, 1, none⟩ = some (.slice a m c))) (by kernel_rfl) (HKT.out _ hk0) (fun hHeld => ?_)
  refine wpAnyH_take (i := 0) (oi := ⟨some 9, _, _, _, _, _⟩) (v := ?_) rfl (by kernel_rfl) (by kernel_rfl) (by kernel_rfl) (fun _ _ _ h => h) (Or.inl ⟨by rfl, ?_⟩) (by assumption) ?_
  rotate_left
  · ((intro w hSw; (try dsimp only at hSw); go_simp); try with_reducible rfl)
  (try simp only [Act.put, List.setIfInBounds_toArray, List.set_cons_zero, List.set_cons_succ])
  refine wpAnyH_take (i := 2) (oi := ⟨some 11, _, _, _, _, _⟩) (v := ?_) rfl (by kernel_rfl) (by kernel_rfl) (by kernel_rfl) (fun _ _ _ h => h) (Or.inl ⟨by rfl, ?_⟩) (by assumption) ?_
  rotate_left
  · ((intro w hSw; (try dsimp only at hSw); go_simp); try with_reducible rfl)
  (try simp only [Act.put, List.setIfInBounds_toArray, List.set_cons_zero, List.set_cons_succ])
  refine wpAnyH_ready (rs := [1]) (by kernel_rfl) (by simp) (AllReadyH.cons rfl (fun K hK => ?_) AllReadyH.nil)
  rw [if_pos (by rfl)]
  go_simp
  go_at_call 14
  (with_reducible refine (C1.out _ hk0).mono ?_)
  rintro e v1 ⟨xa, xn, xc, l1, rfl, ho, hcp, hb1⟩
  have hk1 : Below U.heap.size U v1 := hk0.trans (hb1.mono hk0.size)
  have HO1 := Lib.hid (And.intro ho hcp)
  clear ho hcp hb1
  refine hK.out _ _ (HKT.out _ hk1) (fun hHeld => ?_)
  clear hK K
  (try simp only [Act.put, List.setIfInBounds_toArray, List.set_cons_zero, List.set_cons_succ])
  refine wpAnyH_ready (rs := [3]) (by kernel_rfl) (by simp) (AllReadyH.cons rfl (fun K hK => ?_) AllReadyH.nil)
  rw [if_pos (by rfl)]
  go_simp
  go_at_call 15
  (with_reducible refine (C2.out _ hk1).mono ?_)
  rintro e v2 ⟨ya, yn, yc, l2, rfl, ho, hcp, hb2⟩
  have HB2 := Lib.hid hb2
  have hk2 : Below U.heap.size U v2 := hk1.trans (hb2.mono hk1.size)
  have HO2 := Lib.hid (And.intro ho hcp)
  clear ho hcp hb2
  refine hK.out _ _ (HKT.out _ hk2) (fun hHeld => ?_)
  clear hK K
  (try simp only [Act.put, List.setIfInBounds_toArray, List.set_cons_zero, List.set_cons_succ])
  refine wpAnyH_take (i := 4) (oi := ⟨some 3, _, _, _, _, _⟩) (v := ?_) rfl (by kernel_rfl) (by kernel_rfl) (by kernel_rfl) (fun _ _ _ h => h) (Or.inl ⟨by rfl, ?_⟩) (by assumption) ?_
  rotate_left
  · ((intro w hSw; (try dsimp only at hSw); go_simp); try with_reducible rfl)
  (try simp only [Act.put, List.setIfInBounds_toArray, List.set_cons_zero, List.set_cons_succ])
  refine wpAnyH_take (i := 5) (oi := ⟨some 4, _, _, _, _, _⟩) (v := ?_) rfl (by kernel_rfl) (by kernel_rfl) (by kernel_rfl) (fun _ _ _ h => h) (Or.inl ⟨by rfl, ?_⟩) (by assumption) ?_
  rotate_left
  · ((intro w hSw; (try dsimp only at hSw); go_simp); try with_reducible rfl)
  (try simp only [Act.put, List.setIfInBounds_toArray, List.set_cons_zero, List.set_cons_succ])
  refine wpAnyH_done (by kernel_rfl) ?_ _
  have HBO : RowKit.Hid (Both v2 U.heap.size xa xn xc l1 ya yn yc l2 LL) := Lib.hid ⟨(HO1.out.1.since HB2.out).mono hk0.size, ((HO1.out.2.since HB2.out).all fun x t hx => ⟨hx.1, hx.2.mono hk0.size⟩), HO2.out.1.mono hk1.size, HO2.out.2.all fun x t hx => ⟨hx.1, hx.2.mono hk1.size⟩⟩
  have hxn : xn = LL.length := HBO.out.1.read.1.trans HBO.out.2.1.len
  have hyn : yn = LL.length := HBO.out.2.2.1.read.1.trans HBO.out.2.2.2.len
  obtain ⟨K, hK⟩ : ∃ K, LL.length = K := ⟨_, rfl⟩
  rw [hK] at hxn hyn HLL
  subst hxn hyn
  have HK := Lib.hid hK
  clear hK
  have hkm : yn ≤ 14 := by have := HLL.out; omega
  have HBW : RowKit.Hid (Below w.heap.size w v2) := Lib.hid (HST.out.bel.trans (hk2.mono HST.out.bel.size))
  have HLS : RowKit.Hid (LawSt w r a m c none 0 [] v2 ∧ Both v2 U.heap.size xa yn xc l1 ya yn yc l2 LL) := Lib.hid ⟨⟨HBW.out, Nat.lt_of_lt_of_le HST.out.siz hk2.size, (HKT.out _ hk2).1, (HKT.out _ hk2).2, NumsAt.nil _ _⟩, HBO.out⟩
  clear hk0 hk1 hk2 HKT C1 C2 HROW HBO hHeld
  have HROW : RowKit.Hid (∀ u, Below w.heap.size w u → RowV BlockQ 8 u (.slice a m c) F.blocks) := Lib.hid fun u hb => HROW0.out.since BlockQ.lasts hb
  have hmm : ((yn : Int) != (yn : Int)) = false := by simp
  go_wp2_with fail
  clear hmm
  go_loopw [5] (fun v5 wr => ∃ i : Nat, i ≤ yn ∧ v5 = .int .i64 (i : Int) ∧ RowKit.Hid (LawSt w r a m c none 0 [] wr ∧ Both wr U.heap.size xa yn xc l1 ya yn yc l2 LL)) (fun v5 _ => yn - (intOf v5).toNat)
  case atStart => exact ⟨0, Nat.zero_le _, rfl, HLS⟩
  case round =>
    obtain ⟨i, hi, rfl, HI⟩ := hrel
    clear HLS
    obtain ⟨wo, hwo⟩ : ∃ u, u = wr := ⟨_, rfl⟩
    rw [← hwo] at HI ⊢
    clear hwo
    have HW : RowKit.Hid (wrap64 ((i : Int) + 1) = (i : Int) + 1) := Lib.hid (by unfold wrap64; omega)
    by_cases hlt : i < yn
    · have hil : i < LL.length := by rw [HK.out]; exact hlt
      obtain ⟨g1, g2, z, pa, pn, pc, qa, qn, qc, rfl, rfl, hg1, hg2, c10, c11, c20, c21, hp, hq, hz⟩ := HI.out.2.at_ hil
      obtain ⟨hd, hhd, hbl, hov⟩ := HFACT.out i hil
      obtain ⟨BL, hBL⟩ : ∃ B, LL[i].2 = B := ⟨_, rfl⟩
      rw [hBL] at hp hq hbl hov
      rw [hhd] at hz
      subst hz
      have HPQ := Lib.hid (And.intro hp hq)
      have HOV := Lib.hid hov
      have hpn : BL.length = pn := hp.1
      have hqn : BL.length = qn := hq.1
      have hqp : qn = pn := by omega
      subst hqp
      have HPN := Lib.hid hpn
      have hp14 : qn ≤ 14 := by omega
      have HKT : RowKit.Hid (∀ u, Below wo.heap.size wo u → (fun u : World => u.cell? ⟨w.heap.size, 0, none⟩ = some (.int .i64 r) ∧ u.cell? ⟨w.heap.size, 1, none⟩ = some (.slice a m c) ∧ u.cell? ⟨g1, i * 2, none⟩ = some (.int .i64 (hd : Int)) ∧ u.cell? ⟨g1, i * 2 + 1, none⟩ = some (.slice pa qn pc) ∧ u.cell? ⟨g2, i * 2, none⟩ = some (.int .i64 (hd : Int)) ∧ u.cell? ⟨g2, i * 2 + 1, none⟩ = some (.slice qa qn qc)) u) := Lib.hid fun u hb => ⟨(hb.cell (p := ⟨w.heap.size, 0, none⟩) HI.out.1.siz).trans HI.out.1.c0, (hb.cell (p := ⟨w.heap.size, 1, none⟩) HI.out.1.siz).trans HI.out.1.c1, (hb.cell (p := ⟨g1, i * 2, none⟩) hg1).trans c10, (hb.cell (p := ⟨g1, i * 2 + 1, none⟩) hg1).trans c11, (hb.cell (p := ⟨g2, i * 2, none⟩) hg2).trans c20, (hb.cell (p := ⟨g2, i * 2 + 1, none⟩) hg2).trans c21⟩
      have hk0 : Below wo.heap.size wo wo.drew := (Below.refl _ _).drew
      have hi0 : (0 : Int) ≤ (i : Int) := by omega
      have him : (i : Int) < (yn : Int) := by omega
      have hzz : ((hd : Int) != (hd : Int)) = false := by simp
      have CI : RowKit.Hid (∀ u, Below wo.heap.size wo u → Calls Try.prog 11 #[.slice pa qn pc, .slice qa qn qc] u (BoolPost true u)) := Lib.hid fun u hb => by have h := ints_any pa qa qn qn pc qc BL BL u (HPQ.out.1.since hb) (HPQ.out.2.since hb) (by omega) (by omega); rw [show sameB BL BL = true from decide_eq_true rfl] at h; exact h
      clear hp hq hov hpn hqn hbl hBL hhd hil c10 c11 c20 c21
      go_upto_region 8 with fail
      refine wp_region_held_drew (S := (fun u : World => u.cell? ⟨w.heap.size, 0, none⟩ = some (.int .i64 r) ∧ u.cell? ⟨w.heap.size, 1, none⟩ = some (.slice a m c) ∧ u.cell? ⟨g1, i * 2, none⟩ = some (.int .i64 (hd : Int)) ∧ u.cell? ⟨g1, i * 2 + 1, none⟩ = some (.slice pa qn pc) ∧ u.cell? ⟨g2, i * 2, none⟩ = some (.int .i64 (hd : Int)) ∧ u.cell? ⟨g2, i * 2 + 1, none⟩ = some (.slice qa qn qc))) (by kernel_rfl) (HKT.out _ hk0) (fun hHeld => ?_)
      refine wpAnyH_take (i := 0) (oi := ⟨some 24, _, _, _, _, _⟩) (v := ?_) rfl (by kernel_rfl) (by kernel_rfl) (by kernel_rfl) (fun _ _ _ h => h) (Or.inl ⟨by rfl, ?_⟩) (by assumption) ?_
      rotate_left
      · ((intro w hSw; (try dsimp only at hSw); go_simp); try with_reducible rfl)
      (try simp only [Act.put, List.setIfInBounds_toArray, List.set_cons_zero, List.set_cons_succ])
      refine wpAnyH_take (i := 1) (oi := ⟨some 25, _, _, _, _, _⟩) (v := ?_) rfl (by kernel_rfl) (by kernel_rfl) (by kernel_rfl) (fun _ _ _ h => h) (Or.inl ⟨by rfl, ?_⟩) (by assumption) ?_
      rotate_left
      · ((intro w hSw; (try dsimp only at hSw); go_simp); try with_reducible rfl)
      (try simp only [Act.put, List.setIfInBounds_toArray, List.set_cons_zero, List.set_cons_succ])
      refine wpAnyH_take (i := 2) (oi := ⟨some 26, _, _, _, _, _⟩) (v := ?_) rfl (by kernel_rfl) (by kernel_rfl) (by kernel_rfl) (fun _ _ _ h => h) (Or.inl ⟨by rfl, ?_⟩) (by assumption) ?_
      rotate_left
      · ((intro w hSw; (try dsimp only at hSw); go_simp); try with_reducible rfl)
      (try simp only [Act.put, List.setIfInBounds_toArray, List.set_cons_zero, List.set_cons_succ])
      refine wpAnyH_take (i := 3) (oi := ⟨some 27, _, _, _, _, _⟩) (v := ?_) rfl (by kernel_rfl) (by kernel_rfl) (by kernel_rfl) (fun _ _ _ h => h) (Or.inl ⟨by rfl, ?_⟩) (by assumption) ?_
      rotate_left
      · ((intro w hSw; (try dsimp only at hSw); go_simp); try with_reducible rfl)
      (try simp only [Act.put, List.setIfInBounds_toArray, List.set_cons_zero, List.set_cons_succ])
      refine wpAnyH_take (i := 4) (oi := ⟨some 28, _, _, _, _, _⟩) (v := ?_) rfl (by kernel_rfl) (by kernel_rfl) (by kernel_rfl) (fun _ _ _ h => h) (Or.inl ⟨by rfl, ?_⟩) (by assumption) ?_
      rotate_left
      · ((intro w hSw; (try dsimp only at hSw); go_simp); try with_reducible rfl)
      (try simp only [Act.put, List.setIfInBounds_toArray, List.set_cons_zero, List.set_cons_succ])
      refine wpAnyH_take (i := 5) (oi := ⟨some 29, _, _, _, _, _⟩) (v := ?_) rfl (by kernel_rfl) (by kernel_rfl) (by kernel_rfl) (fun _ _ _ h => h) (Or.inl ⟨by rfl, ?_⟩) (by assumption) ?_
      rotate_left
      · ((intro w hSw; (try dsimp only at hSw); go_simp); try with_reducible rfl)
      (try simp only [Act.put, List.setIfInBounds_toArray, List.set_cons_zero, List.set_cons_succ])
      refine wpAnyH_take (i := 6) (oi := ⟨some 30, _, _, _, _, _⟩) (v := ?_) rfl (by kernel_rfl) (by kernel_rfl) (by kernel_rfl) (fun _ _ _ h => h) (Or.inl ⟨by rfl, ?_⟩) (by assumption) ?_
      rotate_left
      · ((intro w hSw; (try dsimp only at hSw); go_simp); try with_reducible rfl)
      (try simp only [Act.put, List.setIfInBounds_toArray, List.set_cons_zero, List.set_cons_succ])
      refine wpAnyH_take (i := 7) (oi := ⟨some 31, _, _, _, _, _⟩) (v := ?_) rfl (by kernel_rfl) (by kernel_rfl) (by kernel_rfl) (fun _ _ _ h => h) (Or.inl ⟨by rfl, ?_⟩) (by assumption) ?_
      rotate_left
      · ((intro w hSw; (try dsimp only at hSw); go_simp); try with_reducible rfl)
      (try simp only [Act.put, List.setIfInBounds_toArray, List.set_cons_zero, List.set_cons_succ])
      refine wpAnyH_take (i := 8) (oi := ⟨some 32, _, _, _, _, _⟩) (v := ?_) rfl (by kernel_rfl) (by kernel_rfl) (by kernel_rfl) (fun _ _ _ h => h) (Or.inl ⟨by rfl, ?_⟩) (by assumption) ?_
      rotate_left
      · ((intro w hSw; (try dsimp only at hSw); go_simp); try with_reducible rfl)
      (try simp only [Act.put, List.setIfInBounds_toArray, List.set_cons_zero, List.set_cons_succ])
      refine wpAnyH_take (i := 9) (oi := ⟨some 33, _, _, _, _, _⟩) (v := ?_) rfl (by kernel_rfl) (by kernel_rfl) (by kernel_rfl) (fun _ _ _ h => h) (Or.inl ⟨by rfl, ?_⟩) (by assumption) ?_
      rotate_left
      · ((intro w hSw; (try dsimp only at hSw); go_simp); try with_reducible rfl)
      (try simp only [Act.put, List.setIfInBounds_toArray, List.set_cons_zero, List.set_cons_succ])
      refine wpAnyH_take (i := 10) (oi := ⟨some 34, _, _, _, _, _⟩) (v := ?_) rfl (by kernel_rfl) (by kernel_rfl) (by kernel_rfl) (fun _ _ _ h => h) (Or.inl ⟨by rfl, ?_⟩) (by assumption) ?_
      rotate_left
      · ((intro w hSw; (try dsimp only at hSw); go_simp); try with_reducible rfl)
      (try simp only [Act.put, List.setIfInBounds_toArray, List.set_cons_zero, List.set_cons_succ])
      refine wpAnyH_take (i := 11) (oi := ⟨some 35, _, _, _, _, _⟩) (v := ?_) rfl (by kernel_rfl) (by kernel_rfl) (by kernel_rfl) (fun _ _ _ h => h) (Or.inl ⟨by rfl, ?_⟩) (by assumption) ?_
      rotate_left
      · ((intro w hSw; (try dsimp only at hSw); go_simp); try with_reducible rfl)
      (try simp only [Act.put, List.setIfInBounds_toArray, List.set_cons_zero, List.set_cons_succ])
      refine wpAnyH_take (i := 12) (oi := ⟨some 36, _, _, _, _, _⟩) (v := ?_) rfl (by kernel_rfl) (by kernel_rfl) (by kernel_rfl) (fun _ _ _ h => h) (Or.inl ⟨by rfl, ?_⟩) (by assumption) ?_
      rotate_left
      · ((intro w hSw; (try dsimp only at hSw); go_simp); try with_reducible rfl)
      (try simp only [Act.put, List.setIfInBounds_toArray, List.set_cons_zero, List.set_cons_succ])
      refine wpAnyH_take (i := 13) (oi := ⟨some 37, _, _, _, _, _⟩) (v := ?_) rfl (by kernel_rfl) (by kernel_rfl) (by kernel_rfl) (fun _ _ _ h => h) (Or.inl ⟨by rfl, ?_⟩) (by assumption) ?_
      rotate_left
      · ((intro w hSw; (try dsimp only at hSw); go_simp); try with_reducible rfl)
      (try simp only [Act.put, List.setIfInBounds_toArray, List.set_cons_zero, List.set_cons_succ])
      refine wpAnyH_take (i := 14) (oi := ⟨some 38, _, _, _, _, _⟩) (v := ?_) rfl (by kernel_rfl) (by kernel_rfl) (by kernel_rfl) (fun _ _ _ h => h) (Or.inl ⟨by rfl, ?_⟩) (by assumption) ?_
      rotate_left
      · ((intro w hSw; (try dsimp only at hSw); go_simp); try with_reducible rfl)
      (try simp only [Act.put, List.setIfInBounds_toArray, List.set_cons_zero, List.set_cons_succ])
      refine wpAnyH_take (i := 15) (oi := ⟨some 39, _, _, _, _, _⟩) (v := ?_) rfl (by kernel_rfl) (by kernel_rfl) (by kernel_rfl) (fun _ _ _ h => h) (Or.inl ⟨by rfl, ?_⟩) (by assumption) ?_
      rotate_left
      · ((intro w hSw; (try dsimp only at hSw); go_simp); try with_reducible rfl)
      (try simp only [Act.put, List.setIfInBounds_toArray, List.set_cons_zero, List.set_cons_succ])
      refine wpAnyH_take (i := 16) (oi := ⟨some 40, _, _, _, _, _⟩) (v := ?_) rfl (by kernel_rfl) (by kernel_rfl) (by kernel_rfl) (fun _ _ _ h => h) (Or.inl ⟨by rfl, ?_⟩) (by assumption) ?_
      rotate_left
      · ((intro w hSw; (try dsimp only at hSw); go_simp); try with_reducible rfl)
      (try simp only [Act.put, List.setIfInBounds_toArray, List.set_cons_zero, List.set_cons_succ])
      refine wpAnyH_take (i := 17) (oi := ⟨some 41, _, _, _, _, _⟩) (v := ?_) rfl (by kernel_rfl) (by kernel_rfl) (by kernel_rfl) (fun _ _ _ h => h) (Or.inl ⟨by rfl, ?_⟩) (by assumption) ?_
      rotate_left
      · ((intro w hSw; (try dsimp only at hSw); go_simp); try with_reducible rfl)
      (try simp only [Act.put, List.setIfInBounds_toArray, List.set_cons_zero, List.set_cons_succ])
      refine wpAnyH_take (i := 18) (oi := ⟨some 42, _, _, _, _, _⟩) (v := ?_) rfl (by kernel_rfl) (by kernel_rfl) (by kernel_rfl) (fun _ _ _ h => h) (Or.inl ⟨by rfl, ?_⟩) (by assumption) ?_
      rotate_left
      · ((intro w hSw; (try dsimp only at hSw); go_simp); try with_reducible rfl)
      (try simp only [Act.put, List.setIfInBounds_toArray, List.set_cons_zero, List.set_cons_succ])
      refine wpAnyH_take (i := 19) (oi := ⟨some 43, _, _, _, _, _⟩) (v := ?_) rfl (by kernel_rfl) (by kernel_rfl) (by kernel_rfl) (fun _ _ _ h => h) (Or.inl ⟨by rfl, ?_⟩) (by assumption) ?_
      rotate_left
      · ((intro w hSw; (try dsimp only at hSw); go_simp); try with_reducible rfl)
      (try simp only [Act.put, List.setIfInBounds_toArray, List.set_cons_zero, List.set_cons_succ])
      refine wpAnyH_take (i := 20) (oi := ⟨some 44, _, _, _, _, _⟩) (v := ?_) rfl (by kernel_rfl) (by kernel_rfl) (by kernel_rfl) (fun _ _ _ h => h) (Or.inl ⟨by rfl, ?_⟩) (by assumption) ?_
      rotate_left
      · ((intro w hSw; (try dsimp only at hSw); go_simp); try with_reducible rfl)
      (try simp only [Act.put, List.setIfInBounds_toArray, List.set_cons_zero, List.set_cons_succ])
      refine wpAnyH_take (i := 21) (oi := ⟨some 45, _, _, _, _, _⟩) (v := ?_) rfl (by kernel_rfl) (by kernel_rfl) (by kernel_rfl) (fun _ _ _ h => h) (Or.inl ⟨by rfl, ?_⟩) (by assumption) ?_
      rotate_left
      · ((intro w hSw; (try dsimp only at hSw); go_simp); try with_reducible rfl)
      (try simp only [Act.put, List.setIfInBounds_toArray, List.set_cons_zero, List.set_cons_succ])
      refine wpAnyH_ready (rs := [22]) (by kernel_rfl) (by simp) (AllReadyH.cons rfl (fun K hK => ?_) AllReadyH.nil)
      rw [if_pos (by rfl)]
      go_simp
      go_at_call 11
      (with_reducible refine (CI.out _ hk0).mono ?_)
      rintro e v3 ⟨rfl, q, hq3⟩
      have hk3 : Below wo.heap.size wo v3 := by rw [hq3]; exact (below_drewN q (Below.refl _ _)).mono hk0.size |> hk0.trans
      clear hq3
      refine hK.out _ _ (HKT.out _ hk3) (fun hHeld => ?_)
      clear hK K
      (try simp only [Act.put, List.setIfInBounds_toArray, List.set_cons_zero, List.set_cons_succ])
      refine wpAnyH_take (i := 23) (oi := ⟨some 47, _, _, _, _, _⟩) (v := ?_) rfl (by kernel_rfl) (by kernel_rfl) (by kernel_rfl) (fun _ _ _ h => h) (Or.inl ⟨by rfl, ?_⟩) (by assumption) ?_
      rotate_left
      · ((intro w hSw; (try dsimp only at hSw); go_simp); try with_reducible rfl)
      (try simp only [Act.put, List.setIfInBounds_toArray, List.set_cons_zero, List.set_cons_succ])
      refine wpAnyH_take (i := 24) (oi := ⟨some 48, _, _, _, _, _⟩) (v := ?_) rfl (by kernel_rfl) (by kernel_rfl) (by kernel_rfl) (fun _ _ _ h => h) (Or.inl ⟨by rfl, ?_⟩) (by assumption) ?_
      rotate_left
      · ((intro w hSw; (try dsimp only at hSw); go_simp); try with_reducible rfl)
      (try simp only [Act.put, List.setIfInBounds_toArray, List.set_cons_zero, List.set_cons_succ])
      refine wpAnyH_done (by kernel_rfl) ?_ _
      have HL0 : RowKit.Hid (Below wo.heap.size wo v3) := Lib.hid hk3
      clear hk0 hk3 CI
      go_wp2_with fail
      go_loopw [6] (fun v6 wr => ∃ k : Nat, k ≤ qn ∧ v6 = .int .i64 (k : Int) ∧ RowKit.Hid (Below wo.heap.size wo wr)) (fun v6 _ => qn - (intOf v6).toNat)
      case atStart => exact ⟨0, Nat.zero_le _, rfl, HL0⟩
      case round =>
        obtain ⟨k, hk, rfl, HX⟩ := hrel
        clear HL0
        obtain ⟨wx, hwx⟩ : ∃ u, u = wr := ⟨_, rfl⟩
        rw [← hwx] at HX ⊢
        clear hwx
        have HWK : RowKit.Hid (wrap64 ((k : Int) + 1) = (k : Int) + 1) := Lib.hid (by unfold wrap64; omega)
        have d11 := (HKT.out _ HX.out).2.2.2.1
        by_cases hkl : k < qn
        · have hkB : k < BL.length := by rw [HPN.out]; exact hkl
          obtain ⟨gp, offp, rfl, hgp, hcp⟩ := (HPQ.out.1.since HX.out).2 (by omega)
          obtain ⟨y, hy⟩ : ∃ y, y = BL[k] := ⟨_, rfl⟩
          have hcy : wx.cell? ⟨gp, offp + k, none⟩ = some (.int .i64 y) := by rw [hy]; exact hcp k hkB
          have hoy : overB F (hd : Int) y = true := by rw [hy]; exact HOV.out _ (List.getElem_mem _)
          have CV : RowKit.Hid (∀ u, Below wo.heap.size wo u → Calls Try.prog 16 #[.agg #[.int .i64 r, .slice a m c], .int .i64 (hd : Int), .int .i64 y] u fun e w' => e = .returned (.bool true) ∧ Below u.heap.size u w') := Lib.hid fun u hb => by have h := refover_any r a m c F (hd : Int) y u (HROW.out u (HI.out.1.bel.trans (hb.mono HI.out.1.bel.size))) (by omega); rw [hoy] at h; exact h
          have HK2 : RowKit.Hid (∀ u, Below wx.heap.size wx u → (fun u : World => u.cell? ⟨w.heap.size, 0, none⟩ = some (.int .i64 r) ∧ u.cell? ⟨w.heap.size, 1, none⟩ = some (.slice a m c) ∧ u.cell? ⟨g1, i * 2, none⟩ = some (.int .i64 (hd : Int)) ∧ u.cell? ⟨g1, i * 2 + 1, none⟩ = some (.slice (some ⟨gp, offp, none⟩) qn pc) ∧ u.cell? ⟨gp, offp + k, none⟩ = some (.int .i64 y)) u) := Lib.hid fun u hb => by
            have h := HKT.out u (HX.out.trans (hb.mono HX.out.size))
            exact ⟨h.1, h.2.1, h.2.2.1, h.2.2.2.1, (hb.cell (p := ⟨gp, offp + k, none⟩) hgp).trans hcy⟩
          clear hy hcp hcy hoy hgp
          have hk0 : Below wx.heap.size wx wx.drew := (Below.refl _ _).drew
          have hk00 : (0 : Int) ≤ (k : Int) := by omega
          have hkm2 : (k : Int) < (qn : Int) := by omega
          go_upto_region 13 with fail
          clear d11
          refine wp_region_held_drew (S := (fun u : World => u.cell? ⟨w.heap.size, 0, none⟩ = some (.int .i64 r) ∧ u.cell? ⟨w.heap.size, 1, none⟩ = some (.slice a m c) ∧ u.cell? ⟨g1, i * 2, none⟩ = some (.int .i64 (hd : Int)) ∧ u.cell? ⟨g1, i * 2 + 1, none⟩ = some (.slice (some ⟨gp, offp, none⟩) qn pc) ∧ u.cell? ⟨gp, offp + k, none⟩ = some (.int .i64 y))) (by kernel_rfl) (HK2.out _ hk0) (fun hHeld => ?_)
          refine wpAnyH_take (i := 0) (oi := ⟨some 59, _, _, _, _, _⟩) (v := ?_) rfl (by kernel_rfl) (by kernel_rfl) (by kernel_rfl) (fun _ _ _ h => h) (Or.inl ⟨by rfl, ?_⟩) (by assumption) ?_
          rotate_left
          · ((intro w hSw; (try dsimp only at hSw); go_simp); try with_reducible rfl)
          (try simp only [Act.put, List.setIfInBounds_toArray, List.set_cons_zero, List.set_cons_succ])
          refine wpAnyH_take (i := 1) (oi := ⟨some 60, _, _, _, _, _⟩) (v := ?_) rfl (by kernel_rfl) (by kernel_rfl) (by kernel_rfl) (fun _ _ _ h => h) (Or.inl ⟨by rfl, ?_⟩) (by assumption) ?_
          rotate_left
          · ((intro w hSw; (try dsimp only at hSw); go_simp); try with_reducible rfl)
          (try simp only [Act.put, List.setIfInBounds_toArray, List.set_cons_zero, List.set_cons_succ])
          refine wpAnyH_take (i := 2) (oi := ⟨some 61, _, _, _, _, _⟩) (v := ?_) rfl (by kernel_rfl) (by kernel_rfl) (by kernel_rfl) (fun _ _ _ h => h) (Or.inl ⟨by rfl, ?_⟩) (by assumption) ?_
          rotate_left
          · ((intro w hSw; (try dsimp only at hSw); go_simp); try with_reducible rfl)
          (try simp only [Act.put, List.setIfInBounds_toArray, List.set_cons_zero, List.set_cons_succ])
          refine wpAnyH_take (i := 3) (oi := ⟨some 62, _, _, _, _, _⟩) (v := ?_) rfl (by kernel_rfl) (by kernel_rfl) (by kernel_rfl) (fun _ _ _ h => h) (Or.inl ⟨by rfl, ?_⟩) (by assumption) ?_
          rotate_left
          · ((intro w hSw; (try dsimp only at hSw); go_simp); try with_reducible rfl)
          (try simp only [Act.put, List.setIfInBounds_toArray, List.set_cons_zero, List.set_cons_succ])
          refine wpAnyH_take (i := 4) (oi := ⟨some 63, _, _, _, _, _⟩) (v := ?_) rfl (by kernel_rfl) (by kernel_rfl) (by kernel_rfl) (fun _ _ _ h => h) (Or.inl ⟨by rfl, ?_⟩) (by assumption) ?_
          rotate_left
          · ((intro w hSw; (try dsimp only at hSw); go_simp); try with_reducible rfl)
          (try simp only [Act.put, List.setIfInBounds_toArray, List.set_cons_zero, List.set_cons_succ])
          refine wpAnyH_take (i := 5) (oi := ⟨some 64, _, _, _, _, _⟩) (v := ?_) rfl (by kernel_rfl) (by kernel_rfl) (by kernel_rfl) (fun _ _ _ h => h) (Or.inl ⟨by rfl, ?_⟩) (by assumption) ?_
          rotate_left
          · ((intro w hSw; (try dsimp only at hSw); go_simp); try with_reducible rfl)
          (try simp only [Act.put, List.setIfInBounds_toArray, List.set_cons_zero, List.set_cons_succ])
          refine wpAnyH_take (i := 6) (oi := ⟨some 65, _, _, _, _, _⟩) (v := ?_) rfl (by kernel_rfl) (by kernel_rfl) (by kernel_rfl) (fun _ _ _ h => h) (Or.inl ⟨by rfl, ?_⟩) (by assumption) ?_
          rotate_left
          · ((intro w hSw; (try dsimp only at hSw); go_simp); try with_reducible rfl)
          (try simp only [Act.put, List.setIfInBounds_toArray, List.set_cons_zero, List.set_cons_succ])
          refine wpAnyH_take (i := 7) (oi := ⟨some 66, _, _, _, _, _⟩) (v := ?_) rfl (by kernel_rfl) (by kernel_rfl) (by kernel_rfl) (fun _ _ _ h => h) (Or.inl ⟨by rfl, ?_⟩) (by assumption) ?_
          rotate_left
          · ((intro w hSw; (try dsimp only at hSw); go_simp); try with_reducible rfl)
          (try simp only [Act.put, List.setIfInBounds_toArray, List.set_cons_zero, List.set_cons_succ])
          refine wpAnyH_take (i := 8) (oi := ⟨some 67, _, _, _, _, _⟩) (v := ?_) rfl (by kernel_rfl) (by kernel_rfl) (by kernel_rfl) (fun _ _ _ h => h) (Or.inl ⟨by rfl, ?_⟩) (by assumption) ?_
          rotate_left
          · ((intro w hSw; (try dsimp only at hSw); go_simp); try with_reducible rfl)
          (try simp only [Act.put, List.setIfInBounds_toArray, List.set_cons_zero, List.set_cons_succ])
          refine wpAnyH_take (i := 9) (oi := ⟨some 68, _, _, _, _, _⟩) (v := ?_) rfl (by kernel_rfl) (by kernel_rfl) (by kernel_rfl) (fun _ _ _ h => h) (Or.inl ⟨by rfl, ?_⟩) (by assumption) ?_
          rotate_left
          · ((intro w hSw; (try dsimp only at hSw); go_simp); try with_reducible rfl)
          (try simp only [Act.put, List.setIfInBounds_toArray, List.set_cons_zero, List.set_cons_succ])
          refine wpAnyH_take (i := 10) (oi := ⟨some 69, _, _, _, _, _⟩) (v := ?_) rfl (by kernel_rfl) (by kernel_rfl) (by kernel_rfl) (fun _ _ _ h => h) (Or.inl ⟨by rfl, ?_⟩) (by assumption) ?_
          rotate_left
          · ((intro w hSw; (try dsimp only at hSw); go_simp); try with_reducible rfl)
          (try simp only [Act.put, List.setIfInBounds_toArray, List.set_cons_zero, List.set_cons_succ])
          refine wpAnyH_take (i := 11) (oi := ⟨some 70, _, _, _, _, _⟩) (v := ?_) rfl (by kernel_rfl) (by kernel_rfl) (by kernel_rfl) (fun _ _ _ h => h) (Or.inl ⟨by rfl, ?_⟩) (by assumption) ?_
          rotate_left
          · ((intro w hSw; (try dsimp only at hSw); go_simp); try with_reducible rfl)
          (try simp only [Act.put, List.setIfInBounds_toArray, List.set_cons_zero, List.set_cons_succ])
          refine wpAnyH_take (i := 12) (oi := ⟨some 71, _, _, _, _, _⟩) (v := ?_) rfl (by kernel_rfl) (by kernel_rfl) (by kernel_rfl) (fun _ _ _ h => h) (Or.inl ⟨by rfl, ?_⟩) (by assumption) ?_
          rotate_left
          · ((intro w hSw; (try dsimp only at hSw); go_simp); try with_reducible rfl)
          (try simp only [Act.put, List.setIfInBounds_toArray, List.set_cons_zero, List.set_cons_succ])
          refine wpAnyH_take (i := 13) (oi := ⟨some 72, _, _, _, _, _⟩) (v := ?_) rfl (by kernel_rfl) (by kernel_rfl) (by kernel_rfl) (fun _ _ _ h => h) (Or.inl ⟨by rfl, ?_⟩) (by assumption) ?_
          rotate_left
          · ((intro w hSw; (try dsimp only at hSw); go_simp); try with_reducible rfl)
          (try simp only [Act.put, List.setIfInBounds_toArray, List.set_cons_zero, List.set_cons_succ])
          refine wpAnyH_ready (rs := [14]) (by kernel_rfl) (by simp) (AllReadyH.cons rfl (fun K hK => ?_) AllReadyH.nil)
          rw [if_pos (by rfl)]
          go_simp
          go_at_call 16
          (with_reducible refine (CV.out _ (HX.out.trans (hk0.mono HX.out.size))).mono ?_)
          rintro e v3 ⟨rfl, hb3⟩
          have hk3 : Below wx.heap.size wx v3 := hk0.trans (hb3.mono hk0.size)
          clear hb3
          refine hK.out _ _ (HK2.out _ hk3) (fun hHeld => ?_)
          clear hK K
          (try simp only [Act.put, List.setIfInBounds_toArray, List.set_cons_zero, List.set_cons_succ])
          refine wpAnyH_take (i := 15) (oi := ⟨some 74, _, _, _, _, _⟩) (v := ?_) rfl (by kernel_rfl) (by kernel_rfl) (by kernel_rfl) (fun _ _ _ h => h) (Or.inl ⟨by rfl, ?_⟩) (by assumption) ?_
          rotate_left
          · ((intro w hSw; (try dsimp only at hSw); go_simp); try with_reducible rfl)
          (try simp only [Act.put, List.setIfInBounds_toArray, List.set_cons_zero, List.set_cons_succ])
          refine wpAnyH_done (by kernel_rfl) ?_ _
          have HX3 : RowKit.Hid (Below wo.heap.size wo v3) := Lib.hid (HX.out.trans (hk3.mono HX.out.size))
          clear hk0 hk3 HK2 CV
          go_wp2_with fail
          go_roundw
          case rel => exact ⟨k + 1, hkl, by go_num, HX3⟩
          case measure => simp [intOf, HWK.out]; omega
        · obtain rfl : k = qn := by omega
          have HI6 : RowKit.Hid (LawSt w r a m c none 0 [] wx ∧ Both wx U.heap.size (some ⟨g1, 0, none⟩) yn xc l1 (some ⟨g2, 0, none⟩) yn yc l2 LL) := Lib.hid ⟨HI.out.1.since HX.out, HI.out.2.since HX.out⟩
          go_wp2_with fail
          go_roundw
          case rel => exact ⟨i + 1, hlt, by go_num, HI6⟩
          case measure => simp [intOf, HW.out]; omega
    · obtain rfl : i = yn := by omega
      go_wp2_with (go_at_call 13; refine (lives8_any wo).mono ?_; rintro e w9 ⟨rfl, hb9⟩; have HB9 := Lib.hid hb9; clear hb9)
      go_ret
      exact ⟨rfl, HI.out.1.bel.trans (HB9.out.mono HI.out.1.bel.size)⟩
end Go.Proofs.Ytnnccahpgailiaa
