/- Layer 13: the law UsesNeeded: which values each block needs ahead of it, and leaves to its next ones (mk_uneed.py). -/
import Derived.Test.YtdchhfdmingnaaaDoorVT5
import Derived.Test.YtdchhfdmingnaaaDoorVT8
import Derived.Test.YtdchhfdmingnaaaDoorVUsesY

namespace Go.Proofs.YtdchhfdmingnaaaDoor
open Go.RowKit (wrap64 intOf Below)
set_option linter.unusedVariables false
set_option linter.unusedSimpArgs false
theorem ulawN_box (w : World) (v0 v1 v2 : Value) {W : World} (hW : w.alloc (.cells #[v0, v1, v2] 26) = W) : Below w.heap.size w W ∧ w.heap.size < W.heap.size ∧ W.cell? ⟨w.heap.size, 0, none⟩ = some v0 ∧ W.cell? ⟨w.heap.size, 1, none⟩ = some v1 ∧ W.cell? ⟨w.heap.size, 2, none⟩ = some v2 := by
  rw [← hW]
  exact ⟨(Below.refl _ w).alloc (Nat.le_refl _) _, by simp, World.cell?_alloc_mark _ _ _ _ _, World.cell?_alloc_mark _ _ _ _ _, World.cell?_alloc_mark _ _ _ _ _⟩
set_option maxRecDepth 100000 in
set_option maxHeartbeats 8000000 in
theorem usesneeded_walk (sa : Option Addr) (sn sc : Nat) (ca : Option Addr) (cn cc : Nat) (fa : Option Addr) (fn fc : Nat) (P : ProgD) (nn : Nat) (hnn : nn ≤ 255) (w : World) (hft : FT w)
    (hP : ProgQ w [.slice sa sn sc, .slice ca cn cc, .slice fa fn fc] P) (hcap : RowV UFuncC 2 w (.slice fa fn fc) P.funcs) :
    Calls Tryd.prog 4 #[.agg #[.slice sa sn sc, .slice ca cn cc, .slice fa fn fc], .int .u8 (nn : Int)] w fun e w' => e = .returned (.bool true) ∧ Below w.heap.size w w' := by
  obtain ⟨W, hW⟩ : ∃ U, w.alloc (.cells #[.slice sa sn sc, .slice ca cn cc, .slice fa fn fc] 26) = U := ⟨_, rfl⟩
  obtain ⟨hb0, hs0, hc0, hc1, hc2⟩ := ulawN_box w _ _ _ hW
  have HFT := Lib.hid (hft.since hb0)
  have HB0 := Lib.hid hb0
  have hcap1 : RowV UFuncC 2 W (.slice fa fn fc) P.funcs := hcap.since (fun W W' cs x hb h => ⟨FuncQ.lasts _ _ _ _ hb h.1, h.2⟩) hb0
  have CF := Lib.hid (ulfun_any w.heap.size nn hnn W hc0 hc1 hc2 (ProgQ.lasts _ _ _ _ hb0 hP) hcap1)
  have CLI : RowKit.Hid (∀ u, Below W.heap.size W u → Calls Tryd.prog 8 #[] u fun e w' => e = .returned (.bool true) ∧ Below W.heap.size W w') := Lib.hid fun u hu => (ulives_any u (HFT.out.since hu)).mono fun e w' h => ⟨h.1, hu.trans (h.2.mono hu.size)⟩
  clear hP hft hb0 hs0 hc0 hc1 hc2 hcap hcap1
  go_enter Tryd.func4, Tryd.ntmps4
  go_upto_region 2 with fail
  try rw [hW]
  clear hW
  go_wp2_with fail
  refine CF.out.mono ?_
  rintro e w2 ⟨rfl | ⟨F, ba, m, bc, hmem, hpp, rfl, hfq, hmb, hb8⟩, hb2⟩
  · have HB2 := Lib.hid hb2
    clear hb2
    go_wp2_with (go_at_call 8; (with_reducible refine (CLI.out _ (HB2.out.alloc HB2.out.size _)).mono ?_); rintro e w3 ⟨rfl, hb⟩; have HB3 := Lib.hid hb; clear hb)
    go_ret
    exact ⟨rfl, HB0.out.trans (HB3.out.mono HB0.out.size)⟩
  · obtain ⟨rt, hrt⟩ : ∃ t, t = F.ret := ⟨_, rfl⟩
    rw [← hrt] at hfq ⊢
    obtain ⟨Y, hY⟩ : ∃ U, w2.alloc (.cells #[.int .i64 rt, .slice ba m bc] 30) = U := ⟨_, rfl⟩
    have hbY : Below w2.heap.size w2 Y := by rw [← hY]; exact (Below.refl _ w2).alloc (Nat.le_refl _) _
    have hcY : ∀ j, Y.cell? ⟨w2.heap.size, j, none⟩ = (#[.int .i64 rt, .slice ba m bc] : Array Value)[j]? := fun j => by rw [← hY]; exact World.cell?_alloc_mark _ _ _ _ _
    have hpY : w2.heap.size < Y.heap.size := by rw [← hY]; simp
    have HBY : RowKit.Hid (Below W.heap.size W Y) := Lib.hid (hb2.trans (hbY.mono hb2.size))
    have HFQ : RowKit.Hid (FuncQ Y [.int .i64 rt, .slice ba m bc] F) := Lib.hid (FuncQ.lasts _ _ _ _ hbY hfq)
    have hsu := smU_of (by omega) hpp hmem
    have HSM := Lib.hid hsu.1
    have HN := Lib.hid hsu.2
    have HML : RowKit.Hid (m = F.blocks.length) := Lib.hid (by obtain ⟨_, he, _, _, _, _, e, h, _⟩ := hfq; simp only [List.cons.injEq, and_true] at he; obtain ⟨_, rfl⟩ := he; cases e; exact h.symm)
    have hm5 : m ≤ 100000 := by have := hsu.1.blocks; rw [HML.out]; exact this
    have HYC : RowKit.Hid (∀ U, Below Y.heap.size Y U → U.cell? ⟨w2.heap.size, 0, none⟩ = some (.int .i64 rt) ∧ U.cell? ⟨w2.heap.size, 1, none⟩ = some (.slice ba m bc)) := Lib.hid fun U hU => ⟨(hU.cell (p := ⟨w2.heap.size, 0, none⟩) hpY).trans (hcY 0), (hU.cell (p := ⟨w2.heap.size, 1, none⟩) hpY).trans (hcY 1)⟩
    have CN : RowKit.Hid (∀ u, Below Y.heap.size Y u → Calls Tryd.prog 14 #[.agg #[.int .i64 rt, .slice ba m bc]] u (RowsPost m ((List.range m).map (neededU F)) u)) := Lib.hid fun u hu => needed_any rt ba m bc F u (FuncQ.lasts _ _ _ _ hu HFQ.out) (HFT.out.since (HBY.out.trans (hu.mono HBY.out.size))) HSM.out HN.out
    have CL : RowKit.Hid (∀ u, Below Y.heap.size Y u → Calls Tryd.prog 15 #[.agg #[.int .i64 rt, .slice ba m bc]] u (RowsPost m ((List.range m).map (leftU F)) u)) := Lib.hid fun u hu => uleft_any rt ba m bc F u (FuncQ.lasts _ _ _ _ hu HFQ.out) (HFT.out.since (HBY.out.trans (hu.mono HBY.out.size))) HSM.out HN.out
    have CLY : RowKit.Hid (∀ u, Below Y.heap.size Y u → Calls Tryd.prog 8 #[] u fun e w' => e = .returned (.bool true) ∧ Below Y.heap.size Y w') := Lib.hid fun u hu => (ulives_any u (HFT.out.since (HBY.out.trans (hu.mono HBY.out.size)))).mono fun e w' h => ⟨h.1, hu.trans (h.2.mono hu.size)⟩
    have CRN : RowKit.Hid (∀ u (i : Nat), Below Y.heap.size Y u → i < m → Calls Tryd.prog 17 #[.agg #[.int .i64 rt, .slice ba m bc], .int .i64 (i : Int)] u (ListPostU (neededU F i) u)) := Lib.hid fun u i hu hi => refneeded_any rt ba m bc F i u (FuncQ.lasts _ _ _ _ hu HFQ.out) HSM.out hi
    have CRL : RowKit.Hid (∀ u (i : Nat), Below Y.heap.size Y u → i < m → Calls Tryd.prog 18 #[.agg #[.int .i64 rt, .slice ba m bc], .int .i64 (i : Int)] u (ListPostU (leftU F i) u)) := Lib.hid fun u i hu hi => refleft_any rt ba m bc F i u (FuncQ.lasts _ _ _ _ hu HFQ.out) HSM.out hi
    have CMO : RowKit.Hid (∀ u, Below Y.heap.size Y u → Calls Tryd.prog 19 #[.agg #[.int .i64 rt, .slice ba m bc]] u fun e w' => e = .returned (.int .i64 (mostU F m : Int)) ∧ Below u.heap.size u w') := Lib.hid fun u hu => most_any rt ba m bc F u (FuncQ.lasts _ _ _ _ hu HFQ.out) (HFT.out.since (HBY.out.trans (hu.mono HBY.out.size))) HSM.out HN.out
    clear hb2 hbY hcY hpY hfq hmem hrt hsu hpp hb8 CF CLI
    go_upto_region 5 with fail
    try rw [hY]
    clear hY
    refine wp_region_T (S := (fun u : World => u.cell? ⟨w2.heap.size, 0, none⟩ = some (.int .i64 rt) ∧ u.cell? ⟨w2.heap.size, 1, none⟩ = some (.slice ba m bc))) 6 (by kernel_rfl) (HYC.out _ (Below.refl _ Y).drew) (fun hHeld => ?_)
    refine wpAnyT_take (i := 0) (oi := ⟨some 21, _, _, _, _, _⟩) (v := ?_) 8 rfl (by kernel_rfl) (by kernel_rfl) (by kernel_rfl) (by kernel_rfl) (by kernel_rfl) (fun _ _ _ h => h) (Or.inl ⟨by rfl, ?_⟩) (by assumption) ?_
    rotate_left
    · ((intro w hSw; (try dsimp only at hSw); go_simp); try with_reducible rfl)
    (try simp only [Act.put, List.setIfInBounds_toArray, List.set_cons_zero, List.set_cons_succ])
    refine wpAnyT_take (i := 2) (oi := ⟨some 23, _, _, _, _, _⟩) (v := ?_) 8 rfl (by kernel_rfl) (by kernel_rfl) (by kernel_rfl) (by kernel_rfl) (by kernel_rfl) (fun _ _ _ h => h) (Or.inl ⟨by rfl, ?_⟩) (by assumption) ?_
    rotate_left
    · ((intro w hSw; (try dsimp only at hSw); go_simp); try with_reducible rfl)
    (try simp only [Act.put, List.setIfInBounds_toArray, List.set_cons_zero, List.set_cons_succ])
    refine wpAnyT_one (i := 1) (by kernel_rfl) rfl (fun K hK => ?_)
    rw [if_pos (by rfl)]
    go_simp
    (with_reducible refine (CN.out _ (Below.refl _ Y).drew).mono ?_)
    rintro e w4 ⟨q1, x1, g1, vs1, rfl, h1, hb⟩
    have HB4 : RowKit.Hid (Below Y.heap.size Y w4) := Lib.hid (((Below.refl _ Y).drew).trans hb)
    have HT1 := Lib.hid h1
    clear h1 hb
    refine hK.out _ _ (HYC.out _ HB4.out) (fun hHeld => ?_)
    clear hK K
    (try simp only [Act.put, List.setIfInBounds_toArray, List.set_cons_zero, List.set_cons_succ])
    refine wpAnyT_one (i := 3) (by kernel_rfl) rfl (fun K hK => ?_)
    rw [if_pos (by rfl)]
    go_simp
    (with_reducible refine (CL.out _ HB4.out).mono ?_)
    rintro e w5 ⟨q2, x2, g2, vs2, rfl, h2, hb⟩
    have HB5 : RowKit.Hid (Below Y.heap.size Y w5) := Lib.hid (HB4.out.trans (hb.mono HB4.out.size))
    have HS1 := Lib.hid (HT1.out.since hb)
    have HS2 := Lib.hid h2
    clear h2 hb HT1
    refine hK.out _ _ (HYC.out _ HB5.out) (fun hHeld => ?_)
    clear hK K
    (try simp only [Act.put, List.setIfInBounds_toArray, List.set_cons_zero, List.set_cons_succ])
    refine wpAnyT_takeW (i := 4) (oi := ⟨some 8, _, _, _, _, _⟩) (v := ?_) rfl (by kernel_rfl) (by kernel_rfl) (by kernel_rfl) (fun _ _ _ h => h) (Or.inl ⟨by rfl, ?_⟩) ?_
    rotate_left
    · ((intro w _; go_simp); try with_reducible rfl)
    (try simp only [Act.put, List.setIfInBounds_toArray, List.set_cons_zero, List.set_cons_succ])
    refine wpAnyT_takeW (i := 5) (oi := ⟨some 9, _, _, _, _, _⟩) (v := ?_) rfl (by kernel_rfl) (by kernel_rfl) (by kernel_rfl) (fun _ _ _ h => h) (Or.inl ⟨by rfl, ?_⟩) ?_
    rotate_left
    · ((intro w _; go_simp); try with_reducible rfl)
    (try simp only [Act.put, List.setIfInBounds_toArray, List.set_cons_zero, List.set_cons_succ])
    refine wpAnyT_done (by kernel_rfl) ?_
    have HB5 : RowKit.Hid (Below Y.heap.size Y w5) := HB5
    obtain ⟨f0, f1⟩ := HYC.out _ HB5.out
    have hmm : ((m : Int) != (m : Int)) = false := by simp
    go_upto_region 8 with fail
    go_wp2_with fail
    go_loopw [10, 11] (fun v10 v11 wr => ∃ i t : Nat, i ≤ m ∧ v11 = .int .i64 (i : Int) ∧ v10 = .int .i64 (t : Int) ∧ RowKit.Hid (Below w5.heap.size w5 wr ∧ t = mostU F i)) (fun _ v11 _ => m - (intOf v11).toNat)
    case atStart => exact ⟨0, 0, Nat.zero_le _, rfl, rfl, Lib.hid ⟨Below.refl _ _, by simp [mostU]⟩⟩
    case round =>
      obtain ⟨i, t, hi, rfl, rfl, HR⟩ := hrel
      obtain ⟨wo, hwo⟩ : ∃ u, u = wr := ⟨_, rfl⟩
      rw [← hwo] at HR ⊢
      clear hwo
      clear f0 f1
      have htb : t ≤ 100000 := by rw [HR.out.2]; exact mostU_le HSM.out i
      by_cases hlt : i < m
      · have hltz : (i : Int) < (m : Int) := by omega
        have hi0 : (0 : Int) ≤ (i : Int) := by omega
        obtain ⟨a1, k1, c1, hk1, hr1⟩ := rowsM_read HS1.out hlt (by simpa using hlt)
        obtain ⟨a2, k2, c2, hk2, hr2⟩ := rowsM_read HS2.out hlt (by simpa using hlt)
        simp only [List.getElem_map, List.getElem_range] at hk1 hk2 hr1 hr2
        have hk1b : k1 ≤ 100000 := by have := risingU_len (fun v => needB F v i) (valU F); have := HSM.out.vals; unfold neededU at hk1; omega
        have hk2b : k2 ≤ 100000 := by have := risingU_len (fun v => leftB F v i) (valU F); have := HSM.out.vals; unfold leftU at hk2; omega
        have HK1 := Lib.hid hk1
        have HK2 := Lib.hid hk2
        have HR1 := Lib.hid hr1
        have HR2 := Lib.hid hr2
        have HKB := Lib.hid (And.intro hk1b hk2b)
        have HSB1 : RowKit.Hid (sameB (neededU F i) (neededU F i) = true) := Lib.hid (decide_eq_true rfl)
        have HSB2 : RowKit.Hid (sameB (leftU F i) (leftU F i) = true) := Lib.hid (decide_eq_true rfl)
        have HMO : RowKit.Hid (mostU F (i + 1) = max t k1) := Lib.hid (by rw [mostU_more, ← HR.out.2, hk1])
        have HSS : RowKit.Hid (∀ u, Below w5.heap.size w5 u → (u.cell? ⟨w2.heap.size, 0, none⟩ = some (.int .i64 rt) ∧ u.cell? ⟨w2.heap.size, 1, none⟩ = some (.slice ba m bc)) ∧ u.cell? ⟨g1, i, none⟩ = some (.slice a1 k1 c1) ∧ u.cell? ⟨g2, i, none⟩ = some (.slice a2 k2 c2)) := Lib.hid fun u hu => ⟨HYC.out _ (HB5.out.trans (hu.mono HB5.out.size)), (HR1.out u hu).1, (HR2.out u hu).1⟩
        clear hk1 hk2 hr1 hr2 hk2b
        go_upto_region 12 with fail
        refine wp_region_T (S := (fun u : World => (u.cell? ⟨w2.heap.size, 0, none⟩ = some (.int .i64 rt) ∧ u.cell? ⟨w2.heap.size, 1, none⟩ = some (.slice ba m bc)) ∧ u.cell? ⟨g1, i, none⟩ = some (.slice a1 k1 c1) ∧ u.cell? ⟨g2, i, none⟩ = some (.slice a2 k2 c2))) 20 (by kernel_rfl) (HSS.out _ (HR.out.1.trans ((Below.refl _ wo).drew.mono HR.out.1.size))) (fun hHeld => ?_)
        refine wpAnyT_takeW (i := 0) (oi := ⟨some 45, _, _, _, _, _⟩) (v := ?_) rfl (by kernel_rfl) (by kernel_rfl) (by kernel_rfl) (fun _ _ _ h => h) (Or.inl ⟨by rfl, ?_⟩) ?_
        rotate_left
        · ((intro w _; go_simp); try with_reducible rfl)
        (try simp only [Act.put, List.setIfInBounds_toArray, List.set_cons_zero, List.set_cons_succ])
        refine wpAnyT_takeW (i := 1) (oi := ⟨some 46, _, _, _, _, _⟩) (v := ?_) rfl (by kernel_rfl) (by kernel_rfl) (by kernel_rfl) (fun _ _ _ h => h) (Or.inl ⟨by rfl, ?_⟩) ?_
        rotate_left
        · ((intro w _; go_simp); try with_reducible rfl)
        (try simp only [Act.put, List.setIfInBounds_toArray, List.set_cons_zero, List.set_cons_succ])
        refine wpAnyT_takeW (i := 2) (oi := ⟨some 47, _, _, _, _, _⟩) (v := ?_) rfl (by kernel_rfl) (by kernel_rfl) (by kernel_rfl) (fun _ _ _ h => h) (Or.inl ⟨by rfl, ?_⟩) ?_
        rotate_left
        · ((intro w _; go_simp); try with_reducible rfl)
        (try simp only [Act.put, List.setIfInBounds_toArray, List.set_cons_zero, List.set_cons_succ])
        refine wpAnyT_take (i := 3) (oi := ⟨some 48, _, _, _, _, _⟩) (v := ?_) 8 rfl (by kernel_rfl) (by kernel_rfl) (by kernel_rfl) (by kernel_rfl) (by kernel_rfl) (fun _ _ _ h => h) (Or.inl ⟨by rfl, ?_⟩) (by assumption) ?_
        rotate_left
        · ((intro w hSw; (try dsimp only at hSw); go_simp); try with_reducible rfl)
        (try simp only [Act.put, List.setIfInBounds_toArray, List.set_cons_zero, List.set_cons_succ])
        refine wpAnyT_take (i := 4) (oi := ⟨some 49, _, _, _, _, _⟩) (v := ?_) 8 rfl (by kernel_rfl) (by kernel_rfl) (by kernel_rfl) (by kernel_rfl) (by kernel_rfl) (fun _ _ _ h => h) (Or.inl ⟨by rfl, ?_⟩) (by assumption) ?_
        rotate_left
        · ((intro w hSw; (try dsimp only at hSw); go_simp); try with_reducible rfl)
        (try simp only [Act.put, List.setIfInBounds_toArray, List.set_cons_zero, List.set_cons_succ])
        refine wpAnyT_takeW (i := 5) (oi := ⟨some 50, _, _, _, _, _⟩) (v := ?_) rfl (by kernel_rfl) (by kernel_rfl) (by kernel_rfl) (fun _ _ _ h => h) (Or.inl ⟨by rfl, ?_⟩) ?_
        rotate_left
        · ((intro w _; go_simp); try with_reducible rfl)
        (try simp only [Act.put, List.setIfInBounds_toArray, List.set_cons_zero, List.set_cons_succ])
        refine wpAnyT_one (i := 6) (by kernel_rfl) rfl (fun K hK => ?_)
        rw [if_pos (by rfl)]
        go_simp
        (with_reducible refine (CRN.out _ i (HB5.out.trans ((HR.out.1.trans ((Below.refl _ wo).drew.mono HR.out.1.size)).mono HB5.out.size)) hlt).mono ?_)
        rintro e w6 ⟨p1, p1n, p1c, rfl, ho, hb⟩
        have HB6 : RowKit.Hid (Below w5.heap.size w5 w6) := Lib.hid ((HR.out.1.trans ((Below.refl _ wo).drew.mono HR.out.1.size)).trans (hb.mono (HR.out.1.trans ((Below.refl _ wo).drew.mono HR.out.1.size)).size))
        have HO6 := Lib.hid ho.read
        have HP6 : RowKit.Hid (p1n ≤ 100000) := Lib.hid (by have h1 := ho.read.1; have h2 := HK1.out; have h3 := HKB.out; omega)
        clear ho hb
        refine hK.out _ _ (HSS.out _ HB6.out) (fun hHeld => ?_)
        clear hK K
        (try simp only [Act.put, List.setIfInBounds_toArray, List.set_cons_zero, List.set_cons_succ])
        refine wpAnyT_one (i := 7) (by kernel_rfl) rfl (fun K hK => ?_)
        rw [if_pos (by rfl)]
        go_simp
        have CI6 := Lib.hid (ints_any a1 p1 k1 p1n c1 p1c (neededU F i) (neededU F i) w6 (HR1.out _ HB6.out).2 HO6.out (by have := HKB.out.1; omega) (by have := HP6.out; omega))
        (with_reducible refine CI6.out.mono ?_)
        rintro e v7 ⟨rfl, d7, rfl⟩
        rw [HSB1.out]
        have HB7 : RowKit.Hid (Below w5.heap.size w5 (w6.drewN d7)) := Lib.hid (belowU_drewN d7 HB6.out)
        refine hK.out _ _ (HSS.out _ HB7.out) (fun hHeld => ?_)
        clear hK K
        (try simp only [Act.put, List.setIfInBounds_toArray, List.set_cons_zero, List.set_cons_succ])
        refine wpAnyT_takeW (i := 8) (oi := ⟨some 53, _, _, _, _, _⟩) (v := ?_) rfl (by kernel_rfl) (by kernel_rfl) (by kernel_rfl) (fun _ _ _ h => h) (Or.inl ⟨by rfl, ?_⟩) ?_
        rotate_left
        · ((intro w _; go_simp); try with_reducible rfl)
        (try simp only [Act.put, List.setIfInBounds_toArray, List.set_cons_zero, List.set_cons_succ])
        refine wpAnyT_takeW (i := 9) (oi := ⟨some 54, _, _, _, _, _⟩) (v := ?_) rfl (by kernel_rfl) (by kernel_rfl) (by kernel_rfl) (fun _ _ _ h => h) (Or.inl ⟨by rfl, ?_⟩) ?_
        rotate_left
        · ((intro w _; go_simp); try with_reducible rfl)
        (try simp only [Act.put, List.setIfInBounds_toArray, List.set_cons_zero, List.set_cons_succ])
        refine wpAnyT_takeW (i := 10) (oi := ⟨some 55, _, _, _, _, _⟩) (v := ?_) rfl (by kernel_rfl) (by kernel_rfl) (by kernel_rfl) (fun _ _ _ h => h) (Or.inl ⟨by rfl, ?_⟩) ?_
        rotate_left
        · ((intro w _; go_simp); try with_reducible rfl)
        (try simp only [Act.put, List.setIfInBounds_toArray, List.set_cons_zero, List.set_cons_succ])
        refine wpAnyT_takeW (i := 11) (oi := ⟨some 56, _, _, _, _, _⟩) (v := ?_) rfl (by kernel_rfl) (by kernel_rfl) (by kernel_rfl) (fun _ _ _ h => h) (Or.inl ⟨by rfl, ?_⟩) ?_
        rotate_left
        · ((intro w _; go_simp); try with_reducible rfl)
        (try simp only [Act.put, List.setIfInBounds_toArray, List.set_cons_zero, List.set_cons_succ])
        refine wpAnyT_takeW (i := 12) (oi := ⟨some 57, _, _, _, _, _⟩) (v := ?_) rfl (by kernel_rfl) (by kernel_rfl) (by kernel_rfl) (fun _ _ _ h => h) (Or.inl ⟨by rfl, ?_⟩) ?_
        rotate_left
        · ((intro w _; go_simp); try with_reducible rfl)
        (try simp only [Act.put, List.setIfInBounds_toArray, List.set_cons_zero, List.set_cons_succ])
        refine wpAnyT_take (i := 13) (oi := ⟨some 58, _, _, _, _, _⟩) (v := ?_) 8 rfl (by kernel_rfl) (by kernel_rfl) (by kernel_rfl) (by kernel_rfl) (by kernel_rfl) (fun _ _ _ h => h) (Or.inl ⟨by rfl, ?_⟩) (by assumption) ?_
        rotate_left
        · ((intro w hSw; (try dsimp only at hSw); go_simp); try with_reducible rfl)
        (try simp only [Act.put, List.setIfInBounds_toArray, List.set_cons_zero, List.set_cons_succ])
        refine wpAnyT_take (i := 14) (oi := ⟨some 59, _, _, _, _, _⟩) (v := ?_) 8 rfl (by kernel_rfl) (by kernel_rfl) (by kernel_rfl) (by kernel_rfl) (by kernel_rfl) (fun _ _ _ h => h) (Or.inl ⟨by rfl, ?_⟩) (by assumption) ?_
        rotate_left
        · ((intro w hSw; (try dsimp only at hSw); go_simp); try with_reducible rfl)
        (try simp only [Act.put, List.setIfInBounds_toArray, List.set_cons_zero, List.set_cons_succ])
        refine wpAnyT_takeW (i := 15) (oi := ⟨some 60, _, _, _, _, _⟩) (v := ?_) rfl (by kernel_rfl) (by kernel_rfl) (by kernel_rfl) (fun _ _ _ h => h) (Or.inl ⟨by rfl, ?_⟩) ?_
        rotate_left
        · ((intro w _; go_simp); try with_reducible rfl)
        (try simp only [Act.put, List.setIfInBounds_toArray, List.set_cons_zero, List.set_cons_succ])
        refine wpAnyT_one (i := 16) (by kernel_rfl) rfl (fun K hK => ?_)
        rw [if_pos (by rfl)]
        go_simp
        (with_reducible refine (CRL.out _ i (HB5.out.trans (HB7.out.mono HB5.out.size)) hlt).mono ?_)
        rintro e w8 ⟨p2, p2n, p2c, rfl, ho, hb⟩
        have HB8 : RowKit.Hid (Below w5.heap.size w5 w8) := Lib.hid (HB7.out.trans (hb.mono HB7.out.size))
        have HO8 := Lib.hid ho.read
        have HP8 : RowKit.Hid (p2n ≤ 100000) := Lib.hid (by have h1 := ho.read.1; have h2 := HK2.out; have h3 := HKB.out; omega)
        clear ho hb
        refine hK.out _ _ (HSS.out _ HB8.out) (fun hHeld => ?_)
        clear hK K
        (try simp only [Act.put, List.setIfInBounds_toArray, List.set_cons_zero, List.set_cons_succ])
        refine wpAnyT_one (i := 17) (by kernel_rfl) rfl (fun K hK => ?_)
        rw [if_pos (by rfl)]
        go_simp
        have CI8 := Lib.hid (ints_any a2 p2 k2 p2n c2 p2c (leftU F i) (leftU F i) w8 (HR2.out _ HB8.out).2 HO8.out (by have := HKB.out.2; omega) (by have := HP8.out; omega))
        (with_reducible refine CI8.out.mono ?_)
        rintro e v9 ⟨rfl, d9, rfl⟩
        rw [HSB2.out]
        have HB9 : RowKit.Hid (Below w5.heap.size w5 (w8.drewN d9)) := Lib.hid (belowU_drewN d9 HB8.out)
        refine hK.out _ _ (HSS.out _ HB9.out) (fun hHeld => ?_)
        clear hK K
        (try simp only [Act.put, List.setIfInBounds_toArray, List.set_cons_zero, List.set_cons_succ])
        refine wpAnyT_takeW (i := 18) (oi := ⟨some 63, _, _, _, _, _⟩) (v := ?_) rfl (by kernel_rfl) (by kernel_rfl) (by kernel_rfl) (fun _ _ _ h => h) (Or.inl ⟨by rfl, ?_⟩) ?_
        rotate_left
        · ((intro w _; go_simp); try with_reducible rfl)
        (try simp only [Act.put, List.setIfInBounds_toArray, List.set_cons_zero, List.set_cons_succ])
        refine wpAnyT_takeW (i := 19) (oi := ⟨some 64, _, _, _, _, _⟩) (v := ?_) rfl (by kernel_rfl) (by kernel_rfl) (by kernel_rfl) (fun _ _ _ h => h) (Or.inl ⟨by rfl, ?_⟩) ?_
        rotate_left
        · ((intro w _; go_simp); try with_reducible rfl)
        (try simp only [Act.put, List.setIfInBounds_toArray, List.set_cons_zero, List.set_cons_succ])
        refine wpAnyT_done (by kernel_rfl) ?_
        obtain ⟨⟨f0, f1⟩, g3, -⟩ := HSS.out _ HB9.out
        by_cases hm : k1 ≤ t
        · have hmz : ¬ ((t : Int) < (k1 : Int)) := by omega
          have HE : RowKit.Hid (t = mostU F (i + 1)) := Lib.hid (by rw [HMO.out]; omega)
          go_wp2_with fail
          go_roundw
          case rel => exact ⟨i + 1, t, by omega, by go_num, rfl, Lib.hid ⟨HB9.out, HE.out⟩⟩
          case measure => simp [intOf]; omega
        · have hmz : (t : Int) < (k1 : Int) := by omega
          have HE : RowKit.Hid (k1 = mostU F (i + 1)) := Lib.hid (by rw [HMO.out]; omega)
          go_wp2_with fail
          go_roundw
          case rel => exact ⟨i + 1, k1, by omega, by go_num, rfl, Lib.hid ⟨HB9.out, HE.out⟩⟩
          case measure => simp [intOf]; omega
      · obtain rfl : i = m := by omega
        have hge : ¬ ((i : Int) < (i : Int)) := by omega
        have HTM : RowKit.Hid (mostU F i = t) := Lib.hid HR.out.2.symm
        obtain ⟨f0, f1⟩ := HYC.out _ (HB5.out.trans (HR.out.1.mono HB5.out.size))
        have htt : ((t : Int) == (t : Int)) = true := by simp
        go_wp2_with (first
          | (go_at_call 19; (with_reducible refine (CMO.out _ (HB5.out.trans (HR.out.1.mono HB5.out.size))).mono ?_); rintro e w6 ⟨rfl, hb⟩; rw [HTM.out]; have HB6 := Lib.hid (HB5.out.trans ((HR.out.1.trans (hb.mono HR.out.1.size)).mono HB5.out.size)); clear hb f0 f1)
          | (go_at_call 8; (with_reducible refine (CLY.out _ HB6.out).mono ?_); rintro e w7 ⟨rfl, hb⟩; have HB7 := Lib.hid hb; clear hb))
        go_ret
        exact ⟨by rfl, HB0.out.trans ((HBY.out.trans (HB7.out.mono HBY.out.size)).mono HB0.out.size)⟩
end Go.Proofs.YtdchhfdmingnaaaDoor
