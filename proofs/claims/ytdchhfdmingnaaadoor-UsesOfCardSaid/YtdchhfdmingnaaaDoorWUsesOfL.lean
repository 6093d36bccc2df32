/- Layer 13: the law UsesOf: where each value is used, and how often (mk_uof.py). -/
import Derived.Test.YtdchhfdmingnaaaDoorWT0
import Derived.Test.YtdchhfdmingnaaaDoorWT5
import Derived.Test.YtdchhfdmingnaaaDoorWT6
import Derived.Test.YtdchhfdmingnaaaDoorWT7
import Derived.Test.YtdchhfdmingnaaaDoorWUsesV
import Derived.BigQuiet
namespace Go.Proofs.YtdchhfdmingnaaaDoor
open Go.RowKit (wrap64 intOf Below)
set_option linter.unusedVariables false
set_option linter.unusedSimpArgs false
theorem ulawO_box (w : World) (v0 v1 v2 : Value) {W : World} (hW : w.alloc (.cells #[v0, v1, v2] 26) = W) : Below w.heap.size w W ∧ w.heap.size < W.heap.size ∧ W.cell? ⟨w.heap.size, 0, none⟩ = some v0 ∧ W.cell? ⟨w.heap.size, 1, none⟩ = some v1 ∧ W.cell? ⟨w.heap.size, 2, none⟩ = some v2 := by
  rw [← hW]
  exact ⟨(Below.refl _ w).alloc (Nat.le_refl _) _, by simp, World.cell?_alloc_mark _ _ _ _ _, World.cell?_alloc_mark _ _ _ _ _, World.cell?_alloc_mark _ _ _ _ _⟩
theorem flatSi_at : ∀ (l : List SiteU) (i : Nat) (h : i < l.length), (flatSi l)[i * 3]? = some (.int .i64 0) ∧ (flatSi l)[i * 3 + 1]? = some (.int .i64 (l[i].1 : Int)) ∧ (flatSi l)[i * 3 + 2]? = some (.int .i64 (l[i].2 : Int))
  | x :: l, 0, _ => ⟨rfl, rfl, rfl⟩
  | x :: l, i + 1, h => by
    have ih := flatSi_at l i (by simpa using h)
    have e1 : (i + 1) * 3 = i * 3 + 3 := by omega
    refine ⟨?_, ?_, ?_⟩
    · rw [e1]; exact ih.1
    · rw [e1]; exact ih.2.1
    · rw [e1]; exact ih.2.2
theorem sitesAt {w : World} {B : Nat} {va : Option Addr} {n vc : Nat} {l : List SiteU} (h : OwnsSi w B (.slice va n vc) l) (h0 : 0 < l.length) : ∃ g, va = some ⟨g, 0, none⟩ ∧ g < w.heap.size ∧ ∀ i (hi : i < l.length), w.cell? ⟨g, i * 3, none⟩ = some (.int .i64 0) ∧ w.cell? ⟨g, i * 3 + 1, none⟩ = some (.int .i64 (l[i].1 : Int)) ∧ w.cell? ⟨g, i * 3 + 2, none⟩ = some (.int .i64 (l[i].2 : Int)) := by
  have h1 : w.ownsRow B 41 3 (.slice va n vc) l.length (flatSi l) := h
  rcases h.2 with ⟨e, h2⟩ | ⟨g, cap, cur, e, hB, hh, _⟩
  · omega
  · simp only [Value.slice.injEq] at e
    have hva := e.1
    subst hva
    refine ⟨g, rfl, (Array.getElem?_eq_some_iff.1 hh).1, fun i hi => ?_⟩
    obtain ⟨a0, a1, a2⟩ := flatSi_at l i hi
    have hk : ∀ j v, (flatSi l)[j]? = some v → w.cell? ⟨g, j, none⟩ = some v := fun j v hv => by
      have := World.ownsRow.cells h1 rfl _ _ hv
      rwa [addr_plain, Nat.zero_add] at this
    exact ⟨hk _ _ a0, hk _ _ a1, hk _ _ a2⟩
theorem belowU2_drewN {B : Nat} {w u : World} (q : Nat) (h : Below B w u) : Below B w (u.drewN q) := h.trans ⟨rfl, rfl, rfl, Nat.le_refl _, fun _ _ => rfl⟩
theorem refOf_neg (f : FuncD) : refOf f (-1) = [] := by
  unfold refOf
  rw [if_neg]
  intro h
  have := (of_decide_eq_true h).1
  omega
theorem refOf_len {f : FuncD} (h : SmU f) (v : Int) : (refOf f v).length ≤ 900000 := by
  unfold refOf
  split
  · have h1 := refAll_len f v f.blocks.length (Nat.le_refl _)
    have h2 := h.vals
    have h3 := h.blocks
    unfold valU at h2
    omega
  · simp
set_option maxRecDepth 100000 in
set_option maxHeartbeats 8000000 in
theorem usesof_walk (sa : Option Addr) (sn sc : Nat) (ca : Option Addr) (cn cc : Nat) (fa : Option Addr) (fn fc : Nat) (P : ProgD) (nn : Nat) (hnn : nn ≤ 255) (w : World) (hft : FT w)
    (hP : ProgQ w [.slice sa sn sc, .slice ca cn cc, .slice fa fn fc] P) (hcap : RowV UFuncC 2 w (.slice fa fn fc) P.funcs) :
    Calls Tryd.prog 3 #[.agg #[.slice sa sn sc, .slice ca cn cc, .slice fa fn fc], .int .u8 (nn : Int)] w fun e w' => e = .returned (.bool true) ∧ Below w.heap.size w w' := by
  obtain ⟨W, hW⟩ : ∃ U, w.alloc (.cells #[.slice sa sn sc, .slice ca cn cc, .slice fa fn fc] 26) = U := ⟨_, rfl⟩
  obtain ⟨hb0, hs0, hc0, hc1, hc2⟩ := ulawO_box w _ _ _ hW
  have HFT := Lib.hid (hft.since hb0)
  have HB0 := Lib.hid hb0
  have hcap1 : RowV UFuncC 2 W (.slice fa fn fc) P.funcs := hcap.since (fun W W' cs x hb h => ⟨FuncQ.lasts _ _ _ _ hb h.1, h.2⟩) hb0
  have CF := Lib.hid (ulfun_any w.heap.size nn hnn W hc0 hc1 hc2 (ProgQ.lasts _ _ _ _ hb0 hP) hcap1)
  have CLI : RowKit.Hid (∀ u, Below W.heap.size W u → Calls Tryd.prog 8 #[] u fun e w' => e = .returned (.bool true) ∧ Below W.heap.size W w') := Lib.hid fun u hu => (ulives_any u (HFT.out.since hu)).mono fun e w' h => ⟨h.1, hu.trans (h.2.mono hu.size)⟩
  clear hP hft hb0 hs0 hc0 hc1 hc2 hcap hcap1
  go_enter Tryd.func3, Tryd.ntmps3
  go_upto_region 2 with fail
  try rw [hW]
  clear hW
  go_wp2_with fail
  refine CF.out.mono ?_
  rintro e w2 ⟨rfl | ⟨F, ba, m, bc, hmem, hpp, rfl, hfq, hmb, hb8⟩, hb2⟩
  · have HB2 := Lib.hid hb2
    clear hb2
    go_wp2_with (go_at_call 8; (with_reducible refine (CLI.out _ (HB2.out.alloc HB2.out.size _)).mono ?_); rintro e w3 ⟨rfl, hb⟩; have HB3 := Lib.hid hb; clear hb)
    go_ret
    exact ⟨rfl, HB0.out.trans (HB3.out.mono HB0.out.size)⟩
  · obtain ⟨rt, hrt⟩ : ∃ t, t = F.ret := ⟨_, rfl⟩
    rw [← hrt] at hfq ⊢
    obtain ⟨Y, hY⟩ : ∃ U, w2.alloc (.cells #[.int .i64 rt, .slice ba m bc] 30) = U := ⟨_, rfl⟩
    have hbY : Below w2.heap.size w2 Y := by rw [← hY]; exact (Below.refl _ w2).alloc (Nat.le_refl _) _
    have hcY : ∀ j, Y.cell? ⟨w2.heap.size, j, none⟩ = (#[.int .i64 rt, .slice ba m bc] : Array Value)[j]? := fun j => by rw [← hY]; exact World.cell?_alloc_mark _ _ _ _ _
    have hpY : w2.heap.size < Y.heap.size := by rw [← hY]; simp
    have HBY : RowKit.Hid (Below W.heap.size W Y) := Lib.hid (hb2.trans (hbY.mono hb2.size))
    have HFQ : RowKit.Hid (FuncQ Y [.int .i64 rt, .slice ba m bc] F) := Lib.hid (FuncQ.lasts _ _ _ _ hbY hfq)
    have hsu := smU_of (by omega) hpp hmem
    have HSM := Lib.hid hsu.1
    have HN := Lib.hid hsu.2
    have HML : RowKit.Hid (m = F.blocks.length) := Lib.hid (by obtain ⟨_, he, _, _, _, _, e, h, _⟩ := hfq; simp only [List.cons.injEq, and_true] at he; obtain ⟨_, rfl⟩ := he; cases e; exact h.symm)
    have hm5 : m ≤ 100000 := by have := hsu.1.blocks; rw [HML.out]; exact this
    have HYC : RowKit.Hid (∀ U, Below Y.heap.size Y U → U.cell? ⟨w2.heap.size, 0, none⟩ = some (.int .i64 rt) ∧ U.cell? ⟨w2.heap.size, 1, none⟩ = some (.slice ba m bc)) := Lib.hid fun U hU => ⟨(hU.cell (p := ⟨w2.heap.size, 0, none⟩) hpY).trans (hcY 0), (hU.cell (p := ⟨w2.heap.size, 1, none⟩) hpY).trans (hcY 1)⟩
    have CLY : RowKit.Hid (∀ u, Below Y.heap.size Y u → Calls Tryd.prog 8 #[] u fun e w' => e = .returned (.bool true) ∧ Below Y.heap.size Y w') := Lib.hid fun u hu => (ulives_any u (HFT.out.since (HBY.out.trans (hu.mono HBY.out.size)))).mono fun e w' h => ⟨h.1, hu.trans (h.2.mono hu.size)⟩
    obtain ⟨V, hV⟩ : ∃ V, V = valU F := ⟨_, rfl⟩
    have hvb : V ≤ 100000 := by rw [hV]; exact hsu.1.vals
    have HVE := Lib.hid hV
    have CC : RowKit.Hid (∀ u, Below Y.heap.size Y u → Calls Tryd.prog 9 #[.agg #[.int .i64 rt, .slice ba m bc]] u (ListPostU (cntRow V (usesU F)) u)) := Lib.hid fun u hu => by rw [HVE.out]; exact counts_any rt ba m bc F u (FuncQ.lasts _ _ _ _ hu HFQ.out) (HFT.out.since (HBY.out.trans (hu.mono HBY.out.size))) HSM.out HN.out
    have CV : RowKit.Hid (∀ u, Below Y.heap.size Y u → Calls Tryd.prog 10 #[.agg #[.int .i64 rt, .slice ba m bc]] u fun e w' => e = .returned (.int .i64 (V : Int)) ∧ Below u.heap.size u w') := Lib.hid fun u hu => by
      refine (ref_values rt ba m bc F u (FuncQ.lasts _ _ _ _ hu HFQ.out)).mono ?_
      rintro e w' ⟨rfl, hb⟩
      rw [valuesOf_small (by have := HSM.out.vals; omega), ← HVE.out]
      exact ⟨rfl, hb⟩
    have COF : RowKit.Hid (∀ u (x : Int), Below Y.heap.size Y u → Calls Tryd.prog 11 #[.agg #[.int .i64 rt, .slice ba m bc], .int .i64 x] u (SitesPost (refOf F x) u)) := Lib.hid fun u x hu => by rw [← of_same]; exact of_any rt ba m bc F x u (FuncQ.lasts _ _ _ _ hu HFQ.out) (HFT.out.since (HBY.out.trans (hu.mono HBY.out.size))) HSM.out HN.out
    have CRO : RowKit.Hid (∀ u (x : Int), Below Y.heap.size Y u → Calls Tryd.prog 12 #[.agg #[.int .i64 rt, .slice ba m bc], .int .i64 x] u (SitesPost (refOf F x) u)) := Lib.hid fun u x hu => refof_any rt ba m bc F x u (FuncQ.lasts _ _ _ _ hu HFQ.out) HSM.out
    have CCT : RowKit.Hid (∀ u (v : Nat), Below Y.heap.size Y u → v < V → Calls Tryd.prog 13 #[.agg #[.int .i64 rt, .slice ba m bc], .int .i64 (v : Int)] u fun e w' => e = .returned (.int .i64 (cntL (v : Int) (usesU F) : Int)) ∧ Below u.heap.size u w') := Lib.hid fun u v hu hv => by
      have hin : inU (valU F) (v : Int) = true := decide_eq_true ⟨by omega, by rw [← HVE.out]; omega⟩
      have hs := cnt_same F (v : Int) hin
      rw [hs]
      exact refcount_any rt ba m bc F v u (FuncQ.lasts _ _ _ _ hu HFQ.out) HSM.out (by rw [← hs]; exact Nat.le_trans (cntL_le _ _) HN.out)
    clear hb2 hbY hcY hpY hfq hmem hrt hsu hpp hb8 CF CLI hV
    go_upto_region 5 with fail
    try rw [hY]
    clear hY
    obtain ⟨f0, f1⟩ := HYC.out Y (Below.refl _ _)
    have hvv : ((V : Int) != (V : Int)) = false := by simp
    go_upto_region 6 with (go_at_call 9; (with_reducible refine (CC.out _ (Below.refl _ Y)).mono ?_); rintro e w4 ⟨ca, cn, cc, rfl, ho, hb⟩; have HB4 := Lib.hid hb; have HC := Lib.hid ho.read; clear ho hb f0 f1)
    have hcn : cn = V := by have := HC.out.1; rw [cntRow_len] at this; exact this.symm
    subst hcn
    obtain ⟨f0, f1⟩ := HYC.out _ HB4.out
    go_upto_region 8 with (first
      | (go_at_call 10; (with_reducible refine (CV.out _ HB4.out).mono ?_); rintro e w5 ⟨rfl, hb⟩; have HB5 := Lib.hid hb; clear hb f0 f1; obtain ⟨f0, f1⟩ := HYC.out _ (HB4.out.trans (HB5.out.mono HB4.out.size)))
      | (go_at_call 11; (with_reducible refine (COF.out _ (-1) (HB4.out.trans (HB5.out.mono HB4.out.size))).mono ?_); rintro e w6 ⟨va, vc, rfl, hos, hb⟩; rw [refOf_neg]; have HB6 : RowKit.Hid (Below w4.heap.size w4 w6) := Lib.hid (HB5.out.trans (hb.mono HB5.out.size)); clear hos hb f0 f1; simp only [List.length_nil]))
    go_wp2_with fail
    go_loopw [9] (fun v9 wr => ∃ v : Nat, v ≤ cn + 1 ∧ v9 = .int .i64 (v : Int) ∧ RowKit.Hid (Below w4.heap.size w4 wr)) (fun v9 _ => cn + 1 - (intOf v9).toNat)
    case atStart => exact ⟨0, Nat.zero_le _, rfl, HB6⟩
    case round =>
      obtain ⟨v, hv, rfl, HR⟩ := hrel
      clear HB6 HB5
      obtain ⟨wo, hwo⟩ : ∃ u, u = wr := ⟨_, rfl⟩
      rw [← hwo] at HR ⊢
      clear hwo
      have HRY : RowKit.Hid (Below Y.heap.size Y wo) := Lib.hid (HB4.out.trans (HR.out.mono HB4.out.size))
      by_cases hlt : v ≤ cn
      · have hltz : (v : Int) ≤ (cn : Int) := by omega
        have hv0 : (0 : Int) ≤ (v : Int) := by omega
        obtain ⟨L, hL⟩ : ∃ L, L = refOf F (v : Int) := ⟨_, rfl⟩
        have hlb : L.length ≤ 900000 := by rw [hL]; exact refOf_len HSM.out _
        have COF1 : RowKit.Hid (∀ u, Below Y.heap.size Y u → Calls Tryd.prog 11 #[.agg #[.int .i64 rt, .slice ba m bc], .int .i64 (v : Int)] u (SitesPost L u)) := Lib.hid (by rw [hL]; exact fun u hu => COF.out u v hu)
        have CRO1 : RowKit.Hid (∀ u, Below Y.heap.size Y u → Calls Tryd.prog 12 #[.agg #[.int .i64 rt, .slice ba m bc], .int .i64 (v : Int)] u (SitesPost L u)) := Lib.hid (by rw [hL]; exact fun u hu => CRO.out u v hu)
        clear hL
        go_upto_region 11 with fail
        refine wp_region_T (S := (fun u : World => u.cell? ⟨w2.heap.size, 0, none⟩ = some (.int .i64 rt) ∧ u.cell? ⟨w2.heap.size, 1, none⟩ = some (.slice ba m bc))) 8 (by kernel_rfl) (HYC.out _ (HRY.out.trans ((Below.refl _ wo).drew.mono HRY.out.size))) (fun hHeld => ?_)
        refine wpAnyT_take (i := 0) (oi := ⟨some 41, _, _, _, _, _⟩) (v := ?_) 8 rfl (by kernel_rfl) (by kernel_rfl) (by kernel_rfl) (by kernel_rfl) (by kernel_rfl) (fun _ _ _ h => h) (Or.inl ⟨by rfl, ?_⟩) (by assumption) ?_
        rotate_left
        · ((intro w hSw; (try dsimp only at hSw); go_simp); try with_reducible rfl)
        (try simp only [Act.put, List.setIfInBounds_toArray, List.set_cons_zero, List.set_cons_succ])
        refine wpAnyT_takeW (i := 1) (oi := ⟨some 42, _, _, _, _, _⟩) (v := ?_) rfl (by kernel_rfl) (by kernel_rfl) (by kernel_rfl) (fun _ _ _ h => h) (Or.inl ⟨by rfl, ?_⟩) ?_
        rotate_left
        · ((intro w _; go_simp); try with_reducible rfl)
        (try simp only [Act.put, List.setIfInBounds_toArray, List.set_cons_zero, List.set_cons_succ])
        refine wpAnyT_take (i := 3) (oi := ⟨some 44, _, _, _, _, _⟩) (v := ?_) 8 rfl (by kernel_rfl) (by kernel_rfl) (by kernel_rfl) (by kernel_rfl) (by kernel_rfl) (fun _ _ _ h => h) (Or.inl ⟨by rfl, ?_⟩) (by assumption) ?_
        rotate_left
        · ((intro w hSw; (try dsimp only at hSw); go_simp); try with_reducible rfl)
        (try simp only [Act.put, List.setIfInBounds_toArray, List.set_cons_zero, List.set_cons_succ])
        refine wpAnyT_takeW (i := 4) (oi := ⟨some 45, _, _, _, _, _⟩) (v := ?_) rfl (by kernel_rfl) (by kernel_rfl) (by kernel_rfl) (fun _ _ _ h => h) (Or.inl ⟨by rfl, ?_⟩) ?_
        rotate_left
        · ((intro w _; go_simp); try with_reducible rfl)
        (try simp only [Act.put, List.setIfInBounds_toArray, List.set_cons_zero, List.set_cons_succ])
        refine wpAnyT_one (i := 2) (by kernel_rfl) rfl (fun K hK => ?_)
        rw [if_pos (by rfl)]
        go_simp
        (with_reducible refine (COF1.out _ (HRY.out.trans ((Below.refl _ wo).drew.mono HRY.out.size))).mono ?_)
        rintro e w7 ⟨a1, c1, rfl, h1, hb⟩
        have HBO7 : RowKit.Hid (Below wo.heap.size wo w7) := Lib.hid (((Below.refl _ wo).drew).trans hb)
        have HY7 : RowKit.Hid (Below Y.heap.size Y w7) := Lib.hid (HRY.out.trans (HBO7.out.mono HRY.out.size))
        have HA7 := Lib.hid h1
        clear h1 hb
        refine hK.out _ _ (HYC.out _ HY7.out) (fun hHeld => ?_)
        clear hK K
        (try simp only [Act.put, List.setIfInBounds_toArray, List.set_cons_zero, List.set_cons_succ])
        refine wpAnyT_one (i := 5) (by kernel_rfl) rfl (fun K hK => ?_)
        rw [if_pos (by rfl)]
        go_simp
        (with_reducible refine (CRO1.out _ HY7.out).mono ?_)
        rintro e w8 ⟨a2, c2, rfl, h2, hb⟩
        have HBO : RowKit.Hid (Below wo.heap.size wo w8) := Lib.hid (HBO7.out.trans (hb.mono HBO7.out.size))
        have HB8 : RowKit.Hid (Below Y.heap.size Y w8) := Lib.hid (HRY.out.trans (HBO.out.mono HRY.out.size))
        have HA := Lib.hid (OwnsSi.below HA7.out hb)
        have HB := Lib.hid h2
        clear h2 hb HA7
        refine hK.out _ _ (HYC.out _ HB8.out) (fun hHeld => ?_)
        clear hK K
        (try simp only [Act.put, List.setIfInBounds_toArray, List.set_cons_zero, List.set_cons_succ])
        refine wpAnyT_takeW (i := 6) (oi := ⟨some 10, _, _, _, _, _⟩) (v := ?_) rfl (by kernel_rfl) (by kernel_rfl) (by kernel_rfl) (fun _ _ _ h => h) (Or.inl ⟨by rfl, ?_⟩) ?_
        rotate_left
        · ((intro w _; go_simp); try with_reducible rfl)
        (try simp only [Act.put, List.setIfInBounds_toArray, List.set_cons_zero, List.set_cons_succ])
        refine wpAnyT_takeW (i := 7) (oi := ⟨some 11, _, _, _, _, _⟩) (v := ?_) rfl (by kernel_rfl) (by kernel_rfl) (by kernel_rfl) (fun _ _ _ h => h) (Or.inl ⟨by rfl, ?_⟩) ?_
        rotate_left
        · ((intro w _; go_simp); try with_reducible rfl)
        (try simp only [Act.put, List.setIfInBounds_toArray, List.set_cons_zero, List.set_cons_succ])
        refine wpAnyT_done (by kernel_rfl) ?_
        obtain ⟨n1, hn1⟩ : ∃ n, n = L.length := ⟨_, rfl⟩
        rw [← hn1] at HA HB ⊢
        have HN1 := Lib.hid hn1
        have hn1b : n1 ≤ 900000 := by omega
        clear hn1
        have hnn : ((n1 : Int) != (n1 : Int)) = false := by simp
        have HFC : RowKit.Hid (∀ u, Below w8.heap.size w8 u → u.cell? ⟨w2.heap.size, 0, none⟩ = some (.int .i64 rt) ∧ u.cell? ⟨w2.heap.size, 1, none⟩ = some (.slice ba m bc)) := Lib.hid fun u hu => HYC.out _ (HB8.out.trans (hu.mono HB8.out.size))
        have HWC : RowKit.Hid (Below w4.heap.size w4 w8) := Lib.hid (HR.out.trans (HBO.out.mono HR.out.size))
        go_upto_region 12 with fail
        by_cases hvl : v < cn
        · have hvlz : (v : Int) < (cn : Int) := by omega
          obtain ⟨gc, ofc, rfl, hgc, hcc⟩ := HC.out.2 (by omega)
          have hcl : v < (cntRow cn (usesU F)).length := by rw [cntRow_len]; exact hvl
          have hcell := hcc v hcl
          rw [cntRow_at hcl] at hcell
          unfold numV at hcell
          have HCL := Lib.hid hcell
          have HGC := Lib.hid hgc
          have CCT1 : RowKit.Hid (∀ u, Below Y.heap.size Y u → Calls Tryd.prog 13 #[.agg #[.int .i64 rt, .slice ba m bc], .int .i64 (v : Int)] u fun e w' => e = .returned (.int .i64 (cntL (v : Int) (usesU F) : Int)) ∧ Below u.heap.size u w') := Lib.hid fun u hu => CCT.out u v hu hvl
          obtain ⟨k, hk⟩ : ∃ k, k = cntL (v : Int) (usesU F) := ⟨_, rfl⟩
          rw [← hk] at HCL CCT1
          have hkk : ((k : Int) != (k : Int)) = false := by simp
          have HSS : RowKit.Hid (∀ u, Below w8.heap.size w8 u → (u.cell? ⟨w2.heap.size, 0, none⟩ = some (.int .i64 rt) ∧ u.cell? ⟨w2.heap.size, 1, none⟩ = some (.slice ba m bc)) ∧ u.cell? ⟨gc, ofc + v, none⟩ = some (.int .i64 (k : Int))) := Lib.hid fun u hu => ⟨HFC.out u hu, ((hu.cell (p := ⟨gc, ofc + v, none⟩) (Nat.lt_of_lt_of_le HGC.out HWC.out.size)).trans (HWC.out.cell (p := ⟨gc, ofc + v, none⟩) HGC.out)).trans HCL.out⟩
          clear hcc hcl hcell hgc hk
          refine wp_region_T (S := (fun u : World => (u.cell? ⟨w2.heap.size, 0, none⟩ = some (.int .i64 rt) ∧ u.cell? ⟨w2.heap.size, 1, none⟩ = some (.slice ba m bc)) ∧ u.cell? ⟨gc, ofc + v, none⟩ = some (.int .i64 (k : Int)))) 21 (by kernel_rfl) (HSS.out _ (Below.refl _ w8).drew) (fun hHeld => ?_)
          refine wpAnyT_takeW (i := 0) (oi := ⟨some 47, _, _, _, _, _⟩) (v := ?_) rfl (by kernel_rfl) (by kernel_rfl) (by kernel_rfl) (fun _ _ _ h => h) (Or.inl ⟨by rfl, ?_⟩) ?_
          rotate_left
          · ((intro w _; go_simp); try with_reducible rfl)
          (try simp only [Act.put, List.setIfInBounds_toArray, List.set_cons_zero, List.set_cons_succ])
          refine wpAnyT_takeW (i := 1) (oi := ⟨some 48, _, _, _, _, _⟩) (v := ?_) rfl (by kernel_rfl) (by kernel_rfl) (by kernel_rfl) (fun _ _ _ h => h) (Or.inl ⟨by rfl, ?_⟩) ?_
          rotate_left
          · ((intro w _; go_simp); try with_reducible rfl)
          (try simp only [Act.put, List.setIfInBounds_toArray, List.set_cons_zero, List.set_cons_succ])
          refine wpAnyT_takeW (i := 2) (oi := ⟨some 49, _, _, _, _, _⟩) (v := ?_) rfl (by kernel_rfl) (by kernel_rfl) (by kernel_rfl) (fun _ _ _ h => h) (Or.inl ⟨by rfl, ?_⟩) ?_
          rotate_left
          · ((intro w _; go_simp); try with_reducible rfl)
          (try simp only [Act.put, List.setIfInBounds_toArray, List.set_cons_zero, List.set_cons_succ])
          refine wpAnyT_takeW (i := 3) (oi := ⟨some 50, _, _, _, _, _⟩) (v := ?_) rfl (by kernel_rfl) (by kernel_rfl) (by kernel_rfl) (fun _ _ _ h => h) (Or.inl ⟨by rfl, ?_⟩) ?_
          rotate_left
          · ((intro w _; go_simp); try with_reducible rfl)
          (try simp only [Act.put, List.setIfInBounds_toArray, List.set_cons_zero, List.set_cons_succ])
          refine wpAnyT_takeW (i := 4) (oi := ⟨some 51, _, _, _, _, _⟩) (v := ?_) rfl (by kernel_rfl) (by kernel_rfl) (by kernel_rfl) (fun _ _ _ h => h) (Or.inl ⟨by rfl, ?_⟩) ?_
          rotate_left
          · ((intro w _; go_simp); try with_reducible rfl)
          (try simp only [Act.put, List.setIfInBounds_toArray, List.set_cons_zero, List.set_cons_succ])
          refine wpAnyT_takeW (i := 5) (oi := ⟨some 52, _, _, _, _, _⟩) (v := ?_) rfl (by kernel_rfl) (by kernel_rfl) (by kernel_rfl) (fun _ _ _ h => h) (Or.inl ⟨by rfl, ?_⟩) ?_
          rotate_left
          · ((intro w _; go_simp); try with_reducible rfl)
          (try simp only [Act.put, List.setIfInBounds_toArray, List.set_cons_zero, List.set_cons_succ])
          refine wpAnyT_takeW (i := 6) (oi := ⟨some 53, _, _, _, _, _⟩) (v := ?_) rfl (by kernel_rfl) (by kernel_rfl) (by kernel_rfl) (fun _ _ _ h => h) (Or.inl ⟨by rfl, ?_⟩) ?_
          rotate_left
          · ((intro w _; go_simp); try with_reducible rfl)
          (try simp only [Act.put, List.setIfInBounds_toArray, List.set_cons_zero, List.set_cons_succ])
          refine wpAnyT_takeW (i := 7) (oi := ⟨some 54, _, _, _, _, _⟩) (v := ?_) rfl (by kernel_rfl) (by kernel_rfl) (by kernel_rfl) (fun _ _ _ h => h) (Or.inl ⟨by rfl, ?_⟩) ?_
          rotate_left
          · ((intro w _; go_simp); try with_reducible rfl)
          (try simp only [Act.put, List.setIfInBounds_toArray, List.set_cons_zero, List.set_cons_succ])
          refine wpAnyT_takeW (i := 8) (oi := ⟨some 55, _, _, _, _, _⟩) (v := ?_) rfl (by kernel_rfl) (by kernel_rfl) (by kernel_rfl) (fun _ _ _ h => h) (Or.inl ⟨by rfl, ?_⟩) ?_
          rotate_left
          · ((intro w _; go_simp); try with_reducible rfl)
          (try simp only [Act.put, List.setIfInBounds_toArray, List.set_cons_zero, List.set_cons_succ])
          refine wpAnyT_takeW (i := 9) (oi := ⟨some 56, _, _, _, _, _⟩) (v := ?_) rfl (by kernel_rfl) (by kernel_rfl) (by kernel_rfl) (fun _ _ _ h => h) (Or.inl ⟨by rfl, ?_⟩) ?_
          rotate_left
          · ((intro w _; go_simp); try with_reducible rfl)
          (try simp only [Act.put, List.setIfInBounds_toArray, List.set_cons_zero, List.set_cons_succ])
          refine wpAnyT_takeW (i := 10) (oi := ⟨some 57, _, _, _, _, _⟩) (v := ?_) rfl (by kernel_rfl) (by kernel_rfl) (by kernel_rfl) (fun _ _ _ h => h) (Or.inl ⟨by rfl, ?_⟩) ?_
          rotate_left
          · ((intro w _; go_simp); try with_reducible rfl)
          (try simp only [Act.put, List.setIfInBounds_toArray, List.set_cons_zero, List.set_cons_succ])
          refine wpAnyT_takeW (i := 11) (oi := ⟨some 58, _, _, _, _, _⟩) (v := ?_) rfl (by kernel_rfl) (by kernel_rfl) (by kernel_rfl) (fun _ _ _ h => h) (Or.inl ⟨by rfl, ?_⟩) ?_
          rotate_left
          · ((intro w _; go_simp); try with_reducible rfl)
          (try simp only [Act.put, List.setIfInBounds_toArray, List.set_cons_zero, List.set_cons_succ])
          refine wpAnyT_takeW (i := 12) (oi := ⟨some 59, _, _, _, _, _⟩) (v := ?_) rfl (by kernel_rfl) (by kernel_rfl) (by kernel_rfl) (fun _ _ _ h => h) (Or.inl ⟨by rfl, ?_⟩) ?_
          rotate_left
          · ((intro w _; go_simp); try with_reducible rfl)
          (try simp only [Act.put, List.setIfInBounds_toArray, List.set_cons_zero, List.set_cons_succ])
          refine wpAnyT_takeW (i := 13) (oi := ⟨some 60, _, _, _, _, _⟩) (v := ?_) rfl (by kernel_rfl) (by kernel_rfl) (by kernel_rfl) (fun _ _ _ h => h) (Or.inl ⟨by rfl, ?_⟩) ?_
          rotate_left
          · ((intro w _; go_simp); try with_reducible rfl)
          (try simp only [Act.put, List.setIfInBounds_toArray, List.set_cons_zero, List.set_cons_succ])
          refine wpAnyT_take (i := 14) (oi := ⟨some 61, _, _, _, _, _⟩) (v := ?_) 8 rfl (by kernel_rfl) (by kernel_rfl) (by kernel_rfl) (by kernel_rfl) (by kernel_rfl) (fun _ _ _ h => h) (Or.inl ⟨by rfl, ?_⟩) (by assumption) ?_
          rotate_left
          · ((intro w hSw; (try dsimp only at hSw); go_simp); try with_reducible rfl)
          (try simp only [Act.put, List.setIfInBounds_toArray, List.set_cons_zero, List.set_cons_succ])
          refine wpAnyT_take (i := 15) (oi := ⟨some 62, _, _, _, _, _⟩) (v := ?_) 8 rfl (by kernel_rfl) (by kernel_rfl) (by kernel_rfl) (by kernel_rfl) (by kernel_rfl) (fun _ _ _ h => h) (Or.inl ⟨by rfl, ?_⟩) (by assumption) ?_
          rotate_left
          · ((intro w hSw; (try dsimp only at hSw); go_simp); try with_reducible rfl)
          (try simp only [Act.put, List.setIfInBounds_toArray, List.set_cons_zero, List.set_cons_succ])
          refine wpAnyT_takeW (i := 16) (oi := ⟨some 63, _, _, _, _, _⟩) (v := ?_) rfl (by kernel_rfl) (by kernel_rfl) (by kernel_rfl) (fun _ _ _ h => h) (Or.inl ⟨by rfl, ?_⟩) ?_
          rotate_left
          · ((intro w _; go_simp); try with_reducible rfl)
          (try simp only [Act.put, List.setIfInBounds_toArray, List.set_cons_zero, List.set_cons_succ])
          refine wpAnyT_one (i := 17) (by kernel_rfl) rfl (fun K hK => ?_)
          rw [if_pos (by rfl)]
          go_simp
          (with_reducible refine (CCT1.out _ (HB8.out.trans ((Below.refl _ w8).drew.mono HB8.out.size))).mono ?_)
          rintro e w9 ⟨rfl, hb⟩
          have HB9 : RowKit.Hid (Below w8.heap.size w8 w9) := Lib.hid (((Below.refl _ w8).drew).trans hb)
          clear hb
          refine hK.out _ _ (HSS.out _ HB9.out) (fun hHeld => ?_)
          clear hK K
          (try simp only [Act.put, List.setIfInBounds_toArray, List.set_cons_zero, List.set_cons_succ])
          refine wpAnyT_takeW (i := 18) (oi := ⟨some 65, _, _, _, _, _⟩) (v := ?_) rfl (by kernel_rfl) (by kernel_rfl) (by kernel_rfl) (fun _ _ _ h => h) (Or.inl ⟨by rfl, ?_⟩) ?_
          rotate_left
          · ((intro w _; go_simp); try with_reducible rfl)
          (try simp only [Act.put, List.setIfInBounds_toArray, List.set_cons_zero, List.set_cons_succ])
          refine wpAnyT_takeW (i := 19) (oi := ⟨some 66, _, _, _, _, _⟩) (v := ?_) rfl (by kernel_rfl) (by kernel_rfl) (by kernel_rfl) (fun _ _ _ h => h) (Or.inl ⟨by rfl, ?_⟩) ?_
          rotate_left
          · ((intro w _; go_simp); try with_reducible rfl)
          (try simp only [Act.put, List.setIfInBounds_toArray, List.set_cons_zero, List.set_cons_succ])
          refine wpAnyT_takeW (i := 20) (oi := ⟨some 67, _, _, _, _, _⟩) (v := ?_) rfl (by kernel_rfl) (by kernel_rfl) (by kernel_rfl) (fun _ _ _ h => h) (Or.inl ⟨by rfl, ?_⟩) ?_
          rotate_left
          · ((intro w _; go_simp); try with_reducible rfl)
          (try simp only [Act.put, List.setIfInBounds_toArray, List.set_cons_zero, List.set_cons_succ])
          refine wpAnyT_done (by kernel_rfl) ?_
          go_wp2_with fail
          go_loopw [12] (fun v12 wr => ∃ i : Nat, i ≤ n1 ∧ v12 = .int .i64 (i : Int) ∧ RowKit.Hid (Below w8.heap.size w8 wr)) (fun v12 _ => n1 - (intOf v12).toNat)
          case atStart => exact ⟨0, Nat.zero_le _, rfl, HB9⟩
          case round =>
            obtain ⟨i, hi, rfl, HI⟩ := hrel
            obtain ⟨wz, hwz⟩ : ∃ u, u = wr := ⟨_, rfl⟩
            rw [← hwz] at HI ⊢
            clear hwz
            by_cases hil : i < n1
            · have hilz : (i : Int) < (n1 : Int) := by omega
              have hi0 : (0 : Int) ≤ (i : Int) := by omega
              have hiL : i < L.length := by have := HN1.out; omega
              obtain ⟨ga, rfl, hga, hca⟩ := sitesAt HA.out (by omega)
              obtain ⟨gb, rfl, hgb, hcb⟩ := sitesAt HB.out (by omega)
              obtain ⟨a0, a1', a2'⟩ := hca i hiL
              obtain ⟨b0, b1', b2'⟩ := hcb i hiL
              have x0 := (HI.out.cell (p := ⟨ga, i * 3, none⟩) hga).trans a0
              have x1 := (HI.out.cell (p := ⟨ga, i * 3 + 1, none⟩) hga).trans a1'
              have x2 := (HI.out.cell (p := ⟨ga, i * 3 + 2, none⟩) hga).trans a2'
              have y0 := (HI.out.cell (p := ⟨gb, i * 3, none⟩) hgb).trans b0
              have y1 := (HI.out.cell (p := ⟨gb, i * 3 + 1, none⟩) hgb).trans b1'
              have y2 := (HI.out.cell (p := ⟨gb, i * 3 + 2, none⟩) hgb).trans b2'
              clear a0 a1' a2' b0 b1' b2' hca hcb hga hgb
              generalize L[i].1 = s1 at *
              generalize L[i].2 = s2 at *
              have hcmp : ∀ u : World, (binOp .neq 41 (.agg #[.int .i64 0, .int .i64 (s1 : Int), .int .i64 (s2 : Int)]) (.agg #[.int .i64 0, .int .i64 (s1 : Int), .int .i64 (s2 : Int)])).run Tryd.prog u = .ok (.bool false) u := fun u => by rw [site_ne]; simp
              have HID : RowKit.Hid (∀ q, Below w8.heap.size w8 (wz.drewN q)) := Lib.hid fun q => belowU2_drewN q HI.out
              go_upto_region 17 with fail
              go_quiet (fail)
              go_wp2_with fail
              go_roundw
              case rel => exact ⟨i + 1, by omega, by go_num, Lib.hid (HID.out _)⟩
              case measure => simp [intOf]; omega
            · have hilz : ¬ ((i : Int) < (n1 : Int)) := by omega
              go_wp2_with fail
              go_roundw
              case rel => exact ⟨v + 1, by omega, by go_num, Lib.hid (HWC.out.trans (HI.out.mono HWC.out.size))⟩
              case measure => simp [intOf]; omega
        · have hvlz : ¬ ((v : Int) < (cn : Int)) := by omega
          go_quiet (fail)
          have HB10 : RowKit.Hid (∀ q, Below w8.heap.size w8 (w8.drewN q)) := Lib.hid fun q => belowU2_drewN q (Below.refl _ _)
          go_wp2_with fail
          go_loopw [12] (fun v12 wr => ∃ i : Nat, i ≤ n1 ∧ v12 = .int .i64 (i : Int) ∧ RowKit.Hid (Below w8.heap.size w8 wr)) (fun v12 _ => n1 - (intOf v12).toNat)
          case atStart => exact ⟨0, Nat.zero_le _, rfl, Lib.hid (HB10.out _)⟩
          case round =>
            obtain ⟨i, hi, rfl, HI⟩ := hrel
            obtain ⟨wz, hwz⟩ : ∃ u, u = wr := ⟨_, rfl⟩
            rw [← hwz] at HI ⊢
            clear hwz
            by_cases hil : i < n1
            · have hilz : (i : Int) < (n1 : Int) := by omega
              have hi0 : (0 : Int) ≤ (i : Int) := by omega
              have hiL : i < L.length := by have := HN1.out; omega
              obtain ⟨ga, rfl, hga, hca⟩ := sitesAt HA.out (by omega)
              obtain ⟨gb, rfl, hgb, hcb⟩ := sitesAt HB.out (by omega)
              obtain ⟨a0, a1', a2'⟩ := hca i hiL
              obtain ⟨b0, b1', b2'⟩ := hcb i hiL
              have x0 := (HI.out.cell (p := ⟨ga, i * 3, none⟩) hga).trans a0
              have x1 := (HI.out.cell (p := ⟨ga, i * 3 + 1, none⟩) hga).trans a1'
              have x2 := (HI.out.cell (p := ⟨ga, i * 3 + 2, none⟩) hga).trans a2'
              have y0 := (HI.out.cell (p := ⟨gb, i * 3, none⟩) hgb).trans b0
              have y1 := (HI.out.cell (p := ⟨gb, i * 3 + 1, none⟩) hgb).trans b1'
              have y2 := (HI.out.cell (p := ⟨gb, i * 3 + 2, none⟩) hgb).trans b2'
              clear a0 a1' a2' b0 b1' b2' hca hcb hga hgb
              generalize L[i].1 = s1 at *
              generalize L[i].2 = s2 at *
              have hcmp : ∀ u : World, (binOp .neq 41 (.agg #[.int .i64 0, .int .i64 (s1 : Int), .int .i64 (s2 : Int)]) (.agg #[.int .i64 0, .int .i64 (s1 : Int), .int .i64 (s2 : Int)])).run Tryd.prog u = .ok (.bool false) u := fun u => by rw [site_ne]; simp
              have HID : RowKit.Hid (∀ q, Below w8.heap.size w8 (wz.drewN q)) := Lib.hid fun q => belowU2_drewN q HI.out
              go_upto_region 17 with fail
              go_quiet (fail)
              go_wp2_with fail
              go_roundw
              case rel => exact ⟨i + 1, by omega, by go_num, Lib.hid (HID.out _)⟩
              case measure => simp [intOf]; omega
            · have hilz : ¬ ((i : Int) < (n1 : Int)) := by omega
              go_wp2_with fail
              go_roundw
              case rel => exact ⟨v + 1, by omega, by go_num, Lib.hid (HWC.out.trans (HI.out.mono HWC.out.size))⟩
              case measure => simp [intOf]; omega
      · have hge : ¬ ((v : Int) ≤ (cn : Int)) := by omega
        go_wp2_with (go_at_call 8; (with_reducible refine (CLY.out _ HRY.out).mono ?_); rintro e w7 ⟨rfl, hb⟩; have HB7 := Lib.hid hb; clear hb)
        go_ret
        exact ⟨rfl, HB0.out.trans ((HBY.out.trans (HB7.out.mono HBY.out.size)).mono HB0.out.size)⟩
end Go.Proofs.YtdchhfdmingnaaaDoor
