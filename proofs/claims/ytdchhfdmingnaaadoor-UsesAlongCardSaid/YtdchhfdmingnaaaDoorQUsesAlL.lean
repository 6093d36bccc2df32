/- Layer 13: the law UsesAlong: what a block leaves it makes, or needs ahead (mk_ualong.py). -/
import Derived.Test.YtdchhfdmingnaaaDoorQCfgB
import Derived.Test.YtdchhfdmingnaaaDoorQT5
import Derived.Test.YtdchhfdmingnaaaDoorQT8

namespace Go.Proofs.YtdchhfdmingnaaaDoor
open Go.RowKit (wrap64 intOf Below)
set_option linter.unusedVariables false
set_option linter.unusedSimpArgs false
theorem ulaw_box (w : World) (v0 v1 v2 : Value) {W : World} (hW : w.alloc (.cells #[v0, v1, v2] 26) = W) : Below w.heap.size w W ∧ w.heap.size < W.heap.size ∧ W.cell? ⟨w.heap.size, 0, none⟩ = some v0 ∧ W.cell? ⟨w.heap.size, 1, none⟩ = some v1 ∧ W.cell? ⟨w.heap.size, 2, none⟩ = some v2 := by
  rw [← hW]
  exact ⟨(Below.refl _ w).alloc (Nat.le_refl _) _, by simp, World.cell?_alloc_mark _ _ _ _ _, World.cell?_alloc_mark _ _ _ _ _, World.cell?_alloc_mark _ _ _ _ _⟩
theorem rows_read {B bx g n : Nat} {W : World} {vs : List Value} {Zs : List (List Int)} (h : SetU B bx g n W vs Zs) {i : Nat} (hi : i < n) (hz : i < Zs.length) : ∃ a k c, k = (Zs[i]).length ∧ ∀ U, Below W.heap.size W U → U.cell? ⟨g, i, none⟩ = some (.slice a k c) ∧ NumsAt U a k Zs[i] := by
  have hl := h.len
  have c0 := h.row.cell (i := i) (by omega)
  obtain ⟨a, k, c, h0, r0⟩ := (h.row.own i (by omega) hz).nums
  rw [h0] at c0
  obtain ⟨cur, hcur, _⟩ := h.blk
  exact ⟨a, k, c, r0.1.symm, fun U hU => ⟨(hU.cell (p := ⟨g, i, none⟩) (Array.getElem?_eq_some_iff.1 hcur).1).trans c0, r0.since hU⟩⟩
theorem left_in {f : FuncD} {i : Nat} (hi : i < f.blocks.length) {z : Int} (hz : z ∈ leftU f i) : inL (neededU f i) z = true ∨ (inL (neededU f i) z = false ∧ (fstU f i : Int) ≤ z ∧ z < (fstU f (i + 1) : Int)) := by
  unfold leftU at hz
  obtain ⟨v, rfl, hv, hl⟩ := mem_risingU.1 hz
  by_cases h : inL (neededU f i) (v : Int) = true
  · exact .inl h
  · refine .inr ⟨by simpa using h, ?_⟩
    rcases left_along hi (left_iff.1 hl) with h1 | h1
    · exact absurd (show inL (neededU f i) (v : Int) = true from decide_eq_true (mem_risingU.2 ⟨v, rfl, hv, need_iff.2 h1⟩)) h
    · exact h1
set_option maxRecDepth 100000 in
set_option maxHeartbeats 8000000 in
theorem usesalong_walk (sa : Option Addr) (sn sc : Nat) (ca : Option Addr) (cn cc : Nat) (fa : Option Addr) (fn fc : Nat) (P : ProgD) (nn : Nat) (hnn : nn ≤ 255) (w : World) (hft : FT w)
    (hP : ProgQ w [.slice sa sn sc, .slice ca cn cc, .slice fa fn fc] P) (hcap : RowV UFuncC 2 w (.slice fa fn fc) P.funcs) :
    Calls Tryd.prog 5 #[.agg #[.slice sa sn sc, .slice ca cn cc, .slice fa fn fc], .int .u8 (nn : Int)] w fun e w' => e = .returned (.bool true) ∧ Below w.heap.size w w' := by
  obtain ⟨W, hW⟩ : ∃ U, w.alloc (.cells #[.slice sa sn sc, .slice ca cn cc, .slice fa fn fc] 26) = U := ⟨_, rfl⟩
  obtain ⟨hb0, hs0, hc0, hc1, hc2⟩ := ulaw_box w _ _ _ hW
  have HFT := Lib.hid (hft.since hb0)
  have HB0 := Lib.hid hb0
  have hcap1 : RowV UFuncC 2 W (.slice fa fn fc) P.funcs := hcap.since (fun W W' cs x hb h => ⟨FuncQ.lasts _ _ _ _ hb h.1, h.2⟩) hb0
  have CF := Lib.hid (ulfun_any w.heap.size nn hnn W hc0 hc1 hc2 (ProgQ.lasts _ _ _ _ hb0 hP) hcap1)
  have CLI : RowKit.Hid (∀ u, Below W.heap.size W u → Calls Tryd.prog 8 #[] u fun e w' => e = .returned (.bool true) ∧ Below W.heap.size W w') := Lib.hid fun u hu => (ulives_any u (HFT.out.since hu)).mono fun e w' h => ⟨h.1, hu.trans (h.2.mono hu.size)⟩
  clear hP hft hb0 hs0 hc0 hc1 hc2 hcap hcap1
  go_enter Tryd.func5, Tryd.ntmps5
  go_upto_region 2 with fail
  try rw [hW]
  clear hW
  go_wp2_with fail
  refine CF.out.mono ?_
  rintro e w2 ⟨rfl | ⟨F, ba, m, bc, hmem, hpp, rfl, hfq, hmb, hb8⟩, hb2⟩
  · have HB2 := Lib.hid hb2
    clear hb2
    go_wp2_with (go_at_call 8; (with_reducible refine (CLI.out _ (HB2.out.alloc HB2.out.size _)).mono ?_); rintro e w3 ⟨rfl, hb⟩; have HB3 := Lib.hid hb; clear hb)
    go_ret
    exact ⟨rfl, HB0.out.trans (HB3.out.mono HB0.out.size)⟩
  · obtain ⟨rt, hrt⟩ : ∃ t, t = F.ret := ⟨_, rfl⟩
    rw [← hrt] at hfq ⊢
    obtain ⟨Y, hY⟩ : ∃ U, w2.alloc (.cells #[.int .i64 rt, .slice ba m bc] 30) = U := ⟨_, rfl⟩
    have hbY : Below w2.heap.size w2 Y := by rw [← hY]; exact (Below.refl _ w2).alloc (Nat.le_refl _) _
    have hcY : ∀ j, Y.cell? ⟨w2.heap.size, j, none⟩ = (#[.int .i64 rt, .slice ba m bc] : Array Value)[j]? := fun j => by rw [← hY]; exact World.cell?_alloc_mark _ _ _ _ _
    have hpY : w2.heap.size < Y.heap.size := by rw [← hY]; simp
    have HBY : RowKit.Hid (Below W.heap.size W Y) := Lib.hid (hb2.trans (hbY.mono hb2.size))
    have HFQ : RowKit.Hid (FuncQ Y [.int .i64 rt, .slice ba m bc] F) := Lib.hid (FuncQ.lasts _ _ _ _ hbY hfq)
    have hsu := smU_of (by omega) hpp hmem
    have HSM := Lib.hid hsu.1
    have HN := Lib.hid hsu.2
    have HML : RowKit.Hid (m = F.blocks.length) := Lib.hid (by obtain ⟨_, he, _, _, _, _, e, h, _⟩ := hfq; simp only [List.cons.injEq, and_true] at he; obtain ⟨_, rfl⟩ := he; cases e; exact h.symm)
    have hm5 : m ≤ 100000 := by have := hsu.1.blocks; rw [HML.out]; exact this
    have HYC : RowKit.Hid (∀ U, Below Y.heap.size Y U → U.cell? ⟨w2.heap.size, 0, none⟩ = some (.int .i64 rt) ∧ U.cell? ⟨w2.heap.size, 1, none⟩ = some (.slice ba m bc)) := Lib.hid fun U hU => ⟨(hU.cell (p := ⟨w2.heap.size, 0, none⟩) hpY).trans (hcY 0), (hU.cell (p := ⟨w2.heap.size, 1, none⟩) hpY).trans (hcY 1)⟩
    have CN : RowKit.Hid (∀ u, Below Y.heap.size Y u → Calls Tryd.prog 14 #[.agg #[.int .i64 rt, .slice ba m bc]] u (RowsPost m ((List.range m).map (neededU F)) u)) := Lib.hid fun u hu => needed_any rt ba m bc F u (FuncQ.lasts _ _ _ _ hu HFQ.out) (HFT.out.since (HBY.out.trans (hu.mono HBY.out.size))) HSM.out HN.out
    have CL : RowKit.Hid (∀ u, Below Y.heap.size Y u → Calls Tryd.prog 15 #[.agg #[.int .i64 rt, .slice ba m bc]] u (RowsPost m ((List.range m).map (leftU F)) u)) := Lib.hid fun u hu => uleft_any rt ba m bc F u (FuncQ.lasts _ _ _ _ hu HFQ.out) (HFT.out.since (HBY.out.trans (hu.mono HBY.out.size))) HSM.out HN.out
    have CLY : RowKit.Hid (∀ u, Below Y.heap.size Y u → Calls Tryd.prog 8 #[] u fun e w' => e = .returned (.bool true) ∧ Below Y.heap.size Y w') := Lib.hid fun u hu => (ulives_any u (HFT.out.since (HBY.out.trans (hu.mono HBY.out.size)))).mono fun e w' h => ⟨h.1, hu.trans (h.2.mono hu.size)⟩
    have CFI : RowKit.Hid (∀ u (i : Nat), Below Y.heap.size Y u → i ≤ m → Calls Tryd.prog 21 #[.agg #[.int .i64 rt, .slice ba m bc], .int .i64 (i : Int)] u fun e w' => e = .returned (.int .i64 (fstU F i : Int)) ∧ Below u.heap.size u w') := Lib.hid fun u i hu hi => by
      refine (ref_first rt ba m bc (i : Int) F u (FuncQ.lasts _ _ _ _ hu HFQ.out)).mono ?_
      rintro e w' ⟨rfl, hb⟩
      rw [firstOf_small (by have := HSM.out.vals; omega) (by have := HML.out; omega)]
      exact ⟨rfl, hb⟩
    clear hb2 hbY hcY hpY hfq hmem hrt hsu hpp hb8 CF CLI
    go_upto_region 5 with fail
    try rw [hY]
    clear hY
    refine wp_region_T (S := (fun u : World => u.cell? ⟨w2.heap.size, 0, none⟩ = some (.int .i64 rt) ∧ u.cell? ⟨w2.heap.size, 1, none⟩ = some (.slice ba m bc))) 6 (by kernel_rfl) (HYC.out _ (Below.refl _ Y).drew) (fun hHeld => ?_)
    refine wpAnyT_take (i := 0) (oi := ⟨some 22, _, _, _, _, _⟩) (v := ?_) 8 rfl (by kernel_rfl) (by kernel_rfl) (by kernel_rfl) (by kernel_rfl) (by kernel_rfl) (fun _ _ _ h => h) (Or.inl ⟨by rfl, ?_⟩) (by assumption) ?_
    rotate_left
    · ((intro w hSw; (try dsimp only at hSw); go_simp); try with_reducible rfl)
    (try simp only [Act.put, List.setIfInBounds_toArray, List.set_cons_zero, List.set_cons_succ])
    refine wpAnyT_take (i := 2) (oi := ⟨some 24, _, _, _, _, _⟩) (v := ?_) 8 rfl (by kernel_rfl) (by kernel_rfl) (by kernel_rfl) (by kernel_rfl) (by kernel_rfl) (fun _ _ _ h => h) (Or.inl ⟨by rfl, ?_⟩) (by assumption) ?_
    rotate_left
    · ((intro w hSw; (try dsimp only at hSw); go_simp); try with_reducible rfl)
    (try simp only [Act.put, List.setIfInBounds_toArray, List.set_cons_zero, List.set_cons_succ])
    refine wpAnyT_one (i := 1) (by kernel_rfl) rfl (fun K hK => ?_)
    rw [if_pos (by rfl)]
    go_simp
    (with_reducible refine (CN.out _ (Below.refl _ Y).drew).mono ?_)
    rintro e w4 ⟨q1, x1, g1, vs1, rfl, h1, hb⟩
    have HB4 : RowKit.Hid (Below Y.heap.size Y w4) := Lib.hid (((Below.refl _ Y).drew).trans hb)
    have HT1 := Lib.hid h1
    clear h1 hb
    refine hK.out _ _ (HYC.out _ HB4.out) (fun hHeld => ?_)
    clear hK K
    (try simp only [Act.put, List.setIfInBounds_toArray, List.set_cons_zero, List.set_cons_succ])
    refine wpAnyT_one (i := 3) (by kernel_rfl) rfl (fun K hK => ?_)
    rw [if_pos (by rfl)]
    go_simp
    (with_reducible refine (CL.out _ HB4.out).mono ?_)
    rintro e w5 ⟨q2, x2, g2, vs2, rfl, h2, hb⟩
    have HB5 : RowKit.Hid (Below Y.heap.size Y w5) := Lib.hid (HB4.out.trans (hb.mono HB4.out.size))
    have HS1 := Lib.hid (HT1.out.since hb)
    have HS2 := Lib.hid h2
    clear h2 hb HT1
    refine hK.out _ _ (HYC.out _ HB5.out) (fun hHeld => ?_)
    clear hK K
    (try simp only [Act.put, List.setIfInBounds_toArray, List.set_cons_zero, List.set_cons_succ])
    refine wpAnyT_takeW (i := 4) (oi := ⟨some 8, _, _, _, _, _⟩) (v := ?_) rfl (by kernel_rfl) (by kernel_rfl) (by kernel_rfl) (fun _ _ _ h => h) (Or.inl ⟨by rfl, ?_⟩) ?_
    rotate_left
    · ((intro w _; go_simp); try with_reducible rfl)
    (try simp only [Act.put, List.setIfInBounds_toArray, List.set_cons_zero, List.set_cons_succ])
    refine wpAnyT_takeW (i := 5) (oi := ⟨some 9, _, _, _, _, _⟩) (v := ?_) rfl (by kernel_rfl) (by kernel_rfl) (by kernel_rfl) (fun _ _ _ h => h) (Or.inl ⟨by rfl, ?_⟩) ?_
    rotate_left
    · ((intro w _; go_simp); try with_reducible rfl)
    (try simp only [Act.put, List.setIfInBounds_toArray, List.set_cons_zero, List.set_cons_succ])
    refine wpAnyT_done (by kernel_rfl) ?_
    have HB5 : RowKit.Hid (Below Y.heap.size Y w5) := HB5
    obtain ⟨f0, f1⟩ := HYC.out _ HB5.out
    have hmm : ((m : Int) != (m : Int)) = false := by simp
    go_upto_region 8 with fail
    go_wp2_with fail
    go_loopw [10] (fun iv wr => ∃ i : Nat, i ≤ m ∧ iv = .int .i64 (i : Int) ∧ RowKit.Hid (Below w5.heap.size w5 wr)) (fun iv _ => m - (intOf iv).toNat)
    case atStart => exact ⟨0, Nat.zero_le _, rfl, Lib.hid (Below.refl _ _)⟩
    case round =>
      obtain ⟨i, hi, rfl, HR⟩ := hrel
      clear f0 f1
      by_cases hlt : i < m
      · have hltz : (i : Int) < (m : Int) := by omega
        have hi0 : (0 : Int) ≤ (i : Int) := by omega
        obtain ⟨a1, k1, c1, hk1, hr1⟩ := rows_read HS1.out hlt (by simpa using hlt)
        obtain ⟨a2, k2, c2, hk2, hr2⟩ := rows_read HS2.out hlt (by simpa using hlt)
        simp only [List.getElem_map, List.getElem_range] at hk1 hk2 hr1 hr2
        have hk1b : k1 ≤ 100000 := by have := risingU_len (fun v => needB F v i) (valU F); have := HSM.out.vals; unfold neededU at hk1; omega
        have hk2b : k2 ≤ 100000 := by have := risingU_len (fun v => leftB F v i) (valU F); have := HSM.out.vals; unfold leftU at hk2; omega
        have HK2 := Lib.hid hk2
        have HR1 := Lib.hid hr1
        have HR2 := Lib.hid hr2
        have HKB := Lib.hid (And.intro hk1b hk2b)
        clear hk1 hk2 hr1 hr2 hk1b
        obtain ⟨g3, -⟩ := HR2.out _ HR.out
        go_upto_region 11 with fail
        go_wp2_with fail
        go_loopw [11] (fun jv wj => ∃ k : Nat, k ≤ k2 ∧ jv = .int .i64 (k : Int) ∧ RowKit.Hid (Below w5.heap.size w5 wj)) (fun jv _ => k2 - (intOf jv).toNat)
        case atStart => exact ⟨0, Nat.zero_le _, rfl, Lib.hid HR.out⟩
        case round =>
          obtain ⟨k, hk, rfl, HJ⟩ := hrel
          clear g3
          obtain ⟨g3, hn2⟩ := HR2.out _ HJ.out
          by_cases hlk : k < k2
          · have hlkz : (k : Int) < (k2 : Int) := by omega
            have hk0 : (0 : Int) ≤ (k : Int) := by omega
            obtain ⟨gb, ob, rfl, hgb, hcb⟩ := hn2.2 (by omega)
            have hkl : k < (leftU F i).length := by have := HK2.out; omega
            have hcell := hcb k hkl
            obtain ⟨z, hz⟩ : ∃ z, z = (leftU F i)[k] := ⟨_, rfl⟩
            rw [← hz] at hcell
            unfold numV at hcell
            have hmem : z ∈ leftU F i := by rw [hz]; exact List.getElem_mem _
            have HLI := Lib.hid (left_in (f := F) (i := i) (by have := HML.out; omega) hmem)
            obtain ⟨g4, -⟩ := HR1.out _ HJ.out
            have HCH : RowKit.Hid (∀ U, Below w5.heap.size w5 U → Calls Tryd.prog 20 #[.slice a1 k1 c1, .int .i64 z] U fun e w' => e = .returned (.bool (inL (neededU F i) z)) ∧ U = w') := Lib.hid fun U hU => chas_any a1 k1 c1 (neededU F i) z U (HR1.out U hU).2 (by have := HKB.out.1; omega)
            obtain ⟨f0, f1⟩ := HYC.out _ (HB5.out.trans (HJ.out.mono HB5.out.size))
            have HIP : RowKit.Hid (((i : Int) + 1) = ((i + 1 : Nat) : Int)) := Lib.hid (by omega)
            clear hcb hn2 hz hmem hkl
            rcases HLI.out with hin | ⟨hin, hlo, hhi⟩
            · have HIN := Lib.hid hin
              clear hin
              go_wp2_with (go_at_call 20; (with_reducible refine (HCH.out _ HJ.out).mono ?_); rintro e u ⟨rfl, rfl⟩; rw [HIN.out])
              go_roundw
              case rel => exact ⟨k + 1, by omega, by go_num, HJ⟩
              case measure => simp [intOf]; omega
            · have HIN := Lib.hid hin
              have hlo' : ¬ z < (fstU F i : Int) := by omega
              have hhi' : ¬ (fstU F (i + 1) : Int) ≤ z := by omega
              have hfb : (fstU F (i + 1) : Int) ≤ 100000 := by have := fstU_le F (i + 1); have := HSM.out.vals; omega
              clear hin
              go_wp2_with (first
                | (go_at_call 20; (with_reducible refine (HCH.out _ HJ.out).mono ?_); rintro e u ⟨rfl, rfl⟩; rw [HIN.out])
                | (go_at_call 21; (with_reducible refine (CFI.out _ i (HB5.out.trans (HJ.out.mono HB5.out.size)) (by omega)).mono ?_); rintro e u1 ⟨rfl, hb⟩; have HU1 := Lib.hid (HJ.out.trans (hb.mono HJ.out.size)); clear hb; clear f0 f1; obtain ⟨f0, f1⟩ := HYC.out _ (HB5.out.trans (HU1.out.mono HB5.out.size)))
                | (go_at_call 21; rw [HIP.out]; (with_reducible refine (CFI.out _ (i + 1) (HB5.out.trans (HU1.out.mono HB5.out.size)) (by omega)).mono ?_); rintro e u2 ⟨rfl, hb⟩; have HU2 := Lib.hid (HU1.out.trans (hb.mono HU1.out.size)); clear hb))
              go_roundw
              case rel => exact ⟨k + 1, by omega, by go_num, HU2⟩
              case measure => simp [intOf]; omega
          · obtain rfl : k = k2 := by omega
            go_wp2_with fail
            go_roundw
            case rel => exact ⟨i + 1, by omega, by go_num, HJ⟩
            case measure => simp [intOf]; omega
      · obtain rfl : i = m := by omega
        go_wp2_with (go_at_call 8; (with_reducible refine (CLY.out _ (HB5.out.trans (HR.out.mono HB5.out.size))).mono ?_); rintro e w7 ⟨rfl, hb⟩; have HB7 := Lib.hid hb; clear hb)
        go_ret
        exact ⟨rfl, HB0.out.trans ((HBY.out.trans (HB7.out.mono HBY.out.size)).mono HB0.out.size)⟩
end Go.Proofs.YtdchhfdmingnaaaDoor
