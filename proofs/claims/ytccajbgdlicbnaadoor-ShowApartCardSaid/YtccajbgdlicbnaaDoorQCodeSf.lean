/- Layer 5: the document's sameEnd (written by mk_sf.py). -/
import Derived.Test.YtccajbgdlicbnaaDoorQCodeQf
import Derived.Test.YtccajbgdlicbnaaDoorQT3
import Derived.Deep.RegionLaw
import Derived.Deep.DeepCutAuto
namespace Go.Proofs.YtccajbgdlicbnaaDoor
open Go.RowKit (wrap64 intOf Below)
set_option linter.unusedVariables false
set_option linter.unusedSimpArgs false
attribute [local go_sem ↓] Go.wp_at_zero Go.wp_at_succ

set_option maxRecDepth 100000 in
set_option maxHeartbeats 4000000 in
theorem codeSf_any (k1 : Int) (x1 : Int) (t1 : Int) (l1 : Int) (pa1 : Option Addr) (pn1 pc1 : Nat) (qa1 : Option Addr) (qn1 qc1 : Nat) (k2 : Int) (x2 : Int) (t2 : Int) (l2 : Int) (pa2 : Option Addr) (pn2 pc2 : Nat) (qa2 : Option Addr) (qn2 qc2 : Nat) (x y : EndD) (w : World) (hx : EndQ w [.int .i64 k1, .int .i64 x1, .int .i64 t1, .int .i64 l1, .slice pa1 pn1 pc1, .slice qa1 qn1 qc1] x) (hy : EndQ w [.int .i64 k2, .int .i64 x2, .int .i64 t2, .int .i64 l2, .slice pa2 pn2 pc2, .slice qa2 qn2 qc2] y) :
    Calls Tryd.prog 50 #[.agg #[.int .i64 k1, .int .i64 x1, .int .i64 t1, .int .i64 l1, .slice pa1 pn1 pc1, .slice qa1 qn1 qc1], .agg #[.int .i64 k2, .int .i64 x2, .int .i64 t2, .int .i64 l2, .slice pa2 pn2 pc2, .slice qa2 qn2 qc2]] w (TruthPost (plainEnd x = plainEnd y) w) := by
  have hl0 := Laid2B.start w 46 #[.int .i64 k1, .int .i64 x1, .int .i64 t1, .int .i64 l1, .slice pa1 pn1 pc1, .slice qa1 qn1 qc1] #[.int .i64 k2, .int .i64 x2, .int .i64 t2, .int .i64 l2, .slice pa2 pn2 pc2, .slice qa2 qn2 qc2]
  have HX := Lib.hid (EndQ.lasts _ _ _ _ hl0.bel hx)
  have HY := Lib.hid (EndQ.lasts _ _ _ _ hl0.bel hy)

  clear hx hy
  go_enter Tryd.func50, Tryd.ntmps50
  go_upto_region 1 with fail
  generalize hW : ((w.alloc (.cells #[.int .i64 k1, .int .i64 x1, .int .i64 t1, .int .i64 l1, .slice pa1 pn1 pc1, .slice qa1 qn1 qc1] 46)).alloc (.cells #[.int .i64 k2, .int .i64 x2, .int .i64 t2, .int .i64 l2, .slice pa2 pn2 pc2, .slice qa2 qn2 qc2] 46)) = W at hl0 HX HY ⊢
  clear hW
  have hi0 : W.cell? ⟨w.heap.size, 0, none⟩ = some (.int .i64 k1) := hl0.c0 0
  have hk0 : W.cell? ⟨w.heap.size + 1, 0, none⟩ = some (.int .i64 k2) := hl0.c1 0
  have hi1 : W.cell? ⟨w.heap.size, 1, none⟩ = some (.int .i64 x1) := hl0.c0 1
  have hk1 : W.cell? ⟨w.heap.size + 1, 1, none⟩ = some (.int .i64 x2) := hl0.c1 1
  have hi2 : W.cell? ⟨w.heap.size, 2, none⟩ = some (.int .i64 t1) := hl0.c0 2
  have hk2 : W.cell? ⟨w.heap.size + 1, 2, none⟩ = some (.int .i64 t2) := hl0.c1 2
  have hi3 : W.cell? ⟨w.heap.size, 3, none⟩ = some (.int .i64 l1) := hl0.c0 3
  have hk3 : W.cell? ⟨w.heap.size + 1, 3, none⟩ = some (.int .i64 l2) := hl0.c1 3
  have hi4 : W.cell? ⟨w.heap.size, 4, none⟩ = some (.slice pa1 pn1 pc1) := hl0.c0 4
  have hk4 : W.cell? ⟨w.heap.size + 1, 4, none⟩ = some (.slice pa2 pn2 pc2) := hl0.c1 4
  have hi5 : W.cell? ⟨w.heap.size, 5, none⟩ = some (.slice qa1 qn1 qc1) := hl0.c0 5
  have hk5 : W.cell? ⟨w.heap.size + 1, 5, none⟩ = some (.slice qa2 qn2 qc2) := hl0.c1 5
  have HL := Lib.hid hl0
  have HX1 := Lib.hid (EndQ.lasts _ _ _ _ ((Below.refl W.heap.size W).drew) HX.out)
  have HY1 := Lib.hid (EndQ.lasts _ _ _ _ ((Below.refl W.heap.size W).drew) HY.out)
  clear hl0 HX HY
  go_cut [6] (fun tc wc => RowKit.Hid (∃ k3 x3 t3 l3 pa3 pn3 pc3 qa3 qn3 qc3 k4 x4 t4 l4 pa4 pn4 pc4 qa4 qn4 qc4, Laid2B w 46 #[.int .i64 k3, .int .i64 x3, .int .i64 t3, .int .i64 l3, .slice pa3 pn3 pc3, .slice qa3 qn3 qc3] #[.int .i64 k4, .int .i64 x4, .int .i64 t4, .int .i64 l4, .slice pa4 pn4 pc4, .slice qa4 qn4 qc4] wc ∧ EndQ wc [.int .i64 k3, .int .i64 x3, .int .i64 t3, .int .i64 l3, .slice pa3 pn3 pc3, .slice qa3 qn3 qc3] (plainEnd x) ∧ EndQ wc [.int .i64 k4, .int .i64 x4, .int .i64 t4, .int .i64 l4, .slice pa4 pn4 pc4, .slice qa4 qn4 qc4] (plainEnd y)))
  case first =>
    go_region_law (first
      | (rw [if_pos (by rfl)]; go_simp; go_at_call 66; (with_reducible refine (ref_end_at k1 x1 t1 l1 pa1 pn1 pc1 qa1 qn1 qc1 x _ HX1.out).mono ?_); rintro e e1 ⟨k3, x3, t3, l3, pa3, pn3, pc3, qa3, qn3, qc3, rfl, hp1, hb1⟩; have hs1 := HL.out.size; have hl1 := HL.out.drew.step hb1 hs1; have hy1 := EndQ.lasts _ _ _ _ hb1 HY1.out; have hd0 : e1.cell? ⟨w.heap.size + 1, 0, none⟩ = some (.int .i64 k2) := hl1.c1 0; have hd1 : e1.cell? ⟨w.heap.size + 1, 1, none⟩ = some (.int .i64 x2) := hl1.c1 1; have hd2 : e1.cell? ⟨w.heap.size + 1, 2, none⟩ = some (.int .i64 t2) := hl1.c1 2; have hd3 : e1.cell? ⟨w.heap.size + 1, 3, none⟩ = some (.int .i64 l2) := hl1.c1 3; have hd4 : e1.cell? ⟨w.heap.size + 1, 4, none⟩ = some (.slice pa2 pn2 pc2) := hl1.c1 4; have hd5 : e1.cell? ⟨w.heap.size + 1, 5, none⟩ = some (.slice qa2 qn2 qc2) := hl1.c1 5)
      | (rw [if_pos (by rfl)]; go_simp; go_at_call 66; (with_reducible refine (ref_end_at k2 x2 t2 l2 pa2 pn2 pc2 qa2 qn2 qc2 y _ hy1).mono ?_); rintro e e2 ⟨k4, x4, t4, l4, pa4, pn4, pc4, qa4, qn4, qc4, rfl, hp2, hb2⟩; have hs2 := hl1.size; have hl2 := hl1.step hb2 hs2; have hfa0 : e2.frozen? ⟨w.heap.size, 0, none⟩ = false := hl2.f0 0; have hfb0 : e2.frozen? ⟨w.heap.size + 1, 0, none⟩ = false := hl2.f1 0; have hca0 : e2.cell? ⟨w.heap.size, 0, none⟩ = some (.int .i64 k1) := hl2.c0 0; have hcb0 : e2.cell? ⟨w.heap.size + 1, 0, none⟩ = some (.int .i64 k2) := hl2.c1 0; have hfa1 : e2.frozen? ⟨w.heap.size, 1, none⟩ = false := hl2.f0 1; have hfb1 : e2.frozen? ⟨w.heap.size + 1, 1, none⟩ = false := hl2.f1 1; have hca1 : e2.cell? ⟨w.heap.size, 1, none⟩ = some (.int .i64 x1) := hl2.c0 1; have hcb1 : e2.cell? ⟨w.heap.size + 1, 1, none⟩ = some (.int .i64 x2) := hl2.c1 1; have hfa2 : e2.frozen? ⟨w.heap.size, 2, none⟩ = false := hl2.f0 2; have hfb2 : e2.frozen? ⟨w.heap.size + 1, 2, none⟩ = false := hl2.f1 2; have hca2 : e2.cell? ⟨w.heap.size, 2, none⟩ = some (.int .i64 t1) := hl2.c0 2; have hcb2 : e2.cell? ⟨w.heap.size + 1, 2, none⟩ = some (.int .i64 t2) := hl2.c1 2; have hfa3 : e2.frozen? ⟨w.heap.size, 3, none⟩ = false := hl2.f0 3; have hfb3 : e2.frozen? ⟨w.heap.size + 1, 3, none⟩ = false := hl2.f1 3; have hca3 : e2.cell? ⟨w.heap.size, 3, none⟩ = some (.int .i64 l1) := hl2.c0 3; have hcb3 : e2.cell? ⟨w.heap.size + 1, 3, none⟩ = some (.int .i64 l2) := hl2.c1 3; have hfa4 : e2.frozen? ⟨w.heap.size, 4, none⟩ = false := hl2.f0 4; have hfb4 : e2.frozen? ⟨w.heap.size + 1, 4, none⟩ = false := hl2.f1 4; have hca4 : e2.cell? ⟨w.heap.size, 4, none⟩ = some (.slice pa1 pn1 pc1) := hl2.c0 4; have hcb4 : e2.cell? ⟨w.heap.size + 1, 4, none⟩ = some (.slice pa2 pn2 pc2) := hl2.c1 4; have hfa5 : e2.frozen? ⟨w.heap.size, 5, none⟩ = false := hl2.f0 5; have hfb5 : e2.frozen? ⟨w.heap.size + 1, 5, none⟩ = false := hl2.f1 5; have hca5 : e2.cell? ⟨w.heap.size, 5, none⟩ = some (.slice qa1 qn1 qc1) := hl2.c0 5; have hcb5 : e2.cell? ⟨w.heap.size + 1, 5, none⟩ = some (.slice qa2 qn2 qc2) := hl2.c1 5))
    all_goals
      have hl3 := hl2.over6 rfl rfl (.int .i64 k3) (.int .i64 x3) (.int .i64 t3) (.int .i64 l3) (.slice pa3 pn3 pc3) (.slice qa3 qn3 qc3) (.int .i64 k4) (.int .i64 x4) (.int .i64 t4) (.int .i64 l4) (.slice pa4 pn4 pc4) (.slice qa4 qn4 qc4)
      have ho := @over6_both w e2 (.int .i64 k3) (.int .i64 x3) (.int .i64 t3) (.int .i64 l3) (.slice pa3 pn3 pc3) (.slice qa3 qn3 qc3) (.int .i64 k4) (.int .i64 x4) (.int .i64 t4) (.int .i64 l4) (.slice pa4 pn4 pc4) (.slice qa4 qn4 qc4)
      have hq1 := EndO.holds.off (EndO.holds.wider hp1 (S' := From (w.heap.size + 2)) (fun b _ hb => Nat.le_trans hs1 hb)) (X := fun _ => False) (Off.since hb2) (fun _ _ h => h)
      have hq2 := EndO.holds.wider hp2 (S' := From (w.heap.size + 2)) (fun b _ hb => Nat.le_trans hs2 hb)
      have hr1 := EndO.reads _ _ _ _ (EndO.holds.off hq1 ho (fun b hb e => by have hb : w.heap.size + 2 ≤ b := hb; rcases e with e | e <;> omega))
      have hr2 := EndO.reads _ _ _ _ (EndO.holds.off hq2 ho (fun b hb e => by have hb : w.heap.size + 2 ≤ b := hb; rcases e with e | e <;> omega))
      go_wp2_with fail
      go_meet
      exact Lib.hid ⟨k3, x3, t3, l3, pa3, pn3, pc3, qa3, qn3, qc3, k4, x4, t4, l4, pa4, pn4, pc4, qa4, qn4, qc4, hl3, hr1, hr2⟩
  case rest =>
    obtain ⟨k3, x3, t3, l3, pa3, pn3, pc3, qa3, qn3, qc3, k4, x4, t4, l4, pa4, pn4, pc4, qa4, qn4, qc4, hl, hx, hy⟩ := hcut.out
    clear hcut
    clear hi0 hk0
    have hi0 : wc.cell? ⟨w.heap.size, 0, none⟩ = some (.int .i64 k3) := hl.c0 0
    have hk0 : wc.cell? ⟨w.heap.size + 1, 0, none⟩ = some (.int .i64 k4) := hl.c1 0
    clear hi1 hk1
    have hi1 : wc.cell? ⟨w.heap.size, 1, none⟩ = some (.int .i64 x3) := hl.c0 1
    have hk1 : wc.cell? ⟨w.heap.size + 1, 1, none⟩ = some (.int .i64 x4) := hl.c1 1
    clear hi2 hk2
    have hi2 : wc.cell? ⟨w.heap.size, 2, none⟩ = some (.int .i64 t3) := hl.c0 2
    have hk2 : wc.cell? ⟨w.heap.size + 1, 2, none⟩ = some (.int .i64 t4) := hl.c1 2
    clear hi3 hk3
    have hi3 : wc.cell? ⟨w.heap.size, 3, none⟩ = some (.int .i64 l3) := hl.c0 3
    have hk3 : wc.cell? ⟨w.heap.size + 1, 3, none⟩ = some (.int .i64 l4) := hl.c1 3
    clear hi4 hk4
    have hi4 : wc.cell? ⟨w.heap.size, 4, none⟩ = some (.slice pa3 pn3 pc3) := hl.c0 4
    have hk4 : wc.cell? ⟨w.heap.size + 1, 4, none⟩ = some (.slice pa4 pn4 pc4) := hl.c1 4
    clear hi5 hk5
    have hi5 : wc.cell? ⟨w.heap.size, 5, none⟩ = some (.slice qa3 qn3 qc3) := hl.c0 5
    have hk5 : wc.cell? ⟨w.heap.size + 1, 5, none⟩ = some (.slice qa4 qn4 qc4) := hl.c1 5
    have HB := Lib.hid hl.bel
    have HE := Lib.hid (hx.parts hy)
    have HP3 := Lib.hid hx.numL
    have HP4 := Lib.hid hy.numL
    have HQ3 := Lib.hid hx.numM
    have HQ4 := Lib.hid hy.numM
    clear hl hx hy HX1 HY1 HL
    by_cases h0 : k3 = k4
    rotate_left
    · have hne : (k3 == k4) = false := by rw [beq_eq_false_iff_ne]; exact h0
      have HF := Lib.hid h0
      clear h0
      go_wp2_with fail
      go_ret
      exact ⟨false, rfl, ⟨fun h => (by cases h), fun h => absurd (HE.out.1 h).1 HF.out⟩, HB.out⟩
    have HH0 := Lib.hid h0
    have heq0 : (k3 == k4) = true := by rw [beq_iff_eq]; exact h0
    clear h0
    by_cases h1 : x3 = x4
    rotate_left
    · have hne : (x3 == x4) = false := by rw [beq_eq_false_iff_ne]; exact h1
      have HF := Lib.hid h1
      clear h1
      go_wp2_with fail
      go_ret
      exact ⟨false, rfl, ⟨fun h => (by cases h), fun h => absurd (HE.out.1 h).2.1 HF.out⟩, HB.out⟩
    have HH1 := Lib.hid h1
    have heq1 : (x3 == x4) = true := by rw [beq_iff_eq]; exact h1
    clear h1
    by_cases h2 : t3 = t4
    rotate_left
    · have hne : (t3 == t4) = false := by rw [beq_eq_false_iff_ne]; exact h2
      have HF := Lib.hid h2
      clear h2
      go_wp2_with fail
      go_ret
      exact ⟨false, rfl, ⟨fun h => (by cases h), fun h => absurd (HE.out.1 h).2.2.1 HF.out⟩, HB.out⟩
    have HH2 := Lib.hid h2
    have heq2 : (t3 == t4) = true := by rw [beq_iff_eq]; exact h2
    clear h2
    by_cases h3 : l3 = l4
    rotate_left
    · have hne : (l3 == l4) = false := by rw [beq_eq_false_iff_ne]; exact h3
      have HF := Lib.hid h3
      clear h3
      go_wp2_with fail
      go_ret
      exact ⟨false, rfl, ⟨fun h => (by cases h), fun h => absurd (HE.out.1 h).2.2.2.1 HF.out⟩, HB.out⟩
    have HH3 := Lib.hid h3
    have heq3 : (l3 == l4) = true := by rw [beq_iff_eq]; exact h3
    clear h3
    by_cases h4 : (plainEnd x).L = (plainEnd y).L
    rotate_left
    · have HSL : RowKit.Hid (sameB (plainEnd x).L (plainEnd y).L = false) := Lib.hid (decide_eq_false h4)
      have HF := Lib.hid h4
      clear h4
      go_wp2_with (first | (go_at_call 28; (with_reducible refine (ints_any pa3 pa4 pn3 pn4 pc3 pc4 (plainEnd x).L (plainEnd y).L _ (HP3.out.1) (HP4.out.1) HP3.out.2 HP4.out.2).mono ?_); rintro e uL ⟨rfl, qL, rfl⟩; rw [HSL.out]))
      go_ret
      exact ⟨false, rfl, ⟨fun h => (by cases h), fun h => absurd (HE.out.1 h).2.2.2.2.1 HF.out⟩, below_drewN (qL) HB.out⟩
    have HSL : RowKit.Hid (sameB (plainEnd x).L (plainEnd y).L = true) := Lib.hid (decide_eq_true h4)
    have HH4 := Lib.hid h4
    clear h4
    by_cases h5 : (plainEnd x).M = (plainEnd y).M
    rotate_left
    · have HSM : RowKit.Hid (sameB (plainEnd x).M (plainEnd y).M = false) := Lib.hid (decide_eq_false h5)
      have HF := Lib.hid h5
      clear h5
      go_wp2_with (first | (go_at_call 28; (with_reducible refine (ints_any pa3 pa4 pn3 pn4 pc3 pc4 (plainEnd x).L (plainEnd y).L _ (HP3.out.1) (HP4.out.1) HP3.out.2 HP4.out.2).mono ?_); rintro e uL ⟨rfl, qL, rfl⟩; rw [HSL.out]) | (go_at_call 28; (with_reducible refine (ints_any qa3 qa4 qn3 qn4 qc3 qc4 (plainEnd x).M (plainEnd y).M _ (HQ3.out.1.drewN _) (HQ4.out.1.drewN _) HQ3.out.2 HQ4.out.2).mono ?_); rintro e uM ⟨rfl, qM, rfl⟩; rw [HSM.out]))
      go_ret
      exact ⟨false, rfl, ⟨fun h => (by cases h), fun h => absurd (HE.out.1 h).2.2.2.2.2 HF.out⟩, below_drewN (qL + qM) HB.out⟩
    have HSM : RowKit.Hid (sameB (plainEnd x).M (plainEnd y).M = true) := Lib.hid (decide_eq_true h5)
    have HH5 := Lib.hid h5
    clear h5
    go_wp2_with (first | (go_at_call 28; (with_reducible refine (ints_any pa3 pa4 pn3 pn4 pc3 pc4 (plainEnd x).L (plainEnd y).L _ (HP3.out.1) (HP4.out.1) HP3.out.2 HP4.out.2).mono ?_); rintro e uL ⟨rfl, qL, rfl⟩; rw [HSL.out]) | (go_at_call 28; (with_reducible refine (ints_any qa3 qa4 qn3 qn4 qc3 qc4 (plainEnd x).M (plainEnd y).M _ (HQ3.out.1.drewN _) (HQ4.out.1.drewN _) HQ3.out.2 HQ4.out.2).mono ?_); rintro e uM ⟨rfl, qM, rfl⟩; rw [HSM.out]))
    go_ret
    exact ⟨true, rfl, ⟨fun _ => HE.out.2 ⟨HH0.out, HH1.out, HH2.out, HH3.out, HH4.out, HH5.out⟩, fun _ => rfl⟩, below_drewN (qL + qM) HB.out⟩
end Go.Proofs.YtccajbgdlicbnaaDoor
