/- Layer 5: the document's Same of steps (written by mk_sf.py). -/
import Derived.Test.YtccajbgdlicbnaaDoorQT3
import Derived.Deep.RegionLaw
import Derived.Deep.DeepCutAuto
namespace Go.Proofs.YtccajbgdlicbnaaDoor
open Go.RowKit (wrap64 intOf Below)
set_option linter.unusedVariables false
set_option linter.unusedSimpArgs false
attribute [local go_sem ↓] Go.wp_at_zero Go.wp_at_succ

set_option maxRecDepth 100000 in
set_option maxHeartbeats 4000000 in
theorem codeSo_any (k1 : Int) (a1 : Int) (b1 : Int) (c1 : Int) (n1 : Int) (s1 : ByteArray) (pa1 : Option Addr) (pn1 pc1 : Nat) (t1 : Bool) (k2 : Int) (a2 : Int) (b2 : Int) (c2 : Int) (n2 : Int) (s2 : ByteArray) (pa2 : Option Addr) (pn2 pc2 : Nat) (t2 : Bool) (x y : OpD) (w : World) (hx : OpQ w [.int .i64 k1, .int .i64 a1, .int .i64 b1, .int .i64 c1, .int .i64 n1, .string s1, .slice pa1 pn1 pc1, .bool t1] x) (hy : OpQ w [.int .i64 k2, .int .i64 a2, .int .i64 b2, .int .i64 c2, .int .i64 n2, .string s2, .slice pa2 pn2 pc2, .bool t2] y) :
    Calls Tryd.prog 51 #[.agg #[.int .i64 k1, .int .i64 a1, .int .i64 b1, .int .i64 c1, .int .i64 n1, .string s1, .slice pa1 pn1 pc1, .bool t1], .agg #[.int .i64 k2, .int .i64 a2, .int .i64 b2, .int .i64 c2, .int .i64 n2, .string s2, .slice pa2 pn2 pc2, .bool t2]] w (TruthPost (plainOp x = plainOp y) w) := by
  have hl0 := Laid2B.start w 50 #[.int .i64 k1, .int .i64 a1, .int .i64 b1, .int .i64 c1, .int .i64 n1, .string s1, .slice pa1 pn1 pc1, .bool t1] #[.int .i64 k2, .int .i64 a2, .int .i64 b2, .int .i64 c2, .int .i64 n2, .string s2, .slice pa2 pn2 pc2, .bool t2]
  have HX := Lib.hid (OpQ.lasts _ _ _ _ hl0.bel hx)
  have HY := Lib.hid (OpQ.lasts _ _ _ _ hl0.bel hy)

  clear hx hy
  go_enter Tryd.func51, Tryd.ntmps51
  go_upto_region 1 with fail
  generalize hW : ((w.alloc (.cells #[.int .i64 k1, .int .i64 a1, .int .i64 b1, .int .i64 c1, .int .i64 n1, .string s1, .slice pa1 pn1 pc1, .bool t1] 50)).alloc (.cells #[.int .i64 k2, .int .i64 a2, .int .i64 b2, .int .i64 c2, .int .i64 n2, .string s2, .slice pa2 pn2 pc2, .bool t2] 50)) = W at hl0 HX HY ⊢
  clear hW
  have hi0 : W.cell? ⟨w.heap.size, 0, none⟩ = some (.int .i64 k1) := hl0.c0 0
  have hk0 : W.cell? ⟨w.heap.size + 1, 0, none⟩ = some (.int .i64 k2) := hl0.c1 0
  have hi1 : W.cell? ⟨w.heap.size, 1, none⟩ = some (.int .i64 a1) := hl0.c0 1
  have hk1 : W.cell? ⟨w.heap.size + 1, 1, none⟩ = some (.int .i64 a2) := hl0.c1 1
  have hi2 : W.cell? ⟨w.heap.size, 2, none⟩ = some (.int .i64 b1) := hl0.c0 2
  have hk2 : W.cell? ⟨w.heap.size + 1, 2, none⟩ = some (.int .i64 b2) := hl0.c1 2
  have hi3 : W.cell? ⟨w.heap.size, 3, none⟩ = some (.int .i64 c1) := hl0.c0 3
  have hk3 : W.cell? ⟨w.heap.size + 1, 3, none⟩ = some (.int .i64 c2) := hl0.c1 3
  have hi4 : W.cell? ⟨w.heap.size, 4, none⟩ = some (.int .i64 n1) := hl0.c0 4
  have hk4 : W.cell? ⟨w.heap.size + 1, 4, none⟩ = some (.int .i64 n2) := hl0.c1 4
  have hi5 : W.cell? ⟨w.heap.size, 5, none⟩ = some (.string s1) := hl0.c0 5
  have hk5 : W.cell? ⟨w.heap.size + 1, 5, none⟩ = some (.string s2) := hl0.c1 5
  have hi6 : W.cell? ⟨w.heap.size, 6, none⟩ = some (.slice pa1 pn1 pc1) := hl0.c0 6
  have hk6 : W.cell? ⟨w.heap.size + 1, 6, none⟩ = some (.slice pa2 pn2 pc2) := hl0.c1 6
  have hi7 : W.cell? ⟨w.heap.size, 7, none⟩ = some (.bool t1) := hl0.c0 7
  have hk7 : W.cell? ⟨w.heap.size + 1, 7, none⟩ = some (.bool t2) := hl0.c1 7
  have HL := Lib.hid hl0
  have HX1 := Lib.hid (OpQ.lasts _ _ _ _ ((Below.refl W.heap.size W).drew) HX.out)
  have HY1 := Lib.hid (OpQ.lasts _ _ _ _ ((Below.refl W.heap.size W).drew) HY.out)
  clear hl0 HX HY
  go_cut [6] (fun tc wc => RowKit.Hid (∃ k3 a3 b3 c3 n3 s3 pa3 pn3 pc3 t3 k4 a4 b4 c4 n4 s4 pa4 pn4 pc4 t4, Laid2B w 50 #[.int .i64 k3, .int .i64 a3, .int .i64 b3, .int .i64 c3, .int .i64 n3, .string s3, .slice pa3 pn3 pc3, .bool t3] #[.int .i64 k4, .int .i64 a4, .int .i64 b4, .int .i64 c4, .int .i64 n4, .string s4, .slice pa4 pn4 pc4, .bool t4] wc ∧ OpQ wc [.int .i64 k3, .int .i64 a3, .int .i64 b3, .int .i64 c3, .int .i64 n3, .string s3, .slice pa3 pn3 pc3, .bool t3] (plainOp x) ∧ OpQ wc [.int .i64 k4, .int .i64 a4, .int .i64 b4, .int .i64 c4, .int .i64 n4, .string s4, .slice pa4 pn4 pc4, .bool t4] (plainOp y)))
  case first =>
    go_region_law (first
      | (rw [if_pos (by rfl)]; go_simp; go_at_call 67; (with_reducible refine (ref_op_at k1 a1 b1 c1 n1 s1 pa1 pn1 pc1 t1 x _ HX1.out).mono ?_); rintro e e1 ⟨k3, a3, b3, c3, n3, s3, pa3, pn3, pc3, t3, rfl, hp1, hb1⟩; have hs1 := HL.out.size; have hl1 := HL.out.drew.step hb1 hs1; have hy1 := OpQ.lasts _ _ _ _ hb1 HY1.out; have hd0 : e1.cell? ⟨w.heap.size + 1, 0, none⟩ = some (.int .i64 k2) := hl1.c1 0; have hd1 : e1.cell? ⟨w.heap.size + 1, 1, none⟩ = some (.int .i64 a2) := hl1.c1 1; have hd2 : e1.cell? ⟨w.heap.size + 1, 2, none⟩ = some (.int .i64 b2) := hl1.c1 2; have hd3 : e1.cell? ⟨w.heap.size + 1, 3, none⟩ = some (.int .i64 c2) := hl1.c1 3; have hd4 : e1.cell? ⟨w.heap.size + 1, 4, none⟩ = some (.int .i64 n2) := hl1.c1 4; have hd5 : e1.cell? ⟨w.heap.size + 1, 5, none⟩ = some (.string s2) := hl1.c1 5; have hd6 : e1.cell? ⟨w.heap.size + 1, 6, none⟩ = some (.slice pa2 pn2 pc2) := hl1.c1 6; have hd7 : e1.cell? ⟨w.heap.size + 1, 7, none⟩ = some (.bool t2) := hl1.c1 7)
      | (rw [if_pos (by rfl)]; go_simp; go_at_call 67; (with_reducible refine (ref_op_at k2 a2 b2 c2 n2 s2 pa2 pn2 pc2 t2 y _ hy1).mono ?_); rintro e e2 ⟨k4, a4, b4, c4, n4, s4, pa4, pn4, pc4, t4, rfl, hp2, hb2⟩; have hs2 := hl1.size; have hl2 := hl1.step hb2 hs2; have hfa0 : e2.frozen? ⟨w.heap.size, 0, none⟩ = false := hl2.f0 0; have hfb0 : e2.frozen? ⟨w.heap.size + 1, 0, none⟩ = false := hl2.f1 0; have hca0 : e2.cell? ⟨w.heap.size, 0, none⟩ = some (.int .i64 k1) := hl2.c0 0; have hcb0 : e2.cell? ⟨w.heap.size + 1, 0, none⟩ = some (.int .i64 k2) := hl2.c1 0; have hfa1 : e2.frozen? ⟨w.heap.size, 1, none⟩ = false := hl2.f0 1; have hfb1 : e2.frozen? ⟨w.heap.size + 1, 1, none⟩ = false := hl2.f1 1; have hca1 : e2.cell? ⟨w.heap.size, 1, none⟩ = some (.int .i64 a1) := hl2.c0 1; have hcb1 : e2.cell? ⟨w.heap.size + 1, 1, none⟩ = some (.int .i64 a2) := hl2.c1 1; have hfa2 : e2.frozen? ⟨w.heap.size, 2, none⟩ = false := hl2.f0 2; have hfb2 : e2.frozen? ⟨w.heap.size + 1, 2, none⟩ = false := hl2.f1 2; have hca2 : e2.cell? ⟨w.heap.size, 2, none⟩ = some (.int .i64 b1) := hl2.c0 2; have hcb2 : e2.cell? ⟨w.heap.size + 1, 2, none⟩ = some (.int .i64 b2) := hl2.c1 2; have hfa3 : e2.frozen? ⟨w.heap.size, 3, none⟩ = false := hl2.f0 3; have hfb3 : e2.frozen? ⟨w.heap.size + 1, 3, none⟩ = false := hl2.f1 3; have hca3 : e2.cell? ⟨w.heap.size, 3, none⟩ = some (.int .i64 c1) := hl2.c0 3; have hcb3 : e2.cell? ⟨w.heap.size + 1, 3, none⟩ = some (.int .i64 c2) := hl2.c1 3; have hfa4 : e2.frozen? ⟨w.heap.size, 4, none⟩ = false := hl2.f0 4; have hfb4 : e2.frozen? ⟨w.heap.size + 1, 4, none⟩ = false := hl2.f1 4; have hca4 : e2.cell? ⟨w.heap.size, 4, none⟩ = some (.int .i64 n1) := hl2.c0 4; have hcb4 : e2.cell? ⟨w.heap.size + 1, 4, none⟩ = some (.int .i64 n2) := hl2.c1 4; have hfa5 : e2.frozen? ⟨w.heap.size, 5, none⟩ = false := hl2.f0 5; have hfb5 : e2.frozen? ⟨w.heap.size + 1, 5, none⟩ = false := hl2.f1 5; have hca5 : e2.cell? ⟨w.heap.size, 5, none⟩ = some (.string s1) := hl2.c0 5; have hcb5 : e2.cell? ⟨w.heap.size + 1, 5, none⟩ = some (.string s2) := hl2.c1 5; have hfa6 : e2.frozen? ⟨w.heap.size, 6, none⟩ = false := hl2.f0 6; have hfb6 : e2.frozen? ⟨w.heap.size + 1, 6, none⟩ = false := hl2.f1 6; have hca6 : e2.cell? ⟨w.heap.size, 6, none⟩ = some (.slice pa1 pn1 pc1) := hl2.c0 6; have hcb6 : e2.cell? ⟨w.heap.size + 1, 6, none⟩ = some (.slice pa2 pn2 pc2) := hl2.c1 6; have hfa7 : e2.frozen? ⟨w.heap.size, 7, none⟩ = false := hl2.f0 7; have hfb7 : e2.frozen? ⟨w.heap.size + 1, 7, none⟩ = false := hl2.f1 7; have hca7 : e2.cell? ⟨w.heap.size, 7, none⟩ = some (.bool t1) := hl2.c0 7; have hcb7 : e2.cell? ⟨w.heap.size + 1, 7, none⟩ = some (.bool t2) := hl2.c1 7))
    all_goals
      have hl3 := hl2.over8 rfl rfl (.int .i64 k3) (.int .i64 a3) (.int .i64 b3) (.int .i64 c3) (.int .i64 n3) (.string s3) (.slice pa3 pn3 pc3) (.bool t3) (.int .i64 k4) (.int .i64 a4) (.int .i64 b4) (.int .i64 c4) (.int .i64 n4) (.string s4) (.slice pa4 pn4 pc4) (.bool t4)
      have ho := @over8_both w e2 (.int .i64 k3) (.int .i64 a3) (.int .i64 b3) (.int .i64 c3) (.int .i64 n3) (.string s3) (.slice pa3 pn3 pc3) (.bool t3) (.int .i64 k4) (.int .i64 a4) (.int .i64 b4) (.int .i64 c4) (.int .i64 n4) (.string s4) (.slice pa4 pn4 pc4) (.bool t4)
      have hq1 := OpO.holds.off (OpO.holds.wider hp1 (S' := From (w.heap.size + 2)) (fun b _ hb => Nat.le_trans hs1 hb)) (X := fun _ => False) (Off.since hb2) (fun _ _ h => h)
      have hq2 := OpO.holds.wider hp2 (S' := From (w.heap.size + 2)) (fun b _ hb => Nat.le_trans hs2 hb)
      have hr1 := OpO.reads _ _ _ _ (OpO.holds.off hq1 ho (fun b hb e => by have hb : w.heap.size + 2 ≤ b := hb; rcases e with e | e <;> omega))
      have hr2 := OpO.reads _ _ _ _ (OpO.holds.off hq2 ho (fun b hb e => by have hb : w.heap.size + 2 ≤ b := hb; rcases e with e | e <;> omega))
      go_wp2_with fail
      go_meet
      exact Lib.hid ⟨k3, a3, b3, c3, n3, s3, pa3, pn3, pc3, t3, k4, a4, b4, c4, n4, s4, pa4, pn4, pc4, t4, hl3, hr1, hr2⟩
  case rest =>
    obtain ⟨k3, a3, b3, c3, n3, s3, pa3, pn3, pc3, t3, k4, a4, b4, c4, n4, s4, pa4, pn4, pc4, t4, hl, hx, hy⟩ := hcut.out
    clear hcut
    clear hi0 hk0
    have hi0 : wc.cell? ⟨w.heap.size, 0, none⟩ = some (.int .i64 k3) := hl.c0 0
    have hk0 : wc.cell? ⟨w.heap.size + 1, 0, none⟩ = some (.int .i64 k4) := hl.c1 0
    clear hi1 hk1
    have hi1 : wc.cell? ⟨w.heap.size, 1, none⟩ = some (.int .i64 a3) := hl.c0 1
    have hk1 : wc.cell? ⟨w.heap.size + 1, 1, none⟩ = some (.int .i64 a4) := hl.c1 1
    clear hi2 hk2
    have hi2 : wc.cell? ⟨w.heap.size, 2, none⟩ = some (.int .i64 b3) := hl.c0 2
    have hk2 : wc.cell? ⟨w.heap.size + 1, 2, none⟩ = some (.int .i64 b4) := hl.c1 2
    clear hi3 hk3
    have hi3 : wc.cell? ⟨w.heap.size, 3, none⟩ = some (.int .i64 c3) := hl.c0 3
    have hk3 : wc.cell? ⟨w.heap.size + 1, 3, none⟩ = some (.int .i64 c4) := hl.c1 3
    clear hi4 hk4
    have hi4 : wc.cell? ⟨w.heap.size, 4, none⟩ = some (.int .i64 n3) := hl.c0 4
    have hk4 : wc.cell? ⟨w.heap.size + 1, 4, none⟩ = some (.int .i64 n4) := hl.c1 4
    clear hi5 hk5
    have hi5 : wc.cell? ⟨w.heap.size, 5, none⟩ = some (.string s3) := hl.c0 5
    have hk5 : wc.cell? ⟨w.heap.size + 1, 5, none⟩ = some (.string s4) := hl.c1 5
    clear hi6 hk6
    have hi6 : wc.cell? ⟨w.heap.size, 6, none⟩ = some (.slice pa3 pn3 pc3) := hl.c0 6
    have hk6 : wc.cell? ⟨w.heap.size + 1, 6, none⟩ = some (.slice pa4 pn4 pc4) := hl.c1 6
    clear hi7 hk7
    have hi7 : wc.cell? ⟨w.heap.size, 7, none⟩ = some (.bool t3) := hl.c0 7
    have hk7 : wc.cell? ⟨w.heap.size + 1, 7, none⟩ = some (.bool t4) := hl.c1 7
    have HB := Lib.hid hl.bel
    have HE := Lib.hid (hx.parts hy)
    have HP3 := Lib.hid hx.numL
    have HP4 := Lib.hid hy.numL
    clear hl hx hy HX1 HY1 HL
    by_cases h0 : k3 = k4
    rotate_left
    · have hne : (k3 == k4) = false := by rw [beq_eq_false_iff_ne]; exact h0
      have HF := Lib.hid h0
      clear h0
      go_wp2_with fail
      go_ret
      exact ⟨false, rfl, ⟨fun h => (by cases h), fun h => absurd (HE.out.1 h).1 HF.out⟩, HB.out⟩
    have HH0 := Lib.hid h0
    have heq0 : (k3 == k4) = true := by rw [beq_iff_eq]; exact h0
    clear h0
    by_cases h1 : a3 = a4
    rotate_left
    · have hne : (a3 == a4) = false := by rw [beq_eq_false_iff_ne]; exact h1
      have HF := Lib.hid h1
      clear h1
      go_wp2_with fail
      go_ret
      exact ⟨false, rfl, ⟨fun h => (by cases h), fun h => absurd (HE.out.1 h).2.1 HF.out⟩, HB.out⟩
    have HH1 := Lib.hid h1
    have heq1 : (a3 == a4) = true := by rw [beq_iff_eq]; exact h1
    clear h1
    by_cases h2 : b3 = b4
    rotate_left
    · have hne : (b3 == b4) = false := by rw [beq_eq_false_iff_ne]; exact h2
      have HF := Lib.hid h2
      clear h2
      go_wp2_with fail
      go_ret
      exact ⟨false, rfl, ⟨fun h => (by cases h), fun h => absurd (HE.out.1 h).2.2.1 HF.out⟩, HB.out⟩
    have HH2 := Lib.hid h2
    have heq2 : (b3 == b4) = true := by rw [beq_iff_eq]; exact h2
    clear h2
    by_cases h3 : c3 = c4
    rotate_left
    · have hne : (c3 == c4) = false := by rw [beq_eq_false_iff_ne]; exact h3
      have HF := Lib.hid h3
      clear h3
      go_wp2_with fail
      go_ret
      exact ⟨false, rfl, ⟨fun h => (by cases h), fun h => absurd (HE.out.1 h).2.2.2.1 HF.out⟩, HB.out⟩
    have HH3 := Lib.hid h3
    have heq3 : (c3 == c4) = true := by rw [beq_iff_eq]; exact h3
    clear h3
    by_cases h4 : n3 = n4
    rotate_left
    · have hne : (n3 == n4) = false := by rw [beq_eq_false_iff_ne]; exact h4
      have HF := Lib.hid h4
      clear h4
      go_wp2_with fail
      go_ret
      exact ⟨false, rfl, ⟨fun h => (by cases h), fun h => absurd (HE.out.1 h).2.2.2.2.1 HF.out⟩, HB.out⟩
    have HH4 := Lib.hid h4
    have heq4 : (n3 == n4) = true := by rw [beq_iff_eq]; exact h4
    clear h4
    by_cases h5 : s3 = s4
    rotate_left
    · have hne : (s3.toList == s4.toList) = false := str_ne h5
      have HF := Lib.hid h5
      clear h5
      go_wp2_with fail
      go_ret
      exact ⟨false, rfl, ⟨fun h => (by cases h), fun h => absurd (HE.out.1 h).2.2.2.2.2.1 HF.out⟩, HB.out⟩
    have HH5 := Lib.hid h5
    have heq5 : (s3.toList == s4.toList) = true := str_eq h5
    clear h5
    by_cases h7 : t3 = t4
    rotate_left
    · have hne : (t3 == t4) = false := by rw [beq_eq_false_iff_ne]; exact h7
      have HF := Lib.hid h7
      clear h7
      go_wp2_with fail
      go_ret
      exact ⟨false, rfl, ⟨fun h => (by cases h), fun h => absurd (HE.out.1 h).2.2.2.2.2.2.2 HF.out⟩, HB.out⟩
    have HH7 := Lib.hid h7
    have heq7 : (t3 == t4) = true := by rw [beq_iff_eq]; exact h7
    clear h7
    by_cases h6 : (plainOp x).L = (plainOp y).L
    rotate_left
    · have HSL : RowKit.Hid (sameB (plainOp x).L (plainOp y).L = false) := Lib.hid (decide_eq_false h6)
      have HF := Lib.hid h6
      clear h6
      go_wp2_with (first | (go_at_call 28; (with_reducible refine (ints_any pa3 pa4 pn3 pn4 pc3 pc4 (plainOp x).L (plainOp y).L _ (HP3.out.1) (HP4.out.1) HP3.out.2 HP4.out.2).mono ?_); rintro e uL ⟨rfl, qL, rfl⟩; rw [HSL.out]))
      go_ret
      exact ⟨false, rfl, ⟨fun h => (by cases h), fun h => absurd (HE.out.1 h).2.2.2.2.2.2.1 HF.out⟩, below_drewN (qL) HB.out⟩
    have HSL : RowKit.Hid (sameB (plainOp x).L (plainOp y).L = true) := Lib.hid (decide_eq_true h6)
    have HH6 := Lib.hid h6
    clear h6
    go_wp2_with (first | (go_at_call 28; (with_reducible refine (ints_any pa3 pa4 pn3 pn4 pc3 pc4 (plainOp x).L (plainOp y).L _ (HP3.out.1) (HP4.out.1) HP3.out.2 HP4.out.2).mono ?_); rintro e uL ⟨rfl, qL, rfl⟩; rw [HSL.out]))
    go_ret
    exact ⟨true, rfl, ⟨fun _ => HE.out.2 ⟨HH0.out, HH1.out, HH2.out, HH3.out, HH4.out, HH5.out, HH6.out, HH7.out⟩, fun _ => rfl⟩, below_drewN (qL) HB.out⟩
end Go.Proofs.YtccajbgdlicbnaaDoor
