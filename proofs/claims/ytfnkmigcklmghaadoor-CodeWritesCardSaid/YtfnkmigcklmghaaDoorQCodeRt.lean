/- Layer 5: the walk's methods, with a reader (gen/rkmeth.py). -/
import Derived.Test.YtfnkmigcklmghaaDoorQT10

namespace Go.Proofs.YtfnkmigcklmghaaDoor
open Go.RowKit (wrap64 intOf Below)
set_option linter.unusedVariables false
set_option linter.unusedSimpArgs false
attribute [local go_sem ↓] Go.wp_at_zero Go.wp_at_succ

theorem end_at (r B : Nat) (hfb : 2 < B) (w : World) (L : List UInt8) (g off : Nat) (h : RdAt w r B L) (hw : WinAt w g off [.int .i64 0, .int .i64 0, .int .i64 0, .int .i64 0, .slice none 0 0, .slice none 0 0]) (hB : B ≤ g) (hg : g ≠ r) (hft : FT w) :
    Calls Tryd.prog 116 #[.agg #[.iface 97 (.pointer (some ⟨r, 0, none⟩))], .pointer (some ⟨g, off, none⟩)] w fun e w' =>
      (∃ x rest cs, rdEnd L = .ok x rest ∧ e = .returned (.tuple #[]) ∧ RdAt w' r B rest ∧ RWin r g off 6 w w' ∧ cs.length = 6 ∧ WinAt w' g off cs ∧ EndO w' (From w.heap.size) cs x) ∨
      (∃ er, rdEnd L = .no er ∧ e = .panicked [{ v := .iface 31 (.int .i64 er), recovered := false }] ∧ Off (fun i => i = r ∨ i = g) w w') := one_end r B hfb w L g off h hw hB hg hft
set_option maxRecDepth 100000 in
set_option maxHeartbeats 4000000 in
theorem one_block (r B : Nat) (hfb : 2 < B) : OneR 107 rdBlock BlockO 8 [.slice none 0 0, .slice none 0 0, .int .i64 0, .int .i64 0, .int .i64 0, .int .i64 0, .slice none 0 0, .slice none 0 0] r B := by
  intro w L0 g off h hw hB hg hft
  have hmf : ∀ (fn : Fn) (first cap : Array Value) (w : World), (Instr.makeFunc fn first cap).run Tryd.prog w = .ok (.func fn first cap) w := fun _ _ _ _ => rfl
  have hrl := h.lt
  have hgl := hw.lt
  have HFT := Lib.hid hft
  have hst0 := RSt.start h hw (K := 8) rfl hB hg
  have hs0 : w.heap.size + 1 ≤ (w.alloc (.cells #[.iface 97 (.pointer (some ⟨r, 0, none⟩))] 110)).heap.size := by simp
  clear h hw hft
  go_enter Tryd.func107, Tryd.ntmps107
  have hd1 := hst0.drew
  have hb1 := hd1.cell
  have hz1 : w.heap.size + 1 ≤ (w.alloc (.cells #[.iface 97 (.pointer (some ⟨r, 0, none⟩))] 110)).drew.heap.size := hs0
  have hc1 := hd1.cells.cell (j := 0) (by simp)
  simp only [Nat.add_zero, List.getElem_cons_zero, List.getElem_cons_succ] at hc1
  have hf1 := hd1.cells.free (off)
  have HD1 := Lib.hid hd1
  have HF1 := Lib.hid (hd1.ft HFT.out hfb)
  clear hd1 hst0
  go_upto_region 1 with fail
  go_cut [12] (fun tc wc => RowKit.Hid (∃ x1 va1 vn1 vc1 L1, rdNums 8 L0 = .ok x1 L1 ∧ NumsO wc (From (w.heap.size + 1)) (.slice va1 vn1 vc1) x1 ∧ RSt r B g off 8 w w.heap.size L1 wc [.slice va1 vn1 vc1, .slice none 0 0, .int .i64 0, .int .i64 0, .int .i64 0, .int .i64 0, .slice none 0 0, .slice none 0 0] ∧ w.heap.size + 1 ≤ wc.heap.size))
  case first =>
    go_region_law (first | (rw [if_pos (by rfl)]; go_simp; go_at_call 104; (with_reducible refine (rl_nums r B L0 8 _ (by omega) _ HD1.out.rd (by omega) HF1.out hfb).mono ?_); rintro e u (⟨x1, L1, va1, vn1, vc1, hp, rfl, hr1, hn1, ho1⟩ | ⟨er, hp, rfl, ho1⟩); rotate_left; (exact ⟨rfl, .inr ⟨er, by simp only [rdBlock, PR.bind, hp], rfl, HD1.out.gives ho1⟩⟩); have hst := HD1.out.read hr1 ho1; have hwe := hst.cells; have hbe := hst.cell; have hce := hwe.cell (j := 0) (by simp); simp only [Nat.add_zero, List.getElem_cons_zero, List.getElem_cons_succ] at hce; have hfe := hwe.free (off)))
    all_goals
      have hsu : w.heap.size + 1 ≤ u.heap.size := Nat.le_trans hz1 ho1.size
      have hss := hst.set 0 (by omega) (.slice va1 vn1 vc1)
      simp only [Nat.add_zero, List.set_cons_zero, List.set_cons_succ] at hss
      have hk1 := hn1.keep (m := w.heap.size + 1) (set_off r (g := g) (o := off) (v := .slice va1 vn1 vc1)) (by omega) (by omega) (by omega)
      go_wp2_with fail
      go_meet
      exact Lib.hid ⟨x1, va1, vn1, vc1, L1, hp, hk1, hss, (by simpa [World.setCell] using hsu)⟩
  case rest =>
    obtain ⟨wc1, hwc⟩ : ∃ u : World, u = wc := ⟨_, rfl⟩
    subst hwc
    obtain ⟨x1, va1, vn1, vc1, L1, hp1, hn1, hst1, hs1⟩ := hcut.out
    have HQ1 := Lib.hid hp1
    have HN1 := Lib.hid (hn1.holds (w' := wc1.drew) (S' := From (w.heap.size + 1)) (fun b _ hb => ⟨rfl, hb⟩))
    clear hp1 hn1 hcut
    have hd2 := hst1.drew
    have hb2 := hd2.cell
    have hz2 : w.heap.size + 1 ≤ wc1.drew.heap.size := hs1
    have hc2 := hd2.cells.cell (j := 1) (by simp)
    simp only [Nat.add_zero, List.getElem_cons_zero, List.getElem_cons_succ] at hc2
    have hf2 := hd2.cells.free (off + 1)
    have HD2 := Lib.hid hd2
    have HF2 := Lib.hid (hd2.ft HFT.out hfb)
    clear hd2 hst1
    go_upto_region 2 with fail
    go_cut [23] (fun tc wc => RowKit.Hid (∃ x2 va2 vn2 vc2 L2, rdList 700 rdOp L1 = .ok x2 L2 ∧ NumsO wc (From (w.heap.size + 1)) (.slice va1 vn1 vc1) x1 ∧ RowO 38 8 OpO wc (From (w.heap.size + 1)) (.slice va2 vn2 vc2) x2 ∧ RSt r B g off 8 w w.heap.size L2 wc [.slice va1 vn1 vc1, .slice va2 vn2 vc2, .int .i64 0, .int .i64 0, .int .i64 0, .int .i64 0, .slice none 0 0, .slice none 0 0] ∧ w.heap.size + 1 ≤ wc.heap.size))
    case first =>
      go_region_law (first | (rw [if_pos (by rfl)]; go_simp; go_at_call 114; (with_reducible refine (rl_op rdOp OpO OpO.holds r B L1 700 _ (by omega) _ HD2.out.rd (by omega) HF2.out hfb (one_op r B hfb)).mono ?_); rintro e u (⟨x2, L2, va2, vn2, vc2, hp, rfl, hr1, hn1, ho1⟩ | ⟨er, hp, rfl, ho1⟩); rotate_left; (exact ⟨rfl, .inr ⟨er, by simp only [rdBlock, PR.bind, HQ1.out, hp], rfl, HD2.out.gives ho1⟩⟩); have hst := HD2.out.read hr1 ho1; have hwe := hst.cells; have hbe := hst.cell; have hce := hwe.cell (j := 1) (by simp); simp only [Nat.add_zero, List.getElem_cons_zero, List.getElem_cons_succ] at hce; have hfe := hwe.free (off + 1)))
      all_goals
        have hsu : w.heap.size + 1 ≤ u.heap.size := Nat.le_trans hz2 ho1.size
        have hss := hst.set 1 (by omega) (.slice va2 vn2 vc2)
        simp only [Nat.add_zero, List.set_cons_zero, List.set_cons_succ] at hss
        have hk1 := HN1.out.keep (m := w.heap.size + 1) ((ho1.mono (fun i _ hi => .inl hi)).trans (set_off r (g := g) (o := off + 1) (v := .slice va2 vn2 vc2))) (by omega) (by omega) (Nat.le_refl _)
        have hk2 := hn1.keep OpO.holds (m := w.heap.size + 1) (set_off r (g := g) (o := off + 1) (v := .slice va2 vn2 vc2)) (by omega) (by omega) (by omega)
        go_wp2_with fail
        go_meet
        exact Lib.hid ⟨x2, va2, vn2, vc2, L2, hp, hk1, hk2, hss, (by simpa [World.setCell] using hsu)⟩
    case rest =>
      obtain ⟨wc2, hwc⟩ : ∃ u : World, u = wc := ⟨_, rfl⟩
      subst hwc
      obtain ⟨x2, va2, vn2, vc2, L2, hp2, hn1, hn2, hst2, hs2⟩ := hcut.out
      have HQ2 := Lib.hid hp2
      have HN1 := Lib.hid (hn1.holds (w' := wc2.drew) (S' := From (w.heap.size + 1)) (fun b _ hb => ⟨rfl, hb⟩))
      have HN2 := Lib.hid (hn2.holds OpO.holds (w' := wc2.drew) (S' := From (w.heap.size + 1)) (fun b _ hb => ⟨rfl, hb⟩))
      clear hp2 hn1 hn2 hcut
      have hd3 := hst2.drew
      have hb3 := hd3.cell
      have hz3 : w.heap.size + 1 ≤ wc2.drew.heap.size := hs2
      have hp3 := hd3.cells.part 2 6 (by simp)
      simp only [Nat.add_zero, List.drop_zero, List.drop_succ_cons, List.take_succ_cons, List.take_zero] at hp3
      have HP3 := Lib.hid hp3
      have HD3 := Lib.hid hd3
      have HF3 := Lib.hid (hd3.ft HFT.out hfb)
      clear hd3 hst2 hp3
      go_wp2_with fail
      go_region_law (first | (rw [if_pos (by rfl)]; go_simp; go_at_call 116; (with_reducible refine (end_at r B hfb _ L2 g (off + 2) HD3.out.rd HP3.out hB hg HF3.out).mono ?_); rintro e u (⟨x3, L3, es3, hp, rfl, hr1, hw1, hl1, hc1, hq1⟩ | ⟨er, hp, rfl, ho1⟩); rotate_left; (exact ⟨rfl, .inr ⟨er, by simp only [rdBlock, PR.bind, HQ1.out, HQ2.out, hp], rfl, HD3.out.gives' ho1⟩⟩)))
      all_goals
        have hss := HD3.out.part (cs' := es3) (o := 2) (n := 6) hl1 (by omega) hr1 hw1 hc1
        simp only [List.take_succ_cons, List.take_zero, List.drop_succ_cons, List.drop_zero, List.drop_nil, List.cons_append, List.nil_append, List.append_nil] at hss
        have hk1 := HN1.out.keep (m := w.heap.size + 1) hw1.offs (by omega) (by omega) (Nat.le_refl _)
        have hk2 := HN2.out.keep OpO.holds (m := w.heap.size + 1) hw1.offs (by omega) (by omega) (Nat.le_refl _)
        have hk3 := EndO.holds.wider hq1 (S' := From (w.heap.size + 1)) (fun b _ hb => Nat.le_trans hz3 hb)
        have hj1 := hk1.wider (S' := From w.heap.size) (fun b _ hb => Nat.le_trans (Nat.le_succ _) hb)
        have hj2 := hk2.wider OpO.holds (S' := From w.heap.size) (fun b _ hb => Nat.le_trans (Nat.le_succ _) hb)
        have hj3 := EndO.holds.wider hk3 (S' := From w.heap.size) (fun b _ hb => Nat.le_trans (Nat.le_succ _) hb)
        go_end0
        exact .inl ⟨⟨x1, x2, x3⟩, L3, _, by simp only [rdBlock, PR.bind, HQ1.out, HQ2.out, hp], rfl, hss.rd, hss.win, hss.len, hss.cells, ⟨_, _, _, rfl, hj1, hj2, hj3⟩⟩
end Go.Proofs.YtfnkmigcklmghaaDoor
