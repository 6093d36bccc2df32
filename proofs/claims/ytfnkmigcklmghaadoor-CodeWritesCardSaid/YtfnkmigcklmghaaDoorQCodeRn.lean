/- Layer 5: the walk's methods, with a reader (gen/rkmeth.py). -/
import Derived.Test.YtfnkmigcklmghaaDoorQCodeRm

namespace Go.Proofs.YtfnkmigcklmghaaDoor
open Go.RowKit (wrap64 intOf Below)
set_option linter.unusedVariables false
set_option linter.unusedSimpArgs false
attribute [local go_sem ↓] Go.wp_at_zero Go.wp_at_succ

set_option maxRecDepth 100000 in
set_option maxHeartbeats 4000000 in
theorem one_class (r B : Nat) (hfb : 2 < B) : OneR 88 rdClass ClassO 2 [.slice none 0 0, .slice none 0 0] r B := by
  intro w L0 g off h hw hB hg hft
  have hmf : ∀ (fn : Fn) (first cap : Array Value) (w : World), (Instr.makeFunc fn first cap).run Tryd.prog w = .ok (.func fn first cap) w := fun _ _ _ _ => rfl
  have hrl := h.lt
  have hgl := hw.lt
  have HFT := Lib.hid hft
  have hst0 := RSt.start h hw (K := 2) rfl hB hg
  have hs0 : w.heap.size + 1 ≤ (w.alloc (.cells #[.iface 97 (.pointer (some ⟨r, 0, none⟩))] 110)).heap.size := by simp
  clear h hw hft
  go_enter Tryd.func88, Tryd.ntmps88
  have hd1 := hst0.drew
  have hb1 := hd1.cell
  have hz1 : w.heap.size + 1 ≤ (w.alloc (.cells #[.iface 97 (.pointer (some ⟨r, 0, none⟩))] 110)).drew.heap.size := hs0
  have hc1 := hd1.cells.cell (j := 0) (by simp)
  simp only [Nat.add_zero, List.getElem_cons_zero, List.getElem_cons_succ] at hc1
  have hf1 := hd1.cells.free (off)
  have HD1 := Lib.hid hd1
  have HF1 := Lib.hid (hd1.ft HFT.out hfb)
  clear hd1 hst0
  go_upto_region 1 with fail
  go_cut [12] (fun tc wc => RowKit.Hid (∃ x1 va1 vn1 vc1 L1, rdNums 8 L0 = .ok x1 L1 ∧ NumsO wc (From (w.heap.size + 1)) (.slice va1 vn1 vc1) x1 ∧ RSt r B g off 2 w w.heap.size L1 wc [.slice va1 vn1 vc1, .slice none 0 0] ∧ w.heap.size + 1 ≤ wc.heap.size))
  case first =>
    go_region_law (first | (rw [if_pos (by rfl)]; go_simp; go_at_call 104; (with_reducible refine (rl_nums r B L0 8 _ (by omega) _ HD1.out.rd (by omega) HF1.out hfb).mono ?_); rintro e u (⟨x1, L1, va1, vn1, vc1, hp, rfl, hr1, hn1, ho1⟩ | ⟨er, hp, rfl, ho1⟩); rotate_left; (exact ⟨rfl, .inr ⟨er, by simp only [rdClass, PR.bind, hp], rfl, HD1.out.gives ho1⟩⟩); have hst := HD1.out.read hr1 ho1; have hwe := hst.cells; have hbe := hst.cell; have hce := hwe.cell (j := 0) (by simp); simp only [Nat.add_zero, List.getElem_cons_zero, List.getElem_cons_succ] at hce; have hfe := hwe.free (off)))
    all_goals
      have hsu : w.heap.size + 1 ≤ u.heap.size := Nat.le_trans hz1 ho1.size
      have hss := hst.set 0 (by omega) (.slice va1 vn1 vc1)
      simp only [Nat.add_zero, List.set_cons_zero, List.set_cons_succ] at hss
      have hk1 := hn1.keep (m := w.heap.size + 1) (set_off r (g := g) (o := off) (v := .slice va1 vn1 vc1)) (by omega) (by omega) (by omega)
      go_wp2_with fail
      go_meet
      exact Lib.hid ⟨x1, va1, vn1, vc1, L1, hp, hk1, hss, (by simpa [World.setCell] using hsu)⟩
  case rest =>
    obtain ⟨wc1, hwc⟩ : ∃ u : World, u = wc := ⟨_, rfl⟩
    subst hwc
    obtain ⟨x1, va1, vn1, vc1, L1, hp1, hn1, hst1, hs1⟩ := hcut.out
    have HQ1 := Lib.hid hp1
    have HN1 := Lib.hid (hn1.holds (w' := wc1.drew) (S' := From (w.heap.size + 1)) (fun b _ hb => ⟨rfl, hb⟩))
    clear hp1 hn1 hcut
    have hd2 := hst1.drew
    have hb2 := hd2.cell
    have hz2 : w.heap.size + 1 ≤ wc1.drew.heap.size := hs1
    have hc2 := hd2.cells.cell (j := 1) (by simp)
    simp only [Nat.add_zero, List.getElem_cons_zero, List.getElem_cons_succ] at hc2
    have hf2 := hd2.cells.free (off + 1)
    have HD2 := Lib.hid hd2
    have HF2 := Lib.hid (hd2.ft HFT.out hfb)
    clear hd2 hst1
    go_wp2_with fail
    go_region_law (first | (rw [if_pos (by rfl)]; go_simp; go_at_call 104; (with_reducible refine (rl_nums r B L1 4 _ (by omega) _ HD2.out.rd (by omega) HF2.out hfb).mono ?_); rintro e u (⟨x2, L2, va2, vn2, vc2, hp, rfl, hr1, hn1, ho1⟩ | ⟨er, hp, rfl, ho1⟩); rotate_left; (exact ⟨rfl, .inr ⟨er, by simp only [rdClass, PR.bind, HQ1.out, hp], rfl, HD2.out.gives ho1⟩⟩); have hst := HD2.out.read hr1 ho1; have hwe := hst.cells; have hbe := hst.cell; have hce := hwe.cell (j := 1) (by simp); simp only [Nat.add_zero, List.getElem_cons_zero, List.getElem_cons_succ] at hce; have hfe := hwe.free (off + 1)))
    all_goals
      have hsu : w.heap.size + 1 ≤ u.heap.size := Nat.le_trans hz2 ho1.size
      have hss := hst.set 1 (by omega) (.slice va2 vn2 vc2)
      simp only [Nat.add_zero, List.set_cons_zero, List.set_cons_succ] at hss
      have hk1 := HN1.out.keep (m := w.heap.size + 1) ((ho1.mono (fun i _ hi => .inl hi)).trans (set_off r (g := g) (o := off + 1) (v := .slice va2 vn2 vc2))) (by omega) (by omega) (Nat.le_refl _)
      have hk2 := hn1.keep (m := w.heap.size + 1) (set_off r (g := g) (o := off + 1) (v := .slice va2 vn2 vc2)) (by omega) (by omega) (by omega)
      have hj1 := hk1.wider (S' := From w.heap.size) (fun b _ hb => Nat.le_trans (Nat.le_succ _) hb)
      have hj2 := hk2.wider (S' := From w.heap.size) (fun b _ hb => Nat.le_trans (Nat.le_succ _) hb)
      go_end0
      exact .inl ⟨⟨x1, x2⟩, L2, _, by simp only [rdClass, PR.bind, HQ1.out, hp], rfl, hss.rd, hss.win, hss.len, hss.cells, ⟨_, _, rfl, hj1, hj2⟩⟩
end Go.Proofs.YtfnkmigcklmghaaDoor
