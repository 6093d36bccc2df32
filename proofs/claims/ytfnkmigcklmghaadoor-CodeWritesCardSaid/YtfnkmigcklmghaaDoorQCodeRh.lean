/- Layer 5: the walk's end, with a reader (gen/rkend.py). -/
import Derived.Test.YtfnkmigcklmghaaDoorQCodeCe
import Derived.Test.YtfnkmigcklmghaaDoorQT8

namespace Go.Proofs.YtfnkmigcklmghaaDoor
open Go.RowKit (wrap64 intOf Below)
set_option linter.unusedVariables false
set_option linter.unusedSimpArgs false
attribute [local go_sem ↓] Go.wp_at_zero Go.wp_at_succ

theorem RSt.full {r B g off K : Nat} {w : World} {bx : Nat} {L : List UInt8} {u : World} {cs : List Value} (h : RSt r B g off K w bx L u cs) {u' : World} {L' : List UInt8} {cs' : List Value} (hn : cs'.length = K) (h1 : RdAt u' r B L') (h2 : RWin r g off K u u') (h3 : WinAt u' g off cs') : RSt r B g off K w bx L' u' cs' :=
  ⟨h1, h.win.trans h2, h3, hn, (h2.block bx (Array.getElem?_eq_some_iff.1 h.box).1 h.nr h.ng).trans h.box, h.nr, h.ng, h.gB, h.gr⟩
theorem rdBelow_in {b x : Int} {L rest : List UInt8} (h : rdBelow b L = .ok x rest) : 0 ≤ x ∧ x < b := by
  unfold rdBelow at h
  cases hn : rdNum L with
  | no e => rw [hn] at h; cases h
  | ok m r =>
    rw [hn] at h
    simp only [PR.bind] at h
    split at h
    · rename_i hh; cases h; exact hh
    · cases h
set_option maxRecDepth 100000 in
set_option maxHeartbeats 8000000 in
theorem one_end (r B : Nat) (hfb : 2 < B) : OneR 116 rdEnd EndO 6 [.int .i64 0, .int .i64 0, .int .i64 0, .int .i64 0, .slice none 0 0, .slice none 0 0] r B := by
  intro w L g off h hw hB hg hft
  have hrl := h.lt
  have hgl := hw.lt
  have HFT := Lib.hid hft
  have hst0 := (RSt.start h hw (K := 6) rfl hB hg).drew
  have hs0 : w.heap.size + 1 ≤ (w.alloc (.cells #[.iface 97 (.pointer (some ⟨r, 0, none⟩))] 110)).drew.heap.size := by simp [World.drew]
  have hb0 := hst0.cell
  have hc0 := hst0.cells.cell (j := 0) (by simp)
  simp only [Nat.add_zero, List.getElem_cons_zero] at hc0
  have hf0 := hst0.cells.free off
  have HD0 := Lib.hid hst0
  clear h hw hft hst0
  go_enter Tryd.func116, Tryd.ntmps116
  go_upto_region 1 with fail
  go_cut [10] (fun tc wc => RowKit.Hid (∃ k L1, rdBelow 4 L = .ok k L1 ∧ RSt r B g off 6 w w.heap.size L1 wc [.int .i64 k, .int .i64 0, .int .i64 0, .int .i64 0, .slice none 0 0, .slice none 0 0] ∧ w.heap.size + 1 ≤ wc.heap.size))
  case first =>
    go_region_law (first | (rw [if_pos (by rfl)]; go_simp; go_at_call 124; (with_reducible refine (rk_below r B L 0 4 _ HD0.out.rd (by omega) (by omega)).mono ?_); rintro e u (⟨k, L1, hp, rfl, hr1, ho1⟩ | ⟨er, hp, rfl, ho1⟩); rotate_left; (exact ⟨rfl, .inr ⟨er, by simp only [rdEnd, PR.bind, hp], rfl, HD0.out.gives ho1⟩⟩); unfold intV; have hst := HD0.out.read hr1 ho1; have hwe := hst.cells; have hbe := hst.cell; have hce := hwe.cell (j := 0) (by simp); simp only [Nat.add_zero, List.getElem_cons_zero] at hce; have hfe := hwe.free off))
    all_goals
      have hss := hst.set 0 (by omega) (.int .i64 k)
      simp only [Nat.add_zero, List.set_cons_zero] at hss
      have hsu : w.heap.size + 1 ≤ u.heap.size := Nat.le_trans hs0 ho1.size
      go_wp2_with fail
      go_meet
      exact Lib.hid ⟨k, L1, hp, hss, by simpa [World.setCell] using hsu⟩
  case rest =>
    obtain ⟨wc1, hwc⟩ : ∃ u : World, u = wc := ⟨_, rfl⟩
    subst hwc
    obtain ⟨k, L1, hp1, hst1, hs1⟩ := hcut.out
    obtain ⟨k0, k4⟩ := rdBelow_in hp1
    have HQ1 := Lib.hid hp1
    have hc1 := hst1.cells.cell (j := 0) (by simp)
    simp only [Nat.add_zero, List.getElem_cons_zero] at hc1
    have hd1 := hst1.drew
    have hb1 := hd1.cell
    have hp1a := hd1.cells.part 1 1 (by simp)
    simp only [List.drop_succ_cons, List.drop_zero, List.take_succ_cons, List.take_zero] at hp1a
    have HP1 := Lib.hid hp1a
    have HD1 := Lib.hid hd1
    have HF1 := Lib.hid (hd1.ft HFT.out hfb)
    have hs1d : w.heap.size + 1 ≤ wc1.drew.heap.size := hs1
    clear hp1 hst1 hd1 hp1a hcut
    by_cases h0 : k = 0
    · subst h0
      go_wp2_with fail
      go_region_law (first | (rw [if_pos (by rfl)]; go_simp; go_at_call 126; (with_reducible refine (rk_target r B hfb _ L1 g off _ 2 4 HD1.out.rd HD1.out.cells rfl rfl rfl (by decide) hB hg HF1.out).mono ?_); rintro e u (⟨t, Z, L2, va, vn, vc, hp, rfl, hr1, hw1, hc1, hn1, hi1⟩ | ⟨er, hp, rfl, ho1⟩); rotate_left; (exact ⟨rfl, .inr ⟨er, by simp only [rdEnd, PR.bind, HQ1.out, if_true, hp], rfl, HD1.out.gives' ho1⟩⟩)))
      all_goals
        have hss := HD1.out.full rfl hr1 hw1 hc1
        have hk1 := hn1.wider (S' := From w.heap.size) (fun b _ hb => Nat.le_trans (by omega) hb)
        go_end0
        exact .inl ⟨⟨0, 0, t, 0, Z, []⟩, L2, _, by simp only [rdEnd, PR.bind, HQ1.out, if_true, hp], rfl, hss.rd, hss.win, hss.len, hss.cells, ⟨_, _, rfl, InR.zero, InR.zero, hi1, InR.zero, hk1, NumsO.none _ _⟩⟩
    · have hf : (k == 0) = false := by rw [beq_eq_false_iff_ne]; exact h0
      by_cases h1 : k = 1
      · subst h1
        clear h0
        go_upto_region 6 with fail
        go_cut [33] (fun tc wc => RowKit.Hid (∃ a L2, rdNum L1 = .ok a L2 ∧ RSt r B g off 6 w w.heap.size L2 wc [.int .i64 1, .int .i64 a, .int .i64 0, .int .i64 0, .slice none 0 0, .slice none 0 0] ∧ w.heap.size + 1 ≤ wc.heap.size))
        case first =>
          go_region_law (first | (rw [if_pos (by rfl)]; go_simp; go_at_call 105; (with_reducible refine (rk_whole r B 0 _ L1 g (off + 1) HD1.out.rd HP1.out hB hg).mono ?_); rintro e u (⟨a, L2, hp, rfl, hr1, hw1, hc1⟩ | ⟨er, hp, rfl, ho1⟩); rotate_left; (exact ⟨rfl, .inr ⟨er, by simp only [rdEnd, PR.bind, HQ1.out, hp, show (1 : Int) = 0 ↔ False from by decide, if_false, if_true], rfl, HD1.out.gives' ho1⟩⟩)))
          all_goals
            have hss := HD1.out.part (cs' := [.int .i64 a]) (o := 1) (n := 1) rfl (by omega) hr1 hw1 hc1
            simp only [List.take_succ_cons, List.take_zero, List.drop_succ_cons, List.drop_zero, List.cons_append, List.nil_append] at hss
            go_wp2_with fail
            go_meet
            exact Lib.hid ⟨a, L2, hp, hss, Nat.le_trans hs1d hw1.size⟩
        case rest =>
          obtain ⟨wc2, hwc⟩ : ∃ u : World, u = wc := ⟨_, rfl⟩
          subst hwc
          obtain ⟨a, L2, hp2, hst2, hs2⟩ := hcut.out
          have HQ2 := Lib.hid hp2
          have HIA := Lib.hid (rdNum_in hp2)
          have hd2 := hst2.drew
          have hb2 := hd2.cell
          have HD2 := Lib.hid hd2
          have HF2 := Lib.hid (hd2.ft HFT.out hfb)
          have hs2d : w.heap.size + 1 ≤ wc2.drew.heap.size := hs2
          clear hp2 hst2 hd2 hcut
          go_upto_region 7 with fail
          go_cut [41] (fun tc wc => RowKit.Hid (∃ t Z L3 va vn vc, rdTarget L2 = .ok (t, Z) L3 ∧ InR t ∧ NumsO wc (From (w.heap.size + 1)) (.slice va vn vc) Z ∧ RSt r B g off 6 w w.heap.size L3 wc [.int .i64 1, .int .i64 a, .int .i64 t, .int .i64 0, .slice va vn vc, .slice none 0 0] ∧ w.heap.size + 1 ≤ wc.heap.size))
          case first =>
            go_region_law (first | (rw [if_pos (by rfl)]; go_simp; go_at_call 126; (with_reducible refine (rk_target r B hfb _ L2 g off _ 2 4 HD2.out.rd HD2.out.cells rfl rfl rfl (by decide) hB hg HF2.out).mono ?_); rintro e u (⟨t, Z, L3, va, vn, vc, hp, rfl, hr1, hw1, hc1, hn1, hi1⟩ | ⟨er, hp, rfl, ho1⟩); rotate_left; (exact ⟨rfl, .inr ⟨er, by simp only [rdEnd, PR.bind, HQ1.out, HQ2.out, hp, show (1 : Int) = 0 ↔ False from by decide, if_false, if_true], rfl, HD2.out.gives' ho1⟩⟩)))
            all_goals
              have hss := HD2.out.full rfl hr1 hw1 hc1
              have hk1 := hn1.wider (S' := From (w.heap.size + 1)) (fun b _ hb => Nat.le_trans hs2d hb)
              go_wp2_with fail
              go_meet
              exact Lib.hid ⟨t, Z, L3, va, vn, vc, hp, hi1, hk1, hss, Nat.le_trans hs2d hw1.size⟩
          case rest =>
            obtain ⟨wc3, hwc⟩ : ∃ u : World, u = wc := ⟨_, rfl⟩
            subst hwc
            obtain ⟨t, Z, L3, va, vn, vc, hp3, hit, hn3, hst3, hs3⟩ := hcut.out
            have HQ3 := Lib.hid hp3
            have HIT := Lib.hid hit
            have HN3 := Lib.hid (hn3.holds (w' := wc3.drew) (S' := From (w.heap.size + 1)) (fun b _ hb => ⟨rfl, hb⟩))
            have hd3 := hst3.drew
            have hb3 := hd3.cell
            have HD3 := Lib.hid hd3
            have HF3 := Lib.hid (hd3.ft HFT.out hfb)
            have hs3d : w.heap.size + 1 ≤ wc3.drew.heap.size := hs3
            clear hp3 hit hn3 hst3 hd3 hcut
            go_wp2_with fail
            go_region_law (first | (rw [if_pos (by rfl)]; go_simp; go_at_call 126; (with_reducible refine (rk_target r B hfb _ L3 g off _ 3 5 HD3.out.rd HD3.out.cells rfl rfl rfl (by decide) hB hg HF3.out).mono ?_); rintro e u (⟨t2, Z2, L4, ua, un, uc, hp, rfl, hr1, hw1, hc1, hn1, hi1⟩ | ⟨er, hp, rfl, ho1⟩); rotate_left; (exact ⟨rfl, .inr ⟨er, by simp only [rdEnd, PR.bind, HQ1.out, HQ2.out, HQ3.out, hp, show (1 : Int) = 0 ↔ False from by decide, if_false, if_true], rfl, HD3.out.gives' ho1⟩⟩)))
            all_goals
              have hss := HD3.out.full rfl hr1 hw1 hc1
              have hk1 := HN3.out.keep (m := w.heap.size) hw1.offs (by omega) (by omega) (by omega)
              have hk2 := hn1.wider (S' := From w.heap.size) (fun b _ hb => Nat.le_trans (by omega) hb)
              go_end0
              exact .inl ⟨⟨1, a, t, t2, Z, Z2⟩, L4, _, by simp only [rdEnd, PR.bind, HQ1.out, HQ2.out, HQ3.out, hp, if_true, show (1 : Int) = 0 ↔ False from by decide, if_false], rfl, hss.rd, hss.win, hss.len, hss.cells, ⟨_, _, rfl, (show InR 1 from ⟨by decide, by decide⟩), HIA.out, HIT.out, hi1, hk1, hk2⟩⟩
      · have hf1 : (k == 1) = false := by rw [beq_eq_false_iff_ne]; exact h1
        have ht : (k == 2) = true ∨ ((k == 2) = false ∧ (k == 3) = true) := by
          by_cases h2 : k = 2
          · exact .inl (by rw [beq_iff_eq]; exact h2)
          · exact .inr ⟨by rw [beq_eq_false_iff_ne]; exact h2, by rw [beq_iff_eq]; omega⟩
        have HK0 := Lib.hid h0
        have HK1 := Lib.hid h1
        clear h0 h1
        rcases ht with ht | ⟨ht, ht'⟩
        all_goals
          go_wp2_with fail
          go_region_law (first | (rw [if_pos (by rfl)]; go_simp; go_at_call 105; (with_reducible refine (rk_whole r B 0 _ L1 g (off + 1) HD1.out.rd HP1.out hB hg).mono ?_); rintro e u (⟨a, L2, hp, rfl, hr1, hw1, hc1⟩ | ⟨er, hp, rfl, ho1⟩); rotate_left; (exact ⟨rfl, .inr ⟨er, by simp only [rdEnd, PR.bind, HQ1.out, if_neg HK0.out, if_neg HK1.out, hp], rfl, HD1.out.gives' ho1⟩⟩)))
          all_goals
            have hss := HD1.out.part (cs' := [.int .i64 a]) (o := 1) (n := 1) rfl (by omega) hr1 hw1 hc1
            simp only [List.take_succ_cons, List.take_zero, List.drop_succ_cons, List.drop_zero, List.cons_append, List.nil_append] at hss
            go_end0
            exact .inl ⟨⟨k, a, 0, 0, [], []⟩, L2, _, by simp only [rdEnd, PR.bind, HQ1.out, if_neg HK0.out, if_neg HK1.out, hp], rfl, hss.rd, hss.win, hss.len, hss.cells, ⟨_, _, rfl, (show InR k from ⟨by omega, by omega⟩), rdNum_in hp, InR.zero, InR.zero, NumsO.none _ _, NumsO.none _ _⟩⟩
end Go.Proofs.YtfnkmigcklmghaaDoor
