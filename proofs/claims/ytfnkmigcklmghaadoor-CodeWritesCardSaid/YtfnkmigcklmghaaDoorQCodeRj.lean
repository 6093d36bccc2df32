/- Layer 5: the walk's op, with a reader (gen/rkop.py). -/
import Derived.Test.YtfnkmigcklmghaaDoorQT9

namespace Go.Proofs.YtfnkmigcklmghaaDoor
open Go.RowKit (wrap64 intOf Below)
set_option linter.unusedVariables false
set_option linter.unusedSimpArgs false
attribute [local go_sem ↓] Go.wp_at_zero Go.wp_at_succ

theorem OpR.after {r B g off : Nat} {w : World} {bx ib : Nat} {K : Int} {L1 : List UInt8} {j p : Nat} {u u' : World} {o o' : OpD} {l l' : Value} {rest rest' : List UInt8} {f : UInt8} (h : OpR r B g off w bx ib K L1 j p u o l rest) (hr : r < w.heap.size) (hg : g < w.heap.size) (hj : j < (fieldsL K).length) (hf : (fieldsL K)[j] = f) (hfield : rdField o f rest = .ok o' rest') (st' : RSt r B g off 8 w bx rest' u' (opCells o' l')) (ho : Off (fun i => i = r ∨ i = g) u u')
    (hl : (l' = l ∧ o'.L = o.L) ∨ (f = 76 ∧ NumsO u' (From (w.heap.size + 1)) l' o'.L ∧ ∀ b, l'.ownBlock = some b → u.heap.size ≤ b)) (hrng : InR o'.K ∧ InR o'.A ∧ InR o'.B ∧ InR o'.C ∧ InR o'.N ∧ o'.S.size ≤ 140737488351232) : OpR r B g off w bx ib K L1 (j + 1) p u' o' l' rest' := by
  have hib : ib < u.heap.size := (Array.getElem?_eq_some_iff.1 h.it).1
  refine ⟨st', rdFields_more hj h.rd (by rw [hf]; exact hfield), ?_, fun hn => ?_, hrng, (ho.block ib hib (fun e => by rcases e with e | e; exact h.ir e; exact h.ig e)).trans h.it, h.ir, h.ig, h.ix, h.ge, fun b hb => ?_⟩
  · rcases hl with ⟨rfl, e⟩ | ⟨_, hn, _⟩
    · rw [e]; exact h.nums.keep ho (by omega) (by omega) (Nat.le_refl _)
    · exact hn
  · rw [List.take_succ_eq_append_getElem hj, List.mem_append, not_or] at hn
    rcases hl with ⟨rfl, _⟩ | ⟨rfl, _⟩
    · exact h.nil hn.1
    · exact absurd (by rw [hf]; simp) hn.2
  · rcases hl with ⟨rfl, _⟩ | ⟨_, _, hn⟩
    · exact h.il b hb
    · have := hn b hb; omega
theorem OpR.fails {r B g off : Nat} {w : World} {bx ib : Nat} {K : Int} {L L1 : List UInt8} {j p : Nat} {u u' : World} {o : OpD} {l : Value} {rest : List UInt8} {f : UInt8} {er : Int} (h : OpR r B g off w bx ib K L1 j p u o l rest) (hb : rdBelow 26 L = .ok K L1) (hj : j < (fieldsL K).length) (hf : (fieldsL K)[j] = f) (hfield : rdField o f rest = .no er) (ho : Off (fun i => i = r ∨ i = g) u u') : rdOp L = .no er ∧ Off (fun i => i = r ∨ i = g) w u' :=
  ⟨by unfold rdOp; rw [hb]; simp only [PR.bind]; exact rdFields_no hj h.rd (by rw [hf]; exact hfield), h.st.gives' ho⟩
theorem meth_rt (a : Option Addr) (u : World) : (method 307 97 (.pointer a) "hallmark/code.text").run Tryd.prog u = .ok (155, .pointer a) u := by kernel_rfl
theorem rx_off {r g : Nat} {u u' : World} (h : Off (RX r) u u') : Off (fun i => i = r ∨ i = g) u u' := h.mono (fun i _ hi => .inl hi)
set_option maxRecDepth 100000 in
set_option maxHeartbeats 8000000 in
theorem one_op (r B : Nat) (hfb : 2 < B) : OneR 115 rdOp OpO 8 [.int .i64 0, .int .i64 0, .int .i64 0, .int .i64 0, .int .i64 0, .string ⟨#[]⟩, .slice none 0 0, .bool false] r B := by
  intro w L g off h hw hB hg hft
  have hmf : ∀ (fn : Fn) (first cap : Array Value) (w : World), (Instr.makeFunc fn first cap).run Tryd.prog w = .ok (.func fn first cap) w := fun _ _ _ _ => rfl
  have hme := meth_rn
  have hmt := meth_rt
  have hrl := h.lt
  have hgl := hw.lt
  have HFT := Lib.hid hft
  have hst0 := (RSt.start h hw (K := 8) rfl hB hg).drew
  have hs0 : w.heap.size + 1 ≤ (w.alloc (.cells #[.iface 97 (.pointer (some ⟨r, 0, none⟩))] 110)).drew.heap.size := by simp [World.drew]
  have hb0 := hst0.cell
  have hc0 := hst0.cells.cell (j := 0) (by simp)
  simp only [Nat.add_zero, List.getElem_cons_zero] at hc0
  have hf0 := hst0.cells.free off
  have HD0 := Lib.hid hst0
  clear h hw hft hst0
  go_enter Tryd.func115, Tryd.ntmps115
  go_upto_region 1 with fail
  go_cut [12] (fun tc wc => RowKit.Hid (∃ k L1, rdBelow 26 L = .ok k L1 ∧ RSt r B g off 8 w w.heap.size L1 wc (opCells (opZero k) (.slice none 0 0)) ∧ w.heap.size + 1 ≤ wc.heap.size))
  case first =>
    go_region_law (first | (rw [if_pos (by rfl)]; go_simp; go_at_call 124; (with_reducible refine (rk_below r B L 0 26 _ HD0.out.rd (by omega) (by omega)).mono ?_); rintro e u (⟨k, L1, hp, rfl, hr1, ho1⟩ | ⟨er, hp, rfl, ho1⟩); rotate_left; (exact ⟨rfl, .inr ⟨er, by simp only [rdOp, PR.bind, hp], rfl, HD0.out.gives ho1⟩⟩); unfold intV; have hst := HD0.out.read hr1 ho1; have hwe := hst.cells; have hbe := hst.cell; have hce := hwe.cell (j := 0) (by simp); simp only [Nat.add_zero, List.getElem_cons_zero] at hce; have hfe := hwe.free off))
    all_goals
      have hss := hst.set 0 (by omega) (.int .i64 k)
      simp only [Nat.add_zero, List.set_cons_zero] at hss
      have hsu : w.heap.size + 1 ≤ u.heap.size := Nat.le_trans hs0 ho1.size
      go_wp2_with fail
      go_meet
      exact Lib.hid ⟨k, L1, hp, hss, by simpa [World.setCell] using hsu⟩
  case rest =>
    obtain ⟨wc1, hwc⟩ : ∃ u : World, u = wc := ⟨_, rfl⟩
    subst hwc
    obtain ⟨K, L1, hp1, hst1, hs1⟩ := hcut.out
    obtain ⟨k0, k26⟩ := rdBelow_in hp1
    have HQ1 := Lib.hid hp1
    have hc1 := hst1.cells.cell (j := 0) (by simp [opCells])
    simp only [opCells, opZero, Nat.add_zero, List.getElem_cons_zero] at hc1
    have HFW := Lib.hid (hst1.ft HFT.out hfb)
    have HS1 := Lib.hid (OpR.start hst1 hs1 (show InR K from ⟨by omega, by omega⟩))
    clear hp1 hst1 hcut
    go_wp2_with (go_at_call 36; (with_reducible refine (kfields_any K _ HFW.out).mono ?_); rintro e w' ⟨rfl, rfl⟩)
    go_loopw [] (fun wr => ∃ (j : Nat) (o : OpD) (l : Value) (rest : List UInt8), RowKit.Hid (OpR r B g off w w.heap.size wc1.heap.size K L1 j j wr o l rest) ∧ j ≤ (fieldsL K).length) (fun wr => (fieldsL K).length - wr.iterPos wc1.heap.size)
    case atStart => exact ⟨0, _, _, _, HS1, Nat.zero_le _⟩
    case round =>
      obtain ⟨k, o, l, rest, HR, hk⟩ := hrel
      have hit := HR.out.it
      by_cases hlt : k < (fieldsL K).length
      · obtain ⟨f, hgf⟩ : ∃ f, (fieldsL K)[k] = f := ⟨_, rfl⟩
        have hks : k < (fstr K).size := by unfold fstr; rw [mk_size]; exact hlt
        have hgs : (fstr K)[k] = f := by rw [← hgf]; exact fstr_at hlt hks
        have hlet := letters K f (by rw [← hgf]; exact List.getElem_mem _)
        have hnx0 := fun ty => Lib.run_next_ascii_at (P := Tryd.prog) wr wc1.heap.size (fstr K) k ty hit hks (by rw [hgs]; rcases hlet with rfl | rfl | rfl | rfl | rfl | rfl | rfl <;> decide)
        rw [hgs] at hnx0
        have hmv := HR.out.move
        obtain ⟨u, hu⟩ : ∃ u, wr.iterAt wc1.heap.size (fstr K) (k + 1) = u := ⟨_, rfl⟩
        rw [hu] at hnx0 hmv
        have hdr := hmv.drew
        have hbu := hdr.st.cell
        have hrg := hdr.rng
        have HRG := Lib.hid hrg
        have HM := Lib.hid hdr
        have HGF := Lib.hid hgf
        have HWU := Lib.hid (show WinAt u.drew g off [.int .i64 o.K, .int .i64 o.A, .int .i64 o.B, .int .i64 o.C, .int .i64 o.N, .string o.S, l, .bool o.T] from hdr.st.cells)
        clear hu hgs hit hks hmv hdr hrg hgf
        rcases hlet with rfl | rfl | rfl | rfl | rfl | rfl | rfl
        · have hcu := HWU.out.cell (j := 4) (by simp)
          simp only [Nat.add_zero, List.getElem_cons_zero, List.getElem_cons_succ] at hcu
          go_wp2_with fail
          go_region_law (first | (rw [if_pos (by rfl)]; go_simp; go_at_call 154; (with_reducible refine (rd_number r B rest o.N _ HM.out.st.rd).mono ?_); rintro e u2 (⟨x, L2, hp, rfl, hr1, ho1⟩ | ⟨er, hp, rfl, ho1⟩); rotate_left; (exact ⟨rfl, .inr ⟨er, (HM.out.fails HQ1.out hlt HGF.out (by simp only [rdField, PR.bind, hp]; rfl) (rx_off ho1)).1, rfl, (HM.out.fails HQ1.out hlt HGF.out (by simp only [rdField, PR.bind, hp]; rfl) (rx_off ho1)).2⟩⟩); unfold intV; have hst := HM.out.st.read hr1 ho1; have hwe : WinAt u2 g off [.int .i64 o.K, .int .i64 o.A, .int .i64 o.B, .int .i64 o.C, .int .i64 o.N, .string o.S, l, .bool o.T] := hst.cells; have hbe := hst.cell; have hce := hwe.cell (j := 4) (by simp); simp only [Nat.add_zero, List.getElem_cons_zero, List.getElem_cons_succ] at hce; have hfe := hwe.free (off + 4)))
          all_goals
            have hss := hst.set 4 (by omega) (.int .i64 x)
            have hst2 := HM.out.after (o' := { o with N := x }) (l' := l) hrl.2 hgl hlt HGF.out (by simp only [rdField, PR.bind, hp]; rfl) hss ((rx_off ho1).trans (set_off r)) (.inl ⟨rfl, rfl⟩) (⟨HRG.out.1, HRG.out.2.1, HRG.out.2.2.1, HRG.out.2.2.2.1, rdNum_in hp, HRG.out.2.2.2.2.2⟩)
            have HN2 := Lib.hid hst2
            have HM1 := Lib.hid (op_round_r HR.out hlt hst2)
            clear hst2
            go_wp2_with fail
            go_roundw
            case rel => exact ⟨k + 1, _, _, _, HN2, HM1.out.1⟩
            case measure => exact HM1.out.2
        · have hcu := HWU.out.cell (j := 5) (by simp)
          simp only [Nat.add_zero, List.getElem_cons_zero, List.getElem_cons_succ] at hcu
          go_wp2_with fail
          go_region_law (first | (rw [if_pos (by rfl)]; go_simp; go_at_call 155; (with_reducible refine (rd_text r B rest o.S _ HM.out.st.rd).mono ?_); rintro e u2 (⟨x, L2, hp, rfl, hr1, ho1⟩ | ⟨er, hp, rfl, ho1⟩); rotate_left; (exact ⟨rfl, .inr ⟨er, (HM.out.fails HQ1.out hlt HGF.out (by simp only [rdField, PR.bind, hp]; rfl) (rx_off ho1)).1, rfl, (HM.out.fails HQ1.out hlt HGF.out (by simp only [rdField, PR.bind, hp]; rfl) (rx_off ho1)).2⟩⟩); unfold strV; have hst := HM.out.st.read hr1 ho1; have hwe : WinAt u2 g off [.int .i64 o.K, .int .i64 o.A, .int .i64 o.B, .int .i64 o.C, .int .i64 o.N, .string o.S, l, .bool o.T] := hst.cells; have hbe := hst.cell; have hce := hwe.cell (j := 5) (by simp); simp only [Nat.add_zero, List.getElem_cons_zero, List.getElem_cons_succ] at hce; have hfe := hwe.free (off + 5)))
          all_goals
            have hss := hst.set 5 (by omega) (.string x)
            have hst2 := HM.out.after (o' := { o with S := x }) (l' := l) hrl.2 hgl hlt HGF.out (by simp only [rdField, PR.bind, hp]; rfl) hss ((rx_off ho1).trans (set_off r)) (.inl ⟨rfl, rfl⟩) (⟨HRG.out.1, HRG.out.2.1, HRG.out.2.2.1, HRG.out.2.2.2.1, HRG.out.2.2.2.2.1, rdText_size hp⟩)
            have HN2 := Lib.hid hst2
            have HM1 := Lib.hid (op_round_r HR.out hlt hst2)
            clear hst2
            go_wp2_with fail
            go_roundw
            case rel => exact ⟨k + 1, _, _, _, HN2, HM1.out.1⟩
            case measure => exact HM1.out.2
        · have HPw := Lib.hid (show WinAt u.drew g (off + 1) [.int .i64 o.A] from HWU.out.part 1 1 (by simp))
          go_wp2_with fail
          go_region_law (first | (rw [if_pos (by rfl)]; go_simp; go_at_call 105; (with_reducible refine (rk_whole r B o.A _ rest g (off + 1) HM.out.st.rd HPw.out hB hg).mono ?_); rintro e u2 (⟨x, L2, hp, rfl, hr1, hw1, hc1⟩ | ⟨er, hp, rfl, ho1⟩); rotate_left; (exact ⟨rfl, .inr ⟨er, (HM.out.fails HQ1.out hlt HGF.out (by simp only [rdField, PR.bind, hp]; rfl) ho1).1, rfl, (HM.out.fails HQ1.out hlt HGF.out (by simp only [rdField, PR.bind, hp]; rfl) ho1).2⟩⟩)))
          all_goals
            have hss := HM.out.st.part (cs' := [.int .i64 x]) (o := 1) (n := 1) rfl (by omega) hr1 hw1 hc1
            have hst2 := HM.out.after (o' := { o with A := x }) (l' := l) hrl.2 hgl hlt HGF.out (by simp only [rdField, PR.bind, hp]; rfl) hss hw1.offs (.inl ⟨rfl, rfl⟩) (⟨HRG.out.1, rdNum_in hp, HRG.out.2.2⟩)
            have HN2 := Lib.hid hst2
            have HM1 := Lib.hid (op_round_r HR.out hlt hst2)
            clear hst2
            go_wp2_with fail
            go_roundw
            case rel => exact ⟨k + 1, _, _, _, HN2, HM1.out.1⟩
            case measure => exact HM1.out.2
        · have HPw := Lib.hid (show WinAt u.drew g (off + 2) [.int .i64 o.B] from HWU.out.part 2 1 (by simp))
          go_wp2_with fail
          go_region_law (first | (rw [if_pos (by rfl)]; go_simp; go_at_call 105; (with_reducible refine (rk_whole r B o.B _ rest g (off + 2) HM.out.st.rd HPw.out hB hg).mono ?_); rintro e u2 (⟨x, L2, hp, rfl, hr1, hw1, hc1⟩ | ⟨er, hp, rfl, ho1⟩); rotate_left; (exact ⟨rfl, .inr ⟨er, (HM.out.fails HQ1.out hlt HGF.out (by simp only [rdField, PR.bind, hp]; rfl) ho1).1, rfl, (HM.out.fails HQ1.out hlt HGF.out (by simp only [rdField, PR.bind, hp]; rfl) ho1).2⟩⟩)))
          all_goals
            have hss := HM.out.st.part (cs' := [.int .i64 x]) (o := 2) (n := 1) rfl (by omega) hr1 hw1 hc1
            have hst2 := HM.out.after (o' := { o with B := x }) (l' := l) hrl.2 hgl hlt HGF.out (by simp only [rdField, PR.bind, hp]; rfl) hss hw1.offs (.inl ⟨rfl, rfl⟩) (⟨HRG.out.1, HRG.out.2.1, rdNum_in hp, HRG.out.2.2.2⟩)
            have HN2 := Lib.hid hst2
            have HM1 := Lib.hid (op_round_r HR.out hlt hst2)
            clear hst2
            go_wp2_with fail
            go_roundw
            case rel => exact ⟨k + 1, _, _, _, HN2, HM1.out.1⟩
            case measure => exact HM1.out.2
        · have HPw := Lib.hid (show WinAt u.drew g (off + 3) [.int .i64 o.C] from HWU.out.part 3 1 (by simp))
          go_wp2_with fail
          go_region_law (first | (rw [if_pos (by rfl)]; go_simp; go_at_call 105; (with_reducible refine (rk_whole r B o.C _ rest g (off + 3) HM.out.st.rd HPw.out hB hg).mono ?_); rintro e u2 (⟨x, L2, hp, rfl, hr1, hw1, hc1⟩ | ⟨er, hp, rfl, ho1⟩); rotate_left; (exact ⟨rfl, .inr ⟨er, (HM.out.fails HQ1.out hlt HGF.out (by simp only [rdField, PR.bind, hp]; rfl) ho1).1, rfl, (HM.out.fails HQ1.out hlt HGF.out (by simp only [rdField, PR.bind, hp]; rfl) ho1).2⟩⟩)))
          all_goals
            have hss := HM.out.st.part (cs' := [.int .i64 x]) (o := 3) (n := 1) rfl (by omega) hr1 hw1 hc1
            have hst2 := HM.out.after (o' := { o with C := x }) (l' := l) hrl.2 hgl hlt HGF.out (by simp only [rdField, PR.bind, hp]; rfl) hss hw1.offs (.inl ⟨rfl, rfl⟩) (⟨HRG.out.1, HRG.out.2.1, HRG.out.2.2.1, rdNum_in hp, HRG.out.2.2.2.2⟩)
            have HN2 := Lib.hid hst2
            have HM1 := Lib.hid (op_round_r HR.out hlt hst2)
            clear hst2
            go_wp2_with fail
            go_roundw
            case rel => exact ⟨k + 1, _, _, _, HN2, HM1.out.1⟩
            case measure => exact HM1.out.2
        · obtain rfl : l = .slice none 0 0 := HM.out.nil (letter_once K k hlt HGF.out)
          have HFU := Lib.hid (HM.out.st.ft HFT.out hfb)
          have hcu := HWU.out.cell (j := 6) (by simp)
          simp only [Nat.add_zero, List.getElem_cons_zero, List.getElem_cons_succ] at hcu
          go_wp2_with fail
          go_region_law (first | (rw [if_pos (by rfl)]; go_simp; go_at_call 104; (with_reducible refine (rl_nums r B rest 8 _ (by omega) _ HM.out.st.rd (by omega) HFU.out hfb).mono ?_); rintro e u2 (⟨x, L2, va, vn, vc, hp, rfl, hr1, hn1, ho1⟩ | ⟨er, hp, rfl, ho1⟩); rotate_left; (exact ⟨rfl, .inr ⟨er, (HM.out.fails HQ1.out hlt HGF.out (by simp only [rdField, PR.bind, hp]; rfl) (rx_off ho1)).1, rfl, (HM.out.fails HQ1.out hlt HGF.out (by simp only [rdField, PR.bind, hp]; rfl) (rx_off ho1)).2⟩⟩); have hst := HM.out.st.read hr1 ho1; have hwe : WinAt u2 g off [.int .i64 o.K, .int .i64 o.A, .int .i64 o.B, .int .i64 o.C, .int .i64 o.N, .string o.S, .slice none 0 0, .bool o.T] := hst.cells; have hbe := hst.cell; have hce := hwe.cell (j := 6) (by simp); simp only [Nat.add_zero, List.getElem_cons_zero, List.getElem_cons_succ] at hce; have hfe := hwe.free (off + 6)))
          all_goals
            have hss := hst.set 6 (by omega) (.slice va vn vc)
            have hge := HM.out.st.win.size
            have hsz : w.heap.size + 1 ≤ u.drew.heap.size := Nat.le_trans HM.out.ge (Nat.le_of_lt (Array.getElem?_eq_some_iff.1 HM.out.it).1)
            have hk1 := hn1.keep (m := w.heap.size + 1) (set_off r (g := g) (o := off + 6) (v := .slice va vn vc)) (by omega) (by omega) hsz
            have hst2 := HM.out.after (o' := { o with L := x }) (l' := .slice va vn vc) hrl.2 hgl hlt HGF.out (by simp only [rdField, PR.bind, hp]; rfl) hss ((rx_off ho1).trans (set_off r)) (.inr ⟨rfl, hk1, fun b hb => (hn1.2.1 b hb)⟩) (HRG.out)
            have HN2 := Lib.hid hst2
            have HM1 := Lib.hid (op_round_r HR.out hlt hst2)
            clear hst2
            go_wp2_with fail
            go_roundw
            case rel => exact ⟨k + 1, _, _, _, HN2, HM1.out.1⟩
            case measure => exact HM1.out.2
        · have hcu := HWU.out.cell (j := 7) (by simp)
          simp only [Nat.add_zero, List.getElem_cons_zero, List.getElem_cons_succ] at hcu
          go_wp2_with fail
          go_region_law (first | (rw [if_pos (by rfl)]; go_simp; go_at_call 125; (with_reducible refine (rk_truth r B rest o.T _ HM.out.st.rd).mono ?_); rintro e u2 (⟨x, L2, hp, rfl, hr1, ho1⟩ | ⟨er, hp, rfl, ho1⟩); rotate_left; (exact ⟨rfl, .inr ⟨er, (HM.out.fails HQ1.out hlt HGF.out (by simp only [rdField, PR.bind, hp]; rfl) (rx_off ho1)).1, rfl, (HM.out.fails HQ1.out hlt HGF.out (by simp only [rdField, PR.bind, hp]; rfl) (rx_off ho1)).2⟩⟩); unfold boolV; have hst := HM.out.st.read hr1 ho1; have hwe : WinAt u2 g off [.int .i64 o.K, .int .i64 o.A, .int .i64 o.B, .int .i64 o.C, .int .i64 o.N, .string o.S, l, .bool o.T] := hst.cells; have hbe := hst.cell; have hce := hwe.cell (j := 7) (by simp); simp only [Nat.add_zero, List.getElem_cons_zero, List.getElem_cons_succ] at hce; have hfe := hwe.free (off + 7)))
          all_goals
            have hss := hst.set 7 (by omega) (.bool x)
            have hst2 := HM.out.after (o' := { o with T := x }) (l' := l) hrl.2 hgl hlt HGF.out (by simp only [rdField, PR.bind, hp]; rfl) hss ((rx_off ho1).trans (set_off r)) (.inl ⟨rfl, rfl⟩) (HRG.out)
            have HN2 := Lib.hid hst2
            have HM1 := Lib.hid (op_round_r HR.out hlt hst2)
            clear hst2
            go_wp2_with fail
            go_roundw
            case rel => exact ⟨k + 1, _, _, _, HN2, HM1.out.1⟩
            case measure => exact HM1.out.2
      · have hk' : (fieldsL K).length ≤ k := by omega
        have hks : ¬ k < (fstr K).size := by unfold fstr; rw [mk_size]; omega
        have hnx0 := fun ty => Lib.run_next_end_at (P := Tryd.prog) wr wc1.heap.size (fstr K) k ty hit hks
        have HE : RowKit.Hid (rdOp L = .ok o rest) := Lib.hid (by
          have h2 := HR.out.rd
          rw [List.take_of_length_le hk'] at h2
          unfold rdOp
          rw [HQ1.out]
          exact h2)
        clear hit hks
        go_wp2_with fail
        go_end0
        have h1 := HR.out
        exact .inl ⟨o, rest, _, HE.out, rfl, h1.st.rd, h1.st.win, h1.st.len, h1.st.cells, ⟨l, rfl, h1.rng.1, h1.rng.2.1, h1.rng.2.2.1, h1.rng.2.2.2.1, h1.rng.2.2.2.2.1, h1.rng.2.2.2.2.2, h1.nums.wider (S' := From w.heap.size) (fun b _ hb => Nat.le_trans (Nat.le_succ _) hb)⟩⟩
end Go.Proofs.YtfnkmigcklmghaaDoor
