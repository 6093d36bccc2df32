/- Layer 5: the walk's methods, with a reader: sig, class. -/
import Derived.Test.YtfnkmigcklmghaaDoorQT1
import Derived.Test.YtfnkmigcklmghaaDoorQT6
import Derived.Deep.DeepCutAuto
namespace Go.Proofs.YtfnkmigcklmghaaDoor
open Go.RowKit (wrap64 intOf Below)
set_option linter.unusedVariables false
set_option linter.unusedSimpArgs false
attribute [local go_sem ↓] Go.wp_at_zero Go.wp_at_succ

theorem RSt.gives {r B g off K : Nat} {w : World} {bx : Nat} {L : List UInt8} {u u' : World} {cs : List Value} (h : RSt r B g off K w bx L u cs) (ho : Off (RX r) u u') : Off (fun i => i = r ∨ i = g) w u' :=
  h.win.offs.trans (ho.mono (fun i _ hi => .inl hi))
theorem RSt.gives' {r B g off K : Nat} {w : World} {bx : Nat} {L : List UInt8} {u u' : World} {cs : List Value} (h : RSt r B g off K w bx L u cs) (ho : Off (fun i => i = r ∨ i = g) u u') : Off (fun i => i = r ∨ i = g) w u' := h.win.offs.trans ho
theorem set_off (r : Nat) {g o : Nat} {u : World} {v : Value} : Off (fun i => i = r ∨ i = g) u (u.setCell ⟨g, o, none⟩ v) := (Off.refl _ _).setCell (.inl (.inr rfl)) _
set_option maxRecDepth 100000 in
set_option maxHeartbeats 2000000 in
theorem one_sig (r B : Nat) (hfb : 2 < B) : OneR 86 rdSig SigO 2 [.slice none 0 0, .int .i64 0] r B := by
  intro w L g off h hw hB hg hft
  have hmf : ∀ (fn : Fn) (first cap : Array Value) (w : World), (Instr.makeFunc fn first cap).run Tryd.prog w = .ok (.func fn first cap) w := fun _ _ _ _ => rfl
  have hrl := h.lt
  have hgl := hw.lt
  have HFT := Lib.hid hft
  have hd0 := (RSt.start h hw (K := 2) rfl hB hg).drew
  have hb0 := hd0.cell
  have hc0 := hd0.cells.cell (j := 0) (by simp)
  simp only [Nat.add_zero, List.getElem_cons_zero] at hc0
  have hf0 := hd0.cells.free off
  have hz0 : (w.alloc (.cells #[.iface 97 (.pointer (some ⟨r, 0, none⟩))] 110)).drew.heap.size = w.heap.size + 1 := by simp [World.drew]
  have HZ0 := Lib.hid hz0
  have HD0 := Lib.hid hd0
  clear h hw hft hd0 hz0
  go_enter Tryd.func86, Tryd.ntmps86
  go_upto_region 1 with fail
  go_cut [12] (fun tc wc => RowKit.Hid (∃ ps L1 va vn vc, rdNums 8 L = .ok ps L1 ∧ NumsO wc (From (w.heap.size + 1)) (.slice va vn vc) ps ∧ RSt r B g off 2 w w.heap.size L1 wc [.slice va vn vc, .int .i64 0]))
  case first =>
    go_region_law (first | (rw [if_pos (by rfl)]; go_simp; go_at_call 104; (with_reducible refine (rl_nums r B L 8 _ (by omega) _ HD0.out.rd (by omega) (HD0.out.ft HFT.out hfb) hfb).mono ?_); rintro e u1 (⟨ps, L1, va, vn, vc, hp, rfl, hr1, hn1, ho1⟩ | ⟨er, hp, rfl, ho1⟩); rotate_left; (exact ⟨rfl, .inr ⟨er, by unfold rdSig; rw [hp]; rfl, rfl, HD0.out.gives ho1⟩⟩); have hst1 := HD0.out.read hr1 ho1; have hwe := hst1.cells; have hbe := hst1.cell; have hce := hwe.cell (j := 0) (by simp); simp only [Nat.add_zero, List.getElem_cons_zero] at hce; have hfe := hwe.free off))
    all_goals
      have hs := hst1.set 0 (by omega) (.slice va vn vc)
      simp only [Nat.add_zero, List.set_cons_zero] at hs
      rw [HZ0.out] at hn1
      have hn2 := hn1.keep (m := w.heap.size + 1) (set_off r (g := g) (o := off) (v := .slice va vn vc)) (by omega) (by omega) (Nat.le_refl _)
      go_wp2_with fail
      go_meet
      exact Lib.hid ⟨ps, L1, va, vn, vc, hp, hn2, hs⟩
  case rest =>
    obtain ⟨ps, L1, va, vn, vc, hp, hn1, hst1⟩ := hcut.out
    have hd1 := hst1.drew
    have hb1 := hd1.cell
    have HP1 := Lib.hid hp
    have HN1 := Lib.hid (hn1.holds (w' := wc.drew) (S' := From (w.heap.size + 1)) (fun b _ hb => ⟨rfl, hb⟩))
    have HPt := Lib.hid (show WinAt wc.drew g (off + 1) [.int .i64 0] from hd1.cells.part 1 1 (by simp))
    have HD1 := Lib.hid hd1
    clear hp hn1 hst1 hd1 hcut
    go_wp2_with fail
    go_region_law (first | (rw [if_pos (by rfl)]; go_simp; go_at_call 105; (with_reducible refine (rk_whole r B 0 _ L1 g (off + 1) HD1.out.rd HPt.out hB hg).mono ?_); rintro e u2 (⟨x, L2, hp2, rfl, hr2, hw2, hc2⟩ | ⟨er, hp2, rfl, ho2⟩); rotate_left; (exact ⟨rfl, .inr ⟨er, by unfold rdSig; rw [HP1.out]; simp only [PR.bind]; rw [hp2], rfl, HD1.out.gives' ho2⟩⟩)))
    all_goals
      have hst2 := HD1.out.part (cs' := [.int .i64 x]) (o := 1) (n := 1) rfl (by omega) hr2 hw2 hc2
      have hn3 := HN1.out.keep (m := w.heap.size) hw2.offs (by omega) (by omega) (by omega)
      go_end0
      exact .inl ⟨⟨ps, x⟩, L2, _, by unfold rdSig; rw [HP1.out]; simp only [PR.bind]; rw [hp2], rfl, hst2.rd, hst2.win, rfl, hst2.cells, ⟨.slice va vn vc, rfl, hn3, rdNum_in hp2⟩⟩
end Go.Proofs.YtfnkmigcklmghaaDoor
