/- Layer 5: the walk's target, with a reader. -/
import Derived.Test.YtfnkmigcklmghaaDoorQCodeRn
import Derived.Test.YtfnkmigcklmghaaDoorQT1

namespace Go.Proofs.YtfnkmigcklmghaaDoor
open Go.RowKit (wrap64 intOf Below)
set_option linter.unusedVariables false
set_option linter.unusedSimpArgs false
attribute [local go_sem ↓] Go.wp_at_zero Go.wp_at_succ

theorem one_at {α : Type} {cs : List α} {i : Nat} {v : α} (h : cs[i]? = some v) : (cs.drop i).take 1 = [v] := by
  obtain ⟨hi, rfl⟩ := List.getElem?_eq_some_iff.1 h
  rw [List.drop_eq_getElem_cons hi]
  rfl
set_option maxRecDepth 100000 in
set_option maxHeartbeats 4000000 in
theorem rk_target (r B : Nat) (hfb : 2 < B) (w : World) (L : List UInt8) (g off : Nat) (cs : List Value) (i1 i2 : Nat) (h : RdAt w r B L) (hw : WinAt w g off cs) (hl : cs.length = 6) (h1 : cs[i1]? = some (.int .i64 0)) (h2 : cs[i2]? = some (.slice none 0 0)) (hne : i1 ≠ i2) (hB : B ≤ g) (hg : g ≠ r) (hft : FT w) :
    Calls Tryd.prog 126 #[.agg #[.iface 97 (.pointer (some ⟨r, 0, none⟩))], .pointer (some ⟨g, off + i1, none⟩), .pointer (some ⟨g, off + i2, none⟩)] w fun e w' =>
      (∃ t Z rest va vn vc, rdTarget L = .ok (t, Z) rest ∧ e = .returned (.tuple #[]) ∧ RdAt w' r B rest ∧ RWin r g off 6 w w' ∧ WinAt w' g off ((cs.set i1 (.int .i64 t)).set i2 (.slice va vn vc)) ∧ NumsO w' (From w.heap.size) (.slice va vn vc) Z ∧ InR t) ∨
      (∃ er, rdTarget L = .no er ∧ e = .panicked [{ v := .iface 31 (.int .i64 er), recovered := false }] ∧ Off (fun i => i = r ∨ i = g) w w') := by
  have hmf : ∀ (fn : Fn) (first cap : Array Value) (w : World), (Instr.makeFunc fn first cap).run Tryd.prog w = .ok (.func fn first cap) w := fun _ _ _ _ => rfl
  have hrl := h.lt
  have hgl := hw.lt
  have hi1 : i1 < 6 := by rw [← hl]; exact (List.getElem?_eq_some_iff.1 h1).1
  have hi2 : i2 < 6 := by rw [← hl]; exact (List.getElem?_eq_some_iff.1 h2).1
  have HFT := Lib.hid hft
  have HL := Lib.hid hl
  have H2 := Lib.hid h2
  have hst0 := RSt.start h hw (K := 6) hl hB hg
  have hb0 := hst0.cell
  have hp0 := hst0.cells.part i1 1 (by omega)
  rw [one_at h1] at hp0
  have hs0 : w.heap.size + 1 ≤ (w.alloc (.cells #[.iface 97 (.pointer (some ⟨r, 0, none⟩))] 110)).heap.size := by simp
  have HD0 := Lib.hid hst0
  have HP0 := Lib.hid hp0
  clear h hw hft hl h1 h2 hst0 hp0
  go_enter Tryd.func126, Tryd.ntmps126
  go_wp2_with fail
  refine (rk_whole r B 0 _ L g (off + i1) HD0.out.rd HP0.out hB hg).mono ?_
  rintro e w1 (⟨t, L1, hp, rfl, hr1, hw1, hc1⟩ | ⟨er, hp, rfl, ho1⟩)
  · have hst1 := HD0.out.part (cs' := [.int .i64 t]) (o := i1) (n := 1) rfl (by omega) hr1 hw1 hc1
    rw [set_parts (by rw [HL.out]; exact hi1)] at hst1
    have hs1 : w.heap.size + 1 ≤ w1.heap.size := Nat.le_trans hs0 hw1.size
    have hd1 := hst1.drew
    have hb1 := hd1.cell
    have hcell : (cs.set i1 (.int .i64 t))[i2]? = some (.slice none 0 0) := by rw [List.getElem?_set_ne hne]; exact H2.out
    obtain ⟨hi2', hce⟩ := List.getElem?_eq_some_iff.1 hcell
    have hc1 := hd1.cells.cell (j := i2) hi2'
    rw [hce] at hc1
    have hf1 := hd1.cells.free (off + i2)
    have HD1 := Lib.hid hd1
    have HF1 := Lib.hid (hd1.ft HFT.out hfb)
    have HQ := Lib.hid hp
    have HIT := Lib.hid (rdNum_in hp)
    have HCE := Lib.hid hce
    have HI2 := Lib.hid hi2'
    clear hp hr1 hw1 hst1 hd1 hcell hce
    go_wp2_with fail
    go_region_law (first | (rw [if_pos (by rfl)]; go_simp; go_at_call 104; (with_reducible refine (rl_nums r B L1 8 _ (by omega) _ HD1.out.rd (by omega) HF1.out hfb).mono ?_); rintro e u (⟨Z, L2, va, vn, vc, hp, rfl, hr1, hn1, ho1⟩ | ⟨er, hp, rfl, ho1⟩); rotate_left; (exact ⟨rfl, .inr ⟨er, by simp only [rdTarget, PR.bind, HQ.out, hp], rfl, HD1.out.gives ho1⟩⟩); have hst := HD1.out.read hr1 ho1; have hwe := hst.cells; have hbe := hst.cell; have hce2 := hwe.cell (j := i2) HI2.out; rw [HCE.out] at hce2; have hfe := hwe.free (off + i2)))
    all_goals
      have hsu : w.heap.size + 1 ≤ u.heap.size := Nat.le_trans (show w.heap.size + 1 ≤ w1.drew.heap.size from hs1) ho1.size
      have hss := hst.set i2 hi2 (.slice va vn vc)
      have hk1 := hn1.keep (m := w.heap.size) (set_off r (g := g) (o := off + i2) (v := .slice va vn vc)) (by have : w1.drew.heap.size = w1.heap.size := rfl; omega) (by have : w1.drew.heap.size = w1.heap.size := rfl; omega) (by have : w1.drew.heap.size = w1.heap.size := rfl; omega)
      go_end0
      exact .inl ⟨t, Z, L2, va, vn, vc, by simp only [rdTarget, PR.bind, HQ.out, hp], rfl, hss.rd, hss.win, hss.cells, hk1, HIT.out⟩
  · have HR : RowKit.Hid (rdTarget L = .no er ∧ Off (fun i => i = r ∨ i = g) w w1) := Lib.hid ⟨by simp only [rdTarget, PR.bind, hp], HD0.out.gives' ho1⟩
    clear hp ho1
    go_wp2_with fail
    exact ⟨rfl, .inr ⟨er, HR.out.1, rfl, HR.out.2⟩⟩
end Go.Proofs.YtfnkmigcklmghaaDoor
