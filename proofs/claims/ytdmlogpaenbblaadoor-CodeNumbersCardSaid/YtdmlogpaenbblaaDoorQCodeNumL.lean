/- Layer 5, P5.3: the statement CodeNumbers, walked. -/
import Derived.Test.YtdmlogpaenbblaaDoorQT12
import Derived.Deep.RegionLaw
import Derived.Deep.RegionHeld3
import Derived.Deep.DeepCutAuto
namespace Go.Proofs.YtdmlogpaenbblaaDoor
open Go.RowKit (wrap64 intOf Below)
set_option linter.unusedVariables false
set_option linter.unusedSimpArgs false

def noFunc : FuncD := ⟨0, []⟩
theorem noFunc_q (w : World) : FuncQ w [.int .i64 0, .slice none 0 0] noFunc :=
  ⟨_, rfl, ⟨by decide, by decide⟩, none, 0, 0, rfl, rfl, fun _ => rfl, by decide, fun h => absurd h (by omega)⟩
theorem noFunc_vals : valuesOf noFunc = 0 := by decide +kernel
theorem FuncQ.form2 {W : World} {cs : List Value} {x : FuncD} (h : FuncQ W cs x) : ∃ r ba bn bc, cs = [.int .i64 r, .slice ba bn bc] := by
  obtain ⟨_, e, _, ⟨a, n, c, rfl, _⟩⟩ := h
  exact ⟨_, _, _, _, e⟩
set_option maxRecDepth 100000 in
set_option maxHeartbeats 4000000 in
theorem codenumbers_walk (sa : Option Addr) (sn sc : Nat) (ca : Option Addr) (cn cc : Nat) (fa : Option Addr) (fn fc : Nat) (P : ProgD) (u : Int) (block : Int) (w : World) (hft : FT w)
    (hP : ProgQ w [.slice sa sn sc, .slice ca cn cc, .slice fa fn fc] P) (hu : 0 ≤ u ∧ u ≤ 255) (hbl : -9223372036854775808 ≤ block ∧ block ≤ 9223372036854775807) :
    Calls Tryd.prog 8 #[.agg #[.slice sa sn sc, .slice ca cn cc, .slice fa fn fc], .int .u8 u, .int .i64 block] w fun e w' => e = .returned (.bool true) ∧ Below w.heap.size w w' := by
  have hb0 : Below w.heap.size w (w.alloc (.cells #[.slice sa sn sc, .slice ca cn cc, .slice fa fn fc] 26)) := (Below.refl _ _).alloc (Nat.le_refl _) _
  have hblk := heap_alloc_new w (.cells #[.slice sa sn sc, .slice ca cn cc, .slice fa fn fc] 26)
  obtain ⟨_, _, _, he, _, _, hF⟩ := hP
  simp only [List.cons.injEq, and_true] at he
  obtain ⟨rfl, rfl, rfl⟩ := he
  have hm := (rowV_len' hF).2
  have HF := Lib.hid (hF.since FuncQ.lasts hb0)
  have HFT := Lib.hid (hft.since hb0)
  have HB0 := Lib.hid hb0
  clear hF hft hb0
  go_enter Tryd.func8, Tryd.ntmps8
  go_wp2_with fail
  · have hz : ((fn : Int) == 0) = true := by assumption
    generalize hW : (w.alloc (.cells #[.slice sa sn sc, .slice ca cn cc, .slice fa fn fc] 26)) = W at hblk HF HB0 HFT ⊢
    clear hW
    have hc2 : W.cell? ⟨w.heap.size, 2, none⟩ = some (.slice fa fn fc) := by simp [World.cell?, hblk]
    have hlt0 : w.heap.size < W.heap.size := (Array.getElem?_eq_some_iff.1 hblk).1
    clear hblk
    refine (code_values 0 none 0 0 noFunc W (noFunc_q W)).mono ?_
    rintro e w1 ⟨rfl, hb⟩
    rw [noFunc_vals]
    have HB1 := Lib.hid (HB0.out.trans (hb.mono HB0.out.size))
    have HF1 := Lib.hid (HFT.out.since hb)
    clear hb
    go_wp2_with fail
    refine (lives5 w1 HF1.out).mono ?_
    rintro e w2 ⟨rfl, hb⟩
    have HB2 := Lib.hid (HB1.out.trans (hb.mono HB1.out.size))
    clear hb
    go_wp2_with fail
    go_ret
    exact ⟨rfl, HB2.out⟩
  · have hz : ((fn : Int) == 0) = false := by assumption
    have h0 : fn ≠ 0 := by simpa using hz
    generalize hW : (w.alloc (.cells #[.slice sa sn sc, .slice ca cn cc, .slice fa fn fc] 26)) = W at hblk HF HB0 HFT ⊢
    clear hW
    have hc2 : W.cell? ⟨w.heap.size, 2, none⟩ = some (.slice fa fn fc) := by simp [World.cell?, hblk]
    have hlt0 : w.heap.size < W.heap.size := (Array.getElem?_eq_some_iff.1 hblk).1
    clear hblk
    obtain ⟨g1, o1, rfl, hg1, hcs1⟩ := rowV_at HF.out (by omega)
    have hfl : P.funcs.length = fn := (rowV_len' HF.out).1
    obtain ⟨k, hk⟩ : ∃ k : Nat, k = u.toNat % fn := ⟨_, rfl⟩
    have hkn : k < fn := by rw [hk]; exact Nat.mod_lt _ (by omega)
    have hmod : (IntKind.i64.wrap u).tmod (fn : Int) = (k : Int) := by
      rw [show IntKind.i64.wrap u = ((u.toNat : Nat) : Int) by rw [show u = ((u.toNat : Nat) : Int) by omega]; exact wrap_small _ (by omega) (by omega), hk]
      rfl
    clear hk
    obtain ⟨cs1, hc21, hcell1, hq1⟩ := hcs1 k (by omega)
    obtain ⟨X, hX⟩ : ∃ X, X = P.funcs[k] := ⟨_, rfl⟩
    rw [← hX] at hq1
    obtain ⟨r, ba, bn, bc, rfl⟩ := hq1.form2
    have hd0 := hcell1 0 (by simp)
    have hd1 := hcell1 1 (by simp)
    simp only [Nat.add_zero, List.getElem_cons_zero, List.getElem_cons_succ] at hd0 hd1
    have HQ := Lib.hid hq1
    clear hcell1 hcs1 hq1 hX hfl
    go_wp2_with fail
    go_region_held3 (fun u => u.cell? ⟨w.heap.size, 2, none⟩ = some (.slice (some ⟨g1, o1, none⟩) fn fc) ∧ u.cell? ⟨g1, o1 + k * 2, none⟩ = some (.int .i64 r) ∧ u.cell? ⟨g1, o1 + k * 2 + 1, none⟩ = some (.slice ba bn bc)) (first | (with_reducible exact ⟨hc2, hd0, hd1⟩) | go_keep) (fail)
    have hb1 : Below W.heap.size W ((W.alloc (.cells #[.int .i64 r, .slice ba bn bc] 44)).drew) := ((Below.refl _ _).alloc (Nat.le_refl _) _).drew
    have hblk1 : ((W.alloc (.cells #[.int .i64 r, .slice ba bn bc] 44)).drew).heap[W.heap.size]? = _ := heap_alloc_new W (.cells #[.int .i64 r, .slice ba bn bc] 44)
    generalize ((W.alloc (.cells #[.int .i64 r, .slice ba bn bc] 44)).drew) = W2 at hb1 hblk1 ⊢
    have hq2 := FuncQ.lasts _ _ _ _ hb1 HQ.out
    have hf2 := HFT.out.since hb1
    have hB2 := HB0.out.trans (hb1.mono HB0.out.size)
    have hd0 : W2.cell? ⟨W.heap.size, 0, none⟩ = some (.int .i64 r) := by simp [World.cell?, hblk1]
    have hd1 : W2.cell? ⟨W.heap.size, 1, none⟩ = some (.slice ba bn bc) := by simp [World.cell?, hblk1]
    have hlt2 : W.heap.size < W2.heap.size := (Array.getElem?_eq_some_iff.1 hblk1).1
    have HQ2 : RowKit.Hid (FuncQ W2.drew [.int .i64 r, .slice ba bn bc] X) := Lib.hid (FuncQ.lasts _ _ _ _ ((Below.refl W2.heap.size W2).drew) hq2)
    have HFT2 : RowKit.Hid (FT W2.drew) := Lib.hid hf2
    have HB2 : RowKit.Hid (Below w.heap.size w W2.drew) := Lib.hid hB2.drew
    have hd02 : W2.drew.cell? ⟨W.heap.size, 0, none⟩ = some (.int .i64 r) := hd0
    have hd12 : W2.drew.cell? ⟨W.heap.size, 1, none⟩ = some (.slice ba bn bc) := hd1
    have hlt2' : W.heap.size < W2.drew.heap.size := hlt2
    clear hq2 hf2 hB2 hblk1 hb1 HQ HFT hc2 HF hm hmod hlt2 HB0 hlt0 hg1 hkn
    have hlt2 := hlt2'
    clear hlt2'
    go_wp2_with fail
    go_region_law (first
      | (rw [if_pos (by rfl)]; go_simp; go_at_call 23; (with_reducible refine (code_values r ba bn bc X _ HQ2.out).mono ?_); rintro e w3 ⟨rfl, hb3⟩; have HQ3 := Lib.hid (FuncQ.lasts _ _ _ _ hb3 HQ2.out); have HFT3 := Lib.hid (HFT2.out.since hb3); have HB3 := Lib.hid (HB2.out.trans (hb3.mono HB2.out.size)); have hlt3 : W.heap.size < w3.heap.size := Nat.lt_of_lt_of_le hlt2 hb3.size; have hd03 := (hb3.cell (p := ⟨W.heap.size, 0, none⟩) hlt2).trans hd02; have hd13 := (hb3.cell (p := ⟨W.heap.size, 1, none⟩) hlt2).trans hd12; clear hb3)
      | (rw [if_pos (by rfl)]; go_simp; go_at_call 24; (with_reducible refine (ref_values r ba bn bc X _ HQ3.out).mono ?_); rintro e w4 ⟨rfl, hb4⟩; have HQ4 := Lib.hid (FuncQ.lasts _ _ _ _ hb4 HQ3.out); have HFT4 := Lib.hid (HFT3.out.since hb4); have HB4 := Lib.hid (HB3.out.trans (hb4.mono HB3.out.size)); have hlt4 : W.heap.size < w4.heap.size := Nat.lt_of_lt_of_le hlt3 hb4.size; have hd04 := (hb4.cell (p := ⟨W.heap.size, 0, none⟩) hlt3).trans hd03; have hd14 := (hb4.cell (p := ⟨W.heap.size, 1, none⟩) hlt3).trans hd13; clear hb4)
      | (rw [if_pos (by rfl)]; go_simp; go_at_call 25; (with_reducible refine (code_first r ba bn bc block X _ HQ4.out).mono ?_); rintro e w5 ⟨rfl, hb5⟩; have HQ5 := Lib.hid (FuncQ.lasts _ _ _ _ hb5 HQ4.out); have HFT5 := Lib.hid (HFT4.out.since hb5); have HB5 := Lib.hid (HB4.out.trans (hb5.mono HB4.out.size)); have hlt5 : W.heap.size < w5.heap.size := Nat.lt_of_lt_of_le hlt4 hb5.size; have hd05 := (hb5.cell (p := ⟨W.heap.size, 0, none⟩) hlt4).trans hd04; have hd15 := (hb5.cell (p := ⟨W.heap.size, 1, none⟩) hlt4).trans hd14; clear hb5)
      | (rw [if_pos (by rfl)]; go_simp; go_at_call 26; (with_reducible refine (ref_first r ba bn bc block X _ HQ5.out).mono ?_); rintro e w6 ⟨rfl, hb6⟩; have HQ6 := Lib.hid (FuncQ.lasts _ _ _ _ hb6 HQ5.out); have HFT6 := Lib.hid (HFT5.out.since hb6); have HB6 := Lib.hid (HB5.out.trans (hb6.mono HB5.out.size)); have hlt6 : W.heap.size < w6.heap.size := Nat.lt_of_lt_of_le hlt5 hb6.size; have hd06 := (hb6.cell (p := ⟨W.heap.size, 0, none⟩) hlt5).trans hd05; have hd16 := (hb6.cell (p := ⟨W.heap.size, 1, none⟩) hlt5).trans hd15; clear hb6)
      | (rw [if_pos (by rfl)]; go_simp; go_at_call 14; (with_reducible refine (lives5 _ HFT6.out).mono ?_); rintro e w7 ⟨rfl, hb7⟩; have HB7 := Lib.hid (HB6.out.trans (hb7.mono HB6.out.size)); have hlt7 : W.heap.size < w7.heap.size := Nat.lt_of_lt_of_le hlt6 hb7.size; clear hb7))
    all_goals
      go_wp2_with fail
      go_ret
      exact ⟨rfl, HB7.out⟩
end Go.Proofs.YtdmlogpaenbblaaDoor
