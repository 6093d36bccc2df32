/- Layer 13: the law UsesFirst: the first block of a well made function needs nothing ahead of it. -/
import Derived.Test.YtdchhfdmingnaaaDoorFT4
import Derived.Test.YtdchhfdmingnaaaDoorFT5
import Derived.Test.YtdchhfdmingnaaaDoorFT8
import Derived.Test.YtdchhfdmingnaaaDoorFWellDg

namespace Go.Proofs.YtdchhfdmingnaaaDoor
open Go.RowKit (wrap64 intOf Below)
set_option linter.unusedVariables false
set_option linter.unusedSimpArgs false
theorem ulawF_box (w : World) (v0 v1 v2 : Value) {W : World} (hW : w.alloc (.cells #[v0, v1, v2] 26) = W) : Below w.heap.size w W ∧ w.heap.size < W.heap.size ∧ W.cell? ⟨w.heap.size, 0, none⟩ = some v0 ∧ W.cell? ⟨w.heap.size, 1, none⟩ = some v1 ∧ W.cell? ⟨w.heap.size, 2, none⟩ = some v2 := by
  rw [← hW]
  exact ⟨(Below.refl _ w).alloc (Nat.le_refl _) _, by simp, World.cell?_alloc_mark _ _ _ _ _, World.cell?_alloc_mark _ _ _ _ _, World.cell?_alloc_mark _ _ _ _ _⟩
theorem rowsF_read {B bx g n : Nat} {W : World} {vs : List Value} {Zs : List (List Int)} (h : SetU B bx g n W vs Zs) {i : Nat} (hi : i < n) (hz : i < Zs.length) : ∃ a k c, k = (Zs[i]).length ∧ W.cell? ⟨g, i, none⟩ = some (.slice a k c) := by
  have hl := h.len
  have c0 := h.row.cell (i := i) (by omega)
  obtain ⟨a, k, c, h0, r0⟩ := (h.row.own i (by omega) hz).nums
  rw [h0] at c0
  exact ⟨a, k, c, r0.1.symm, c0⟩
theorem check_fun {P : ProgD} (h : checkD P = 0) {F : FuncD} (hF : F ∈ P.funcs) : funD P F = true := by
  have hr : rulesD P = true := by
    unfold checkD at h
    split at h
    · rename_i e he
      exact absurd h (out_nz P e he)
    · split at h
      · split at h
        · assumption
        · cases h
      · cases h
  unfold rulesD at hr
  simp only [and_iff, allK_iff] at hr
  obtain ⟨i, hi, rfl⟩ := List.getElem_of_mem hF
  have := hr.1.2 i hi
  rwa [dfuncOf_at hi] at this
set_option maxRecDepth 100000 in
set_option maxHeartbeats 8000000 in
theorem usesfirst_walk (sa : Option Addr) (sn sc : Nat) (ca : Option Addr) (cn cc : Nat) (fa : Option Addr) (fn fc : Nat) (P : ProgD) (nn : Nat) (hnn : nn ≤ 255) (w : World) (hft : FT w)
    (hP : ProgQ w [.slice sa sn sc, .slice ca cn cc, .slice fa fn fc] P) (hcap : RowV UFuncC 2 w (.slice fa fn fc) P.funcs) :
    Calls Tryd.prog 6 #[.agg #[.slice sa sn sc, .slice ca cn cc, .slice fa fn fc], .int .u8 (nn : Int)] w fun e w' => e = .returned (.bool true) ∧ Below w.heap.size w w' := by
  obtain ⟨W, hW⟩ : ∃ U, w.alloc (.cells #[.slice sa sn sc, .slice ca cn cc, .slice fa fn fc] 26) = U := ⟨_, rfl⟩
  obtain ⟨hb0, hs0, hc0, hc1, hc2⟩ := ulawF_box w _ _ _ hW
  have HFT := Lib.hid (hft.since hb0)
  have HB0 := Lib.hid hb0
  have hP1 := ProgQ.lasts _ _ _ _ hb0 hP
  have hcap1 : RowV UFuncC 2 W (.slice fa fn fc) P.funcs := hcap.since (fun W W' cs x hb h => ⟨FuncQ.lasts _ _ _ _ hb h.1, h.2⟩) hb0
  have CF := Lib.hid (ulfun_any w.heap.size nn hnn W hc0 hc1 hc2 hP1 hcap1)
  have HPA : RowKit.Hid (ProgAt W w.heap.size sa sn sc ca cn cc fa fn fc P) := Lib.hid (prog_at hc0 hc1 hc2 hP1)
  have CLI : RowKit.Hid (∀ u, Below W.heap.size W u → Calls Tryd.prog 8 #[] u fun e w' => e = .returned (.bool true) ∧ Below W.heap.size W w') := Lib.hid fun u hu => (ulives_any u (HFT.out.since hu)).mono fun e w' h => ⟨h.1, hu.trans (h.2.mono hu.size)⟩
  clear hP hft hb0 hs0 hc0 hc1 hc2 hcap hcap1 hP1
  go_enter Tryd.func6, Tryd.ntmps6
  go_upto_region 2 with fail
  try rw [hW]
  clear hW
  go_wp2_with fail
  refine CF.out.mono ?_
  rintro e w2 ⟨rfl | ⟨F, ba, m, bc, hmem, hpp, rfl, hfq, hmb, hb8⟩, hb2⟩
  · have HB2 := Lib.hid hb2
    clear hb2
    go_wp2_with (go_at_call 8; (with_reducible refine (CLI.out _ (HB2.out.alloc HB2.out.size _)).mono ?_); rintro e w3 ⟨rfl, hb⟩; have HB3 := Lib.hid hb; clear hb)
    go_ret
    exact ⟨rfl, HB0.out.trans (HB3.out.mono HB0.out.size)⟩
  · obtain ⟨rt, hrt⟩ : ∃ t, t = F.ret := ⟨_, rfl⟩
    rw [← hrt] at hfq ⊢
    obtain ⟨Y, hY⟩ : ∃ U, w2.alloc (.cells #[.int .i64 rt, .slice ba m bc] 30) = U := ⟨_, rfl⟩
    have hbY : Below w2.heap.size w2 Y := by rw [← hY]; exact (Below.refl _ w2).alloc (Nat.le_refl _) _
    have hcY : ∀ j, Y.cell? ⟨w2.heap.size, j, none⟩ = (#[.int .i64 rt, .slice ba m bc] : Array Value)[j]? := fun j => by rw [← hY]; exact World.cell?_alloc_mark _ _ _ _ _
    have hpY : w2.heap.size < Y.heap.size := by rw [← hY]; simp
    have HBY : RowKit.Hid (Below W.heap.size W Y) := Lib.hid (hb2.trans (hbY.mono hb2.size))
    have HFQ : RowKit.Hid (FuncQ Y [.int .i64 rt, .slice ba m bc] F) := Lib.hid (FuncQ.lasts _ _ _ _ hbY hfq)
    have hsu := smU_of (by omega) hpp hmem
    have HSM := Lib.hid hsu.1
    have HN := Lib.hid hsu.2
    have HML : RowKit.Hid (m = F.blocks.length) := Lib.hid (by obtain ⟨_, he, _, _, _, _, e, h, _⟩ := hfq; simp only [List.cons.injEq, and_true] at he; obtain ⟨_, rfl⟩ := he; cases e; exact h.symm)
    have hm5 : m ≤ 100000 := by have := hsu.1.blocks; rw [HML.out]; exact this
    have HMEM := Lib.hid hmem
    have CCK : RowKit.Hid (∀ u, Below W.heap.size W u → Calls Tryd.prog 22 #[.pointer (some ⟨w.heap.size, 0, none⟩)] u fun e w' => e = .returned (.int .i64 (checkD P)) ∧ Below u.heap.size u w') := Lib.hid fun u hu => dcheck_any w.heap.size u (HPA.out.since hu) (parts_sized (by omega))
    have HYC : RowKit.Hid (∀ U, Below Y.heap.size Y U → U.cell? ⟨w2.heap.size, 0, none⟩ = some (.int .i64 rt) ∧ U.cell? ⟨w2.heap.size, 1, none⟩ = some (.slice ba m bc)) := Lib.hid fun U hU => ⟨(hU.cell (p := ⟨w2.heap.size, 0, none⟩) hpY).trans (hcY 0), (hU.cell (p := ⟨w2.heap.size, 1, none⟩) hpY).trans (hcY 1)⟩
    have CN : RowKit.Hid (∀ u, Below Y.heap.size Y u → Calls Tryd.prog 14 #[.agg #[.int .i64 rt, .slice ba m bc]] u (RowsPost m ((List.range m).map (neededU F)) u)) := Lib.hid fun u hu => needed_any rt ba m bc F u (FuncQ.lasts _ _ _ _ hu HFQ.out) (HFT.out.since (HBY.out.trans (hu.mono HBY.out.size))) HSM.out HN.out
    have CLY : RowKit.Hid (∀ u, Below Y.heap.size Y u → Calls Tryd.prog 8 #[] u fun e w' => e = .returned (.bool true) ∧ Below Y.heap.size Y w') := Lib.hid fun u hu => (ulives_any u (HFT.out.since (HBY.out.trans (hu.mono HBY.out.size)))).mono fun e w' h => ⟨h.1, hu.trans (h.2.mono hu.size)⟩
    have HFU : RowKit.Hid (checkD P = 0 → funD P F = true) := Lib.hid fun h => check_fun h hmem
    clear hb2 hbY hcY hpY hfq hmem hrt hsu hpp hb8 CF CLI
    go_upto_region 3 with fail
    try rw [hY]
    clear hY
    by_cases hck : checkD P = 0
    rotate_left
    · have hnz : (checkD P != 0) = true := by rw [bne_iff_ne]; exact hck
      obtain ⟨ck, hcke⟩ : ∃ c, c = checkD P := ⟨_, rfl⟩
      rw [← hcke] at hnz CCK
      clear hck hcke HFU
      go_wp2_with (first
        | (go_at_call 22; (with_reducible refine (CCK.out _ HBY.out).mono ?_); rintro e w3 ⟨rfl, hb⟩; have HB3 : RowKit.Hid (Below Y.heap.size Y w3) := Lib.hid hb; clear hb)
        | (go_at_call 8; (with_reducible refine (CLY.out _ HB3.out).mono ?_); rintro e w7 ⟨rfl, hb⟩; have HB7 := Lib.hid hb; clear hb))
      go_ret
      exact ⟨rfl, HB0.out.trans ((HBY.out.trans (HB7.out.mono HBY.out.size)).mono HB0.out.size)⟩
    · have HFN : RowKit.Hid (funD P F = true) := Lib.hid (HFU.out hck)
      rw [hck] at CCK
      have hm0 : 0 < m := by
        have h := HFN.out
        unfold funD at h
        simp only [and_iff, decide_eq_true_iff] at h
        have h1 := h.1.1.1
        have h2 := HML.out
        omega
      have hmz : (0 : Int) < (m : Int) := by omega
      clear hck HFU
      go_upto_region 5 with (go_at_call 22; (with_reducible refine (CCK.out _ HBY.out).mono ?_); rintro e w3 ⟨rfl, hb⟩; have HB3 : RowKit.Hid (Below Y.heap.size Y w3) := Lib.hid hb; clear hb)
      obtain ⟨f0, f1⟩ := HYC.out w3 HB3.out
      go_upto_region 6 with (go_at_call 14; (with_reducible refine (CN.out _ HB3.out).mono ?_); rintro e w4 ⟨q1, x1, g1, vs1, rfl, h1, hb⟩; have HB4 : RowKit.Hid (Below Y.heap.size Y w4) := Lib.hid (HB3.out.trans (hb.mono HB3.out.size)); have HT1 := Lib.hid h1; clear h1 hb)
      clear f0 f1
      obtain ⟨a1, k1, c1, hk1, t0⟩ := rowsF_read HT1.out hm0 (by simpa using hm0)
      simp only [List.getElem_map, List.getElem_range, needed_first HFN.out, List.length_nil] at hk1
      subst hk1
      go_wp2_with (go_at_call 8; (with_reducible refine (CLY.out _ HB4.out).mono ?_); rintro e w7 ⟨rfl, hb⟩; have HB7 := Lib.hid hb; clear hb)
      go_ret
      exact ⟨by rfl, HB0.out.trans ((HBY.out.trans (HB7.out.mono HBY.out.size)).mono HB0.out.size)⟩
end Go.Proofs.YtdchhfdmingnaaaDoor
