/- Layer 5, P5.1, P5.2: the statement CodeWrites, walked. -/
import Derived.Test.YtfnkmigcklmghaaDoorQCodeOw
import Derived.Test.YtfnkmigcklmghaaDoorQCodeVe
import Derived.Test.YtfnkmigcklmghaaDoorQT10
import Derived.Test.YtfnkmigcklmghaaDoorQT12

namespace Go.Proofs.YtfnkmigcklmghaaDoor
open Go.RowKit (wrap64 intOf Below)
set_option linter.unusedVariables false
set_option linter.unusedSimpArgs false

theorem sm_plain {P : ProgD} (h : SmProg P) : SmProg (plainProg P) := by
  refine ⟨h.1, h.2.1, by show (P.funcs.map plainFunc).length ≤ _; rw [List.length_map]; exact h.2.2.1, fun f hf => ?_⟩
  obtain ⟨f', hf', rfl⟩ := List.mem_map.1 (show f ∈ P.funcs.map plainFunc from hf)
  have hs := h.2.2.2 f' hf'
  refine ⟨by show (f'.blocks.map plainBlock).length ≤ _; rw [List.length_map]; exact hs.1, fun b hb => ?_⟩
  obtain ⟨b', hb', rfl⟩ := List.mem_map.1 (show b ∈ f'.blocks.map plainBlock from hb)
  show (b'.ops.map plainOp).length ≤ _
  rw [List.length_map]
  exact hs.2 b' hb'

set_option maxRecDepth 100000 in
set_option maxHeartbeats 4000000 in
theorem codewrites_walk (sa : Option Addr) (sn sc : Nat) (ca : Option Addr) (cn cc : Nat) (fa : Option Addr) (fn fc : Nat) (P : ProgD) (w : World) (hft : FT w)
    (hP : ProgQ w [.slice sa sn sc, .slice ca cn cc, .slice fa fn fc] P) :
    Calls Tryd.prog 3 #[.agg #[.slice sa sn sc, .slice ca cn cc, .slice fa fn fc]] w fun e w' => e = .returned (.bool true) ∧ Below w.heap.size w w' := by
  have hb0 : Below w.heap.size w (w.alloc (.cells #[.slice sa sn sc, .slice ca cn cc, .slice fa fn fc] 26)) := (Below.refl _ _).alloc (Nat.le_refl _) _
  have hblk := heap_alloc_new w (.cells #[.slice sa sn sc, .slice ca cn cc, .slice fa fn fc] 26)
  have HP := Lib.hid (ProgQ.lasts _ _ _ _ hb0 hP)
  have HFT := Lib.hid (hft.since hb0)
  have HB0 := Lib.hid hb0
  clear hP hft hb0
  go_enter Tryd.func3, Tryd.ntmps3
  go_wp2_with fail
  generalize hW : (w.alloc (.cells #[.slice sa sn sc, .slice ca cn cc, .slice fa fn fc] 26)) = W at hblk HP HB0 HFT ⊢
  clear hW
  have hc0 : W.cell? ⟨w.heap.size, 0, none⟩ = some (.slice sa sn sc) := by simp [World.cell?, hblk]
  have hc1 : W.cell? ⟨w.heap.size, 0 + 1, none⟩ = some (.slice ca cn cc) := by simp [World.cell?, hblk]
  have hc2 : W.cell? ⟨w.heap.size, 0 + 2, none⟩ = some (.slice fa fn fc) := by simp [World.cell?, hblk]
  have hlt : w.heap.size < W.heap.size := (Array.getElem?_eq_some_iff.1 hblk).1
  clear hblk
  refine (ref_small w.heap.size 0 sa sn sc ca cn cc fa fn fc P W hlt hc0 hc1 hc2 HP.out).mono ?_
  rintro e w1 ⟨b, rfl, hsm, hb1⟩
  have HF1 := Lib.hid (HFT.out.since hb1)
  have HB1 := Lib.hid (keepB HB0.out hb1)
  cases b
  · clear hsm
    clear hb1
    go_wp2_with fail
    refine (lives5 w1 HF1.out).mono ?_
    rintro e w2 ⟨rfl, hb⟩
    have HB2 := Lib.hid (keepB HB1.out hb)
    clear hb
    go_wp2_with fail
    go_ret
    exact ⟨rfl, HB2.out⟩
  · have hsm := hsm rfl
    have hd0 := (hb1.cell (p := ⟨w.heap.size, 0, none⟩) hlt).trans hc0
    have hd1 := (hb1.cell (p := ⟨w.heap.size, 0 + 1, none⟩) hlt).trans hc1
    have hd2 := (hb1.cell (p := ⟨w.heap.size, 0 + 2, none⟩) hlt).trans hc2
    have hlt1 : w.heap.size < w1.heap.size := Nat.lt_of_lt_of_le hlt hb1.size
    have HP1 := Lib.hid (ProgQ.lasts _ _ _ _ hb1 HP.out)
    have HRNG := Lib.hid HP1.out.rng
    have HSM := Lib.hid hsm
    clear hb1 hc0 hc1 hc2 hsm HP
    have HENC : RowKit.Hid (outBytes (encProg (plainProg (plainProg P))) = outBytes (encProg P)) := Lib.hid (by rw [encProg_plain, encProg_plain])
    have HLT1 := Lib.hid hlt1
    have HCL : RowKit.Hid (∀ {u : World}, Below w1.heap.size w1 u → w.heap.size < u.heap.size ∧ u.cell? ⟨w.heap.size, 0, none⟩ = some (.slice sa sn sc) ∧ u.cell? ⟨w.heap.size, 0 + 1, none⟩ = some (.slice ca cn cc) ∧ u.cell? ⟨w.heap.size, 0 + 2, none⟩ = some (.slice fa fn fc)) := Lib.hid fun hb => ⟨Nat.lt_of_lt_of_le hlt1 hb.size, (hb.cell (p := ⟨w.heap.size, 0, none⟩) hlt1).trans hd0, (hb.cell (p := ⟨w.heap.size, 0 + 1, none⟩) hlt1).trans hd1, (hb.cell (p := ⟨w.heap.size, 0 + 2, none⟩) hlt1).trans hd2⟩
    go_wp2_with fail
    refine (ref_own w.heap.size 0 sa sn sc ca cn cc fa fn fc P w1 hlt1 hd0 hd1 hd2 HP1.out HSM.out).mono ?_
    rintro e w2 ⟨g, s, c, f, rfl, hg, hwin, hpo, hb2⟩
    have HQ2 := Lib.hid (ProgO.reads _ _ _ _ hpo)
    have HB2 := Lib.hid (keepB HB1.out hb2)
    have HBX := Lib.hid hb2
    have HF2 := Lib.hid (HF1.out.since hb2)
    have HWIN := Lib.hid hwin
    clear hd0 hd1 hd2 hlt1 hb2 hwin hpo hg
    have hw0 := HWIN.out.cell (j := 0) (by simp)
    have hw1 := HWIN.out.cell (j := 1) (by simp)
    have hw2 := HWIN.out.cell (j := 2) (by simp)
    go_wp2_with fail
    refine (encode_any g 0 s c f (plainProg P) w2 HWIN.out.lt hw0 hw1 hw2 HQ2.out HF2.out (sm_plain HSM.out)).mono ?_
    rw [HENC.out]
    clear hw0 hw1 hw2
    rcases out_or (outBytes (encProg P)) with ⟨l, hl⟩ | ⟨er, hl⟩
    · intro e w3 he
      obtain ⟨va, vn, vc, rfl, hown, hb3⟩ := he.yes hl
      have HL := Lib.hid hl
      have HO3 := Lib.hid hown
      have HB3 := Lib.hid (keepB HB2.out hb3)
      have HF3 := Lib.hid (HF2.out.since hb3)
      have HBY := Lib.hid (keepB HBX.out hb3)
      clear he hown hb3 hl
      obtain ⟨hg3, he0, he1, he2⟩ := HCL.out HBY.out
      have HP3 := Lib.hid (ProgQ.lasts _ _ _ _ HBY.out HP1.out)
      go_wp2_with fail
      refine (ref_encode w.heap.size 0 sa sn sc ca cn cc fa fn fc P w3 hg3 he0 he1 he2 HP3.out).mono ?_
      intro e w4 he
      obtain ⟨ua, un, uc, rfl, hown2, hb4⟩ := he.yes HL.out
      have HB4 := Lib.hid (keepB HB3.out hb4)
      have HF4 := Lib.hid (HF3.out.since hb4)
      have ht1 := text_of (HO3.out.read.since hb4)
      have ht2 := text_of hown2.read
      obtain ⟨s', hs'⟩ : ∃ s, s = mk l := ⟨_, rfl⟩
      rw [← hs'] at ht1 ht2
      have hse : (s'.toList == s'.toList) = true := str_eq rfl
      clear he hown2 hb4 hs' he0 he1 he2 hg3
      go_wp2_with fail
      refine (lives5 w4 HF4.out).mono ?_
      rintro e w6 ⟨rfl, hb6⟩
      have HB6 := Lib.hid (keepB HB4.out hb6)
      clear hb6
      go_wp2_with fail
      go_ret
      exact ⟨rfl, HB6.out⟩
    · intro e w3 he
      obtain ⟨rfl, hb3⟩ := he.no hl
      have HL := Lib.hid hl
      have HB3 := Lib.hid (keepB HB2.out hb3)
      have HF3 := Lib.hid (HF2.out.since hb3)
      have HBY := Lib.hid (keepB HBX.out hb3)
      clear he hb3 hl
      obtain ⟨hg3, he0, he1, he2⟩ := HCL.out HBY.out
      have HP3 := Lib.hid (ProgQ.lasts _ _ _ _ HBY.out HP1.out)
      go_wp2_with fail
      refine (ref_encode w.heap.size 0 sa sn sc ca cn cc fa fn fc P w3 hg3 he0 he1 he2 HP3.out).mono ?_
      intro e w4 he
      obtain ⟨rfl, hb4⟩ := he.no HL.out
      have HB4 := Lib.hid (keepB HB3.out hb4)
      have HF4 := Lib.hid (HF3.out.since hb4)
      have ht1 := text_of (BytesAt.nil w4)
      obtain ⟨s', hs'⟩ : ∃ s, s = mk [] := ⟨_, rfl⟩
      rw [← hs'] at ht1
      have hse : (s'.toList == s'.toList) = true := str_eq rfl
      have hee : (er == er) = true := by simp
      clear he hb4 hs' he0 he1 he2 hg3
      go_wp2_with fail
      refine (lives5 w4 HF4.out).mono ?_
      rintro e w6 ⟨rfl, hb6⟩
      have HB6 := Lib.hid (keepB HB4.out hb6)
      clear hb6
      go_wp2_with fail
      go_ret
      exact ⟨rfl, HB6.out⟩
end Go.Proofs.YtfnkmigcklmghaaDoor
