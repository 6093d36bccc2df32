/- Layer 5, P5.3: the statement CodeCopies, walked. -/
import Derived.Test.YtdmlogpaenbblaaDoorQCodePk
import Derived.Test.YtdmlogpaenbblaaDoorQT11
import Derived.Test.YtdmlogpaenbblaaDoorQT12

namespace Go.Proofs.YtdmlogpaenbblaaDoor
open Go.RowKit (wrap64 intOf Below)
set_option linter.unusedVariables false
set_option linter.unusedSimpArgs false

/-- Where the first block of the first function lies. -/
theorem ProgO.first {w : World} {S : Nat → Prop} {s c f : Value} {P : ProgD} (h : ProgO w S [s, c, f] P) {F : FuncD} {Fs : List FuncD} {B : BlockD} {Bs : List BlockD} (hF : P.funcs = F :: Fs) (hB : F.blocks = B :: Bs) :
    ∃ (fg fn fc g bn bc : Nat) (cur : Array Value), f = .slice (some ⟨fg, 0, none⟩) fn fc ∧ 0 < fn ∧ fn ≤ 140737488351232 ∧ w.cell? ⟨fg, 0, none⟩ = some (.int .i64 F.ret) ∧ w.cell? ⟨fg, 1, none⟩ = some (.slice (some ⟨g, 0, none⟩) bn bc) ∧ 0 < bn ∧ bn ≤ 140737488351232 ∧ w.heap[g]? = some (.cells cur 50 (0, 0)) ∧ S g ∧ fg < w.heap.size ∧ g < w.heap.size := by
  obtain ⟨s', c', f', he, _, _, css, k1, k2, k3, k4, k5, k6⟩ := h
  simp only [List.cons.injEq, and_true] at he
  obtain ⟨rfl, rfl, rfl⟩ := he
  rw [hF] at k1 k2 k5 k6
  rcases k1.2 with ⟨_, h0⟩ | ⟨fg, fc, fcur, rfl, _, hfh, _⟩
  · simp at h0
  have hc : 0 < css.length := by rw [k2]; simp
  have hw := ownsRow_win k1 k3 (g := fg) rfl hc
  have hq := k6 0 (by simp) hc
  obtain ⟨v, e, _, bss, b1, b2, b3, b4, b5, b6⟩ := hq
  simp only [List.getElem_cons_zero] at b1 b2 b5 b6 e
  rw [hB] at b1 b2 b5
  rcases b1.2 with ⟨_, h0⟩ | ⟨g, bc, bcur, rfl, _, hbh, _⟩
  · simp at h0
  have e0 := hw.cell (j := 0) (by rw [e]; simp)
  have e1 := hw.cell (j := 1) (by rw [e]; simp)
  simp only [e, Nat.zero_mul, Nat.zero_add, List.getElem_cons_zero, List.getElem_cons_succ] at e0 e1
  exact ⟨fg, _, fc, g, _, bc, bcur, rfl, by simp, k5, e0, e1, by simp, b5, hbh, (b4 g rfl).1, (Array.getElem?_eq_some_iff.1 hfh).1, (Array.getElem?_eq_some_iff.1 hbh).1⟩
theorem plainEnd_K (e : EndD) : (plainEnd e).K = e.K := by
  unfold plainEnd
  repeat' split
  all_goals rfl
/-- A program that is the poked one, but for what plays no part, has that kind there itself. -/
theorem poked_same {P P' : ProgD} {z : Int} (hP' : ∀ F Fs b bs, P'.funcs = F :: Fs → F.blocks = b :: bs → b.fin.K = z) {F : FuncD} {Fs : List FuncD} {B : BlockD} {Bs : List BlockD} (hF : P.funcs = F :: Fs) (hB : F.blocks = B :: Bs) (h : plainProg P = plainProg P') : B.fin.K = z := by
  have h1 : P.funcs.map plainFunc = P'.funcs.map plainFunc := by have e := congrArg ProgD.funcs h; exact e
  rw [hF] at h1
  match hq : P'.funcs with
  | [] => rw [hq] at h1; simp at h1
  | F' :: Fs' =>
    rw [hq] at h1
    simp only [List.map_cons, List.cons.injEq] at h1
    have h2 : F.blocks.map plainBlock = F'.blocks.map plainBlock := by have e := congrArg FuncD.blocks h1.1; exact e
    rw [hB] at h2
    match hr : F'.blocks with
    | [] => rw [hr] at h2; simp at h2
    | B' :: Bs' =>
      rw [hr] at h2
      simp only [List.map_cons, List.cons.injEq] at h2
      have h3 : plainEnd B.fin = plainEnd B'.fin := by have e := congrArg BlockD.fin h2.1; exact e
      have h4 := congrArg EndD.K h3
      rw [plainEnd_K, plainEnd_K] at h4
      rw [h4]
      exact hP' F' Fs' B' Bs' hq hr
theorem prog_since {w u : World} {cs : List Value} {P : ProgD} (h : ProgQ w cs P) (hb : Below w.heap.size w u) : ProgQ u cs P := ProgQ.lasts _ _ _ _ hb h
set_option maxRecDepth 100000 in
set_option maxHeartbeats 4000000 in
theorem codecopies_walk (sa : Option Addr) (sn sc : Nat) (ca : Option Addr) (cn cc : Nat) (fa : Option Addr) (fn fc : Nat) (P : ProgD) (sb : Option Addr) (sm sd : Nat) (cb : Option Addr) (cm cd : Nat) (fb : Option Addr) (fm fd : Nat) (Q : ProgD) (w : World) (hft : FT w)
    (hP : ProgQ w [.slice sa sn sc, .slice ca cn cc, .slice fa fn fc] P) (hQ : ProgQ w [.slice sb sm sd, .slice cb cm cd, .slice fb fm fd] Q) :
    Calls Tryd.prog 7 #[.agg #[.slice sa sn sc, .slice ca cn cc, .slice fa fn fc], .agg #[.slice sb sm sd, .slice cb cm cd, .slice fb fm fd]] w fun e w' => e = .returned (.bool true) ∧ Below w.heap.size w w' := by
  have hl0 := Laid2B.start w 26 #[.slice sa sn sc, .slice ca cn cc, .slice fa fn fc] #[.slice sb sm sd, .slice cb cm cd, .slice fb fm fd]
  have HP := Lib.hid (ProgQ.lasts _ _ _ _ hl0.bel hP)
  have HQ := Lib.hid (ProgQ.lasts _ _ _ _ hl0.bel hQ)
  have HFT := Lib.hid (hft.since hl0.bel)
  clear hP hQ hft
  go_enter Tryd.func7, Tryd.ntmps7
  go_upto_region 2 with fail
  generalize hW : ((w.alloc (.cells #[.slice sa sn sc, .slice ca cn cc, .slice fa fn fc] 26)).alloc (.cells #[.slice sb sm sd, .slice cb cm cd, .slice fb fm fd] 26)) = W at hl0 HP HQ HFT ⊢
  clear hW
  have HL0 := Lib.hid hl0
  clear hl0
  have HG1 : RowKit.Hid (w.heap.size < W.heap.size) := Lib.hid (by have := HL0.out.size; omega)
  have HG2 : RowKit.Hid (w.heap.size + 1 < W.heap.size) := Lib.hid (by have := HL0.out.size; omega)
  have CSM1 : RowKit.Hid (Calls Tryd.prog 13 #[.pointer (some ⟨w.heap.size, 0, none⟩), .int .i64 4000] W (SmallPost P W)) := Lib.hid (ref_small w.heap.size 0 sa sn sc ca cn cc fa fn fc P W HG1.out (HL0.out.c0 0) (HL0.out.c0 1) (HL0.out.c0 2) HP.out)
  have CSM2 : RowKit.Hid (∀ u, Below W.heap.size W u → Calls Tryd.prog 13 #[.pointer (some ⟨w.heap.size + 1, 0, none⟩), .int .i64 4000] u (SmallPost Q u)) := Lib.hid fun u hb => ref_small (w.heap.size + 1) 0 sb sm sd cb cm cd fb fm fd Q u (Nat.lt_of_lt_of_le HG2.out hb.size) ((hb.cell (p := ⟨w.heap.size + 1, 0, none⟩) HG2.out).trans (HL0.out.c1 0)) ((hb.cell (p := ⟨w.heap.size + 1, 1, none⟩) HG2.out).trans (HL0.out.c1 1)) ((hb.cell (p := ⟨w.heap.size + 1, 2, none⟩) HG2.out).trans (HL0.out.c1 2)) (ProgQ.lasts _ _ _ _ hb HQ.out)
  go_wp2_with ((go_at_call 13; (with_reducible refine CSM1.out.mono ?_); rintro e w1 ⟨b1, rfl, hsm, hb1⟩; have HS1 := Lib.hid hsm; have HB1 := Lib.hid hb1; clear hsm hb1; cases b1))
  · have HF1 := Lib.hid (HFT.out.since HB1.out)
    have HBW := Lib.hid (keepB HL0.out.bel HB1.out)
    refine (lives5 w1 HF1.out).mono ?_
    rintro e wz ⟨rfl, hbz⟩
    have HBZ := Lib.hid (keepB HBW.out hbz)
    clear hbz
    go_wp2_with fail
    go_ret
    exact ⟨rfl, HBZ.out⟩
  refine (CSM2.out w1 HB1.out).mono ?_
  rintro e w2 ⟨b2, rfl, hsm2, hb2⟩
  have HB2 := Lib.hid (keepB HB1.out hb2)
  have HF2 := Lib.hid (HFT.out.since HB2.out)
  have HBW := Lib.hid (keepB HL0.out.bel HB2.out)
  clear hb2 hsm2
  cases b2
  · go_wp2_with fail
    refine (lives5 w2 HF2.out).mono ?_
    rintro e wz ⟨rfl, hbz⟩
    have HBZ := Lib.hid (keepB HBW.out hbz)
    clear hbz
    go_wp2_with fail
    go_ret
    exact ⟨rfl, HBZ.out⟩
  have HSM := Lib.hid (HS1.out (by first | rfl | trivial))
  have HP2 := Lib.hid (ProgQ.lasts _ _ _ _ HB2.out HP.out)
  have HQ2 := Lib.hid (ProgQ.lasts _ _ _ _ HB2.out HQ.out)
  have HC : RowKit.Hid ((w2.cell? ⟨w.heap.size, 0, none⟩ = some (.slice sa sn sc) ∧ w2.cell? ⟨w.heap.size, 0 + 1, none⟩ = some (.slice ca cn cc) ∧ w2.cell? ⟨w.heap.size, 0 + 2, none⟩ = some (.slice fa fn fc)) ∧ w2.cell? ⟨w.heap.size + 1, 0, none⟩ = some (.slice sb sm sd) ∧ w2.cell? ⟨w.heap.size + 1, 0 + 1, none⟩ = some (.slice cb cm cd) ∧ w2.cell? ⟨w.heap.size + 1, 0 + 2, none⟩ = some (.slice fb fm fd)) :=
    Lib.hid ⟨⟨(HB2.out.cell (p := ⟨w.heap.size, 0, none⟩) HG1.out).trans (HL0.out.c0 0), (HB2.out.cell (p := ⟨w.heap.size, 1, none⟩) HG1.out).trans (HL0.out.c0 1), (HB2.out.cell (p := ⟨w.heap.size, 2, none⟩) HG1.out).trans (HL0.out.c0 2)⟩, (HB2.out.cell (p := ⟨w.heap.size + 1, 0, none⟩) HG2.out).trans (HL0.out.c1 0), (HB2.out.cell (p := ⟨w.heap.size + 1, 1, none⟩) HG2.out).trans (HL0.out.c1 1), (HB2.out.cell (p := ⟨w.heap.size + 1, 2, none⟩) HG2.out).trans (HL0.out.c1 2)⟩
  have HG3 : RowKit.Hid (w.heap.size < w2.heap.size ∧ w.heap.size + 1 < w2.heap.size) := Lib.hid ⟨Nat.lt_of_lt_of_le HG1.out HB2.out.size, Nat.lt_of_lt_of_le HG2.out HB2.out.size⟩
  clear HS1 CSM1 CSM2 HB1 HP HQ HFT HG1 HG2
  go_wp2_with fail
  refine (copy_prog w.heap.size 0 (.slice sa sn sc) (.slice ca cn cc) (.slice fa fn fc) P w2 HG3.out.1 HC.out.1.1 HC.out.1.2.1 HC.out.1.2.2 HP2.out HF2.out HSM.out).mono ?_
  rintro e w3 ⟨b, s3, c3, f3, rfl, hbb, hwin, hprog, hb3⟩
  obtain ⟨sx, sy, sz, cx, cy, cz, fx, fy, fz, rfl, rfl, rfl⟩ := (ProgO.reads _ _ _ _ hprog).form
  have HBB := Lib.hid hbb
  have HWIN := Lib.hid hwin
  have HPO := Lib.hid hprog
  have HPR := Lib.hid (ProgO.reads _ _ _ _ hprog)
  have HB3 := Lib.hid hb3
  have HGB := Lib.hid hwin.lt
  clear hbb hwin hprog hb3
  have R1 : RowKit.Hid (∀ u, Below w3.heap.size w3 u → Calls Tryd.prog 20 #[.pointer (some ⟨b, 0, none⟩), .pointer (some ⟨w.heap.size, 0, none⟩)] u (TruthPost (plainProg (plainProg P) = plainProg P) u)) := Lib.hid fun u hb => by
    have hbu := keepB HB3.out hb
    exact ref_same b 0 w.heap.size 0 sx cx fx sa ca fa sy sz cy cz fy fz sn sc cn cc fn fc (plainProg P) P u (Nat.lt_of_lt_of_le HGB.out hb.size) (Nat.lt_of_lt_of_le HG3.out.1 hbu.size) ((hb.cell (p := ⟨b, 0, none⟩) HGB.out).trans (HWIN.out.cell (j := 0) (by simp))) ((hb.cell (p := ⟨b, 0 + 1, none⟩) HGB.out).trans (HWIN.out.cell (j := 1) (by simp))) ((hb.cell (p := ⟨b, 0 + 2, none⟩) HGB.out).trans (HWIN.out.cell (j := 2) (by simp))) ((hbu.cell (p := ⟨w.heap.size, 0, none⟩) HG3.out.1).trans HC.out.1.1) ((hbu.cell (p := ⟨w.heap.size, 0 + 1, none⟩) HG3.out.1).trans HC.out.1.2.1) ((hbu.cell (p := ⟨w.heap.size, 0 + 2, none⟩) HG3.out.1).trans HC.out.1.2.2) (ProgQ.lasts _ _ _ _ hb HPR.out) (ProgQ.lasts _ _ _ _ hbu HP2.out)
  have R2 : RowKit.Hid (∀ u, Below w3.heap.size w3 u → Calls Tryd.prog 21 #[.pointer (some ⟨w.heap.size, 0, none⟩), .pointer (some ⟨w.heap.size + 1, 0, none⟩)] u (TruthPost (plainProg P = plainProg Q) u)) := Lib.hid fun u hb => by
    have hbu := keepB HB3.out hb
    exact code_same w.heap.size 0 (w.heap.size + 1) 0 sa ca fa sb cb fb sn sc cn cc fn fc sm sd cm cd fm fd P Q u (Nat.lt_of_lt_of_le HG3.out.1 hbu.size) (Nat.lt_of_lt_of_le HG3.out.2 hbu.size) ((hbu.cell (p := ⟨w.heap.size, 0, none⟩) HG3.out.1).trans HC.out.1.1) ((hbu.cell (p := ⟨w.heap.size, 0 + 1, none⟩) HG3.out.1).trans HC.out.1.2.1) ((hbu.cell (p := ⟨w.heap.size, 0 + 2, none⟩) HG3.out.1).trans HC.out.1.2.2) ((hbu.cell (p := ⟨w.heap.size + 1, 0, none⟩) HG3.out.2).trans HC.out.2.1) ((hbu.cell (p := ⟨w.heap.size + 1, 0 + 1, none⟩) HG3.out.2).trans HC.out.2.2.1) ((hbu.cell (p := ⟨w.heap.size + 1, 0 + 2, none⟩) HG3.out.2).trans HC.out.2.2.2) (ProgQ.lasts _ _ _ _ hbu HP2.out) (ProgQ.lasts _ _ _ _ hbu HQ2.out) (HF2.out.since hbu)
  have R3 : RowKit.Hid (∀ u, Below w3.heap.size w3 u → Calls Tryd.prog 20 #[.pointer (some ⟨w.heap.size, 0, none⟩), .pointer (some ⟨w.heap.size + 1, 0, none⟩)] u (TruthPost (plainProg P = plainProg Q) u)) := Lib.hid fun u hb => by
    have hbu := keepB HB3.out hb
    exact ref_same w.heap.size 0 (w.heap.size + 1) 0 sa ca fa sb cb fb sn sc cn cc fn fc sm sd cm cd fm fd P Q u (Nat.lt_of_lt_of_le HG3.out.1 hbu.size) (Nat.lt_of_lt_of_le HG3.out.2 hbu.size) ((hbu.cell (p := ⟨w.heap.size, 0, none⟩) HG3.out.1).trans HC.out.1.1) ((hbu.cell (p := ⟨w.heap.size, 0 + 1, none⟩) HG3.out.1).trans HC.out.1.2.1) ((hbu.cell (p := ⟨w.heap.size, 0 + 2, none⟩) HG3.out.1).trans HC.out.1.2.2) ((hbu.cell (p := ⟨w.heap.size + 1, 0, none⟩) HG3.out.2).trans HC.out.2.1) ((hbu.cell (p := ⟨w.heap.size + 1, 0 + 1, none⟩) HG3.out.2).trans HC.out.2.2.1) ((hbu.cell (p := ⟨w.heap.size + 1, 0 + 2, none⟩) HG3.out.2).trans HC.out.2.2.2) (ProgQ.lasts _ _ _ _ hbu HP2.out) (ProgQ.lasts _ _ _ _ hbu HQ2.out)
  have R4 : RowKit.Hid (∀ u P', Below w2.heap.size w2 u → b < u.heap.size → WinAt u b 0 [.slice sx sy sz, .slice cx cy cz, .slice fx fy fz] → ProgQ u [.slice sx sy sz, .slice cx cy cz, .slice fx fy fz] P' → Calls Tryd.prog 21 #[.pointer (some ⟨w.heap.size, 0, none⟩), .pointer (some ⟨b, 0, none⟩)] u (TruthPost (plainProg P = plainProg P') u)) := Lib.hid fun u P' hbu hlt hw hq =>
    code_same w.heap.size 0 b 0 sa ca fa sx cx fx sn sc cn cc fn fc sy sz cy cz fy fz P P' u (Nat.lt_of_lt_of_le HG3.out.1 hbu.size) hlt ((hbu.cell (p := ⟨w.heap.size, 0, none⟩) HG3.out.1).trans HC.out.1.1) ((hbu.cell (p := ⟨w.heap.size, 0 + 1, none⟩) HG3.out.1).trans HC.out.1.2.1) ((hbu.cell (p := ⟨w.heap.size, 0 + 2, none⟩) HG3.out.1).trans HC.out.1.2.2) (hw.cell (j := 0) (by simp)) (hw.cell (j := 1) (by simp)) (hw.cell (j := 2) (by simp)) (ProgQ.lasts _ _ _ _ hbu HP2.out) hq (HF2.out.since hbu)
  by_cases hpq : plainProg P = plainProg Q
  all_goals
    have HPQ := Lib.hid hpq
    clear hpq
    go_upto_region 7 with (first
      | (go_at_call 20; (with_reducible refine (R1.out _ (Below.refl _ _)).mono ?_); rintro e w4 ⟨b4, rfl, hbe4, hb4⟩; obtain rfl : b4 = true := hbe4.2 (plainProg_twice _); have HB4 := Lib.hid hb4; clear hb4 hbe4)
      | (go_at_call 21; (with_reducible refine (R2.out _ HB4.out).mono ?_); rintro e w5 ⟨b5, rfl, hbe5, hb5⟩; obtain rfl : b5 = _ := (by first | exact hbe5.2 HPQ.out | exact Bool.eq_false_iff.2 fun h => HPQ.out (hbe5.1 h)); have HB5 := Lib.hid (keepB HB4.out hb5); clear hb5 hbe5)
      | (go_at_call 20; (with_reducible refine (R3.out _ HB5.out).mono ?_); rintro e w6 ⟨b6, rfl, hbe6, hb6⟩; obtain rfl : b6 = _ := (by first | exact hbe6.2 HPQ.out | exact Bool.eq_false_iff.2 fun h => HPQ.out (hbe6.1 h)); have HB6 := Lib.hid (keepB HB5.out hb6); clear hb6 hbe6)
      | (go_at_call 21; (with_reducible refine (R4.out _ (plainProg P) (keepB HB3.out HB6.out) (Nat.lt_of_lt_of_le HGB.out HB6.out.size) (HWIN.out.kept (HB6.out.block _ HGB.out)) (prog_since HPR.out HB6.out)).mono ?_); rintro e w7 ⟨b7, rfl, hbe7, hb7⟩; obtain rfl : b7 = true := hbe7.2 (plainProg_twice _).symm; have HB7 := Lib.hid (keepB HB6.out hb7); clear hb7 hbe7))
    clear R1 R2 R3 HPQ HB4 HB5 HB6
    have HBW7 := Lib.hid (keepB HB3.out HB7.out)
    have HF7 := Lib.hid (HF2.out.since HBW7.out)
    have HZ7 := Lib.hid (keepB HBW.out HBW7.out)
    have HW7 := Lib.hid (HWIN.out.kept (HB7.out.block _ HGB.out))
    have hx0 : w7.cell? ⟨b, 0, none⟩ = some (.slice sx sy sz) := HW7.out.cell (j := 0) (by simp)
    have hx1 : w7.cell? ⟨b, 1, none⟩ = some (.slice cx cy cz) := HW7.out.cell (j := 1) (by simp)
    have hx2 : w7.cell? ⟨b, 2, none⟩ = some (.slice fx fy fz) := HW7.out.cell (j := 2) (by simp)
    have HLN : RowKit.Hid (P.funcs.length = fy) := Lib.hid (by
      obtain ⟨_, _, _, he, _, _, hF⟩ := HPR.out
      simp only [List.cons.injEq, and_true] at he
      obtain ⟨_, _, rfl⟩ := he
      have h := (rowV_len' hF).1
      simp only [plainProg, List.length_map] at h
      exact h)
    have HFR : RowKit.Hid (RowV FuncQ 2 w3 (.slice fx fy fz) (plainProg P).funcs) := Lib.hid (by
      obtain ⟨_, _, _, he, _, _, hF⟩ := HPR.out
      simp only [List.cons.injEq, and_true] at he
      obtain ⟨_, _, rfl⟩ := he
      exact hF)
    rcases hfs : P.funcs with _ | ⟨F, Fs⟩
    · obtain rfl : fy = 0 := by rw [← HLN.out, hfs]; rfl
      clear hfs
      go_wp2_with fail
      refine (lives5 w7 HF7.out).mono ?_
      rintro e wz ⟨rfl, hbz⟩
      have HBZ := Lib.hid (keepB HZ7.out hbz)
      clear hbz
      go_wp2_with fail
      go_ret
      exact ⟨rfl, HBZ.out⟩
    have hfy : 0 < fy := by rw [← HLN.out, hfs]; simp
    have hfm := (rowV_len' HFR.out).2
    have HFS := Lib.hid hfs
    clear hfs
    rcases hbs : F.blocks with _ | ⟨B, Bs⟩
    · obtain ⟨u1, o1, rfl, hu1, hcs⟩ := rowV_at HFR.out hfy
      obtain ⟨cs, hc2, hcell, hq⟩ := hcs 0 (by simp only [plainProg, List.length_map]; rw [HFS.out]; simp)
      obtain ⟨ba, bn, bc, rfl⟩ := FuncQ.form hq
      have hrow := FuncQ.rows hq
      have hbn := (rowV_len' hrow).1
      have e1 := hcell 1 (by simp)
      simp only [plainProg, HFS.out, List.map_cons, List.getElem_cons_zero, plainFunc, hbs, List.map_nil, List.length_nil] at hbn
      subst hbn
      simp only [Nat.zero_mul, Nat.add_zero, List.getElem_cons_zero, List.getElem_cons_succ] at e1
      have e2 := (HB7.out.cell (p := ⟨u1, o1 + 1, none⟩) hu1).trans e1
      clear hq hrow hcell e1 hcs hc2 hbs
      go_wp2_with fail
      refine (lives5 w7 HF7.out).mono ?_
      rintro e wz ⟨rfl, hbz⟩
      have HBZ := Lib.hid (keepB HZ7.out hbz)
      clear hbz
      go_wp2_with fail
      go_ret
      exact ⟨rfl, HBZ.out⟩
    have HBS := Lib.hid hbs
    clear hbs hfy hfm
    obtain ⟨fg, fn', fc', g, bn, bc, cur, hfe, hfn, hfm, e0, e1, hbn, hbm, hgg, hgS, hfgl, hgl⟩ := HPO.out.first (F := plainFunc F) (Fs := Fs.map plainFunc) (B := plainBlock B) (Bs := Bs.map plainBlock) (by simp only [plainProg, HFS.out, List.map_cons]) (by simp only [plainFunc, HBS.out, List.map_cons])
    simp only [Value.slice.injEq] at hfe
    obtain ⟨rfl, rfl, rfl⟩ := hfe
    obtain ⟨u1, o1, hue, hu1, hcs⟩ := rowV_at HFR.out hfn
    simp only [Option.some.injEq, Addr.mk.injEq, and_true] at hue
    obtain ⟨rfl, rfl⟩ := hue
    obtain ⟨cs, hc2, hcell, hq⟩ := hcs 0 (by simp only [plainProg, List.length_map]; rw [HFS.out]; simp)
    obtain ⟨ba, bn2, bc2, rfl⟩ := FuncQ.form hq
    have hrow := FuncQ.rows hq
    have e1b := hcell 1 (by simp)
    simp only [Nat.zero_mul, Nat.add_zero, Nat.zero_add, List.getElem_cons_zero, List.getElem_cons_succ] at e1b
    rw [e1] at e1b
    simp only [Option.some.injEq, Value.slice.injEq] at e1b
    obtain ⟨rfl, rfl, rfl⟩ := e1b
    obtain ⟨u2, o2, hue, hu2, hcs2⟩ := rowV_at hrow hbn
    simp only [Option.some.injEq, Addr.mk.injEq, and_true] at hue
    obtain ⟨rfl, rfl⟩ := hue
    obtain ⟨cs2, hc8, hcell2, hq2⟩ := hcs2 0 (by rw [(rowV_len' hrow).1]; exact hbn)
    obtain ⟨pa1, pn1, pc1, oa1, on1, oc1, la1, ln1, lc1, ma1, mn1, mc1, rfl, -⟩ := hq2.form
    have hk := hcell2 2 (by simp)
    simp only [Nat.zero_mul, Nat.add_zero, Nat.zero_add, List.getElem_cons_zero, List.getElem_cons_succ] at hk
    obtain ⟨kv, hkv⟩ : ∃ kv : Int, w3.cell? ⟨g, 2, none⟩ = some (.int .i64 kv) := ⟨_, hk⟩
    have hk7 := (HB7.out.cell (p := ⟨g, 2, none⟩) hgl).trans hkv
    have e0' := (HB7.out.cell (p := ⟨fg, 0, none⟩) hfgl).trans e0
    have e1' := (HB7.out.cell (p := ⟨fg, 1, none⟩) hfgl).trans e1
    have hg7 := (HB7.out.block g hgl).trans hgg
    have hfr7 : w7.frozen? ⟨g, 2, none⟩ = false := by simp [World.frozen?, hg7]
    have HGS : RowKit.Hid (w2.heap.size ≤ g ∧ g ≠ b) := Lib.hid hgS
    have HPO7 : RowKit.Hid (ProgO w7 (fun k => w2.heap.size ≤ k ∧ k ≠ b) [.slice sx sy sz, .slice cx cy cz, .slice (some ⟨fg, 0, none⟩) fy fz] (plainProg P)) := Lib.hid (ProgO.holds _ _ _ _ _ _ (fun k hk hs => ⟨HB7.out.block k hk, hs⟩) HPO.out)
    obtain ⟨P', hP', hK'⟩ := HPO7.out.poked hg7 77 ⟨by decide, by decide⟩ rfl e0' e1' rfl
    have HPP := Lib.hid (ProgO.reads _ _ _ _ hP')
    have HKK := Lib.hid hK'
    have HB8 : RowKit.Hid (Below w2.heap.size w2 (w7.setCell ⟨g, 2, none⟩ (.int .i64 77))) := Lib.hid (HBW7.out.setCell HGS.out.1 _)
    have HW8 : RowKit.Hid (WinAt (w7.setCell ⟨g, 2, none⟩ (.int .i64 77)) b 0 [.slice sx sy sz, .slice cx cy cz, .slice (some ⟨fg, 0, none⟩) fy fz]) := Lib.hid (HW7.out.kept (Below.heap_setCell _ _ _ _ (fun h => HGS.out.2 h.symm)))
    clear hcs hcs2 hcell hcell2 hq hq2 hP' hK' hc2 hc8 hk hkv e0 e1 hgg
    clear hrow
    go_upto_region 9 with fail
    generalize hW8 : w7.setCell ⟨g, 2, none⟩ (.int .i64 77) = W8 at HPP HB8 HW8 ⊢
    clear hW8 hk7 e0' e1' hg7 hfr7 hx0 hx1 hx2
    have HF8 := Lib.hid (HF2.out.since HB8.out)
    have HZ8 := Lib.hid (keepB HBW.out HB8.out)
    have HFA : RowKit.Hid (RowV FuncQ 2 w2 (.slice fa fn fc) P.funcs) := Lib.hid (by
      obtain ⟨_, _, _, he, _, _, hF⟩ := HP2.out
      simp only [List.cons.injEq, and_true] at he
      obtain ⟨_, _, rfl⟩ := he
      exact hF)
    have hna : 0 < fn := by rw [← (rowV_len' HFA.out).1, HFS.out]; simp
    have hnm := (rowV_len' HFA.out).2
    obtain ⟨u1, o1, rfl, hu1, hcs⟩ := rowV_at HFA.out hna
    have h0f : 0 < P.funcs.length := by rw [HFS.out]; simp
    have h0b : 0 < F.blocks.length := by rw [HBS.out]; simp
    obtain ⟨cs, hc2, hcell, hq⟩ := hcs 0 h0f
    obtain ⟨ba, bm, bd, rfl⟩ := FuncQ.form hq
    have hrow := FuncQ.rows hq
    have hblk : P.funcs[0]'h0f = F := by have h := HFS.out; simp [h]
    have e1 := hcell 1 (by simp)
    simp only [Nat.zero_mul, Nat.add_zero, List.getElem_cons_zero, List.getElem_cons_succ] at e1
    rw [hblk] at hrow
    have hbl := rowV_len' hrow
    have hbp : 0 < bm := by rw [← hbl.1, HBS.out]; simp
    have hbpm := hbl.2
    obtain ⟨u2, o2, rfl, hu2, hcs2⟩ := rowV_at hrow hbp
    obtain ⟨cs2, hc8, hcell2, hq2⟩ := hcs2 0 h0b
    obtain ⟨pa1, pn1, pc1, oa1, on1, oc1, la1, ln1, lc1, ma1, mn1, mc1, rfl, -⟩ := hq2.form
    have hfin : F.blocks[0]'h0b = B := by have h := HBS.out; simp [h]
    have hk := hcell2 2 (by simp)
    simp only [Nat.zero_mul, Nat.add_zero, List.getElem_cons_zero, List.getElem_cons_succ] at hk
    rw [hfin] at hk
    have HP8 : RowKit.Hid (∀ u, Below W8.heap.size W8 u → u.cell? ⟨w.heap.size, 2, none⟩ = some (.slice (some ⟨u1, o1, none⟩) fn fc) ∧ u.cell? ⟨u1, o1 + 1, none⟩ = some (.slice (some ⟨u2, o2, none⟩) bm bd) ∧ u.cell? ⟨u2, o2 + 2, none⟩ = some (.int .i64 B.fin.K)) := Lib.hid fun u hb => by
      have hbu := keepB HB8.out hb
      exact ⟨(hbu.cell (p := ⟨w.heap.size, 2, none⟩) HG3.out.1).trans HC.out.1.2.2, (hbu.cell (p := ⟨u1, o1 + 1, none⟩) hu1).trans e1, (hbu.cell (p := ⟨u2, o2 + 2, none⟩) hu2).trans hk⟩
    clear hcs hcs2 hcell hcell2 hq hq2 hc2 hc8 hk e1 hbl hfin
    clear hrow hblk
    have HR8 := Lib.hid (R4.out W8 P' HB8.out HW8.out.lt HW8.out HPP.out)
    go_wp2_with fail
    refine HR8.out.mono ?_
    rintro e w9 ⟨b9, rfl, hbe9, hb9⟩
    have HF9 := Lib.hid (HF8.out.since hb9)
    have HZ9 := Lib.hid (keepB HZ8.out hb9)
    cases b9
    · clear hbe9 hb9
      go_wp2_with fail
      refine (lives5 w9 HF9.out).mono ?_
      rintro e wz ⟨rfl, hbz⟩
      have HBZ := Lib.hid (keepB HZ9.out hbz)
      clear hbz
      go_wp2_with fail
      go_ret
      exact ⟨rfl, HBZ.out⟩
    have hK77 : B.fin.K = 77 := poked_same HKK.out HFS.out HBS.out (hbe9.1 (by first | rfl | trivial))
    obtain ⟨k0, k1, k2⟩ := HP8.out w9 hb9
    rw [hK77] at k2
    clear hbe9 hb9 hK77
    go_wp2_with fail
    refine (lives5 w9 HF9.out).mono ?_
    rintro e wz ⟨rfl, hbz⟩
    have HBZ := Lib.hid (keepB HZ9.out hbz)
    clear hbz
    go_wp2_with fail
    go_ret
    exact ⟨rfl, HBZ.out⟩
end Go.Proofs.YtdmlogpaenbblaaDoor
