/- Layer 9: the document's Check: what is wrong with a program. -/
import Derived.Test.YtdchhfdmingnaaaDoorFCodeFi
import Derived.Test.YtdchhfdmingnaaaDoorFCodeVe
import Derived.Test.YtdchhfdmingnaaaDoorFT6
import Derived.Test.YtdchhfdmingnaaaDoorFWellDf

namespace Go.Proofs.YtdchhfdmingnaaaDoor
open Go.RowKit (wrap64 intOf Below)
set_option linter.unusedVariables false
set_option linter.unusedSimpArgs false
noncomputable def checkD (P : ProgD) : Int := match outBytes (encProg P) with | .no e => e | .ok _ => if longB P = true then (if rulesD P = true then 0 else 4) else 2
theorem checkD_bad {P : ProgD} {l : List UInt8} (h : outBytes (encProg P) = .ok l) (hl : longB P = true) (hr : rulesD P = false) : checkD P = 4 := by unfold checkD; rw [h]; simp [hl, hr]
theorem checkD_long {P : ProgD} {l : List UInt8} (h : outBytes (encProg P) = .ok l) (hl : longB P = false) : checkD P = 2 := by unfold checkD; rw [h]; simp [hl]
theorem checkD_ok {P : ProgD} {l : List UInt8} (h : outBytes (encProg P) = .ok l) (hl : longB P = true) (hr : rulesD P = true) : checkD P = 0 := by unfold checkD; rw [h]; simp [hl, hr]
set_option maxRecDepth 100000 in
set_option maxHeartbeats 8000000 in
theorem dcheck_any (g : Nat) {sa : Option Addr} {sn sc : Nat} {ca : Option Addr} {cn cc : Nat} {fa : Option Addr} {fn fc : Nat} {P : ProgD} (w : World) (hP : ProgAt w g sa sn sc ca cn cc fa fn fc P) (hsz : SizedP P) :
    Calls Tryd.prog 22 #[.pointer (some ⟨g, 0, none⟩)] w fun e w' => e = .returned (.int .i64 (checkD P)) ∧ Below w.heap.size w w' := by
  have HP : RowKit.Hid (∀ U, Below w.heap.size w U → ProgAt U g sa sn sc ca cn cc fa fn fc P) := Lib.hid fun U hU => hP.since hU
  have HC : RowKit.Hid (∀ U, Below w.heap.size w U → U.cell? ⟨g, 0, none⟩ = some (.slice sa sn sc) ∧ U.cell? ⟨g, 1, none⟩ = some (.slice ca cn cc) ∧ U.cell? ⟨g, 2, none⟩ = some (.slice fa fn fc)) := Lib.hid fun U hU => ⟨(hP.since hU).c0, (hP.since hU).c1, (hP.since hU).c2⟩
  have HSZ := Lib.hid hsz
  have HSL := Lib.hid hP.s.len.1
  have HCL := Lib.hid hP.c.len.1
  have HFL := Lib.hid hP.f.len.1
  have hsn8 := hP.s.len.2
  have hcn8 := hP.c.len.2
  have hfn8 := hP.f.len.2
  have HP0 := Lib.hid hP
  have CEN : RowKit.Hid (Calls Tryd.prog 30 #[.pointer (some ⟨g, 0, none⟩)] w (EncPost (outBytes (encProg P)) w)) := Lib.hid (ref_encode g 0 sa sn sc ca cn cc fa fn fc P w (World.block_lt_of_cell? _ _ hP.c0) hP.c0 hP.c1 hP.c2 hP.q)
  clear hP hsz
  go_enter Tryd.func22, Tryd.ntmps22
  go_upto_region 3 with fail
  go_wp2_with fail
  refine CEN.out.mono ?_
  rintro e w1 (⟨l, va, vn, vc, hout, rfl, ho, hb⟩ | ⟨er, hout, rfl, hb⟩)
  rotate_left
  · have HR : RowKit.Hid (checkD P = er) := Lib.hid (by unfold checkD; rw [hout])
    have hnz : (er != 0) = true := by rw [bne_iff_ne]; exact out_nz P er hout
    have HB1 := Lib.hid hb
    clear hout hb
    go_wp2_with fail
    go_ret
    exact ⟨by rw [HR.out]; rfl, HB1.out⟩
  · have HO := Lib.hid hout
    have HB1 := Lib.hid hb
    clear hout ho hb CEN
    go_wp2_with fail
    go_loopw [5] (fun v5 wr => ∃ i : Nat, i ≤ fn ∧ v5 = .int .i64 (i : Int) ∧ RowKit.Hid (Below w.heap.size w wr ∧ allK (fun i => decide (valuesN (funcOf P i) ≤ 700)) i = true)) (fun v5 _ => fn - (intOf v5).toNat)
    case atStart => exact ⟨0, Nat.zero_le _, rfl, Lib.hid ⟨HB1.out, rfl⟩⟩
    case round =>
      obtain ⟨i, hi, rfl, HI⟩ := hrel
      obtain ⟨wo, hwo⟩ : ∃ u, u = wr := ⟨_, rfl⟩
      rw [← hwo] at HI ⊢
      clear hwo HB1
      obtain ⟨p0, p1, p2⟩ := HC.out wo HI.out.1
      by_cases hlt : i < fn
      · have hltz : (i : Int) < (fn : Int) := by omega
        have hi0 : (0 : Int) ≤ (i : Int) := by omega
        obtain ⟨gf, of, cs, hkl, hfa, hl2, hcell, hq⟩ := (HP.out wo HI.out.1).f.elem hlt
        cases hfa
        have hq2 := hq
        obtain ⟨bv, rfl, -, hbr⟩ := hq
        obtain ⟨ba, bn, bc, rfl, hbln, -⟩ := hbr
        have f0 := hcell 0 (by simp)
        have f1 := hcell 1 (by simp)
        simp only [Nat.add_zero, List.getElem_cons_zero, List.getElem_cons_succ] at f0 f1
        have hFk : funcOf P i = P.funcs[i] := dfuncOf_at hkl
        have hvn := (HSZ.out _ (List.getElem_mem hkl)).2
        obtain ⟨F, hF⟩ : ∃ F, F = P.funcs[i] := ⟨_, rfl⟩
        rw [← hF] at f0 hq2 hFk hvn
        have CV := Lib.hid (ref_values F.ret ba bn bc F wo hq2)
        rw [valuesOf_nat F hvn] at CV
        obtain ⟨vv, hvv⟩ : ∃ v, v = valuesN F := ⟨_, rfl⟩
        rw [← hvv] at CV hvn
        have HVV : RowKit.Hid (valuesN (funcOf P i) = vv) := Lib.hid (by rw [hFk, hvv])
        obtain ⟨rt, hrt⟩ : ∃ t, t = F.ret := ⟨_, rfl⟩
        rw [← hrt] at f0 CV
        have HIL := Lib.hid hlt
        clear hcell hq2 hFk hF hvv hrt hkl hl2 hbln
        by_cases hv7 : vv ≤ 700
        · have hvz : ¬ ((700 : Int) < (vv : Int)) := by omega
          have HOK : RowKit.Hid (decide (valuesN (funcOf P i) ≤ 700) = true) := Lib.hid (decide_eq_true (by rw [HVV.out]; exact hv7))
          go_wp2_with (go_at_call 10; (with_reducible refine CV.out.mono ?_); rintro e w2 ⟨rfl, hb⟩; have HB2 := Lib.hid hb; clear hb)
          go_roundw
          case rel => exact ⟨i + 1, HIL.out, by go_num, Lib.hid ⟨HI.out.1.trans (HB2.out.mono HI.out.1.size), allK_more HI.out.2 HOK.out⟩⟩
          case measure => have := HIL.out; simp [intOf]; omega
        · have hvz : (700 : Int) < (vv : Int) := by omega
          have HR : RowKit.Hid (checkD P = 2) := Lib.hid (checkD_long HO.out (by unfold longB; rw [HFL.out]; exact allK_no HIL.out (decide_eq_false (by rw [HVV.out]; exact hv7))))
          go_wp2_with (go_at_call 10; (with_reducible refine CV.out.mono ?_); rintro e w2 ⟨rfl, hb⟩; have HB2 := Lib.hid hb; clear hb)
          go_ret
          exact ⟨by rw [HR.out]; rfl, HI.out.1.trans (HB2.out.mono HI.out.1.size)⟩
      · obtain rfl : i = fn := by omega
        have hge : ¬ ((i : Int) < (i : Int)) := by omega
        have HLO : RowKit.Hid (longB P = true) := Lib.hid (by unfold longB; rw [HFL.out]; exact HI.out.2)
        have HBA : RowKit.Hid (rulesD P = false → checkD P = 4) := Lib.hid (checkD_bad HO.out HLO.out)
        have HGO : RowKit.Hid (rulesD P = true → checkD P = 0) := Lib.hid (checkD_ok HO.out HLO.out)
        have HRD : RowKit.Hid (rulesD P = (decide (0 < P.funcs.length) && (funcOf P 0).ret == 0 && allK (fun i => sigB P (sigOf P i)) P.sigs.length && allK (fun i => classD P (clsOf P i)) P.classes.length && allK (fun i => funD P (funcOf P i)) P.funcs.length && intsB (parL (funcOf P 0) 0))) := Lib.hid rfl
        by_cases hf0 : i = 0
        · have hfz : ((i : Int) == 0) = true := by rw [hf0]; rfl
          have HR : RowKit.Hid (checkD P = 4) := Lib.hid (HBA.out (by rw [HRD.out, decide_eq_false (by have := HFL.out; omega)]; rfl))
          subst hf0
          go_wp2_with fail
          go_ret
          exact ⟨by rw [HR.out]; rfl, HI.out.1⟩
        · have hfz : ((i : Int) == 0) = false := by rw [beq_eq_false_iff_ne]; omega
          have hfp : (0 : Int) < (i : Int) := by omega
          obtain ⟨gf, of, cs, hkl, hfa, hl2, hcell, hq⟩ := (HP.out wo HI.out.1).f.elem (show 0 < i by omega)
          cases hfa
          obtain ⟨bv, rfl, -, hbr⟩ := hq
          obtain ⟨ba, bn, bc, rfl, hbln, -⟩ := hbr
          have f0 := hcell 0 (by simp)
          simp only [Nat.add_zero, Nat.zero_mul, List.getElem_cons_zero] at f0
          have hFk : funcOf P 0 = P.funcs[0] := dfuncOf_at hkl
          have HD0 : RowKit.Hid (decide (0 < P.funcs.length) = true) := Lib.hid (decide_eq_true hkl)
          obtain ⟨rt, hrt⟩ : ∃ t, t = P.funcs[0].ret := ⟨_, rfl⟩
          rw [← hrt] at f0
          have HRT : RowKit.Hid ((funcOf P 0).ret = rt) := Lib.hid (by rw [hFk, hrt])
          have HFP : RowKit.Hid (0 < i) := Lib.hid (by omega)
          clear hcell hFk hrt hkl hl2 hbln
          by_cases hr0 : rt = 0
          rotate_left
          · have hrz : (rt != 0) = true := by rw [bne_iff_ne]; exact hr0
            have HR : RowKit.Hid (checkD P = 4) := Lib.hid (HBA.out (by rw [HRD.out, HRT.out, beq_eq_false_iff_ne.2 hr0]; simp))
            go_wp2_with fail
            go_ret
            exact ⟨by rw [HR.out]; rfl, HI.out.1⟩
          · have hrz : (rt != 0) = false := by rw [hr0]; rfl
            have HRD2 : RowKit.Hid (rulesD P = (allK (fun i => sigB P (sigOf P i)) P.sigs.length && allK (fun i => classD P (clsOf P i)) P.classes.length && allK (fun i => funD P (funcOf P i)) P.funcs.length && intsB (parL (funcOf P 0) 0))) := Lib.hid (by rw [HRD.out, HD0.out, HRT.out, hr0]; rfl)
            have HIW := Lib.hid HI.out.1
            clear HRD HD0 HRT hr0 HLO HI
            go_upto_region 13 with fail
            clear p0 p1 p2 f0 hrz
            go_wp2_with fail
            go_loopw [6] (fun v6 wr => ∃ k : Nat, k ≤ sn ∧ v6 = .int .i64 (k : Int) ∧ RowKit.Hid (Below w.heap.size w wr ∧ allK (fun i => sigB P (sigOf P i)) k = true)) (fun v6 _ => sn - (intOf v6).toNat)
            case atStart => exact ⟨0, Nat.zero_le _, rfl, Lib.hid ⟨HIW.out, rfl⟩⟩
            case round =>
              obtain ⟨k, hk, rfl, HK⟩ := hrel
              obtain ⟨wp, hwp⟩ : ∃ u, u = wr := ⟨_, rfl⟩
              rw [← hwp] at HK ⊢
              clear hwp HIW
              obtain ⟨p0, p1, p2⟩ := HC.out wp HK.out.1
              by_cases hks : k < sn
              · have hksz : (k : Int) < (sn : Int) := by omega
                have hk0 : (0 : Int) ≤ (k : Int) := by omega
                have hPk := HP.out wp HK.out.1
                obtain ⟨gs, os, cs, hkl, hsa, hl2, hcell, hq⟩ := hPk.s.elem hks
                cases hsa
                obtain ⟨pv, rfl, hpv, hrr⟩ := hq
                obtain ⟨pa, pn, pc, rfl, hp1, hp0, hp8, hpr⟩ := hpv
                have s0 := hcell 0 (by simp)
                have s1 := hcell 1 (by simp)
                simp only [Nat.add_zero, List.getElem_cons_zero, List.getElem_cons_succ] at s0 s1
                have hSk : sigOf P k = P.sigs[k] := dsigOf_at hkl
                obtain ⟨X, hX⟩ : ∃ X, X = P.sigs[k] := ⟨_, rfl⟩
                rw [← hX] at s1 hrr hp1 hpr hSk
                have HSB : RowKit.Hid (sigB P (sigOf P k) = (knownB P X.params && toldB P X.ret)) := Lib.hid (by rw [hSk]; rfl)
                have CA := Lib.hid (dall_any g pa pn pc X.params wp hPk hp1 hpr (by omega))
                have CTL := Lib.hid (dtold_any g X.ret wp hPk hrr)
                obtain ⟨rt2, hrt2⟩ : ∃ t, t = X.ret := ⟨_, rfl⟩
                rw [← hrt2] at s1 CTL HSB
                have HKS := Lib.hid hks
                clear hcell hSk hX hkl hl2 hp1 hp0 hp8 hpr hrr hPk hrt2
                cases h1 : knownB P X.params with
                | false =>
                  have HR : RowKit.Hid (checkD P = 4) := Lib.hid (HBA.out (by rw [HRD2.out, allK_no (n := P.sigs.length) (by rw [HSL.out]; exact HKS.out) (show sigB P (sigOf P k) = false by rw [HSB.out, h1]; rfl)]; rfl))
                  rw [h1] at CA
                  clear h1
                  go_wp2_with (go_at_call 31; (with_reducible refine CA.out.mono ?_); rintro e w2 ⟨rfl, rfl⟩)
                  go_ret
                  exact ⟨by rw [HR.out]; rfl, HK.out.1⟩
                | true =>
                  rw [h1] at CA HSB
                  clear h1
                  cases h2 : toldB P rt2 with
                  | false =>
                    have HR : RowKit.Hid (checkD P = 4) := Lib.hid (HBA.out (by rw [HRD2.out, allK_no (n := P.sigs.length) (by rw [HSL.out]; exact HKS.out) (show sigB P (sigOf P k) = false by rw [HSB.out, h2]; rfl)]; rfl))
                    rw [h2] at CTL
                    clear h2
                    go_wp2_with (first
                      | (go_at_call 31; (with_reducible refine CA.out.mono ?_); rintro e w2 ⟨rfl, rfl⟩)
                      | (go_at_call 32; (with_reducible refine CTL.out.mono ?_); rintro e w2 ⟨rfl, rfl⟩))
                    go_ret
                    exact ⟨by rw [HR.out]; rfl, HK.out.1⟩
                  | true =>
                    have HOK : RowKit.Hid (sigB P (sigOf P k) = true) := Lib.hid (by rw [HSB.out, h2]; rfl)
                    rw [h2] at CTL
                    clear h2
                    go_wp2_with (first
                      | (go_at_call 31; (with_reducible refine CA.out.mono ?_); rintro e w2 ⟨rfl, rfl⟩)
                      | (go_at_call 32; (with_reducible refine CTL.out.mono ?_); rintro e w2 ⟨rfl, rfl⟩))
                    go_roundw
                    case rel => exact ⟨k + 1, HKS.out, by go_num, Lib.hid ⟨HK.out.1, allK_more HK.out.2 HOK.out⟩⟩
                    case measure => have := HKS.out; simp [intOf]; omega
              · obtain rfl : k = sn := by omega
                have hge2 : ¬ ((k : Int) < (k : Int)) := by omega
                have HRD3 : RowKit.Hid (rulesD P = (allK (fun i => classD P (clsOf P i)) P.classes.length && allK (fun i => funD P (funcOf P i)) P.funcs.length && intsB (parL (funcOf P 0) 0))) := Lib.hid (by rw [HRD2.out, HSL.out, HK.out.2]; rfl)
                have HIW := Lib.hid HK.out.1
                clear HK HRD2
                go_upto_region 18 with fail
                clear p0 p1 p2
                go_wp2_with fail
                go_loopw [7] (fun v7 wr => ∃ m : Nat, m ≤ cn ∧ v7 = .int .i64 (m : Int) ∧ RowKit.Hid (Below w.heap.size w wr ∧ allK (fun i => classD P (clsOf P i)) m = true)) (fun v7 _ => cn - (intOf v7).toNat)
                case atStart => exact ⟨0, Nat.zero_le _, rfl, Lib.hid ⟨HIW.out, rfl⟩⟩
                case round =>
                  obtain ⟨m, hm, rfl, HM⟩ := hrel
                  obtain ⟨wp, hwp⟩ : ∃ u, u = wr := ⟨_, rfl⟩
                  rw [← hwp] at HM ⊢
                  clear hwp HIW
                  obtain ⟨p0, p1, p2⟩ := HC.out wp HM.out.1
                  by_cases hmc : m < cn
                  · have hmcz : (m : Int) < (cn : Int) := by omega
                    have hm0 : (0 : Int) ≤ (m : Int) := by omega
                    have hPk := HP.out wp HM.out.1
                    obtain ⟨gc, oc, cs, hkl, hca, hl2, hcell, hq⟩ := hPk.c.elem hmc
                    cases hca
                    obtain ⟨fv, mv, rfl, hfv, hmv⟩ := hq
                    have hfv2 := hfv
                    have hmv2 := hmv
                    obtain ⟨xa, xn, xc, rfl, -⟩ := hfv
                    obtain ⟨ma, mn, mc, rfl, -⟩ := hmv
                    have s0 := hcell 0 (by simp)
                    have s1 := hcell 1 (by simp)
                    simp only [Nat.add_zero, List.getElem_cons_zero, List.getElem_cons_succ] at s0 s1
                    have hSk : clsOf P m = P.classes[m] := dclsOf_at hkl
                    have CCL := Lib.hid (dclass_any g P.classes[m] xa xn xc ma mn mc wp hPk hfv2 hmv2)
                    rw [← hSk] at CCL
                    have HMC := Lib.hid hmc
                    clear hcell hSk hkl hl2 hfv2 hmv2 hPk
                    cases h1 : classD P (clsOf P m) with
                    | false =>
                      have HR : RowKit.Hid (checkD P = 4) := Lib.hid (HBA.out (by rw [HRD3.out, allK_no (n := P.classes.length) (by rw [HCL.out]; exact HMC.out) h1]; rfl))
                      rw [h1] at CCL
                      clear h1
                      go_wp2_with (go_at_call 33; (with_reducible refine CCL.out.mono ?_); rintro e w2 ⟨rfl, hb⟩; have HB2 := Lib.hid hb; clear hb)
                      go_ret
                      exact ⟨by rw [HR.out]; rfl, HM.out.1.trans (HB2.out.mono HM.out.1.size)⟩
                    | true =>
                      have HOK := Lib.hid h1
                      rw [h1] at CCL
                      clear h1
                      go_wp2_with (go_at_call 33; (with_reducible refine CCL.out.mono ?_); rintro e w2 ⟨rfl, hb⟩; have HB2 := Lib.hid hb; clear hb)
                      go_roundw
                      case rel => exact ⟨m + 1, HMC.out, by go_num, Lib.hid ⟨HM.out.1.trans (HB2.out.mono HM.out.1.size), allK_more HM.out.2 HOK.out⟩⟩
                      case measure => have := HMC.out; simp [intOf]; omega
                  · obtain rfl : m = cn := by omega
                    have hge3 : ¬ ((m : Int) < (m : Int)) := by omega
                    have HRD4 : RowKit.Hid (rulesD P = (allK (fun i => funD P (funcOf P i)) P.funcs.length && intsB (parL (funcOf P 0) 0))) := Lib.hid (by rw [HRD3.out, HCL.out, HM.out.2]; rfl)
                    have HIW := Lib.hid HM.out.1
                    clear HM HRD3
                    go_upto_region 23 with fail
                    clear p0 p1 p2
                    go_wp2_with fail
                    go_loopw [8] (fun v8 wr => ∃ q : Nat, q ≤ i ∧ v8 = .int .i64 (q : Int) ∧ RowKit.Hid (Below w.heap.size w wr ∧ allK (fun i => funD P (funcOf P i)) q = true)) (fun v8 _ => i - (intOf v8).toNat)
                    case atStart => exact ⟨0, Nat.zero_le _, rfl, Lib.hid ⟨HIW.out, rfl⟩⟩
                    case round =>
                      obtain ⟨q, hq, rfl, HQ⟩ := hrel
                      obtain ⟨wp, hwp⟩ : ∃ u, u = wr := ⟨_, rfl⟩
                      rw [← hwp] at HQ ⊢
                      clear hwp HIW
                      obtain ⟨p0, p1, p2⟩ := HC.out wp HQ.out.1
                      by_cases hqf : q < i
                      · have hqfz : (q : Int) < (i : Int) := by omega
                        have hq0 : (0 : Int) ≤ (q : Int) := by omega
                        have hPk := HP.out wp HQ.out.1
                        obtain ⟨gq, oq, cs, hkl, hqa, hl2, hcell, hqq⟩ := hPk.f.elem hqf
                        cases hqa
                        have hqq2 := hqq
                        obtain ⟨bv, rfl, -, hbr⟩ := hqq
                        obtain ⟨ba, bn, bc, rfl, hbln, -⟩ := hbr
                        have s0 := hcell 0 (by simp)
                        have s1 := hcell 1 (by simp)
                        simp only [Nat.add_zero, List.getElem_cons_zero, List.getElem_cons_succ] at s0 s1
                        have hSk : funcOf P q = P.funcs[q] := dfuncOf_at hkl
                        have hz := HSZ.out _ (List.getElem_mem hkl)
                        obtain ⟨F, hF⟩ : ∃ F, F = P.funcs[q] := ⟨_, rfl⟩
                        rw [← hF] at s0 hqq2 hSk hz hbln
                        have CFN := Lib.hid (dfun_any g ba bn bc F wp hPk hqq2 (by omega) hz.2)
                        rw [← hSk] at CFN s0
                        have HQF := Lib.hid hqf
                        generalize (funcOf P q).ret = rq at *
                        clear hcell hSk hkl hl2 hqq2 hPk hF hz hbln
                        cases h1 : funD P (funcOf P q) with
                        | false =>
                          have HR : RowKit.Hid (checkD P = 4) := Lib.hid (HBA.out (by rw [HRD4.out, allK_no (n := P.funcs.length) (by rw [HFL.out]; exact HQF.out) h1]; rfl))
                          rw [h1] at CFN
                          clear h1
                          go_wp2_with (go_at_call 34; (with_reducible refine CFN.out.mono ?_); rintro e w2 ⟨rfl, hb⟩; have HB2 := Lib.hid hb; clear hb)
                          go_ret
                          exact ⟨by rw [HR.out]; rfl, HQ.out.1.trans (HB2.out.mono HQ.out.1.size)⟩
                        | true =>
                          have HOK := Lib.hid h1
                          rw [h1] at CFN
                          clear h1
                          go_wp2_with (go_at_call 34; (with_reducible refine CFN.out.mono ?_); rintro e w2 ⟨rfl, hb⟩; have HB2 := Lib.hid hb; clear hb)
                          go_roundw
                          case rel => exact ⟨q + 1, HQF.out, by go_num, Lib.hid ⟨HQ.out.1.trans (HB2.out.mono HQ.out.1.size), allK_more HQ.out.2 HOK.out⟩⟩
                          case measure => have := HQF.out; simp [intOf]; omega
                      · obtain rfl : q = i := by omega
                        have hge4 : ¬ ((q : Int) < (q : Int)) := by omega
                        have HRD5 : RowKit.Hid (rulesD P = intsB (parL (funcOf P 0) 0)) := Lib.hid (by rw [HRD4.out, HFL.out, HQ.out.2]; rfl)
                        have HF0 : RowKit.Hid (funD P (funcOf P 0) = true) := Lib.hid (allK_iff.1 HQ.out.2 0 HFP.out)
                        have hPk := HP.out wp HQ.out.1
                        obtain ⟨gq, oq, cs, hkl, hqa, hl2, hcell, hqq⟩ := hPk.f.elem HFP.out
                        cases hqa
                        obtain ⟨bv, rfl, -, hbr⟩ := hqq
                        have hbr2 := hbr
                        obtain ⟨ba, bn, bc, rfl, hbln, -⟩ := hbr
                        have s1 := hcell 1 (by simp)
                        simp only [Nat.zero_mul, Nat.add_zero, List.getElem_cons_zero, List.getElem_cons_succ] at s1
                        have hSk : funcOf P 0 = P.funcs[0] := dfuncOf_at hkl
                        have hbn : 0 < bn := by
                          have h := HF0.out
                          unfold funD at h
                          rw [hSk] at h
                          simp only [Bool.and_eq_true, decide_eq_true_eq] at h
                          have := h.1.1.1
                          omega
                        obtain ⟨hxl, gb, ob, pa, pn, pc, _, _, _, _, _, _, _, _, _, rfl, hgb, hblk, hpv, -⟩ := blkD hbr2 hbn
                        have t0 := hblk 0 (by omega)
                        simp only [Nat.zero_mul, Nat.add_zero] at t0
                        have t1 : wp.cell? ⟨gb, ob, none⟩ = some (.slice pa pn pc) := t0
                        rw [← hSk] at hpv
                        obtain ⟨_, _, _, hpe, hp1, _, hp8, _⟩ := hpv
                        cases hpe
                        have HPN := Lib.hid hp1
                        have HPL : RowKit.Hid ((parL (funcOf P 0) 0).length = pn) := Lib.hid hp1.1
                        have hpn8 : pn ≤ 17592186043904 := by omega
                        have hbnz : (0 : Int) < (bn : Int) := by omega
                        have HQW := Lib.hid HQ.out.1
                        generalize parL (funcOf P 0) 0 = PL at *
                        clear hcell hSk hxl hbr2 hbln hkl hl2 hPk hblk t0 hp1 hp8 hgb HF0 HQ HRD4 hbn
                        go_upto_region 29 with fail
                        clear p0 p1 p2 s1 t1
                        go_wp2_with fail
                        go_loopw [10] (fun v10 wr => ∃ j : Nat, j ≤ pn ∧ v10 = .int .i64 (j : Int) ∧ RowKit.Hid (allK (fun i => nth PL i == 0) j = true) ∧ wr = wp) (fun v10 _ => pn - (intOf v10).toNat)
                        case atStart => exact ⟨0, Nat.zero_le _, rfl, Lib.hid rfl, rfl⟩
                        case round =>
                          obtain ⟨j, hj, rfl, HJ, rfl⟩ := hrel
                          by_cases hjp : j < pn
                          · have hjz : (j : Int) < (pn : Int) := by omega
                            have hj0 : (0 : Int) ≤ (j : Int) := by omega
                            have hjl : j < PL.length := by rw [HPL.out]; exact hjp
                            obtain ⟨gp, op, rfl, hgp, hcp⟩ := HPN.out.2 (by omega)
                            have u0 := hcp j hjl
                            obtain ⟨z, hz⟩ : ∃ z, z = nth PL j := ⟨_, rfl⟩
                            rw [← nth_is hjl, ← hz] at u0
                            unfold numV at u0
                            have HZ := Lib.hid hz
                            have HJP := Lib.hid hjp
                            clear hcp hgp hjl hz
                            by_cases hz0 : z = 0
                            · have hzb : (z != 0) = false := by rw [hz0]; rfl
                              have HOK : RowKit.Hid ((nth PL j == 0) = true) := Lib.hid (by rw [← HZ.out, hz0]; rfl)
                              clear hz0
                              go_wp2_with fail
                              go_roundw
                              case rel => exact ⟨j + 1, HJP.out, by go_num, Lib.hid (allK_more HJ.out HOK.out), by simp⟩
                              case measure => have := HJP.out; simp [intOf]; omega
                            · have hzb : (z != 0) = true := by rw [bne_iff_ne]; exact hz0
                              have HR : RowKit.Hid (checkD P = 4) := Lib.hid (HBA.out (by rw [HRD5.out]; unfold intsB; exact allK_no (by rw [HPL.out]; exact HJP.out) (i := j) (by rw [← HZ.out]; exact beq_eq_false_iff_ne.2 hz0)))
                              go_wp2_with fail
                              go_ret
                              exact ⟨by rw [HR.out]; rfl, HQW.out⟩
                          · obtain rfl : j = pn := by omega
                            have hge5 : ¬ ((j : Int) < (j : Int)) := by omega
                            have HR : RowKit.Hid (checkD P = 0) := Lib.hid (HGO.out (by rw [HRD5.out]; unfold intsB; rw [HPL.out]; exact HJ.out))
                            go_wp2_with fail
                            go_ret
                            exact ⟨by rw [HR.out]; rfl, HQW.out⟩
end Go.Proofs.YtdchhfdmingnaaaDoor
