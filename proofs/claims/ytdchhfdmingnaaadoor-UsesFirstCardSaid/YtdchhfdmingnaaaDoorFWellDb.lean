/- Layer 9: the document's class: whether a class is well made (mk_dcls.py). -/
import Derived.Test.YtdchhfdmingnaaaDoorFCfgI
import Derived.Test.YtdchhfdmingnaaaDoorFT0
import Derived.Test.YtdchhfdmingnaaaDoorFT3
import Derived.Test.YtdchhfdmingnaaaDoorFT4
import Derived.Test.YtdchhfdmingnaaaDoorFT5
import Derived.Lib.AppendZerosOnto
import Derived.BigQuiet
namespace Go.Proofs.YtdchhfdmingnaaaDoor
open Go.RowKit (wrap64 intOf Below)
set_option linter.unusedVariables false
set_option linter.unusedSimpArgs false
theorem quietD_more {P : Program} {f : FuncId} {args : Array Value} {w : World} {a n : Nat} {v : Value} (h : Calls P f args (w.drewN (a + n)) fun e w' => e = .returned v ∧ ∃ m, w' = (w.drewN (a + n)).drewN m) :
    Calls P f args (w.drewN (a + n)) fun e w'' => e = .returned v ∧ ∃ m, w'' = w.drewN (a + m) :=
  h.mono fun _ _ ⟨he, m, hm⟩ => ⟨he, n + m, by rw [hm, World.drewN_drewN, Nat.add_assoc]⟩
theorem belowD_drewN {B : Nat} {w u : World} (q : Nat) (h : Below B w u) : Below B w (u.drewN q) := h.trans ⟨rfl, rfl, rfl, Nat.le_refl _, fun _ _ => rfl⟩
theorem dsigOf_at {P : ProgD} {k : Nat} (h : k < P.sigs.length) : sigOf P k = P.sigs[k] := by unfold sigOf; rw [List.getElem?_eq_getElem h]
theorem dclsOf_at {P : ProgD} {k : Nat} (h : k < P.classes.length) : clsOf P k = P.classes[k] := by unfold clsOf; rw [List.getElem?_eq_getElem h]
theorem dfuncOf_at {P : ProgD} {k : Nat} (h : k < P.funcs.length) : funcOf P k = P.funcs[k] := by unfold funcOf; rw [List.getElem?_eq_getElem h]
theorem five_own (wo : World) : OwnsI (wo.drew.alloc (.cells #[.int .i64 5] 3)) wo.heap.size 3 (.slice (some ⟨wo.heap.size, 0, none⟩) 1 1) [5] :=
  World.ownsRow_lit wo.drew (base := wo.heap.size) (e := 3) (size := 1) #[.int .i64 5] 1 (Nat.le_refl _) (by unfold maxLen; omega) rfl
set_option maxRecDepth 100000 in
set_option maxHeartbeats 8000000 in
theorem dclass_any (g : Nat) {sa : Option Addr} {sn sc : Nat} {ca : Option Addr} {cn cc : Nat} {fa : Option Addr} {fn fc : Nat} {P : ProgD} (x : ClassD) (xa : Option Addr) (xn xc : Nat) (ma : Option Addr) (mn mc : Nat) (w : World) (hP : ProgAt w g sa sn sc ca cn cc fa fn fc P) (hx : NumsV w (.slice xa xn xc) x.fields) (hm : NumsV w (.slice ma mn mc) x.methods) :
    Calls Tryd.prog 33 #[.pointer (some ⟨g, 0, none⟩), .agg #[.slice xa xn xc, .slice ma mn mc]] w fun e w' => e = .returned (.bool (classD P x)) ∧ Below w.heap.size w w' := by
  obtain ⟨W1, hW1⟩ : ∃ U, w.alloc (.cells #[.slice xa xn xc, .slice ma mn mc] 74) = U := ⟨_, rfl⟩
  have hb1 : Below w.heap.size w W1 := by rw [← hW1]; exact (Below.refl _ w).alloc (Nat.le_refl _) _
  have d0 : W1.cell? ⟨w.heap.size, 0, none⟩ = some (.slice xa xn xc) := by rw [← hW1]; exact World.cell?_alloc_mark _ _ _ _ _
  have d1 : W1.cell? ⟨w.heap.size, 1, none⟩ = some (.slice ma mn mc) := by rw [← hW1]; exact World.cell?_alloc_mark _ _ _ _ _
  have hs1 : w.heap.size < W1.heap.size := by rw [← hW1]; simp
  have hP1 := hP.since hb1
  have HB := Lib.hid hb1
  have HP := Lib.hid hP1
  obtain ⟨_, _, _, hxe, hx1, hx0, hx8, hxr⟩ := hx.since hb1
  cases hxe
  obtain ⟨_, _, _, hme, hm1, hm0, hm8, hmr⟩ := hm.since hb1
  cases hme
  have HMN := Lib.hid hm1
  have HML : RowKit.Hid (x.methods.length = mn) := Lib.hid hm1.1
  have HSL := Lib.hid hP1.s.len.1
  have HFL := Lib.hid hP1.f.len.1
  have hmn8 : mn ≤ 140737488351232 := by omega
  have hfn8 := hP1.f.len.2
  have p0 := hP1.c0
  have p2 := hP1.c2
  have hgl : g < W1.heap.size := World.block_lt_of_cell? _ _ p0
  have CK : RowKit.Hid (∀ d, Calls Tryd.prog 31 #[.pointer (some ⟨g, 0, none⟩), .slice xa xn xc] (W1.drewN d) fun e w' => e = .returned (.bool (knownB P x.fields)) ∧ ∃ m, w' = (W1.drewN d).drewN m) := Lib.hid fun d => (dall_any g xa xn xc x.fields (W1.drewN d) (hP1.since (belowD_drewN d (Below.refl _ _))) (hx1.drewN d) hxr (by omega)).mono (by rintro e w' ⟨rfl, rfl⟩; exact ⟨rfl, 0, rfl⟩)
  have HC : RowKit.Hid (∀ U, Below W1.heap.size W1 U → U.cell? ⟨w.heap.size, 1, none⟩ = some (.slice ma mn mc) ∧ U.cell? ⟨g, 0, none⟩ = some (.slice sa sn sc) ∧ U.cell? ⟨g, 2, none⟩ = some (.slice fa fn fc)) := Lib.hid fun U hU => ⟨(hU.cell (p := ⟨w.heap.size, 1, none⟩) hs1).trans d1, (hU.cell (p := ⟨g, 0, none⟩) hgl).trans p0, (hU.cell (p := ⟨g, 2, none⟩) hgl).trans p2⟩
  clear hP hx hm hb1 hP1 hx1 hx0 hx8 hxr hm1 hm0 hm8 hmr hs1 hgl
  go_enter Tryd.func33, Tryd.ntmps33
  go_upto_region 1 with fail
  try rw [hW1]
  clear hW1
  cases hk : knownB P x.fields with
  | false =>
    have HR : RowKit.Hid (classD P x = false) := Lib.hid (by unfold classD; rw [hk]; rfl)
    rw [hk] at CK
    clear hk
    go_quiet (((go_at_call 31; first | exact quietD_more (CK.out _) | exact Calls.quiet_of (CK.out _))))
    go_wp2_with fail
    go_ret
    exact ⟨by rw [HR.out]; rfl, belowD_drewN _ HB.out⟩
  | true =>
    have HK := Lib.hid hk
    rw [hk] at CK
    clear hk
    by_cases hl : mn = sn
    rotate_left
    · have hne : ((mn : Int) != (sn : Int)) = true := by rw [bne_iff_ne]; omega
      have HR : RowKit.Hid (classD P x = false) := Lib.hid (by unfold classD; rw [decide_eq_false (fun e => hl (by have h1 := HML.out; have h2 := HSL.out; omega))]; simp)
      clear hl
      go_quiet (((go_at_call 31; first | exact quietD_more (CK.out _) | exact Calls.quiet_of (CK.out _))))
      go_wp2_with fail
      go_ret
      exact ⟨by rw [HR.out]; rfl, belowD_drewN _ HB.out⟩
    · have hne : ((mn : Int) != (sn : Int)) = false := by rw [hl]; simp
      have HCD : RowKit.Hid (classD P x = allK (meth1D P x) mn) := Lib.hid (by unfold classD; rw [HK.out, decide_eq_true (by have h1 := HML.out; have h2 := HSL.out; omega), HML.out]; rfl)
      have HLE := Lib.hid hl
      clear hl
      have HQ1 : RowKit.Hid (∀ q, Below W1.heap.size W1 (W1.drewN q)) := Lib.hid fun q => belowD_drewN q (Below.refl _ _)
      go_quiet (((go_at_call 31; first | exact quietD_more (CK.out _) | exact Calls.quiet_of (CK.out _))))
      clear d0 d1 p0 p2 CK hne
      go_wp2_with fail
      go_loopw [5] (fun v5 wr => ∃ i : Nat, i ≤ mn ∧ v5 = .int .i64 (i : Int) ∧ RowKit.Hid (Below W1.heap.size W1 wr ∧ allK (meth1D P x) i = true)) (fun v5 _ => mn - (intOf v5).toNat)
      case atStart => exact ⟨0, Nat.zero_le _, rfl, Lib.hid ⟨HQ1.out _, rfl⟩⟩
      case round =>
        obtain ⟨i, hi, rfl, HI⟩ := hrel
        obtain ⟨wo, hwo⟩ : ∃ u, u = wr := ⟨_, rfl⟩
        rw [← hwo] at HI ⊢
        clear hwo
        obtain ⟨d1, p0, p2⟩ := HC.out wo HI.out.1
        by_cases hlt : i < mn
        · have hltz : (i : Int) < (mn : Int) := by omega
          have hi0 : (0 : Int) ≤ (i : Int) := by omega
          have hil : i < x.methods.length := by have := HML.out; omega
          obtain ⟨gm, om, rfl, hgm, hcm⟩ := HMN.out.2 (by omega)
          have hz : wo.cell? ⟨gm, om + i, none⟩ = some (.int .i64 (nth x.methods i)) := by rw [HI.out.1.cell (p := ⟨gm, om + i, none⟩) hgm, hcm i hil, nth_is hil]; rfl
          obtain ⟨z, hzz⟩ : ∃ z, z = nth x.methods i := ⟨_, rfl⟩
          have HZZ := Lib.hid hzz
          rw [← hzz] at hz
          have HIL := Lib.hid hlt
          clear hcm hgm hil hzz
          by_cases hz0 : z < 0
          · have HM1 : RowKit.Hid (meth1D P x i = true) := Lib.hid (by unfold meth1D; rw [← HZZ.out, if_neg (by omega)])
            go_wp2_with fail
            go_roundw
            case rel => exact ⟨i + 1, HIL.out, by go_num, Lib.hid ⟨HI.out.1, allK_more HI.out.2 HM1.out⟩⟩
            case measure => have := HIL.out; simp [intOf]; omega
          · obtain ⟨k, rfl⟩ : ∃ k : Nat, z = (k : Int) := ⟨z.toNat, by omega⟩
            have hk0 : (0 : Int) ≤ (k : Int) := by omega
            have HME : RowKit.Hid (meth1D P x i = (decide ((k : Int) < (P.funcs.length : Int)) && decide ((funcOf P k).blocks.length ≠ 0) && (funcOf P k).ret == (sigOf P i).ret && sameB (parL (funcOf P k) 0) (5 :: (sigOf P i).params))) := Lib.hid (by unfold meth1D; rw [← HZZ.out, if_pos hk0, Int.toNat_natCast])
            clear hz0
            by_cases hk : k < fn
            rotate_left
            · have hkz : ¬ ((k : Int) < (fn : Int)) := by omega
              have hkg : (fn : Int) ≤ (k : Int) := by omega
              have HR : RowKit.Hid (classD P x = false) := Lib.hid (by rw [HCD.out]; refine allK_no HIL.out ?_; rw [HME.out, decide_eq_false (by have := HFL.out; omega)]; rfl)
              have HQ : RowKit.Hid (∀ q, Below w.heap.size w (wo.drewN q)) := Lib.hid fun q => belowD_drewN q (HB.out.trans (HI.out.1.mono HB.out.size))
              go_upto_region 8 with fail
              go_quiet (fail)
              go_wp2_with fail
              go_ret
              exact ⟨by rw [HR.out]; rfl, HQ.out _⟩
            · have hkz : (k : Int) < (fn : Int) := by omega
              have hkd : decide (fn ≤ k) = false := decide_eq_false (by omega)
              have hke : decide ((fn : Int) ≤ (k : Int)) = false := decide_eq_false (by omega)
              have hisn : i < sn := by have := HLE.out; omega
              have hisz : (i : Int) < (sn : Int) := by omega
              obtain ⟨gf, of, cs, hkl, rfl, hl2, hcell, hq⟩ := HP.out.f.elem hk
              obtain ⟨F, hF⟩ : ∃ F, F = P.funcs[k] := ⟨_, rfl⟩
              rw [← hF] at hq
              have hFk : funcOf P k = F := by rw [dfuncOf_at hkl, hF]
              obtain ⟨bv, rfl, _, hbr⟩ := hq
              have hbr' := hbr
              obtain ⟨ba, bn, bc, rfl, hbln, _, hbn8, _⟩ := hbr'
              have hf0 := hcell 0 (by simp)
              have hf1 := hcell 1 (by simp)
              simp only [Nat.add_zero, List.getElem_cons_zero, List.getElem_cons_succ] at hf0 hf1
              obtain ⟨gs, os, cs2, hsl, rfl, hl22, hcell2, hq2⟩ := HP.out.s.elem hisn
              obtain ⟨Y, hY⟩ : ∃ Y, Y = P.sigs[i] := ⟨_, rfl⟩
              rw [← hY] at hq2
              have hYi : sigOf P i = Y := by rw [dsigOf_at hsl, hY]
              obtain ⟨pv, rfl, hpv, _⟩ := hq2
              obtain ⟨ya, yn, yc, rfl, hy1, hy0, hy8, _⟩ := hpv
              have hs0 := hcell2 0 (by simp)
              have hs1 := hcell2 1 (by simp)
              simp only [Nat.add_zero, List.getElem_cons_zero, List.getElem_cons_succ] at hs0 hs1
              have hgf : gf < W1.heap.size := World.block_lt_of_cell? _ _ hf0
              have hgs : gs < W1.heap.size := World.block_lt_of_cell? _ _ hs0
              obtain ⟨rt, hrt⟩ : ∃ t, t = F.ret := ⟨_, rfl⟩
              obtain ⟨st, hst⟩ : ∃ t, t = Y.ret := ⟨_, rfl⟩
              rw [hFk, hYi] at HME
              rw [← hrt] at hf0 HME
              rw [← hst] at hs1 HME
              have HC2 : RowKit.Hid (∀ U, Below W1.heap.size W1 U → U.cell? ⟨gf, of + k * 2, none⟩ = some (.int .i64 rt) ∧ U.cell? ⟨gf, of + k * 2 + 1, none⟩ = some (.slice ba bn bc) ∧ U.cell? ⟨gs, os + i * 2, none⟩ = some (.slice ya yn yc) ∧ U.cell? ⟨gs, os + i * 2 + 1, none⟩ = some (.int .i64 st)) := Lib.hid fun U hU => ⟨(hU.cell (p := ⟨gf, of + k * 2, none⟩) hgf).trans hf0, (hU.cell (p := ⟨gf, of + k * 2 + 1, none⟩) hgf).trans hf1, (hU.cell (p := ⟨gs, os + i * 2, none⟩) hgs).trans hs0, (hU.cell (p := ⟨gs, os + i * 2 + 1, none⟩) hgs).trans hs1⟩
              have HY1 := Lib.hid hy1
              have HY0 := Lib.hid hy0
              have hyn8 : yn ≤ 17592186043904 := by omega
              have HBL : RowKit.Hid (F.blocks.length = bn) := Lib.hid hbln
              have HBR := Lib.hid hbr
              have HQ : RowKit.Hid (∀ q, Below w.heap.size w (wo.drewN q)) := Lib.hid fun q => belowD_drewN q (HB.out.trans (HI.out.1.mono HB.out.size))
              have HKD : RowKit.Hid (decide ((k : Int) < (P.funcs.length : Int)) = true) := Lib.hid (decide_eq_true (by have := HFL.out; omega))
              obtain ⟨q0, q1, t0, t1⟩ := HC2.out wo HI.out.1
              clear hcell hcell2 hf0 hf1 hs0 hs1 hgf hgs hF hFk hY hYi hl2 hl22 hy1 hy0 hy8 hbr hbln hkl hsl hrt hst
              by_cases hb0 : bn = 0
              · have hbz : ((bn : Int) == 0) = true := by rw [hb0]; rfl
                have HR : RowKit.Hid (classD P x = false) := Lib.hid (by rw [HCD.out]; refine allK_no HIL.out ?_; rw [HME.out, decide_eq_false (show ¬ F.blocks.length ≠ 0 by have := HBL.out; omega)]; simp)
                subst hb0
                go_upto_region 8 with fail
                go_quiet (fail)
                go_wp2_with fail
                go_ret
                exact ⟨by rw [HR.out]; rfl, HQ.out _⟩
              · have hbn : 0 < bn := by omega
                have hbz : ((bn : Int) == 0) = false := by rw [beq_eq_false_iff_ne]; omega
                have hbnz : (0 : Int) < (bn : Int) := by omega
                have HBD : RowKit.Hid (decide (F.blocks.length ≠ 0) = true) := Lib.hid (decide_eq_true (by have := HBL.out; omega))
                by_cases hrs : rt = st
                rotate_left
                · have hrz : (rt != st) = true := by rw [bne_iff_ne]; exact hrs
                  have HR : RowKit.Hid (classD P x = false) := Lib.hid (by rw [HCD.out]; refine allK_no HIL.out ?_; rw [HME.out, beq_eq_false_iff_ne.2 hrs]; simp)
                  clear hrs
                  go_upto_region 8 with fail
                  go_quiet (fail)
                  go_wp2_with fail
                  go_ret
                  exact ⟨by rw [HR.out]; rfl, HQ.out _⟩
                · have hrz : (rt != st) = false := by rw [hrs]; simp
                  obtain ⟨gb, ob, cs8, hb0l, rfl, hl8, hcell8, hq8⟩ := HBR.out.elem hbn
                  obtain ⟨X, hX⟩ : ∃ X, X = F.blocks[0] := ⟨_, rfl⟩
                  rw [← hX] at hq8
                  obtain ⟨pv, ov, es, rfl, ⟨pa, pn, pc, rfl, hp, hp0, hp8, _⟩, _⟩ := hq8
                  have hbc := hcell8 0 (by simp)
                  simp only [Nat.add_zero, Nat.zero_mul, List.getElem_cons_zero] at hbc
                  have hgb : gb < W1.heap.size := World.block_lt_of_cell? _ _ hbc
                  have HMX : RowKit.Hid (meth1D P x i = sameB X.params (5 :: Y.params)) := Lib.hid (by rw [HME.out, HKD.out, HBD.out, hrs, parL_at hb0l, ← hX]; simp)
                  have HPN := Lib.hid hp
                  have hpn8 : pn ≤ 140737488355328 := by omega
                  have HCC : RowKit.Hid (∀ U, Below W1.heap.size W1 U → (U.cell? ⟨g, 0, none⟩ = some (.slice (some ⟨gs, os, none⟩) sn sc) ∧ U.cell? ⟨g, 2, none⟩ = some (.slice (some ⟨gf, of, none⟩) fn fc)) ∧ (U.cell? ⟨gf, of + k * 2, none⟩ = some (.int .i64 rt) ∧ U.cell? ⟨gf, of + k * 2 + 1, none⟩ = some (.slice (some ⟨gb, ob, none⟩) bn bc) ∧ U.cell? ⟨gs, os + i * 2, none⟩ = some (.slice ya yn yc) ∧ U.cell? ⟨gs, os + i * 2 + 1, none⟩ = some (.int .i64 st)) ∧ U.cell? ⟨gb, ob, none⟩ = some (.slice pa pn pc)) := Lib.hid fun U hU => ⟨(HC.out U hU).2, HC2.out U hU, (hU.cell (p := ⟨gb, ob, none⟩) hgb).trans hbc⟩
                  have HOW := Lib.hid (five_own wo)
                  have HAP : RowKit.Hid (∀ w7, (wo.drew.alloc (.cells #[.int .i64 5] 3)).grownBy w7 (some wo.heap.size) → Below wo.heap.size wo w7) := Lib.hid fun w7 hg => Below.grown (((Below.refl _ wo).drew).alloc (Nat.le_refl _) _) hg (by show wo.heap.size ≤ (wo.drew.alloc (.cells #[.int .i64 5] 3)).heap.size; simp) (fun k' hk' => by cases hk'; exact Nat.le_refl _)
                  obtain ⟨bb, hbb⟩ : ∃ b, b = sameB X.params (5 :: Y.params) := ⟨_, rfl⟩
                  have HBB := Lib.hid hbb
                  clear hcell8 hbc hgb hX hp hp0 hp8 hrs hb0 hbb hl8 hb0l
                  go_upto_region 8 with fail
                  clear d1 p0 p2 q0 q1 t0 t1 hz
                  refine wp_region_T (S := (fun u : World => (u.cell? ⟨g, 0, none⟩ = some (.slice (some ⟨gs, os, none⟩) sn sc) ∧ u.cell? ⟨g, 2, none⟩ = some (.slice (some ⟨gf, of, none⟩) fn fc)) ∧ (u.cell? ⟨gf, of + k * 2, none⟩ = some (.int .i64 rt) ∧ u.cell? ⟨gf, of + k * 2 + 1, none⟩ = some (.slice (some ⟨gb, ob, none⟩) bn bc) ∧ u.cell? ⟨gs, os + i * 2, none⟩ = some (.slice ya yn yc) ∧ u.cell? ⟨gs, os + i * 2 + 1, none⟩ = some (.int .i64 st)) ∧ u.cell? ⟨gb, ob, none⟩ = some (.slice pa pn pc))) 63 (by kernel_rfl) (HCC.out _ (HI.out.1.trans (((Below.refl _ wo).drew).mono HI.out.1.size))) (fun hHeld => ?_)
                  refine wpAnyT_takeW (i := 0) (oi := ⟨some 37, _, _, _, _, _⟩) (v := ?_) rfl (by kernel_rfl) (by kernel_rfl) (by kernel_rfl) (fun _ _ _ h => h) (Or.inl ⟨by rfl, ?_⟩) ?_
                  rotate_left
                  · ((intro w _; go_simp); try with_reducible rfl)
                  (try simp only [Act.put, List.setIfInBounds_toArray, List.set_cons_zero, List.set_cons_succ])
                  refine wpAnyT_takeW (i := 1) (oi := ⟨some 38, _, _, _, _, _⟩) (v := ?_) rfl (by kernel_rfl) (by kernel_rfl) (by kernel_rfl) (fun _ _ _ h => h) (Or.inl ⟨by rfl, ?_⟩) ?_
                  rotate_left
                  · ((intro w _; go_simp); try with_reducible rfl)
                  (try simp only [Act.put, List.setIfInBounds_toArray, List.set_cons_zero, List.set_cons_succ])
                  refine wpAnyT_takeW (i := 2) (oi := ⟨some 39, _, _, _, _, _⟩) (v := ?_) rfl (by kernel_rfl) (by kernel_rfl) (by kernel_rfl) (fun _ _ _ h => h) (Or.inl ⟨by rfl, ?_⟩) ?_
                  rotate_left
                  · ((intro w _; go_simp); try with_reducible rfl)
                  (try simp only [Act.put, List.setIfInBounds_toArray, List.set_cons_zero, List.set_cons_succ])
                  refine wpAnyT_takeW (i := 3) (oi := ⟨some 40, _, _, _, _, _⟩) (v := ?_) rfl (by kernel_rfl) (by kernel_rfl) (by kernel_rfl) (fun _ _ _ h => h) (Or.inl ⟨by rfl, ?_⟩) ?_
                  rotate_left
                  · ((intro w _; go_simp); try with_reducible rfl)
                  (try simp only [Act.put, List.setIfInBounds_toArray, List.set_cons_zero, List.set_cons_succ])
                  refine wpAnyT_take (i := 4) (oi := ⟨some 41, _, _, _, _, _⟩) (v := ?_) 8 rfl (by kernel_rfl) (by kernel_rfl) (by kernel_rfl) (by kernel_rfl) (by kernel_rfl) (fun _ _ _ h => h) (Or.inl ⟨by rfl, ?_⟩) (by assumption) ?_
                  rotate_left
                  · ((intro w hSw; (try dsimp only at hSw); go_simp); try with_reducible rfl)
                  (try simp only [Act.put, List.setIfInBounds_toArray, List.set_cons_zero, List.set_cons_succ])
                  refine wpAnyT_takeW (i := 5) (oi := ⟨some 42, _, _, _, _, _⟩) (v := ?_) rfl (by kernel_rfl) (by kernel_rfl) (by kernel_rfl) (fun _ _ _ h => h) (Or.inl ⟨by rfl, ?_⟩) ?_
                  rotate_left
                  · ((intro w _; go_simp); try with_reducible rfl)
                  (try simp only [Act.put, List.setIfInBounds_toArray, List.set_cons_zero, List.set_cons_succ])
                  refine wpAnyT_takeW (i := 6) (oi := ⟨some 43, _, _, _, _, _⟩) (v := ?_) rfl (by kernel_rfl) (by kernel_rfl) (by kernel_rfl) (fun _ _ _ h => h) (Or.inl ⟨by rfl, ?_⟩) ?_
                  rotate_left
                  · ((intro w _; go_simp); try with_reducible rfl)
                  (try simp only [Act.put, List.setIfInBounds_toArray, List.set_cons_zero, List.set_cons_succ])
                  refine wpAnyT_takeW (i := 7) (oi := ⟨some 44, _, _, _, _, _⟩) (v := ?_) rfl (by kernel_rfl) (by kernel_rfl) (by kernel_rfl) (fun _ _ _ h => h) (Or.inl ⟨by rfl, ?_⟩) ?_
                  rotate_left
                  · ((intro w _; go_simp); try with_reducible rfl)
                  (try simp only [Act.put, List.setIfInBounds_toArray, List.set_cons_zero, List.set_cons_succ])
                  refine wpAnyT_takeW (i := 8) (oi := ⟨some 45, _, _, _, _, _⟩) (v := ?_) rfl (by kernel_rfl) (by kernel_rfl) (by kernel_rfl) (fun _ _ _ h => h) (Or.inl ⟨by rfl, ?_⟩) ?_
                  rotate_left
                  · ((intro w _; go_simp); try with_reducible rfl)
                  (try simp only [Act.put, List.setIfInBounds_toArray, List.set_cons_zero, List.set_cons_succ])
                  refine wpAnyT_takeW (i := 9) (oi := ⟨some 46, _, _, _, _, _⟩) (v := ?_) rfl (by kernel_rfl) (by kernel_rfl) (by kernel_rfl) (fun _ _ _ h => h) (Or.inl ⟨by rfl, ?_⟩) ?_
                  rotate_left
                  · ((intro w _; go_simp); try with_reducible rfl)
                  (try simp only [Act.put, List.setIfInBounds_toArray, List.set_cons_zero, List.set_cons_succ])
                  refine wpAnyT_takeW (i := 10) (oi := ⟨some 47, _, _, _, _, _⟩) (v := ?_) rfl (by kernel_rfl) (by kernel_rfl) (by kernel_rfl) (fun _ _ _ h => h) (Or.inl ⟨by rfl, ?_⟩) ?_
                  rotate_left
                  · ((intro w _; go_simp); try with_reducible rfl)
                  (try simp only [Act.put, List.setIfInBounds_toArray, List.set_cons_zero, List.set_cons_succ])
                  refine wpAnyT_take (i := 11) (oi := ⟨some 48, _, _, _, _, _⟩) (v := ?_) 8 rfl (by kernel_rfl) (by kernel_rfl) (by kernel_rfl) (by kernel_rfl) (by kernel_rfl) (fun _ _ _ h => h) (Or.inl ⟨by rfl, ?_⟩) (by assumption) ?_
                  rotate_left
                  · ((intro w hSw; (try dsimp only at hSw); go_simp); try with_reducible rfl)
                  (try simp only [Act.put, List.setIfInBounds_toArray, List.set_cons_zero, List.set_cons_succ])
                  refine wpAnyT_takeW (i := 12) (oi := ⟨some 49, _, _, _, _, _⟩) (v := ?_) rfl (by kernel_rfl) (by kernel_rfl) (by kernel_rfl) (fun _ _ _ h => h) (Or.inl ⟨by rfl, ?_⟩) ?_
                  rotate_left
                  · ((intro w _; go_simp); try with_reducible rfl)
                  (try simp only [Act.put, List.setIfInBounds_toArray, List.set_cons_zero, List.set_cons_succ])
                  refine wpAnyT_takeW (i := 13) (oi := ⟨some 50, _, _, _, _, _⟩) (v := ?_) rfl (by kernel_rfl) (by kernel_rfl) (by kernel_rfl) (fun _ _ _ h => h) (Or.inl ⟨by rfl, ?_⟩) ?_
                  rotate_left
                  · ((intro w _; go_simp); try with_reducible rfl)
                  (try simp only [Act.put, List.setIfInBounds_toArray, List.set_cons_zero, List.set_cons_succ])
                  refine wpAnyT_takeW (i := 14) (oi := ⟨some 51, _, _, _, _, _⟩) (v := ?_) rfl (by kernel_rfl) (by kernel_rfl) (by kernel_rfl) (fun _ _ _ h => h) (Or.inl ⟨by rfl, ?_⟩) ?_
                  rotate_left
                  · ((intro w _; go_simp); try with_reducible rfl)
                  (try simp only [Act.put, List.setIfInBounds_toArray, List.set_cons_zero, List.set_cons_succ])
                  refine wpAnyT_take (i := 15) (oi := ⟨some 52, _, _, _, _, _⟩) (v := ?_) 8 rfl (by kernel_rfl) (by kernel_rfl) (by kernel_rfl) (by kernel_rfl) (by kernel_rfl) (fun _ _ _ h => h) (Or.inl ⟨by rfl, ?_⟩) (by assumption) ?_
                  rotate_left
                  · ((intro w hSw; (try dsimp only at hSw); go_simp); try with_reducible rfl)
                  (try simp only [Act.put, List.setIfInBounds_toArray, List.set_cons_zero, List.set_cons_succ])
                  refine wpAnyT_takeW (i := 16) (oi := ⟨some 53, _, _, _, _, _⟩) (v := ?_) rfl (by kernel_rfl) (by kernel_rfl) (by kernel_rfl) (fun _ _ _ h => h) (Or.inl ⟨by rfl, ?_⟩) ?_
                  rotate_left
                  · ((intro w _; go_simp); try with_reducible rfl)
                  (try simp only [Act.put, List.setIfInBounds_toArray, List.set_cons_zero, List.set_cons_succ])
                  refine wpAnyT_takeW (i := 17) (oi := ⟨some 54, _, _, _, _, _⟩) (v := ?_) rfl (by kernel_rfl) (by kernel_rfl) (by kernel_rfl) (fun _ _ _ h => h) (Or.inl ⟨by rfl, ?_⟩) ?_
                  rotate_left
                  · ((intro w _; go_simp); try with_reducible rfl)
                  (try simp only [Act.put, List.setIfInBounds_toArray, List.set_cons_zero, List.set_cons_succ])
                  refine wpAnyT_takeW (i := 18) (oi := ⟨some 55, _, _, _, _, _⟩) (v := ?_) rfl (by kernel_rfl) (by kernel_rfl) (by kernel_rfl) (fun _ _ _ h => h) (Or.inl ⟨by rfl, ?_⟩) ?_
                  rotate_left
                  · ((intro w _; go_simp); try with_reducible rfl)
                  (try simp only [Act.put, List.setIfInBounds_toArray, List.set_cons_zero, List.set_cons_succ])
                  refine wpAnyT_takeW (i := 19) (oi := ⟨some 56, _, _, _, _, _⟩) (v := ?_) rfl (by kernel_rfl) (by kernel_rfl) (by kernel_rfl) (fun _ _ _ h => h) (Or.inl ⟨by rfl, ?_⟩) ?_
                  rotate_left
                  · ((intro w _; go_simp); try with_reducible rfl)
                  (try simp only [Act.put, List.setIfInBounds_toArray, List.set_cons_zero, List.set_cons_succ])
                  refine wpAnyT_takeW (i := 20) (oi := ⟨some 57, _, _, _, _, _⟩) (v := ?_) rfl (by kernel_rfl) (by kernel_rfl) (by kernel_rfl) (fun _ _ _ h => h) (Or.inl ⟨by rfl, ?_⟩) ?_
                  rotate_left
                  · ((intro w _; go_simp); try with_reducible rfl)
                  (try simp only [Act.put, List.setIfInBounds_toArray, List.set_cons_zero, List.set_cons_succ])
                  refine wpAnyT_takeW (i := 21) (oi := ⟨some 58, _, _, _, _, _⟩) (v := ?_) rfl (by kernel_rfl) (by kernel_rfl) (by kernel_rfl) (fun _ _ _ h => h) (Or.inl ⟨by rfl, ?_⟩) ?_
                  rotate_left
                  · ((intro w _; go_simp); try with_reducible rfl)
                  (try simp only [Act.put, List.setIfInBounds_toArray, List.set_cons_zero, List.set_cons_succ])
                  refine wpAnyT_takeW (i := 22) (oi := ⟨some 59, _, _, _, _, _⟩) (v := ?_) rfl (by kernel_rfl) (by kernel_rfl) (by kernel_rfl) (fun _ _ _ h => h) (Or.inl ⟨by rfl, ?_⟩) ?_
                  rotate_left
                  · ((intro w _; go_simp); try with_reducible rfl)
                  (try simp only [Act.put, List.setIfInBounds_toArray, List.set_cons_zero, List.set_cons_succ])
                  refine wpAnyT_take (i := 23) (oi := ⟨some 60, _, _, _, _, _⟩) (v := ?_) 8 rfl (by kernel_rfl) (by kernel_rfl) (by kernel_rfl) (by kernel_rfl) (by kernel_rfl) (fun _ _ _ h => h) (Or.inl ⟨by rfl, ?_⟩) (by assumption) ?_
                  rotate_left
                  · ((intro w hSw; (try dsimp only at hSw); go_simp); try with_reducible rfl)
                  (try simp only [Act.put, List.setIfInBounds_toArray, List.set_cons_zero, List.set_cons_succ])
                  refine wpAnyT_takeW (i := 24) (oi := ⟨some 61, _, _, _, _, _⟩) (v := ?_) rfl (by kernel_rfl) (by kernel_rfl) (by kernel_rfl) (fun _ _ _ h => h) (Or.inl ⟨by rfl, ?_⟩) ?_
                  rotate_left
                  · ((intro w _; go_simp); try with_reducible rfl)
                  (try simp only [Act.put, List.setIfInBounds_toArray, List.set_cons_zero, List.set_cons_succ])
                  refine wpAnyT_takeW (i := 25) (oi := ⟨some 62, _, _, _, _, _⟩) (v := ?_) rfl (by kernel_rfl) (by kernel_rfl) (by kernel_rfl) (fun _ _ _ h => h) (Or.inl ⟨by rfl, ?_⟩) ?_
                  rotate_left
                  · ((intro w _; go_simp); try with_reducible rfl)
                  (try simp only [Act.put, List.setIfInBounds_toArray, List.set_cons_zero, List.set_cons_succ])
                  refine wpAnyT_takeW (i := 26) (oi := ⟨some 63, _, _, _, _, _⟩) (v := ?_) rfl (by kernel_rfl) (by kernel_rfl) (by kernel_rfl) (fun _ _ _ h => h) (Or.inl ⟨by rfl, ?_⟩) ?_
                  rotate_left
                  · ((intro w _; go_simp); try with_reducible rfl)
                  (try simp only [Act.put, List.setIfInBounds_toArray, List.set_cons_zero, List.set_cons_succ])
                  refine wpAnyT_take (i := 27) (oi := ⟨some 64, _, _, _, _, _⟩) (v := ?_) 8 rfl (by kernel_rfl) (by kernel_rfl) (by kernel_rfl) (by kernel_rfl) (by kernel_rfl) (fun _ _ _ h => h) (Or.inl ⟨by rfl, ?_⟩) (by assumption) ?_
                  rotate_left
                  · ((intro w hSw; (try dsimp only at hSw); go_simp); try with_reducible rfl)
                  (try simp only [Act.put, List.setIfInBounds_toArray, List.set_cons_zero, List.set_cons_succ])
                  refine wpAnyT_takeW (i := 28) (oi := ⟨some 65, _, _, _, _, _⟩) (v := ?_) rfl (by kernel_rfl) (by kernel_rfl) (by kernel_rfl) (fun _ _ _ h => h) (Or.inl ⟨by rfl, ?_⟩) ?_
                  rotate_left
                  · ((intro w _; go_simp); try with_reducible rfl)
                  (try simp only [Act.put, List.setIfInBounds_toArray, List.set_cons_zero, List.set_cons_succ])
                  refine wpAnyT_takeW (i := 29) (oi := ⟨some 66, _, _, _, _, _⟩) (v := ?_) rfl (by kernel_rfl) (by kernel_rfl) (by kernel_rfl) (fun _ _ _ h => h) (Or.inl ⟨by rfl, ?_⟩) ?_
                  rotate_left
                  · ((intro w _; go_simp); try with_reducible rfl)
                  (try simp only [Act.put, List.setIfInBounds_toArray, List.set_cons_zero, List.set_cons_succ])
                  refine wpAnyT_takeW (i := 30) (oi := ⟨some 67, _, _, _, _, _⟩) (v := ?_) rfl (by kernel_rfl) (by kernel_rfl) (by kernel_rfl) (fun _ _ _ h => h) (Or.inl ⟨by rfl, ?_⟩) ?_
                  rotate_left
                  · ((intro w _; go_simp); try with_reducible rfl)
                  (try simp only [Act.put, List.setIfInBounds_toArray, List.set_cons_zero, List.set_cons_succ])
                  refine wpAnyT_take (i := 31) (oi := ⟨some 68, _, _, _, _, _⟩) (v := ?_) 8 rfl (by kernel_rfl) (by kernel_rfl) (by kernel_rfl) (by kernel_rfl) (by kernel_rfl) (fun _ _ _ h => h) (Or.inl ⟨by rfl, ?_⟩) (by assumption) ?_
                  rotate_left
                  · ((intro w hSw; (try dsimp only at hSw); go_simp); try with_reducible rfl)
                  (try simp only [Act.put, List.setIfInBounds_toArray, List.set_cons_zero, List.set_cons_succ])
                  refine wpAnyT_takeW (i := 32) (oi := ⟨some 69, _, _, _, _, _⟩) (v := ?_) rfl (by kernel_rfl) (by kernel_rfl) (by kernel_rfl) (fun _ _ _ h => h) (Or.inl ⟨by rfl, ?_⟩) ?_
                  rotate_left
                  · ((intro w _; go_simp); try with_reducible rfl)
                  (try simp only [Act.put, List.setIfInBounds_toArray, List.set_cons_zero, List.set_cons_succ])
                  refine wpAnyT_takeW (i := 33) (oi := ⟨some 70, _, _, _, _, _⟩) (v := ?_) rfl (by kernel_rfl) (by kernel_rfl) (by kernel_rfl) (fun _ _ _ h => h) (Or.inl ⟨by rfl, ?_⟩) ?_
                  rotate_left
                  · ((intro w _; go_simp); try with_reducible rfl)
                  (try simp only [Act.put, List.setIfInBounds_toArray, List.set_cons_zero, List.set_cons_succ])
                  refine wpAnyT_takeW (i := 34) (oi := ⟨some 71, _, _, _, _, _⟩) (v := ?_) rfl (by kernel_rfl) (by kernel_rfl) (by kernel_rfl) (fun _ _ _ h => h) (Or.inl ⟨by rfl, ?_⟩) ?_
                  rotate_left
                  · ((intro w _; go_simp); try with_reducible rfl)
                  (try simp only [Act.put, List.setIfInBounds_toArray, List.set_cons_zero, List.set_cons_succ])
                  refine wpAnyT_take (i := 35) (oi := ⟨some 72, _, _, _, _, _⟩) (v := ?_) 8 rfl (by kernel_rfl) (by kernel_rfl) (by kernel_rfl) (by kernel_rfl) (by kernel_rfl) (fun _ _ _ h => h) (Or.inl ⟨by rfl, ?_⟩) (by assumption) ?_
                  rotate_left
                  · ((intro w hSw; (try dsimp only at hSw); go_simp); try with_reducible rfl)
                  (try simp only [Act.put, List.setIfInBounds_toArray, List.set_cons_zero, List.set_cons_succ])
                  refine wpAnyT_takeW (i := 36) (oi := ⟨some 73, _, _, _, _, _⟩) (v := ?_) rfl (by kernel_rfl) (by kernel_rfl) (by kernel_rfl) (fun _ _ _ h => h) (Or.inl ⟨by rfl, ?_⟩) ?_
                  rotate_left
                  · ((intro w _; go_simp); try with_reducible rfl)
                  (try simp only [Act.put, List.setIfInBounds_toArray, List.set_cons_zero, List.set_cons_succ])
                  refine wpAnyT_takeW (i := 37) (oi := ⟨some 74, _, _, _, _, _⟩) (v := ?_) rfl (by kernel_rfl) (by kernel_rfl) (by kernel_rfl) (fun _ _ _ h => h) (Or.inl ⟨by rfl, ?_⟩) ?_
                  rotate_left
                  · ((intro w _; go_simp); try with_reducible rfl)
                  (try simp only [Act.put, List.setIfInBounds_toArray, List.set_cons_zero, List.set_cons_succ])
                  refine wpAnyT_takeW (i := 38) (oi := ⟨some 75, _, _, _, _, _⟩) (v := ?_) rfl (by kernel_rfl) (by kernel_rfl) (by kernel_rfl) (fun _ _ _ h => h) (Or.inl ⟨by rfl, ?_⟩) ?_
                  rotate_left
                  · ((intro w _; go_simp); try with_reducible rfl)
                  (try simp only [Act.put, List.setIfInBounds_toArray, List.set_cons_zero, List.set_cons_succ])
                  refine wpAnyT_takeW (i := 39) (oi := ⟨some 76, _, _, _, _, _⟩) (v := ?_) rfl (by kernel_rfl) (by kernel_rfl) (by kernel_rfl) (fun _ _ _ h => h) (Or.inl ⟨by rfl, ?_⟩) ?_
                  rotate_left
                  · ((intro w _; go_simp); try with_reducible rfl)
                  (try simp only [Act.put, List.setIfInBounds_toArray, List.set_cons_zero, List.set_cons_succ])
                  refine wpAnyT_takeW (i := 40) (oi := ⟨some 77, _, _, _, _, _⟩) (v := ?_) rfl (by kernel_rfl) (by kernel_rfl) (by kernel_rfl) (fun _ _ _ h => h) (Or.inl ⟨by rfl, ?_⟩) ?_
                  rotate_left
                  · ((intro w _; go_simp); try with_reducible rfl)
                  (try simp only [Act.put, List.setIfInBounds_toArray, List.set_cons_zero, List.set_cons_succ])
                  refine wpAnyT_takeW (i := 41) (oi := ⟨some 78, _, _, _, _, _⟩) (v := ?_) rfl (by kernel_rfl) (by kernel_rfl) (by kernel_rfl) (fun _ _ _ h => h) (Or.inl ⟨by rfl, ?_⟩) ?_
                  rotate_left
                  · ((intro w _; go_simp); try with_reducible rfl)
                  (try simp only [Act.put, List.setIfInBounds_toArray, List.set_cons_zero, List.set_cons_succ])
                  refine wpAnyT_take (i := 42) (oi := ⟨some 79, _, _, _, _, _⟩) (v := ?_) 8 rfl (by kernel_rfl) (by kernel_rfl) (by kernel_rfl) (by kernel_rfl) (by kernel_rfl) (fun _ _ _ h => h) (Or.inl ⟨by rfl, ?_⟩) (by assumption) ?_
                  rotate_left
                  · ((intro w hSw; (try dsimp only at hSw); go_simp); try with_reducible rfl)
                  (try simp only [Act.put, List.setIfInBounds_toArray, List.set_cons_zero, List.set_cons_succ])
                  refine wpAnyT_takeW (i := 43) (oi := ⟨some 80, _, _, _, _, _⟩) (v := ?_) rfl (by kernel_rfl) (by kernel_rfl) (by kernel_rfl) (fun _ _ _ h => h) (Or.inl ⟨by rfl, ?_⟩) ?_
                  rotate_left
                  · ((intro w _; go_simp); try with_reducible rfl)
                  (try simp only [Act.put, List.setIfInBounds_toArray, List.set_cons_zero, List.set_cons_succ])
                  refine wpAnyT_takeW (i := 44) (oi := ⟨some 81, _, _, _, _, _⟩) (v := ?_) rfl (by kernel_rfl) (by kernel_rfl) (by kernel_rfl) (fun _ _ _ h => h) (Or.inl ⟨by rfl, ?_⟩) ?_
                  rotate_left
                  · ((intro w _; go_simp); try with_reducible rfl)
                  (try simp only [Act.put, List.setIfInBounds_toArray, List.set_cons_zero, List.set_cons_succ])
                  refine wpAnyT_takeW (i := 45) (oi := ⟨some 82, _, _, _, _, _⟩) (v := ?_) rfl (by kernel_rfl) (by kernel_rfl) (by kernel_rfl) (fun _ _ _ h => h) (Or.inl ⟨by rfl, ?_⟩) ?_
                  rotate_left
                  · ((intro w _; go_simp); try with_reducible rfl)
                  (try simp only [Act.put, List.setIfInBounds_toArray, List.set_cons_zero, List.set_cons_succ])
                  refine wpAnyT_take (i := 46) (oi := ⟨some 83, _, _, _, _, _⟩) (v := ?_) 8 rfl (by kernel_rfl) (by kernel_rfl) (by kernel_rfl) (by kernel_rfl) (by kernel_rfl) (fun _ _ _ h => h) (Or.inl ⟨by rfl, ?_⟩) (by assumption) ?_
                  rotate_left
                  · ((intro w hSw; (try dsimp only at hSw); go_simp); try with_reducible rfl)
                  (try simp only [Act.put, List.setIfInBounds_toArray, List.set_cons_zero, List.set_cons_succ])
                  refine wpAnyT_takeW (i := 47) (oi := ⟨some 84, _, _, _, _, _⟩) (v := ?_) rfl (by kernel_rfl) (by kernel_rfl) (by kernel_rfl) (fun _ _ _ h => h) (Or.inl ⟨by rfl, ?_⟩) ?_
                  rotate_left
                  · ((intro w _; go_simp); try with_reducible rfl)
                  (try simp only [Act.put, List.setIfInBounds_toArray, List.set_cons_zero, List.set_cons_succ])
                  refine wpAnyT_takeW (i := 48) (oi := ⟨some 85, _, _, _, _, _⟩) (v := ?_) rfl (by kernel_rfl) (by kernel_rfl) (by kernel_rfl) (fun _ _ _ h => h) (Or.inl ⟨by rfl, ?_⟩) ?_
                  rotate_left
                  · ((intro w _; go_simp); try with_reducible rfl)
                  (try simp only [Act.put, List.setIfInBounds_toArray, List.set_cons_zero, List.set_cons_succ])
                  refine wpAnyT_take (i := 49) (oi := ⟨some 86, _, _, _, _, _⟩) (v := ?_) 8 rfl (by kernel_rfl) (by kernel_rfl) (by kernel_rfl) (by kernel_rfl) (by kernel_rfl) (fun _ _ _ h => h) (Or.inl ⟨by rfl, ?_⟩) (by assumption) ?_
                  rotate_left
                  · ((intro w hSw; (try dsimp only at hSw); go_simp); try with_reducible rfl)
                  (try simp only [Act.put, List.setIfInBounds_toArray, List.set_cons_zero, List.set_cons_succ])
                  refine wpAnyT_takeW (i := 51) (oi := ⟨some 88, _, _, _, _, _⟩) (v := ?_) rfl (by kernel_rfl) (by kernel_rfl) (by kernel_rfl) (fun _ _ _ h => h) (Or.inl ⟨by rfl, ?_⟩) ?_
                  rotate_left
                  · ((intro w _; go_simp); try with_reducible rfl)
                  (try simp only [Act.put, List.setIfInBounds_toArray, List.set_cons_zero, List.set_cons_succ])
                  refine wpAnyT_takeW (i := 52) (oi := ⟨some 89, _, _, _, _, _⟩) (v := ?_) rfl (by kernel_rfl) (by kernel_rfl) (by kernel_rfl) (fun _ _ _ h => h) (Or.inl ⟨by rfl, ?_⟩) ?_
                  rotate_left
                  · ((intro w _; go_simp); try with_reducible rfl)
                  (try simp only [Act.put, List.setIfInBounds_toArray, List.set_cons_zero, List.set_cons_succ])
                  refine wpAnyT_takeW (i := 53) (oi := ⟨some 90, _, _, _, _, _⟩) (v := ?_) rfl (by kernel_rfl) (by kernel_rfl) (by kernel_rfl) (fun _ _ _ h => h) (Or.inl ⟨by rfl, ?_⟩) ?_
                  rotate_left
                  · ((intro w _; go_simp); try with_reducible rfl)
                  (try simp only [Act.put, List.setIfInBounds_toArray, List.set_cons_zero, List.set_cons_succ])
                  refine wpAnyT_take (i := 54) (oi := ⟨some 91, _, _, _, _, _⟩) (v := ?_) 8 rfl (by kernel_rfl) (by kernel_rfl) (by kernel_rfl) (by kernel_rfl) (by kernel_rfl) (fun _ _ _ h => h) (Or.inl ⟨by rfl, ?_⟩) (by assumption) ?_
                  rotate_left
                  · ((intro w hSw; (try dsimp only at hSw); go_simp); try with_reducible rfl)
                  (try simp only [Act.put, List.setIfInBounds_toArray, List.set_cons_zero, List.set_cons_succ])
                  refine wpAnyT_takeW (i := 55) (oi := ⟨some 92, _, _, _, _, _⟩) (v := ?_) rfl (by kernel_rfl) (by kernel_rfl) (by kernel_rfl) (fun _ _ _ h => h) (Or.inl ⟨by rfl, ?_⟩) ?_
                  rotate_left
                  · ((intro w _; go_simp); try with_reducible rfl)
                  (try simp only [Act.put, List.setIfInBounds_toArray, List.set_cons_zero, List.set_cons_succ])
                  refine wpAnyT_takeW (i := 56) (oi := ⟨some 93, _, _, _, _, _⟩) (v := ?_) rfl (by kernel_rfl) (by kernel_rfl) (by kernel_rfl) (fun _ _ _ h => h) (Or.inl ⟨by rfl, ?_⟩) ?_
                  rotate_left
                  · ((intro w _; go_simp); try with_reducible rfl)
                  (try simp only [Act.put, List.setIfInBounds_toArray, List.set_cons_zero, List.set_cons_succ])
                  refine wpAnyT_takeW (i := 57) (oi := ⟨some 94, _, _, _, _, _⟩) (v := ?_) rfl (by kernel_rfl) (by kernel_rfl) (by kernel_rfl) (fun _ _ _ h => h) (Or.inl ⟨by rfl, ?_⟩) ?_
                  rotate_left
                  · ((intro w _; go_simp); try with_reducible rfl)
                  (try simp only [Act.put, List.setIfInBounds_toArray, List.set_cons_zero, List.set_cons_succ])
                  refine wpAnyT_take (i := 58) (oi := ⟨some 95, _, _, _, _, _⟩) (v := ?_) 8 rfl (by kernel_rfl) (by kernel_rfl) (by kernel_rfl) (by kernel_rfl) (by kernel_rfl) (fun _ _ _ h => h) (Or.inl ⟨by rfl, ?_⟩) (by assumption) ?_
                  rotate_left
                  · ((intro w hSw; (try dsimp only at hSw); go_simp); try with_reducible rfl)
                  (try simp only [Act.put, List.setIfInBounds_toArray, List.set_cons_zero, List.set_cons_succ])
                  refine wpAnyT_one (i := 50) (by kernel_rfl) rfl (fun K hK => ?_)
                  rw [if_pos (by rfl)]
                  go_simp
                  refine hK.out _ _ (HCC.out _ (HI.out.1.trans ((((Below.refl _ wo).drew).alloc (Nat.le_refl _) _).mono HI.out.1.size))) (fun hHeld => ?_)
                  clear hK K
                  (try simp only [Act.put, List.setIfInBounds_toArray, List.set_cons_zero, List.set_cons_succ])
                  refine wpAnyT_one (i := 59) (by kernel_rfl) rfl (fun K hK => ?_)
                  refine step_append_nums (by rfl) _ _ 34 (by rfl) 3 Tryd.underlying34 info_int wo.heap.size (.slice (some ⟨wo.heap.size, 0, none⟩) 1 1) [5] (by rfl) HOW.out (Nat.le_trans (Nat.le_refl _) (((Below.refl wo.heap.size wo.drew).alloc (Nat.le_refl _) _).size)) ya yn yc Y.params (by rfl) HY0.out (HY1.out.since (HI.out.1.trans ((((Below.refl _ wo).drew).alloc (Nat.le_refl _) _).mono HI.out.1.size))) (by show (1 + yn) * 8 ≤ _; omega) ?_
                  intro va vn vc w7 ho hg
                  have HB7 : RowKit.Hid (Below W1.heap.size W1 w7) := Lib.hid (HI.out.1.trans ((HAP.out w7 hg).mono HI.out.1.size))
                  have HO7 := Lib.hid ho
                  clear ho hg
                  refine hK.out _ _ (HCC.out _ HB7.out) (fun hHeld => ?_)
                  clear hK K
                  (try simp only [Act.put, List.setIfInBounds_toArray, List.set_cons_zero, List.set_cons_succ])
                  refine wpAnyT_one (i := 60) (by kernel_rfl) rfl (fun K hK => ?_)
                  rw [if_pos (by rfl)]
                  go_simp
                  have CI := Lib.hid (ints_any pa va pn vn pc vc X.params ([5] ++ Y.params) w7 (HPN.out.since HB7.out) HO7.out.read hpn8 (by have h1 := HO7.out.read.1; have h2 := HY1.out.1; simp only [List.length_append, List.length_cons, List.length_nil] at h1; omega))
                  (with_reducible refine CI.out.mono ?_)
                  rintro e v8 ⟨rfl, q8, rfl⟩
                  rw [show ([5] ++ Y.params : List Int) = 5 :: Y.params from rfl, ← HBB.out]
                  have HB9 : RowKit.Hid (Below W1.heap.size W1 (w7.drewN q8)) := Lib.hid (belowD_drewN q8 HB7.out)
                  refine hK.out _ _ (HCC.out _ HB9.out) (fun hHeld => ?_)
                  clear hK K
                  (try simp only [Act.put, List.setIfInBounds_toArray, List.set_cons_zero, List.set_cons_succ])
                  refine wpAnyT_takeW (i := 61) (oi := ⟨some 98, _, _, _, _, _⟩) (v := ?_) rfl (by kernel_rfl) (by kernel_rfl) (by kernel_rfl) (fun _ _ _ h => h) (Or.inl ⟨by rfl, ?_⟩) ?_
                  rotate_left
                  · ((intro w _; go_simp); try with_reducible rfl)
                  (try simp only [Act.put, List.setIfInBounds_toArray, List.set_cons_zero, List.set_cons_succ])
                  refine wpAnyT_takeW (i := 62) (oi := ⟨some 99, _, _, _, _, _⟩) (v := ?_) rfl (by kernel_rfl) (by kernel_rfl) (by kernel_rfl) (fun _ _ _ h => h) (Or.inl ⟨by rfl, ?_⟩) ?_
                  rotate_left
                  · ((intro w _; go_simp); try with_reducible rfl)
                  (try simp only [Act.put, List.setIfInBounds_toArray, List.set_cons_zero, List.set_cons_succ])
                  refine wpAnyT_done (by kernel_rfl) ?_
                  cases bb with
                  | true =>
                    go_wp2_with fail
                    go_roundw
                    case rel => exact ⟨i + 1, HIL.out, by go_num, Lib.hid ⟨HB9.out, allK_more HI.out.2 (by rw [HMX.out]; exact HBB.out.symm)⟩⟩
                    case measure => have := HIL.out; simp [intOf]; omega
                  | false =>
                    have HR : RowKit.Hid (classD P x = false) := Lib.hid (by rw [HCD.out]; refine allK_no HIL.out ?_; rw [HMX.out]; exact HBB.out.symm)
                    go_wp2_with fail
                    go_ret
                    exact ⟨by rw [HR.out]; rfl, HB.out.trans (HB9.out.mono HB.out.size)⟩
        · obtain rfl : i = mn := by omega
          have hge : ¬ ((i : Int) < (i : Int)) := by omega
          have HR : RowKit.Hid (classD P x = true) := Lib.hid (by rw [HCD.out]; exact HI.out.2)
          go_wp2_with fail
          go_ret
          exact ⟨by rw [HR.out]; rfl, HB.out.trans (HI.out.1.mono HB.out.size)⟩
end Go.Proofs.YtdchhfdmingnaaaDoor
