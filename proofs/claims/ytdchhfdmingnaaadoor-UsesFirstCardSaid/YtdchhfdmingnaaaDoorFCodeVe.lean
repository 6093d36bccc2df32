/- Layer 5: the document's Encode (mk_ve.py). -/
import Derived.Test.YtdchhfdmingnaaaDoorFCodeVd

namespace Go.Proofs.YtdchhfdmingnaaaDoor
open Go.RowKit (wrap64 intOf Below)
set_option linter.unusedVariables false
set_option linter.unusedSimpArgs false
attribute [local go_sem ↓] Go.wp_at_zero Go.wp_at_succ
theorem bound_part {α : Type} {prior : Out} {f : α → Out} {xs : List α} {most i k m : Nat} {l : List UInt8} (h : Wrote ((prior.and (outCount xs.length most)).and (encAll f (xs.take i))) [] 0 l 0) (hp : Upto prior k) (hf : ∀ x, Upto (f x) m) : l.length ≤ k + 10 + most * m := by
  obtain ⟨_, q, hq, hl⟩ := h.went rfl
  rw [List.nil_append] at hl
  subst hl
  have hm : xs.length ≤ most := Classical.byContradiction fun hh => by
    rw [outCount_no (by omega)] at hq
    cases prior <;> simp [Out.and] at hq
  have hu := (((hp.and ((Upto.num (xs.length : Int)).and (Upto.check (decide (xs.length ≤ most)) 2))).and (Upto.all (f := f) (n := m) (xs.take i) (fun x _ => hf x)))) _ hq
  have h2 : (xs.take i).length * m ≤ most * m := Nat.mul_le_mul_right _ (by rw [List.length_take]; omega)
  omega
theorem out_bytes {o : Out} {l : List UInt8} {y : Int} {is : Bool} {vn : Nat} {l0 : List UInt8} {y0 : Int} (h0 : Wrote o [] 0 l0 y0) (his : is = decide (65536 < vn)) (hv : l0.length = vn) (h : Wrote (chk (!is) 2) l0 y0 l y) : (y = 0 → outBytes o = .ok l) ∧ (y ≠ 0 → outBytes o = .no y) := by
  subst his
  refine ⟨fun hy => ?_, fun hy => ?_⟩
  · obtain ⟨e0, m, hm, hl⟩ := h.went hy
    obtain ⟨_, q, hq, hl0⟩ := h0.went e0
    rw [List.nil_append] at hl0
    subst hl0 hq
    have hs : ¬ 65536 < vn := fun hh => by simp [chk, hh] at hm
    simp only [chk, hs, decide_false, Bool.not_false, if_true, Out.ok.injEq] at hm
    subst hm
    rw [List.append_nil] at hl
    subst hl
    unfold outBytes
    simp only
    rw [if_neg (by omega)]
  · by_cases e0 : y0 = 0
    · obtain ⟨_, q, hq, hl0⟩ := h0.went e0
      rw [List.nil_append] at hl0
      subst hl0 hq
      have hs : 65536 < vn := Classical.byContradiction fun hh => hy (by
        have := ((h.2 e0).1 [] (by simp [chk, hh])).1
        exact this)
      obtain ⟨h1, _⟩ := (h.2 e0).2 2 (by simp [chk, hs])
      unfold outBytes
      simp only
      rw [if_pos (by omega), h1]
    · rw [h.1 e0]
      cases ho : o with
      | ok m => exact absurd ((h0.2 rfl).1 m ho).1 e0
      | no e => rw [((h0.2 rfl).2 e ho).1]; rfl
set_option maxRecDepth 100000 in
set_option maxHeartbeats 16000000 in
theorem ref_encode (g off : Nat) (sa : Option Addr) (sn sc : Nat) (ca : Option Addr) (cn cc : Nat) (fa : Option Addr) (fn fc : Nat) (P : ProgD) (w : World) (hg : g < w.heap.size) (hc0 : w.cell? ⟨g, off, none⟩ = some (.slice sa sn sc)) (hc1 : w.cell? ⟨g, off + 1, none⟩ = some (.slice ca cn cc)) (hc2 : w.cell? ⟨g, off + 2, none⟩ = some (.slice fa fn fc)) (hP : ProgQ w [.slice sa sn sc, .slice ca cn cc, .slice fa fn fc] P) :
    Calls Tryd.prog 30 #[.pointer (some ⟨g, off, none⟩)] w (EncPost (outBytes (encProg P)) w) := by
  obtain ⟨_, _, _, he, hS, hC, hF⟩ := hP
  simp only [List.cons.injEq, and_true] at he
  obtain ⟨rfl, rfl, rfl⟩ := he
  have HRs := Lib.hid hS
  have HRc := Lib.hid hC
  have HRf := Lib.hid hF
  have HLs : RowKit.Hid (P.sigs.length = sn) := Lib.hid (rowV_len' hS).1
  have HLc : RowKit.Hid (P.classes.length = cn) := Lib.hid (rowV_len' hC).1
  have HLf : RowKit.Hid (P.funcs.length = fn) := Lib.hid (rowV_len' hF).1
  have hsn := (rowV_len' hS).2
  have hcn := (rowV_len' hC).2
  have hfn := (rowV_len' hF).2
  have hbl : Below w.heap.size w (w.alloc (.cells #[.slice none 0 0, .int .i64 0] 90)) := (Below.refl _ _).alloc (Nat.le_refl _) _
  obtain ⟨d, hd⟩ : ∃ d, d = w.heap.size := ⟨_, rfl⟩
  have HV0 : RowKit.Hid (VSt d none 0 0 [] (w.alloc (.cells #[.slice none 0 0, .int .i64 0] 90)) 0) := Lib.hid ⟨by rw [hd]; exact heap_alloc_new w _, OwnsB.nil _ _ _⟩
  have HBW := Lib.hid hbl
  have HD : RowKit.Hid (d = w.heap.size) := Lib.hid hd
  have HPC : RowKit.Hid (∀ u, Below w.heap.size w u → u.cell? ⟨g, off, none⟩ = some (.slice sa sn sc) ∧ u.cell? ⟨g, off + 1, none⟩ = some (.slice ca cn cc) ∧ u.cell? ⟨g, off + 2, none⟩ = some (.slice fa fn fc)) := Lib.hid fun u hb => ⟨(hb.cell (p := ⟨g, off, none⟩) hg).trans hc0, (hb.cell (p := ⟨g, off + 1, none⟩) hg).trans hc1, (hb.cell (p := ⟨g, off + 2, none⟩) hg).trans hc2⟩
  clear hS hC hF hbl hg hc0 hc1 hc2
  go_enter Tryd.func30, Tryd.ntmps30
  go_upto_region 4 with fail
  rw [← hd]
  generalize hW0 : w.alloc (.cells #[.slice none 0 0, .int .i64 0] 90) = W0 at HV0 HBW ⊢
  clear hW0 hd
  have HFAR : RowKit.Hid (∀ u, Off (fun k => k = d) W0 u → Below w.heap.size w u) := Lib.hid fun u ho => far_below HBW.out ho (by have := HD.out; omega)
  have HO0 : RowKit.Hid (Off (fun k => k = d) W0 W0) := Lib.hid (Off.refl _ _)
  have HWI0 : RowKit.Hid (Wrote (.ok []) [] 0 [] 0) := Lib.hid Wrote.none_
  have HUP0 : RowKit.Hid (Upto (.ok []) 0) := Lib.hid (fun l h => by cases h; exact Nat.le_refl _)
  obtain ⟨px1, py1, pz1⟩ := HPC.out W0 (HFAR.out _ HO0.out)
  go_wp2_with fail
  refine (w_bad d none 0 0 [] 0 _ 2 (by decide) W0 HV0.out).mono ?_
  rintro e u1 ⟨a1, n1, c1, m1, y1, rfl, hv, ho, hw⟩
  have HVA1 := Lib.hid hv
  have HOA1 := Lib.hid (HO0.out.trans ho)
  have HWA1 := Lib.hid hw
  clear hv ho hw px1 py1 pz1
  obtain ⟨px1, py1, pz1⟩ := HPC.out u1 (HFAR.out _ HOA1.out)
  go_wp2_with fail
  refine (w_num d a1 n1 c1 m1 y1 (sn : Int) ⟨by omega, by omega⟩ u1 HVA1.out (fun h0 => by have h2 := HWA1.out.len h0 (Upto.check _ _); have h1 := (HWA1.out.went h0).1; have h3 := HWI0.out.len h1 HUP0.out; (try simp only [List.length_nil] at h2); (try simp only [List.length_nil] at h3); omega)).mono ?_
  rintro e v1 ⟨b1, o1, r1, q1, z1, rfl, hv, ho, hw⟩
  have HVB1 := Lib.hid hv
  have HOB1 := Lib.hid (HOA1.out.trans ho)
  have HWB1 : RowKit.Hid (Wrote ((Out.ok []).and (outCount P.sigs.length 4)) [] 0 q1 z1) := Lib.hid (HWI0.out.and ((HWA1.out.and hw).of (by rw [HLs.out]; exact count_is (by first | rfl | (rw [Bool.eq_iff_iff]; simp <;> omega)))))
  clear hv ho hw px1 py1 pz1
  go_wp2_with fail
  go_loopw [5] (fun iv wr => ∃ (i : Nat) (ua : Option Addr) (un uc : Nat) (l : List UInt8) (y : Int), i ≤ sn ∧ iv = .int .i64 (i : Int) ∧ wr.cell? ⟨d, 1, none⟩ = some (.int .i64 y) ∧ wr.cell? ⟨g, off, none⟩ = some (.slice sa sn sc) ∧ RowKit.Hid (VSt d ua un uc l wr y ∧ Off (fun k => k = d) W0 wr ∧ Wrote (((Out.ok []).and (outCount P.sigs.length 4)).and (encAll encSig (P.sigs.take i))) [] 0 l y)) (fun iv _ => sn - (intOf iv).toNat)
  case atStart => exact ⟨0, _, _, _, _, _, Nat.zero_le _, rfl, HVB1.out.c1, (HPC.out _ (HFAR.out _ HOB1.out)).1, Lib.hid ⟨HVB1.out, HOB1.out, HWB1.out.of (by simp [encAll])⟩⟩
  case round =>
    obtain ⟨i, ua, un, uc, l, y, hi, rfl, hc1, hpx, HJ⟩ := hrel
    have HUB : RowKit.Hid (y = 0 → l.length ≤ 1000000000) := Lib.hid fun h0 => by subst h0; have := bound_part HJ.out.2.2 HUP0.out (fun x => Upto.sig x); omega
    by_cases hgo : i < sn ∧ y = 0
    · obtain ⟨hlt, rfl⟩ := hgo
      have hBW := HFAR.out _ HJ.out.2.1
      have hil : i < P.sigs.length := by rw [HLs.out]; exact hlt
      obtain ⟨h, oo, rfl, hh, hcs⟩ := rowV_at HRs.out (by omega)
      obtain ⟨cs, hc8, hcell, hq⟩ := hcs i hil
      obtain ⟨x, hx⟩ : ∃ x, x = P.sigs[i] := ⟨_, rfl⟩
      rw [← hx] at hq
      have HX : RowKit.Hid (P.sigs[i] = x) := Lib.hid hx.symm
      have HBX := Lib.hid hBW
      obtain ⟨pv, rfl, ⟨pa, pn, pc, rfl, hn1, _, hm1, hr1⟩, hrt⟩ := hq
      have HN1 := Lib.hid hn1
      have HR1 := Lib.hid hr1
      have hpn : pn ≤ 140737488355328 := by omega
      have HRT := Lib.hid hrt
      have hd0 := (hBW.cell (p := ⟨h, oo + i * 2 + 0, none⟩) hh).trans (hcell 0 (by simp))
      have hd1 := (hBW.cell (p := ⟨h, oo + i * 2 + 1, none⟩) hh).trans (hcell 1 (by simp))
      simp only [Nat.add_zero, List.getElem_cons_zero, List.getElem_cons_succ] at hd0 hd1
      have HCE : RowKit.Hid (∀ u, Off (fun k => k = d) W0 u → u.cell? ⟨h, oo + i * 2 + 1, none⟩ = _) := Lib.hid fun u ho => ((HFAR.out u ho).cell (p := ⟨h, oo + i * 2 + 1, none⟩) hh).trans (hcell 1 (by simp))
      clear hcell hcs hx hc8 hn1 hr1 hBW hrt
      go_wp2_with fail
      refine (w_list d ua un uc l 0 pa pn pc x.params 8 (by decide) wr HJ.out.1 (HN1.out.since HBX.out) hpn HR1.out (HN1.out.ahead (by have := HD.out; omega)) (fun h0 => by have := HUB.out (by first | exact h0 | trivial); omega)).mono ?_
      rintro e w5 ⟨a5, n5, c5, l5, y5, rfl, hv, ho, hw⟩
      have HV5 := Lib.hid hv
      have HO5 := Lib.hid (HJ.out.2.1.trans ho)
      have HW5 := Lib.hid hw
      clear hv ho hw hd0 hd1 hpx
      have hd1 := HCE.out w5 HO5.out
      simp only [List.getElem_cons_zero, List.getElem_cons_succ] at hd1
      obtain ⟨px, py, pz⟩ := HPC.out w5 (HFAR.out _ HO5.out)
      go_wp2_with fail
      refine (w_num d a5 n5 c5 l5 y5 x.ret HRT.out w5 HV5.out (fun h0 => by have := HW5.out.len h0 (Upto.nums _ _); have := HUB.out (by first | rfl | trivial); omega)).mono ?_
      rintro e w6 ⟨a6, n6, c6, l6, y6, rfl, hv, ho, hw⟩
      have HV6 := Lib.hid hv
      have HO6 := Lib.hid (HO5.out.trans ho)
      have HW6 := Lib.hid (HJ.out.2.2.next hil (by rw [HX.out]; exact HW5.out.and hw))
      clear hv ho hw hd1 px py pz
      go_wp2_with fail
      go_roundw
      case rel => exact ⟨i + 1, _, _, _, l6, y6, by omega, by go_num, HV6.out.c1, (HPC.out _ (HFAR.out _ HO6.out)).1, Lib.hid ⟨HV6.out, HO6.out, HW6.out⟩⟩
      case measure => simp [intOf]; omega
    have HWL1 : RowKit.Hid (Wrote (encList 4 encSig P.sigs) [] 0 l y) := Lib.hid ((HJ.out.2.2.rest (by rw [HLs.out]; by_cases h : y = 0; left; omega; exact .inr h)).of (by unfold encList; simp [Out.and_assoc]))
    go_upto_region 7 with fail
    go_cut [40] (fun tc wc => tc = .bool false ∧ wc = wr)
    case first =>
      by_cases hlt : i < sn
      · have h1 : (y == 0) = false := by rw [beq_eq_false_iff_ne]; exact fun h => hgo ⟨hlt, h⟩
        clear hgo
        go_wp2_with fail
        go_meet
        exact ⟨rfl, rfl⟩
      · have hlt' : ¬ (i : Int) < (sn : Int) := by omega
        clear hgo
        go_wp2_with fail
        go_meet
        exact ⟨rfl, rfl⟩
    case rest =>
      obtain ⟨rfl, rfl⟩ := hcut
      clear hgo hc1 hpx
      obtain ⟨t1, rfl⟩ : ∃ v, v = wc := ⟨_, rfl⟩
      obtain ⟨ja1, rfl⟩ : ∃ v, v = ua := ⟨_, rfl⟩
      obtain ⟨jn1, rfl⟩ : ∃ v, v = un := ⟨_, rfl⟩
      obtain ⟨jc1, rfl⟩ : ∃ v, v = uc := ⟨_, rfl⟩
      obtain ⟨jl1, rfl⟩ : ∃ v, v = l := ⟨_, rfl⟩
      obtain ⟨jy1, rfl⟩ : ∃ v, v = y := ⟨_, rfl⟩
      have HVL1 := Lib.hid HJ.out.1
      have HOL1 := Lib.hid HJ.out.2.1
      have HUP1 : RowKit.Hid (Upto (encList 4 encSig P.sigs) 810) := Lib.hid ((Upto.list _ (fun x _ => Upto.sig x)).mono (by omega))
      clear HJ hi HUB
      obtain ⟨px2, py2, pz2⟩ := HPC.out t1 (HFAR.out _ HOL1.out)
      go_wp2_with fail
      refine (w_bad d ja1 jn1 jc1 jl1 jy1 _ 2 (by decide) t1 HVL1.out).mono ?_
      rintro e u2 ⟨a2, n2, c2, m2, y2, rfl, hv, ho, hw⟩
      have HVA2 := Lib.hid hv
      have HOA2 := Lib.hid (HOL1.out.trans ho)
      have HWA2 := Lib.hid hw
      clear hv ho hw px2 py2 pz2
      obtain ⟨px2, py2, pz2⟩ := HPC.out u2 (HFAR.out _ HOA2.out)
      go_wp2_with fail
      refine (w_num d a2 n2 c2 m2 y2 (cn : Int) ⟨by omega, by omega⟩ u2 HVA2.out (fun h0 => by have h2 := HWA2.out.len h0 (Upto.check _ _); have h1 := (HWA2.out.went h0).1; have h3 := HWL1.out.len h1 HUP1.out; (try simp only [List.length_nil] at h2); (try simp only [List.length_nil] at h3); omega)).mono ?_
      rintro e v2 ⟨b2, o2, r2, q2, z2, rfl, hv, ho, hw⟩
      have HVB2 := Lib.hid hv
      have HOB2 := Lib.hid (HOA2.out.trans ho)
      have HWB2 : RowKit.Hid (Wrote ((encList 4 encSig P.sigs).and (outCount P.classes.length 8)) [] 0 q2 z2) := Lib.hid (HWL1.out.and ((HWA2.out.and hw).of (by rw [HLc.out]; exact count_is (by first | rfl | (rw [Bool.eq_iff_iff]; simp <;> omega)))))
      clear hv ho hw px2 py2 pz2
      go_wp2_with fail
      go_loopw [6] (fun iv wr => ∃ (i : Nat) (ua : Option Addr) (un uc : Nat) (l : List UInt8) (y : Int), i ≤ cn ∧ iv = .int .i64 (i : Int) ∧ wr.cell? ⟨d, 1, none⟩ = some (.int .i64 y) ∧ wr.cell? ⟨g, off + 1, none⟩ = some (.slice ca cn cc) ∧ RowKit.Hid (VSt d ua un uc l wr y ∧ Off (fun k => k = d) W0 wr ∧ Wrote (((encList 4 encSig P.sigs).and (outCount P.classes.length 8)).and (encAll encClass (P.classes.take i))) [] 0 l y)) (fun iv _ => cn - (intOf iv).toNat)
      case atStart => exact ⟨0, _, _, _, _, _, Nat.zero_le _, rfl, HVB2.out.c1, (HPC.out _ (HFAR.out _ HOB2.out)).2.1, Lib.hid ⟨HVB2.out, HOB2.out, HWB2.out.of (by simp [encAll])⟩⟩
      case round =>
        obtain ⟨i, ua, un, uc, l, y, hi, rfl, hc1, hpx, HJ⟩ := hrel
        have HUB : RowKit.Hid (y = 0 → l.length ≤ 1000000000) := Lib.hid fun h0 => by subst h0; have := bound_part HJ.out.2.2 HUP1.out (fun x => Upto.cls x); omega
        by_cases hgo : i < cn ∧ y = 0
        · obtain ⟨hlt, rfl⟩ := hgo
          have hBW := HFAR.out _ HJ.out.2.1
          have hil : i < P.classes.length := by rw [HLc.out]; exact hlt
          obtain ⟨h, oo, rfl, hh, hcs⟩ := rowV_at HRc.out (by omega)
          obtain ⟨cs, hc8, hcell, hq⟩ := hcs i hil
          obtain ⟨x, hx⟩ : ∃ x, x = P.classes[i] := ⟨_, rfl⟩
          rw [← hx] at hq
          have HX : RowKit.Hid (P.classes[i] = x) := Lib.hid hx.symm
          have HBX := Lib.hid hBW
          obtain ⟨pv, qv, rfl, ⟨pa, pn, pc, rfl, hn1, _, hm1, hr1⟩, ⟨ma, mn, mc, rfl, hn2, _, hm2, hr2⟩⟩ := hq
          have HN1 := Lib.hid hn1
          have HR1 := Lib.hid hr1
          have hpn : pn ≤ 140737488355328 := by omega
          have HN2 := Lib.hid hn2
          have HR2 := Lib.hid hr2
          have hmn : mn ≤ 140737488355328 := by omega
          have hd0 := (hBW.cell (p := ⟨h, oo + i * 2 + 0, none⟩) hh).trans (hcell 0 (by simp))
          have hd1 := (hBW.cell (p := ⟨h, oo + i * 2 + 1, none⟩) hh).trans (hcell 1 (by simp))
          simp only [Nat.add_zero, List.getElem_cons_zero, List.getElem_cons_succ] at hd0 hd1
          have HCE : RowKit.Hid (∀ u, Off (fun k => k = d) W0 u → u.cell? ⟨h, oo + i * 2 + 1, none⟩ = _) := Lib.hid fun u ho => ((HFAR.out u ho).cell (p := ⟨h, oo + i * 2 + 1, none⟩) hh).trans (hcell 1 (by simp))
          clear hcell hcs hx hc8 hn1 hr1 hBW hn2 hr2
          go_wp2_with fail
          refine (w_list d ua un uc l 0 pa pn pc x.fields 8 (by decide) wr HJ.out.1 (HN1.out.since HBX.out) hpn HR1.out (HN1.out.ahead (by have := HD.out; omega)) (fun h0 => by have := HUB.out (by first | exact h0 | trivial); omega)).mono ?_
          rintro e w5 ⟨a5, n5, c5, l5, y5, rfl, hv, ho, hw⟩
          have HV5 := Lib.hid hv
          have HO5 := Lib.hid (HJ.out.2.1.trans ho)
          have HW5 := Lib.hid hw
          clear hv ho hw hd0 hd1 hpx
          have hd1 := HCE.out w5 HO5.out
          simp only [List.getElem_cons_zero, List.getElem_cons_succ] at hd1
          obtain ⟨px, py, pz⟩ := HPC.out w5 (HFAR.out _ HO5.out)
          go_wp2_with fail
          refine (w_list d a5 n5 c5 l5 y5 ma mn mc x.methods 4 (by decide) w5 HV5.out (HN2.out.since (HFAR.out _ HO5.out)) hmn HR2.out (HN2.out.ahead (by have := HD.out; omega)) (fun h0 => by have := HW5.out.len h0 (Upto.nums _ _); have := HUB.out (by first | rfl | trivial); omega)).mono ?_
          rintro e w6 ⟨a6, n6, c6, l6, y6, rfl, hv, ho, hw⟩
          have HV6 := Lib.hid hv
          have HO6 := Lib.hid (HO5.out.trans ho)
          have HW6 := Lib.hid (HJ.out.2.2.next hil (by rw [HX.out]; exact HW5.out.and hw))
          clear hv ho hw hd1 px py pz
          go_wp2_with fail
          go_roundw
          case rel => exact ⟨i + 1, _, _, _, l6, y6, by omega, by go_num, HV6.out.c1, (HPC.out _ (HFAR.out _ HO6.out)).2.1, Lib.hid ⟨HV6.out, HO6.out, HW6.out⟩⟩
          case measure => simp [intOf]; omega
        have HWL2 : RowKit.Hid (Wrote ((encList 4 encSig P.sigs).and (encList 8 encClass P.classes)) [] 0 l y) := Lib.hid ((HJ.out.2.2.rest (by rw [HLc.out]; by_cases h : y = 0; left; omega; exact .inr h)).of (by rw [Out.and_assoc]; rfl))
        go_upto_region 14 with fail
        go_cut [91] (fun tc wc => tc = .bool false ∧ wc = wr)
        case first =>
          by_cases hlt : i < cn
          · have h1 : (y == 0) = false := by rw [beq_eq_false_iff_ne]; exact fun h => hgo ⟨hlt, h⟩
            clear hgo
            go_wp2_with fail
            go_meet
            exact ⟨rfl, rfl⟩
          · have hlt' : ¬ (i : Int) < (cn : Int) := by omega
            clear hgo
            go_wp2_with fail
            go_meet
            exact ⟨rfl, rfl⟩
        case rest =>
          obtain ⟨rfl, rfl⟩ := hcut
          clear hgo hc1 hpx
          obtain ⟨t2, rfl⟩ : ∃ v, v = wc := ⟨_, rfl⟩
          obtain ⟨ja2, rfl⟩ : ∃ v, v = ua := ⟨_, rfl⟩
          obtain ⟨jn2, rfl⟩ : ∃ v, v = un := ⟨_, rfl⟩
          obtain ⟨jc2, rfl⟩ : ∃ v, v = uc := ⟨_, rfl⟩
          obtain ⟨jl2, rfl⟩ : ∃ v, v = l := ⟨_, rfl⟩
          obtain ⟨jy2, rfl⟩ : ∃ v, v = y := ⟨_, rfl⟩
          have HVL2 := Lib.hid HJ.out.1
          have HOL2 := Lib.hid HJ.out.2.1
          have HUP2 : RowKit.Hid (Upto ((encList 4 encSig P.sigs).and (encList 8 encClass P.classes)) 2420) := Lib.hid ((HUP1.out.and (Upto.list _ (fun x _ => Upto.cls x))).mono (by omega))
          clear HJ hi HUB
          obtain ⟨px3, py3, pz3⟩ := HPC.out t2 (HFAR.out _ HOL2.out)
          go_wp2_with fail
          refine (w_bad d ja2 jn2 jc2 jl2 jy2 _ 2 (by decide) t2 HVL2.out).mono ?_
          rintro e u3 ⟨a3, n3, c3, m3, y3, rfl, hv, ho, hw⟩
          have HVA3 := Lib.hid hv
          have HOA3 := Lib.hid (HOL2.out.trans ho)
          have HWA3 := Lib.hid hw
          clear hv ho hw px3 py3 pz3
          obtain ⟨px3, py3, pz3⟩ := HPC.out u3 (HFAR.out _ HOA3.out)
          go_wp2_with fail
          refine (w_num d a3 n3 c3 m3 y3 (fn : Int) ⟨by omega, by omega⟩ u3 HVA3.out (fun h0 => by have h2 := HWA3.out.len h0 (Upto.check _ _); have h1 := (HWA3.out.went h0).1; have h3 := HWL2.out.len h1 HUP2.out; (try simp only [List.length_nil] at h2); (try simp only [List.length_nil] at h3); omega)).mono ?_
          rintro e v3 ⟨b3, o3, r3, q3, z3, rfl, hv, ho, hw⟩
          have HVB3 := Lib.hid hv
          have HOB3 := Lib.hid (HOA3.out.trans ho)
          have HWB3 : RowKit.Hid (Wrote (((encList 4 encSig P.sigs).and (encList 8 encClass P.classes)).and (outCount P.funcs.length 16)) [] 0 q3 z3) := Lib.hid (HWL2.out.and ((HWA3.out.and hw).of (by rw [HLf.out]; exact count_is (by first | rfl | (rw [Bool.eq_iff_iff]; simp <;> omega)))))
          clear hv ho hw px3 py3 pz3
          go_wp2_with fail
          go_loopw [7] (fun iv wr => ∃ (i : Nat) (ua : Option Addr) (un uc : Nat) (l : List UInt8) (y : Int), i ≤ fn ∧ iv = .int .i64 (i : Int) ∧ wr.cell? ⟨d, 1, none⟩ = some (.int .i64 y) ∧ wr.cell? ⟨g, off + 2, none⟩ = some (.slice fa fn fc) ∧ RowKit.Hid (VSt d ua un uc l wr y ∧ Off (fun k => k = d) W0 wr ∧ Wrote ((((encList 4 encSig P.sigs).and (encList 8 encClass P.classes)).and (outCount P.funcs.length 16)).and (encAll encFunc (P.funcs.take i))) [] 0 l y)) (fun iv _ => fn - (intOf iv).toNat)
          case atStart => exact ⟨0, _, _, _, _, _, Nat.zero_le _, rfl, HVB3.out.c1, (HPC.out _ (HFAR.out _ HOB3.out)).2.2, Lib.hid ⟨HVB3.out, HOB3.out, HWB3.out.of (by simp [encAll])⟩⟩
          case round =>
            obtain ⟨i, ua, un, uc, l, y, hi, rfl, hc1, hpx, HJ⟩ := hrel
            have HUB : RowKit.Hid (y = 0 → l.length ≤ 1000000000) := Lib.hid fun h0 => by subst h0; have := bound_part HJ.out.2.2 HUP2.out (fun x => Upto.func x); omega
            by_cases hgo : i < fn ∧ y = 0
            · obtain ⟨hlt, rfl⟩ := hgo
              have hBW := HFAR.out _ HJ.out.2.1
              have hil : i < P.funcs.length := by rw [HLf.out]; exact hlt
              obtain ⟨h, oo, rfl, hh, hcs⟩ := rowV_at HRf.out (by omega)
              obtain ⟨cs, hc8, hcell, hq⟩ := hcs i hil
              obtain ⟨x, hx⟩ : ∃ x, x = P.funcs[i] := ⟨_, rfl⟩
              rw [← hx] at hq
              have HX : RowKit.Hid (P.funcs[i] = x) := Lib.hid hx.symm
              have HBX := Lib.hid hBW
              obtain ⟨br, bb, bm, rfl⟩ := FuncQ.form hq
              have HQ := Lib.hid hq
              have hd0 := (hBW.cell (p := ⟨h, oo + i * 2 + 0, none⟩) hh).trans (hcell 0 (by simp))
              have hd1 := (hBW.cell (p := ⟨h, oo + i * 2 + 1, none⟩) hh).trans (hcell 1 (by simp))
              simp only [Nat.add_zero, List.getElem_cons_zero, List.getElem_cons_succ] at hd0 hd1
              clear hcell hcs hx hc8 hq hBW
              go_wp2_with fail
              refine (w_fun d ua un uc l 0 x.ret br bb bm x w wr HBX.out (by have := HD.out; omega) HJ.out.1 HQ.out (fun h0 => by have := HUB.out (by first | exact h0 | trivial); omega)).mono ?_
              rintro e w6 ⟨a6, n6, c6, l6, y6, rfl, hv, ho, hw⟩
              have HV6 := Lib.hid hv
              have HO6 := Lib.hid (HJ.out.2.1.trans ho)
              have HW6 := Lib.hid (HJ.out.2.2.next hil (by rw [HX.out]; exact hw))
              clear hv ho hw hd0 hd1 hpx
              go_wp2_with fail
              go_roundw
              case rel => exact ⟨i + 1, _, _, _, l6, y6, by omega, by go_num, HV6.out.c1, (HPC.out _ (HFAR.out _ HO6.out)).2.2, Lib.hid ⟨HV6.out, HO6.out, HW6.out⟩⟩
              case measure => simp [intOf]; omega
            have HWL3 : RowKit.Hid (Wrote (((encList 4 encSig P.sigs).and (encList 8 encClass P.classes)).and (encList 16 encFunc P.funcs)) [] 0 l y) := Lib.hid ((HJ.out.2.2.rest (by rw [HLf.out]; by_cases h : y = 0; left; omega; exact .inr h)).of (by rw [Out.and_assoc]; rfl))
            go_upto_region 21 with fail
            go_cut [142] (fun tc wc => tc = .bool false ∧ wc = wr)
            case first =>
              by_cases hlt : i < fn
              · have h1 : (y == 0) = false := by rw [beq_eq_false_iff_ne]; exact fun h => hgo ⟨hlt, h⟩
                clear hgo
                go_wp2_with fail
                go_meet
                exact ⟨rfl, rfl⟩
              · have hlt' : ¬ (i : Int) < (fn : Int) := by omega
                clear hgo
                go_wp2_with fail
                go_meet
                exact ⟨rfl, rfl⟩
            case rest =>
              obtain ⟨rfl, rfl⟩ := hcut
              clear hgo hc1 hpx
              obtain ⟨t3, rfl⟩ : ∃ v, v = wc := ⟨_, rfl⟩
              obtain ⟨ja3, rfl⟩ : ∃ v, v = ua := ⟨_, rfl⟩
              obtain ⟨jn3, rfl⟩ : ∃ v, v = un := ⟨_, rfl⟩
              obtain ⟨jc3, rfl⟩ : ∃ v, v = uc := ⟨_, rfl⟩
              obtain ⟨jl3, rfl⟩ : ∃ v, v = l := ⟨_, rfl⟩
              obtain ⟨jy3, rfl⟩ : ∃ v, v = y := ⟨_, rfl⟩
              have HVL3 := Lib.hid HJ.out.1
              have HOL3 := Lib.hid HJ.out.2.1
              have HUP3 : RowKit.Hid (Upto (((encList 4 encSig P.sigs).and (encList 8 encClass P.classes)).and (encList 16 encFunc P.funcs)) 150000000) := Lib.hid ((HUP2.out.and (Upto.list _ (fun x _ => Upto.func x))).mono (by omega))
              clear HJ hi HUB
              have HWP : RowKit.Hid (Wrote (encProg P) [] 0 jl3 jy3) := Lib.hid (HWL3.out.of (by unfold encProg; rw [Out.and_assoc]))
              have x0 := HVL3.out.c0
              go_wp2_with fail
              refine (w_bad d ja3 jn3 jc3 jl3 jy3 _ 2 (by decide) t3 HVL3.out).mono ?_
              rintro e t4 ⟨ja4, jn4, jc4, jl4, jy4, rfl, hv, ho, hw⟩
              have HOUT := Lib.hid (out_bytes HWP.out (by first | rfl | (rw [Bool.eq_iff_iff]; simp <;> omega)) HVL3.out.own.len hw)
              have HV4 := Lib.hid hv
              have HB4 := Lib.hid (HFAR.out _ (HOL3.out.trans ho))
              clear hv ho hw x0
              have x0 := HV4.out.c0
              have x1 := HV4.out.c1
              by_cases hy : jy4 = 0
              · subst hy
                have HOK := Lib.hid (HOUT.out.1 rfl)
                have HOW := Lib.hid (HV4.out.own.mono (B' := w.heap.size) (by have := HD.out; omega))
                go_wp2_with fail
                go_ret2
                exact .inl ⟨jl4, _, _, _, HOK.out, rfl, HOW.out, HB4.out⟩
              · have hyb : (jy4 != 0) = true := by rw [bne_iff_ne]; exact hy
                have HNO := Lib.hid (HOUT.out.2 hy)
                clear hy
                go_wp2_with fail
                go_quiet (fail)
                go_wp2_with fail
                go_ret2
                exact .inr ⟨jy4, HNO.out, rfl, below_drewN _ HB4.out⟩
end Go.Proofs.YtdchhfdmingnaaaDoor
