/- Layer 5: the document's writer (W): a function (mk_vd.py). -/
import Derived.Test.YtdchhfdmingnaaaDoorFCodeVc

namespace Go.Proofs.YtdchhfdmingnaaaDoor
open Go.RowKit (wrap64 intOf Below)
set_option linter.unusedVariables false
set_option linter.unusedSimpArgs false
attribute [local go_sem ↓] Go.wp_at_zero Go.wp_at_succ
theorem NumsAt.ahead {w : World} {d : Nat} {a : Option Addr} {n : Nat} {Z : List Int} (h : NumsAt w a n Z) (hd : w.heap.size ≤ d) : Ahead d a n := by
  intro hn ad ha
  obtain ⟨g, off, e, hg, _⟩ := h.2 hn
  rw [e] at ha
  cases ha
  simp only
  omega
theorem far_below {w0 w u : World} {d : Nat} (h : Below w0.heap.size w0 w) (ho : Off (fun k => k = d) w u) (hd : w0.heap.size ≤ d) : Below w0.heap.size w0 u :=
  h.trans (ho.below h.size (fun i hi => by omega))
theorem BlockQ.rng {w : World} {pa oa la ma : Option Addr} {pn pc on oc ln lc mn mc : Nat} {k x t l : Int} {y : BlockD} (h : BlockQ w [.slice pa pn pc, .slice oa on oc, .int .i64 k, .int .i64 x, .int .i64 t, .int .i64 l, .slice la ln lc, .slice ma mn mc] y) : ∀ z ∈ y.params, InR z := by
  obtain ⟨_, _, _, he, ⟨_, _, _, _, _, _, _, h⟩, _⟩ := h
  exact h
theorem count_is {n most : Nat} {is : Bool} (h : is = decide (most < n)) : (chk (!is) 2).and (encN (n : Int)) = outCount n most := by
  subst h
  unfold outCount encN
  rw [chk_num]
  congr 2
  rw [Bool.eq_iff_iff]
  simp
set_option maxRecDepth 100000 in
set_option maxHeartbeats 16000000 in
theorem w_fun (d : Nat) (va : Option Addr) (vn vc : Nat) (bs : List UInt8) (z : Int) (r : Int) (ba : Option Addr) (bn bc : Nat) (y : FuncD) (w0 w : World) (hw0 : Below w0.heap.size w0 w) (hd0 : w0.heap.size ≤ d) (h : VSt d va vn vc bs w z) (hq : FuncQ w0 [.int .i64 r, .slice ba bn bc] y) (hl : z = 0 → bs.length ≤ 70000000000000) :
    Calls Tryd.prog 51 #[.pointer (some ⟨d, 0, none⟩), .agg #[.int .i64 r, .slice ba bn bc]] w (VPost d bs z (encFunc y) w) := by
  have hbl : Below w.heap.size w (w.alloc (.cells #[.int .i64 r, .slice ba bn bc] 30)) := (Below.refl _ _).alloc (Nat.le_refl _) _
  have HB0 : RowKit.Hid (VB w d 30 w.heap.size #[.int .i64 r, .slice ba bn bc] (w.alloc (.cells #[.int .i64 r, .slice ba bn bc] 30)) va vn vc bs z) := Lib.hid ⟨h.since hbl, Off.since hbl, heap_alloc_new w _, by have := h.lt; omega⟩
  have HW0 := Lib.hid hw0
  have HD0 := Lib.hid hd0
  have HL := Lib.hid hl
  obtain ⟨_, he, hrr, hrow⟩ := hq
  simp only [List.cons.injEq, Value.int.injEq, true_and, and_true] at he
  obtain ⟨er, rfl⟩ := he
  have HER : RowKit.Hid (y.ret = r) := Lib.hid er.symm
  have HRR : RowKit.Hid (InR r) := Lib.hid (by rw [er]; exact hrr)
  have hbl2 := rowV_len' hrow
  have HBL : RowKit.Hid (y.blocks.length = bn) := Lib.hid hbl2.1
  have hbn := hbl2.2
  have HBN : RowKit.Hid (InR (bn : Int)) := Lib.hid ⟨by omega, by omega⟩
  have HROW := Lib.hid hrow
  clear h hw0 hd0 hl hbl hrr er hrow hbl2
  obtain ⟨X, hX⟩ : ∃ X, X = w.heap.size := ⟨_, rfl⟩
  go_enter Tryd.func51, Tryd.ntmps51
  go_upto_region 1 with fail
  rw [← hX] at HB0 ⊢
  generalize hW0 : w.alloc (.cells #[.int .i64 r, .slice ba bn bc] 30) = W0 at HB0 ⊢
  clear hW0 hX
  have c0 := HB0.out.ec 0
  go_wp2_with fail
  refine (w_num d va vn vc bs z r HRR.out W0 HB0.out.vs (fun h0 => by have := HL.out h0; omega)).mono ?_
  rintro e1 w1 ⟨ua1, un1, uc1, l1, y1, rfl, hv, ho, hw⟩
  have HB1 := Lib.hid (HB0.out.go hv ho)
  have HW1 : RowKit.Hid (Wrote (encN y.ret) bs z l1 y1) := Lib.hid (hw.of (by rw [HER.out]))
  clear hv ho hw c0
  have c1 := HB1.out.ec 1
  go_wp2_with fail
  refine (w_bad d ua1 un1 uc1 l1 y1 _ 2 (by decide) w1 HB1.out.vs).mono ?_
  rintro e2 w2 ⟨ua2, un2, uc2, l2, y2, rfl, hv, ho, hw⟩
  have HB2 := Lib.hid (HB1.out.go hv ho)
  have HW2a := Lib.hid hw
  have HW2 := Lib.hid (HW1.out.and hw)
  clear hv ho hw c1
  have c1 := HB2.out.ec 1
  go_wp2_with fail
  refine (w_num d ua2 un2 uc2 l2 y2 (bn : Int) HBN.out w2 HB2.out.vs (fun h0 => by have := HW2.out.len h0 ((Upto.num _).and (Upto.check _ _)); have := HL.out (HW2.out.went h0).1; omega)).mono ?_
  rintro e3 w3 ⟨ua3, un3, uc3, l3, y3, rfl, hv, ho, hw⟩
  have HB3 := Lib.hid (HB2.out.go hv ho)
  have HW3 : RowKit.Hid (Wrote ((encN y.ret).and (outCount y.blocks.length 40)) bs z l3 y3) := Lib.hid (HW1.out.and ((HW2a.out.and hw).of (by rw [HBL.out]; exact count_is (by first | rfl | (rw [Bool.eq_iff_iff]; simp <;> omega)))))
  clear hv ho hw c1 HW2a HW2
  go_wp2_with fail
  go_loopw [4] (fun iv wr => ∃ (i : Nat) (ua : Option Addr) (un uc : Nat) (l4 : List UInt8) (y4 : Int), i ≤ bn ∧ iv = .int .i64 (i : Int) ∧ wr.cell? ⟨d, 1, none⟩ = some (.int .i64 y4) ∧ wr.cell? ⟨X, 1, none⟩ = some (.slice ba bn bc) ∧ RowKit.Hid (VB w d 30 X #[.int .i64 r, .slice ba bn bc] wr ua un uc l4 y4 ∧ Wrote (((encN y.ret).and (outCount y.blocks.length 40)).and (encAll encBlock (y.blocks.take i))) bs z l4 y4)) (fun iv _ => bn - (intOf iv).toNat)
  case atStart => exact ⟨0, _, _, _, _, _, Nat.zero_le _, rfl, HB3.out.vs.c1, HB3.out.ec 1, Lib.hid ⟨HB3.out, HW3.out.of (by simp [encAll])⟩⟩
  case round =>
    obtain ⟨i, ua, un, uc, l4, y4, hi, rfl, hc1, hx1, HI⟩ := hrel
    have HFIN : RowKit.Hid (bn ≤ i ∨ y4 ≠ 0 → Wrote (encFunc y) bs z l4 y4) := Lib.hid fun hn => (HI.out.2.rest (by rw [HBL.out]; exact hn)).of (by unfold encFunc encList; rw [Out.and_assoc])
    by_cases hgo : i < bn ∧ y4 = 0
    rotate_left
    · by_cases hlt : i < bn
      · have h1 : (y4 == 0) = false := by rw [beq_eq_false_iff_ne]; exact fun h => hgo ⟨hlt, h⟩
        have HN : RowKit.Hid (y4 ≠ 0) := Lib.hid fun h => hgo ⟨hlt, h⟩
        clear hgo
        go_wp2_with fail
        go_end0
        exact ⟨_, _, _, l4, y4, rfl, HI.out.1.vs, HI.out.1.off, HFIN.out (.inr HN.out)⟩
      · obtain rfl : i = bn := by omega
        clear hgo
        go_wp2_with fail
        go_end0
        exact ⟨_, _, _, l4, y4, rfl, HI.out.1.vs, HI.out.1.off, HFIN.out (.inl (Nat.le_refl _))⟩
    obtain ⟨hlt, rfl⟩ := hgo
    obtain ⟨wo, rfl⟩ : ∃ v, v = wr := ⟨_, rfl⟩
    have HBW : RowKit.Hid (Below w0.heap.size w0 wo) := Lib.hid (far_below HW0.out HI.out.1.off HD0.out)
    obtain ⟨g, off, rfl, hg, hcs⟩ := rowV_at HROW.out (by omega)
    have hil : i < y.blocks.length := by rw [HBL.out]; exact hlt
    obtain ⟨cs, hc8, hcell, hbq⟩ := hcs i hil
    obtain ⟨b, hb⟩ : ∃ b, b = y.blocks[i] := ⟨_, rfl⟩
    rw [← hb] at hbq
    obtain ⟨pa, pn, pc, oa, on, oc, la, ln, lc, ma, mn, mc, rfl, hol⟩ := hbq.form
    have HBI : RowKit.Hid (y.blocks[i] = b) := Lib.hid hb.symm
    have HIL := Lib.hid hil
    have HBQ := Lib.hid hbq
    have HOL := Lib.hid hol
    have HU4 : RowKit.Hid (l4.length ≤ 75000000000000) := Lib.hid (by
      obtain ⟨h0, m, hm, h4⟩ := HI.out.2.went rfl
      have h40 : y.blocks.length ≤ 40 := Classical.byContradiction fun hh => by rw [outCount_no (by omega)] at hm; simp [Out.and, encN] at hm
      have h41 : (y.blocks.take i).length ≤ 40 := by rw [List.length_take]; omega
      have hu := ((((Upto.num y.ret).and ((Upto.num (y.blocks.length : Int)).and (Upto.check (decide (y.blocks.length ≤ 40)) 2))).and (Upto.all (f := encBlock) (n := 220000) (y.blocks.take i) (fun x _ => Upto.block x))).mono (m := 10000000) (by omega)) m hm
      have := HL.out h0
      rw [h4, List.length_append]
      omega)
    have hd0 := (HBW.out.cell (p := ⟨g, off + i * 8 + 0, none⟩) hg).trans (hcell 0 (by simp))
    have hd1 := (HBW.out.cell (p := ⟨g, off + i * 8 + 1, none⟩) hg).trans (hcell 1 (by simp))
    have hd2 := (HBW.out.cell (p := ⟨g, off + i * 8 + 2, none⟩) hg).trans (hcell 2 (by simp))
    have hd3 := (HBW.out.cell (p := ⟨g, off + i * 8 + 3, none⟩) hg).trans (hcell 3 (by simp))
    have hd4 := (HBW.out.cell (p := ⟨g, off + i * 8 + 4, none⟩) hg).trans (hcell 4 (by simp))
    have hd5 := (HBW.out.cell (p := ⟨g, off + i * 8 + 5, none⟩) hg).trans (hcell 5 (by simp))
    have hd6 := (HBW.out.cell (p := ⟨g, off + i * 8 + 6, none⟩) hg).trans (hcell 6 (by simp))
    have hd7 := (HBW.out.cell (p := ⟨g, off + i * 8 + 7, none⟩) hg).trans (hcell 7 (by simp))
    simp only [Nat.add_zero, List.getElem_cons_zero, List.getElem_cons_succ] at hd0 hd1 hd2 hd3 hd4 hd5 hd6 hd7
    have hbx : Below wo.heap.size wo (wo.alloc (.cells #[.slice pa pn pc, .slice oa on oc, .int .i64 b.fin.K, .int .i64 b.fin.A, .int .i64 b.fin.To, .int .i64 b.fin.Else, .slice la ln lc, .slice ma mn mc] 57)) := (Below.refl _ _).alloc (Nat.le_refl _) _
    have HV : RowKit.Hid (VB w d 57 wo.heap.size #[.slice pa pn pc, .slice oa on oc, .int .i64 b.fin.K, .int .i64 b.fin.A, .int .i64 b.fin.To, .int .i64 b.fin.Else, .slice la ln lc, .slice ma mn mc] (wo.alloc (.cells #[.slice pa pn pc, .slice oa on oc, .int .i64 b.fin.K, .int .i64 b.fin.A, .int .i64 b.fin.To, .int .i64 b.fin.Else, .slice la ln lc, .slice ma mn mc] 57)) ua un uc l4 0) := Lib.hid ⟨HI.out.1.vs.since hbx, HI.out.1.off.trans (Off.since hbx), heap_alloc_new wo _, by have := HI.out.1.vs.lt; omega⟩
    have HF0 : RowKit.Hid (∀ u, Off (fun k => k = d) (wo.alloc (.cells #[.slice pa pn pc, .slice oa on oc, .int .i64 b.fin.K, .int .i64 b.fin.A, .int .i64 b.fin.To, .int .i64 b.fin.Else, .slice la ln lc, .slice ma mn mc] 57)) u → u.heap[X]? = some (.cells #[.int .i64 r, .slice (some ⟨g, off, none⟩) bn bc] 30 (0, 0))) := Lib.hid fun u ho => (ho.block X (by have := (Array.getElem?_eq_some_iff.1 HI.out.1.e).1; simp; omega) HI.out.1.ne).trans ((hbx.block X (Array.getElem?_eq_some_iff.1 HI.out.1.e).1).trans HI.out.1.e)
    obtain ⟨Y, hY⟩ : ∃ Y, Y = wo.heap.size := ⟨_, rfl⟩
    clear hcell hcs hbq hol hb hbx hc8
    go_upto_region 8 with fail
    rw [← hY] at HV ⊢
    generalize hW1 : wo.alloc (.cells #[.slice pa pn pc, .slice oa on oc, .int .i64 b.fin.K, .int .i64 b.fin.A, .int .i64 b.fin.To, .int .i64 b.fin.Else, .slice la ln lc, .slice ma mn mc] 57) = W1 at HV HF0 ⊢
    clear hW1 hY hd0 hd1 hd2 hd3 hd4 hd5 hd6 hd7 hx1 hc1
    have e0 := HV.out.ec 0
    go_wp2_with fail
    refine (w_list d ua un uc l4 0 pa pn pc b.params 8 (by decide) W1 HV.out.vs (BlockQ.lasts _ _ _ _ (far_below HW0.out HV.out.off HD0.out) HBQ.out).params.1 HBQ.out.params.2 HBQ.out.rng (HBQ.out.params.1.ahead HD0.out) (fun _ => by have := HU4.out; omega)).mono ?_
    rintro e5 w5 ⟨ua5, un5, uc5, l5, y5, rfl, hv, ho, hw⟩
    have HB5 := Lib.hid (HV.out.go hv ho)
    have HO5 := Lib.hid ho
    have HW5 : RowKit.Hid (Wrote (encNums 8 b.params) l4 0 l5 y5) := Lib.hid hw
    clear hv ho hw e0
    have e1 := HB5.out.ec 1
    go_wp2_with fail
    refine (w_bad d ua5 un5 uc5 l5 y5 _ 2 (by decide) w5 HB5.out.vs).mono ?_
    rintro e6 w6 ⟨ua6, un6, uc6, l6, y6, rfl, hv, ho, hw⟩
    have HB6 := Lib.hid (HB5.out.go hv ho)
    have HO6 := Lib.hid (HO5.out.trans ho)
    have HW6a := Lib.hid hw
    have HW6 := Lib.hid (HW5.out.and hw)
    have hon : on ≤ 140737488351232 := (rowV_len' HBQ.out.ops).2
    have HON : RowKit.Hid (InR (on : Int)) := Lib.hid ⟨by omega, by omega⟩
    clear hv ho hw e1
    have e1 := HB6.out.ec 1
    go_wp2_with fail
    refine (w_num d ua6 un6 uc6 l6 y6 (on : Int) HON.out w6 HB6.out.vs (fun h0 => by have := HW6.out.len h0 ((Upto.nums _ _).and (Upto.check _ _)); have := HU4.out; omega)).mono ?_
    rintro e7 w7 ⟨ua7, un7, uc7, l7, y7, rfl, hv, ho, hw⟩
    have HB7 := Lib.hid (HB6.out.go hv ho)
    have HO7 := Lib.hid (HO6.out.trans ho)
    have HW7 : RowKit.Hid (Wrote ((encNums 8 b.params).and (outCount b.ops.length 700)) l4 0 l7 y7) := Lib.hid (HW5.out.and ((HW6a.out.and hw).of (by rw [HOL.out]; exact count_is (by first | rfl | (rw [Bool.eq_iff_iff]; simp <;> omega)))))
    clear hv ho hw e1 HW6a HW6
    go_wp2_with fail
    go_loopw [6] (fun jv wk => ∃ (j : Nat) (ua : Option Addr) (un uc : Nat) (l8 : List UInt8) (y8 : Int), j ≤ on ∧ jv = .int .i64 (j : Int) ∧ wk.cell? ⟨d, 1, none⟩ = some (.int .i64 y8) ∧ wk.cell? ⟨Y, 1, none⟩ = some (.slice oa on oc) ∧ RowKit.Hid (VB w d 57 Y #[.slice pa pn pc, .slice oa on oc, .int .i64 b.fin.K, .int .i64 b.fin.A, .int .i64 b.fin.To, .int .i64 b.fin.Else, .slice la ln lc, .slice ma mn mc] wk ua un uc l8 y8 ∧ Off (fun k => k = d) W1 wk ∧ Wrote (((encNums 8 b.params).and (outCount b.ops.length 700)).and (encAll encOp (b.ops.take j))) l4 0 l8 y8)) (fun jv _ => on - (intOf jv).toNat)
    case atStart => exact ⟨0, _, _, _, _, _, Nat.zero_le _, rfl, HB7.out.vs.c1, HB7.out.ec 1, Lib.hid ⟨HB7.out, HO7.out, HW7.out.of (by simp [encAll])⟩⟩
    case round =>
      obtain ⟨j, ua8, un8, uc8, l8, y8, hj, rfl, hc8, hx8, HJ⟩ := hrel
      have HU8 : RowKit.Hid (y8 = 0 → l8.length ≤ 76000000000000) := Lib.hid fun h0 => by
        subst h0
        obtain ⟨_, m, hm, h4⟩ := HJ.out.2.2.went rfl
        have h70 : b.ops.length ≤ 700 := Classical.byContradiction fun hh => by
          rw [outCount_no (by omega)] at hm
          cases hp : encNums 8 b.params <;> rw [hp] at hm <;> simp [Out.and] at hm
        have h71 : (b.ops.take j).length ≤ 700 := by rw [List.length_take]; omega
        have hu := ((((Upto.nums 8 b.params).and ((Upto.num (b.ops.length : Int)).and (Upto.check (decide (b.ops.length ≤ 700)) 2))).and (Upto.all (f := encOp) (n := 300) (b.ops.take j) (fun x _ => Upto.op x))).mono (m := 1000000) (by omega)) m hm
        have := HU4.out
        rw [h4, List.length_append]
        omega
      by_cases hgo : j < on ∧ y8 = 0
      · obtain ⟨hlj, rfl⟩ := hgo
        obtain ⟨g2, off2, rfl, hg2, hcs⟩ := rowV_at HBQ.out.ops (by omega)
        have HBK : RowKit.Hid (Below w0.heap.size w0 wr) := Lib.hid (far_below HW0.out HJ.out.1.off HD0.out)
        have hjl : j < b.ops.length := by rw [HOL.out]; exact hlj
        obtain ⟨cs, hc8', hcell, hoq⟩ := hcs j hjl
        obtain ⟨o, ho⟩ : ∃ o, o = b.ops[j] := ⟨_, rfl⟩
        rw [← ho] at hoq
        obtain ⟨qa, qn, qc, rfl⟩ := hoq.form
        have HOJ : RowKit.Hid (b.ops[j] = o) := Lib.hid ho.symm
        have HOQ := Lib.hid hoq
        have HOQ2 := Lib.hid (OpQ.lasts _ _ _ _ HBK.out hoq)
        have hd0 := (HBK.out.cell (p := ⟨g2, off2 + j * 8 + 0, none⟩) hg2).trans (hcell 0 (by simp))
        have hd1 := (HBK.out.cell (p := ⟨g2, off2 + j * 8 + 1, none⟩) hg2).trans (hcell 1 (by simp))
        have hd2 := (HBK.out.cell (p := ⟨g2, off2 + j * 8 + 2, none⟩) hg2).trans (hcell 2 (by simp))
        have hd3 := (HBK.out.cell (p := ⟨g2, off2 + j * 8 + 3, none⟩) hg2).trans (hcell 3 (by simp))
        have hd4 := (HBK.out.cell (p := ⟨g2, off2 + j * 8 + 4, none⟩) hg2).trans (hcell 4 (by simp))
        have hd5 := (HBK.out.cell (p := ⟨g2, off2 + j * 8 + 5, none⟩) hg2).trans (hcell 5 (by simp))
        have hd6 := (HBK.out.cell (p := ⟨g2, off2 + j * 8 + 6, none⟩) hg2).trans (hcell 6 (by simp))
        have hd7 := (HBK.out.cell (p := ⟨g2, off2 + j * 8 + 7, none⟩) hg2).trans (hcell 7 (by simp))
        simp only [Nat.add_zero, List.getElem_cons_zero, List.getElem_cons_succ] at hd0 hd1 hd2 hd3 hd4 hd5 hd6 hd7
        clear hcell hcs hoq ho hc8'
        go_wp2_with fail
        refine (w_op d ua8 un8 uc8 l8 0 o.K o.A o.B o.C o.N o.S qa qn qc o.T o wr HJ.out.1.vs HOQ2.out (HOQ.out.numL.1.ahead HD0.out) (fun h0 => by have := HU8.out (by first | exact h0 | trivial); omega)).mono ?_
        rintro e9 w9 ⟨ua9, un9, uc9, l9, y9, rfl, hv, ho, hw⟩
        have HB9 := Lib.hid (HJ.out.1.go hv ho)
        have HO9 := Lib.hid (HJ.out.2.1.trans ho)
        have HW9 := Lib.hid (HJ.out.2.2.next hjl (by rw [HOJ.out]; exact hw))
        clear hv ho hw hd0 hd1 hd2 hd3 hd4 hd5 hd6 hd7
        go_wp2_with fail
        go_roundw
        case rel => exact ⟨j + 1, _, _, _, l9, y9, by omega, by go_num, HB9.out.vs.c1, HB9.out.ec 1, Lib.hid ⟨HB9.out, HO9.out, HW9.out⟩⟩
        case measure => simp [intOf]; omega
      have HNJ : RowKit.Hid (Wrote ((encNums 8 b.params).and (encList 700 encOp b.ops)) l4 0 l8 y8) := Lib.hid ((HJ.out.2.2.rest (by rw [HOL.out]; by_cases h : y8 = 0; left; omega; exact .inr h)).of (by unfold encList; rw [Out.and_assoc]))
      go_upto_region 12 with fail
      go_cut [67] (fun tc wc => tc = .bool false ∧ wc = wr)
      case first =>
        by_cases hlj : j < on
        · have h1 : (y8 == 0) = false := by rw [beq_eq_false_iff_ne]; exact fun h => hgo ⟨hlj, h⟩
          clear hgo
          go_wp2_with fail
          go_meet
          exact ⟨rfl, rfl⟩
        · have hlt' : ¬ (j : Int) < (on : Int) := by omega
          clear hgo
          go_wp2_with fail
          go_meet
          exact ⟨rfl, rfl⟩
      case rest =>
        obtain ⟨rfl, rfl⟩ := hcut
        clear hgo hc8 hx8
        have hx := HJ.out.1.ec
        go_wp2_with fail
        refine (w_end d ua8 un8 uc8 l8 y8 b.fin.K b.fin.A b.fin.To b.fin.Else la ln lc ma mn mc b.fin wc HJ.out.1.vs (BlockQ.lasts _ _ _ _ (far_below HW0.out HJ.out.1.off HD0.out) HBQ.out).fin (HBQ.out.fin.numL.1.ahead HD0.out) (HBQ.out.fin.numM.1.ahead HD0.out) (fun h0 => by have := HU8.out (by first | exact h0 | trivial); omega)).mono ?_
        rintro e9 w9 ⟨ua9, un9, uc9, l9, y9, rfl, hv, ho, hw⟩
        have HW9 : RowKit.Hid (Wrote (((encN y.ret).and (outCount y.blocks.length 40)).and (encAll encBlock (y.blocks.take (i + 1)))) bs z l9 y9) := Lib.hid (HI.out.2.next HIL.out (by rw [HBI.out]; exact (HNJ.out.and hw).of (by unfold encBlock; rw [Out.and_assoc])))
        have HB9 := Lib.hid (HJ.out.1.go hv ho)
        have HX9 := Lib.hid (HF0.out w9 (HJ.out.2.1.trans ho))
        have HF9 : RowKit.Hid (VB w d 30 X #[.int .i64 r, .slice (some ⟨g, off, none⟩) bn bc] w9 ua9 un9 uc9 l9 y9) := Lib.hid ⟨hv, HB9.out.off, HX9.out, HI.out.1.ne⟩
        clear hv ho hw hx
        go_wp2_with fail
        go_roundw
        case rel => exact ⟨i + 1, _, _, _, l9, y9, by omega, by go_num, HF9.out.vs.c1, HF9.out.ec 1, Lib.hid ⟨HF9.out, HW9.out⟩⟩
        case measure => simp [intOf]; omega
end Go.Proofs.YtdchhfdmingnaaaDoor
