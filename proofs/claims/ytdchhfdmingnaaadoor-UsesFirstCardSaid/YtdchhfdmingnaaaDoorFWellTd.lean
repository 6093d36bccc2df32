/- Layer 9: the document's Types (mk_wtd.py). -/
import Derived.Test.YtdchhfdmingnaaaDoorFCfgX
import Derived.Test.YtdchhfdmingnaaaDoorFT3
import Derived.Test.YtdchhfdmingnaaaDoorFT4

namespace Go.Proofs.YtdchhfdmingnaaaDoor
open Go.RowKit (wrap64 intOf Below)
set_option linter.unusedVariables false
set_option linter.unusedSimpArgs false
set_option maxRecDepth 100000 in
set_option maxHeartbeats 4000000 in
theorem reftypes_any (pg : Nat) {sa : Option Addr} {sn sc : Nat} {ca : Option Addr} {cn cc : Nat} {pa' : Option Addr} {pn' pc' : Nat} {P : ProgD} (r : Int) (a : Option Addr) (n c : Nat) (f : FuncD) (w : World) (hP : ProgAt w pg sa sn sc ca cn cc pa' pn' pc' P)
    (hf : FuncQ w [.int .i64 r, .slice a n c] f) (hn : n ≤ 100000) (hv : valuesN f ≤ 1099511627776) :
    Calls Tryd.prog 54 #[.pointer (some ⟨pg, 0, none⟩), .agg #[.int .i64 r, .slice a n c]] w fun e w' => ∃ va vn vc, e = .returned (.slice va vn vc) ∧ OwnsI w' w.heap.size 3 (.slice va vn vc) (typesL P f) ∧ Below w.heap.size w w' := by
  obtain ⟨W1, hW1⟩ : ∃ U, w.alloc (.cells #[.int .i64 r, .slice a n c] 30) = U := ⟨_, rfl⟩
  have hb1 : Below w.heap.size w W1 := by rw [← hW1]; exact (Below.refl _ w).alloc (Nat.le_refl _) _
  have hs1 : W1.heap.size = w.heap.size + 1 := by rw [← hW1]; simp
  have hc : ∀ j, W1.cell? ⟨w.heap.size, j, none⟩ = (#[.int .i64 r, .slice a n c] : Array Value)[j]? := fun j => by rw [← hW1]; exact World.cell?_alloc_mark _ _ _ _ _
  have hc0 := hc 0
  have hc1 := hc 1
  have HC : RowKit.Hid (∀ U, Below W1.heap.size W1 U → U.cell? ⟨w.heap.size, 0, none⟩ = some (.int .i64 r) ∧ U.cell? ⟨w.heap.size, 1, none⟩ = some (.slice a n c)) := Lib.hid fun U hU => ⟨(hU.cell (p := ⟨w.heap.size, 0, none⟩) (by simp only []; omega)).trans (hc 0), (hU.cell (p := ⟨w.heap.size, 1, none⟩) (by simp only []; omega)).trans (hc 1)⟩
  have hrow := (funcQ_row hf).1
  have HL : RowKit.Hid (f.blocks.length = n) := Lib.hid (by obtain ⟨_, _, _, e, h, _⟩ := hrow; cases e; exact h)
  have hcn : P.classes.length ≤ 140737488355328 := by have := hP.c.len; omega
  have HTR : RowKit.Hid (∀ b T k, (∀ z ∈ T, InR z) → ∀ z ∈ blockK P f b T k, InR z) := Lib.hid fun b T k h => blockK_r hP.r hcn h k
  have HTK : RowKit.Hid (∀ i, ∀ z ∈ typesK P f i, InR z) := Lib.hid (typesK_r hP.r hcn hrow.parR)
  have HR := Lib.hid (hrow.since BlockQ.lasts hb1)
  have HP := Lib.hid (hP.since hb1)
  have HB1 := Lib.hid hb1
  have HS1 := Lib.hid hs1
  have HN := Lib.hid hn
  have HV := Lib.hid hv
  have CFI : RowKit.Hid (∀ U, Below W1.heap.size W1 U → ∀ i : Nat, Calls Tryd.prog 21 #[.agg #[.int .i64 r, .slice a n c], .int .i64 (i : Int)] U (NumPost ((firstN f i : Nat) : Int) U)) := Lib.hid fun U hU i => by
    rw [← firstOf_nat f hv i]
    exact ref_first r a n c (i : Int) f U (FuncQ.lasts _ _ _ _ hU (FuncQ.lasts _ _ _ _ hb1 hf))
  have CO : RowKit.Hid (∀ U, Below W1.heap.size W1 U → Calls Tryd.prog 53 #[.agg #[.int .i64 r, .slice a n c]] U fun e w' => ∃ va vn vc, e = .returned (.slice va vn vc) ∧ OwnsI w' U.heap.size 3 (.slice va vn vc) (orderL f) ∧ Below U.heap.size U w') := Lib.hid fun U hU => reforder_any r a n c f U ((hrow.since BlockQ.lasts hb1).since BlockQ.lasts hU) (by omega)
  clear hrow hf hb1 hc hs1 hP hv hcn
  go_enter Tryd.func54, Tryd.ntmps54
  go_upto_region 1 with fail
  try rw [hW1]
  clear hW1
  obtain ⟨k0, k1⟩ := HC.out (W1.alloc (.cells #[] 3)) ((Below.refl _ W1).alloc (Nat.le_refl _) _)
  go_wp2_with fail
  obtain ⟨W2, hW2⟩ : ∃ u, W1.alloc (.cells #[] 3) = u := ⟨_, rfl⟩
  have hb2 : Below W1.heap.size W1 W2 := by rw [← hW2]; exact (Below.refl _ W1).alloc (Nat.le_refl _) _
  have HO2 : RowKit.Hid (OwnsI W2 W1.heap.size 3 (.slice (some ⟨W1.heap.size, 0, none⟩) 0 0) []) := Lib.hid (by rw [← hW2]; exact OwnsI.laid rfl (Nat.le_refl _))
  have HB2 := Lib.hid hb2
  have HZ2 : RowKit.Hid (W1.heap.size < W2.heap.size) := Lib.hid (by rw [← hW2]; simp)
  rw [hW2] at k0 k1 ⊢
  clear hW2 hb2 hc0 hc1
  refine (CO.out _ HB2.out).mono ?_
  rintro e w3 ⟨oa, on, oc, rfl, ho, hb⟩
  have HI0 : RowKit.Hid (DtSt W1 (.slice (some ⟨W1.heap.size, 0, none⟩) 0 0) (.slice oa on oc) (initK f 0) (thruK f 0) w3) := Lib.hid ⟨HO2.out.below hb, by rw [thruK_zero]; exact ho.mono HB2.out.size, fun k hk e => by
    have hk' : W1.heap.size = k := Option.some.inj hk
    have := (ho.lt _ e).1
    have := HZ2.out
    omega, HB2.out.trans (hb.mono HB2.out.size)⟩
  obtain ⟨p1, hp1⟩ : ∃ p, p = W1.heap.size := ⟨_, rfl⟩
  rw [← hp1] at HI0 ⊢
  clear HO2 ho hb hp1 k0 k1
  go_upto_region 3 with fail
  go_loopw [5, 6, 7] (fun v5 v6 v7 wr => ∃ (i : Nat) (va : Option Addr) (vn vc : Nat) (oa : Option Addr) (on oc : Nat), i ≤ n ∧ v5 = .slice va vn vc ∧ v6 = .slice oa on oc ∧ v7 = .int .i64 (i : Int) ∧ RowKit.Hid (DtSt W1 (.slice va vn vc) (.slice oa on oc) (initK f i) (thruK f i) wr)) (fun _ _ iv _ => n - (intOf iv).toNat)
  case atStart => exact ⟨0, _, _, _, _, _, _, Nat.zero_le _, rfl, rfl, rfl, HI0⟩
  case round =>
    clear HI0 HB2 HZ2
    obtain ⟨i, va, vn, vc, oa, on, oc, hi, rfl, rfl, rfl, HI⟩ := hrel
    obtain ⟨d0, d1⟩ := HC.out wr HI.out.bel
    have hw : wrap64 ((i : Int) + 1) = (i : Int) + 1 := by unfold wrap64; omega
    by_cases hlt : i < n
    · have hltz : (i : Int) < (n : Int) := by omega
      have hi0 : (0 : Int) ≤ (i : Int) := by omega
      obtain ⟨g8, off8, cs, hif, rfl, hl8, hcell, hq⟩ := HR.out.elem hlt
      obtain ⟨X, hX⟩ : ∃ X, X = f.blocks[i] := ⟨_, rfl⟩
      rw [← hX] at hq
      obtain ⟨pv, ov, es, rfl, ⟨pa, pn, pc, rfl, hp, hpn0, _⟩, ⟨xa, xn, xc, rfl, hx, _⟩, _⟩ := hq
      have HG : RowKit.Hid (∀ U, Below W1.heap.size W1 U → U.cell? ⟨g8, off8 + i * 8, none⟩ = some (.slice pa pn pc) ∧ U.cell? ⟨g8, off8 + i * 8 + 1, none⟩ = some (.slice xa xn xc)) := Lib.hid fun U hU => by
        have h0 := hcell 0 (by simp)
        have h1 := hcell 1 (by simp)
        simp only [Nat.add_zero, List.getElem_cons_zero, List.getElem_cons_succ] at h0 h1
        exact ⟨(hU.cell (p := ⟨g8, off8 + i * 8, none⟩) (World.block_lt_of_cell? _ _ h0)).trans h0, (hU.cell (p := ⟨g8, off8 + i * 8 + 1, none⟩) (World.block_lt_of_cell? _ _ h1)).trans h1⟩
      have hpar : parL f i = X.params := by rw [parL_at hif, hX]
      have hopn : opsN f i = xn := by rw [opsN_at hif, ← hX]; exact hx
      have HIN : RowKit.Hid ((initK f i).length + pn + xn ≤ 1099511627776 ∧ initK f (i + 1) = initK f i ++ (X.params ++ List.replicate xn (-1))) := Lib.hid (by
        refine ⟨?_, by rw [show initK f (i + 1) = initK f i ++ (parL f i ++ List.replicate (opsN f i) (-1)) from rfl, hpar, hopn]⟩
        have h1 := firstN_parL hif
        have h2 := firstN_le f (i + 1)
        have h3 := HV.out
        rw [initK_len (by omega)]
        rw [hpar, hopn, hp.1] at h1
        omega)
      have HPN := Lib.hid hpn0
      have HPA := Lib.hid (hp.since HI.out.bel)
      have HPL : RowKit.Hid (X.params.length = pn) := Lib.hid hp.1
      obtain ⟨q0, q1⟩ := HG.out wr HI.out.bel
      clear hcell hp hx hl8 hX hpar hopn hpn0
      go_upto_region 6 with (at_builtin; (with_reducible refine wpList_append_numsA _ rfl _ _ 34 rfl 3 Tryd.underlying34 info_int W1.heap.size (.slice va vn vc) (initK f i) ?_ ?_ ?_ pa pn pc X.params ?_ ?_ ?_ ?_ ?_); (next => rfl); (next => exact HI.out.out); (next => exact HI.out.bel.size); (next => rfl); (next => exact HPN.out); (next => exact HPA.out); (next => have := HIN.out.1; omega); intro ya yn yc w4 ho4 hg4 hw4; have H4 := Lib.hid (HI.out.outs ho4 hg4 hw4); clear ho4 hg4 hw4)
      go_upto_region 7 with fail
      go_loopw [5, 8] (fun v5 v8 wr2 => ∃ (k : Nat) (za : Option Addr) (zn zc : Nat), k ≤ xn ∧ v5 = .slice za zn zc ∧ v8 = .int .i64 (k : Int) ∧ RowKit.Hid (DtSt W1 (.slice za zn zc) (.slice oa on oc) (initK f i ++ (X.params ++ List.replicate k (-1))) (thruK f i) wr2)) (fun _ iv _ => xn - (intOf iv).toNat)
      case atStart => exact ⟨0, _, _, _, Nat.zero_le _, rfl, rfl, by simpa using H4⟩
      case round =>
        clear H4 d0 d1 q0 q1 HPA
        obtain ⟨k, za, zn, zc, hk, rfl, rfl, HK⟩ := hrel
        obtain ⟨e0, e1⟩ := HC.out wr HK.out.bel
        obtain ⟨r0, r1⟩ := HG.out wr HK.out.bel
        have hwk : wrap64 ((k : Int) + 1) = (k : Int) + 1 := by have := HIN.out.1; unfold wrap64; omega
        by_cases hkl : k < xn
        · have hklz : (k : Int) < (xn : Int) := by omega
          have HLN : RowKit.Hid (((initK f i ++ (X.params ++ List.replicate k (-1))).length + 1) * 8 ≤ 140737488355328) := Lib.hid (by
            have h1 := HIN.out.1
            have h2 := HPL.out
            simp only [List.length_append, List.length_replicate]
            omega)
          go_wp2_with ((with_reducible refine wpList_append_numA _ rfl _ _ 34 rfl 3 Tryd.underlying34 info_int W1.heap.size (.slice za zn zc) (initK f i ++ (X.params ++ List.replicate k (-1))) ?_ ?_ ?_ _ 1 wr.heap.size (-1) ?_ ?_ ?_ ?_ ?_); (next => rfl); (next => exact HK.out.out); (next => exact HK.out.bel.size); (next => rfl); (next => rfl); (next => rfl); (next => exact HLN.out); intro ya yn yc w5 ho5 hg5 hw5; have HX5 : RowKit.Hid (DtSt W1 (.slice ya yn yc) (.slice oa on oc) (initK f i ++ (X.params ++ List.replicate (k + 1) (-1))) (thruK f i) w5) := Lib.hid (by rw [List.replicate_succ', ← List.append_assoc X.params, ← List.append_assoc (initK f i)]; exact HK.out.outsA ho5 hg5 hw5); clear ho5 hg5 hw5)
          go_roundw
          case rel => exact ⟨k + 1, _, _, _, hkl, rfl, by go_num, HX5⟩
          case measure => simp [intOf, hwk]; omega
        · obtain rfl : k = xn := by omega
          have hnn : ¬ (k : Int) < (k : Int) := by omega
          have HX6 : RowKit.Hid (DtSt W1 (.slice za zn zc) (.slice oa on oc) (initK f (i + 1)) (thruK f i) wr) := Lib.hid (by rw [HIN.out.2]; exact HK.out)
          have HON : RowKit.Hid (on ≤ 200000) := Lib.hid (by
            have h1 := thruK_len f i
            have h2 := order_len f
            have h3 := HL.out
            have h4 := HK.out.ord.read.1
            have h5 := HN.out
            omega)
          have hin : inL (thruK f i) (i : Int) = inL (orderL f) (i : Int) := thru_in f i
          have CH : RowKit.Hid (Calls Tryd.prog 20 #[.slice oa on oc, .int .i64 (i : Int)] wr fun e w' => e = .returned (.bool (inL (orderL f) (i : Int))) ∧ wr = w') := Lib.hid (by rw [← hin]; exact chas_any oa on oc (thruK f i) (i : Int) wr HK.out.ord.read (by have := HON.out; omega))
          clear HIN HK hin
          cases hio : inL (orderL f) (i : Int) with
          | true =>
            have HX7 : RowKit.Hid (DtSt W1 (.slice za zn zc) (.slice oa on oc) (initK f (i + 1)) (thruK f (i + 1)) wr) := Lib.hid (by rw [thruK_met hio]; exact HX6.out)
            rw [hio] at CH
            go_wp2_with (go_at_call 20; (with_reducible refine CH.out.mono ?_); rintro e w7 ⟨rfl, rfl⟩)
            go_roundw
            case rel => exact ⟨i + 1, _, _, _, _, _, _, hlt, rfl, rfl, by go_num, HX7⟩
            case measure => simp [intOf, hw]; omega
          | false =>
            rw [hio] at CH
            have HOL : RowKit.Hid (((thruK f i).length + 1) * 8 ≤ 140737488355328) := Lib.hid (by have := HON.out; have := HX6.out.ord.read.1; omega)
            have HTN : RowKit.Hid (thruK f (i + 1) = thruK f i ++ [(i : Int)]) := Lib.hid (thruK_not hio)
            clear hio
            go_wp2_with (first
              | (go_at_call 20; (with_reducible refine CH.out.mono ?_); rintro e w7 ⟨rfl, rfl⟩)
              | ((with_reducible refine wpList_append_numA _ rfl _ _ 34 rfl 3 Tryd.underlying34 info_int W1.heap.size (.slice oa on oc) (thruK f i) ?_ ?_ ?_ _ 1 wr.heap.size (i : Int) ?_ ?_ ?_ ?_ ?_); (next => rfl); (next => exact HX6.out.ord); (next => exact HX6.out.bel.size); (next => rfl); (next => rfl); (next => rfl); (next => exact HOL.out); intro ya yn yc w5 ho5 hg5 hw5; have HX7 : RowKit.Hid (DtSt W1 (.slice za zn zc) (.slice ya yn yc) (initK f (i + 1)) (thruK f (i + 1)) w5) := Lib.hid (by rw [HTN.out]; exact HX6.out.ordsA ho5 hg5 hw5); clear ho5 hg5 hw5))
            go_roundw
            case rel => exact ⟨i + 1, _, _, _, _, _, _, hlt, rfl, rfl, by go_num, HX7⟩
            case measure => simp [intOf, hw]; omega
    · obtain rfl : i = n := by omega
      clear hw hi
      have hnn : ¬ (i : Int) < (i : Int) := by omega
      have HQ0 : RowKit.Hid (DtSt W1 (.slice va vn vc) (.slice oa on oc) (typesK P f 0) (thruL f) wr) := Lib.hid (by
        have h := HI.out
        rw [← HL.out] at h
        exact h)
      have hvn : vn = valuesN f := by have := HQ0.out.out.read.1; rw [typesK_len] at this; omega
      have HVN := Lib.hid hvn
      have hon : on = (thruL f).length := HQ0.out.ord.read.1.symm
      have HON := Lib.hid hon
      have hon2 : on ≤ 200000 := by
        have h1 := thruK_len f f.blocks.length
        have h2 := order_len f
        have h3 := HL.out
        have h4 := HN.out
        rw [hon]
        unfold thruL
        omega
      clear HI hvn hon CO
      go_upto_region 13 with fail
      go_loopw [9] (fun v9 w7 => ∃ q : Nat, q ≤ on ∧ v9 = .int .i64 (q : Int) ∧ RowKit.Hid (DtSt W1 (.slice va vn vc) (.slice oa on oc) (typesK P f q) (thruL f) w7)) (fun iv _ => on - (intOf iv).toNat)
      case atStart => exact ⟨0, Nat.zero_le _, rfl, HQ0⟩
      case round =>
        clear HQ0 d0 d1
        obtain ⟨q, hq, rfl, HQ⟩ := hrel
        have hwq : wrap64 ((q : Int) + 1) = (q : Int) + 1 := by unfold wrap64; omega
        by_cases hql : q < on
        · have hqlz : (q : Int) < (on : Int) := by omega
          have hq0 : (0 : Int) ≤ (q : Int) := by omega
          have hqt : q < (thruL f).length := by rw [← HON.out]; exact hql
          obtain ⟨b, hbe, hbl⟩ := thru_at hqt
          obtain ⟨_, hog⟩ := HQ.out.ord.read
          obtain ⟨go, oo, rfl, hgo, hocell⟩ := hog (by omega)
          have hoc : wr.cell? ⟨go, oo + q, none⟩ = some (.int .i64 (b : Int)) := by rw [hocell q hqt, ← hbe, nth_is hqt]; rfl
          have hbn : b < i := by rw [← HL.out]; exact hbl
          have hbz : (b : Int) < (i : Int) := by omega
          have hb0 : (0 : Int) ≤ (b : Int) := by omega
          obtain ⟨g8, off8, cs, hif, rfl, hl8, hcell, hqq⟩ := HR.out.elem hbn
          obtain ⟨X, hX⟩ : ∃ X, X = f.blocks[b] := ⟨_, rfl⟩
          rw [← hX] at hqq
          obtain ⟨pv, ov, es, rfl, ⟨pa, pn, pc, rfl, hp, hpn0, _⟩, ho, l1, m1, rfl, r1, r2, r3, r4, ⟨la, ln, lc, rfl, _⟩, ⟨ma, mn, mc, rfl, _⟩⟩ := hqq
          have hov := ho
          obtain ⟨xa, xn, xc, rfl, hxl, _⟩ := hov
          have HXO := Lib.hid ho
          have HXL : RowKit.Hid (X.ops.length = xn) := Lib.hid hxl
          have HPL : RowKit.Hid (X.params.length = pn) := Lib.hid hp.1
          have HXE := Lib.hid hX
          have hpar : parL f b = X.params := by rw [parL_at hif, hX]
          have hopn : opsN f b = xn := by rw [opsN_at hif, ← hX]; exact hxl
          have HTQ : RowKit.Hid (typesK P f (q + 1) = blockK P f b (typesK P f q) xn) := Lib.hid (by
            show blockK P f (nth (thruL f) q).toNat (typesK P f q) (opsN f (nth (thruL f) q).toNat) = _
            rw [hbe, Int.toNat_natCast, hopn])
          have HBKK : RowKit.Hid (∀ k (hk : k < X.ops.length), blockK P f b (typesK P f q) (k + 1) = (blockK P f b (typesK P f q) k).set (firstN f b + pn + k) (resO P X.ops[k] (blockK P f b (typesK P f q) k)).1) := Lib.hid fun k hk => by
            show (blockK P f b (typesK P f q) k).set (firstN f b + (parL f b).length + k) (resO P (opAt f b k) (blockK P f b (typesK P f q) k)).1 = _
            have hk' : k < f.blocks[b].ops.length := by rw [← hX]; exact hk
            rw [hpar, hp.1, opAt_at hif hk']
            subst hX
            rfl
          have HRM : RowKit.Hid (∀ k, k < xn → firstN f b + pn + k < vn) := Lib.hid fun k hk => by
            have := base_room hbl (k := k) (by rw [hopn]; exact hk)
            rw [hpar, hp.1] at this
            rw [HVN.out]
            exact this
          have HS0 : RowKit.Hid (∀ u, Below wr.heap.size wr u → (u.cell? ⟨w.heap.size, 0, none⟩ = some (.int .i64 r) ∧ u.cell? ⟨w.heap.size, 1, none⟩ = some (.slice (some ⟨g8, off8, none⟩) i c)) ∧ u.cell? ⟨go, oo + q, none⟩ = some (.int .i64 (b : Int)) ∧ u.cell? ⟨g8, off8 + b * 8, none⟩ = some (.slice pa pn pc) ∧ u.cell? ⟨g8, off8 + b * 8 + 1, none⟩ = some (.slice xa xn xc) ∧ u.cell? ⟨g8, off8 + b * 8 + 2, none⟩ = some (.int .i64 X.fin.K) ∧ u.cell? ⟨g8, off8 + b * 8 + 3, none⟩ = some (.int .i64 X.fin.A) ∧ u.cell? ⟨g8, off8 + b * 8 + 4, none⟩ = some (.int .i64 X.fin.To) ∧ u.cell? ⟨g8, off8 + b * 8 + 5, none⟩ = some (.int .i64 X.fin.Else) ∧ u.cell? ⟨g8, off8 + b * 8 + 6, none⟩ = some (.slice la ln lc) ∧ u.cell? ⟨g8, off8 + b * 8 + 7, none⟩ = some (.slice ma mn mc)) := Lib.hid fun u hu => by
            have hW : Below W1.heap.size W1 u := HQ.out.bel.trans (hu.mono HQ.out.bel.size)
            have hlift : ∀ (j : Nat) (v : Value), W1.cell? ⟨g8, off8 + b * 8 + j, none⟩ = some v → u.cell? ⟨g8, off8 + b * 8 + j, none⟩ = some v := fun j v hv => (hW.cell (p := ⟨g8, off8 + b * 8 + j, none⟩) (World.block_lt_of_cell? _ _ hv)).trans hv
            exact ⟨HC.out u hW, (hu.cell (p := ⟨go, oo + q, none⟩) hgo).trans hoc, hlift 0 _ (hcell 0 (by simp)), hlift 1 _ (hcell 1 (by simp)), hlift 2 _ (hcell 2 (by simp)), hlift 3 _ (hcell 3 (by simp)), hlift 4 _ (hcell 4 (by simp)), hlift 5 _ (hcell 5 (by simp)), hlift 6 _ (hcell 6 (by simp)), hlift 7 _ (hcell 7 (by simp))⟩
          have hfp : firstN f b + pn ≤ 1099511627776 := by
            have h1 := firstN_parL hif
            have h2 := firstN_le f (b + 1)
            have h3 := HV.out
            rw [parL_at hif, ← hX, hp.1] at h1
            omega
          clear hpar hopn hcell ho hxl hp hX hl8 hocell hog hoc hbe hpn0 r1 r2 r3 r4
          obtain ⟨fb, hfb⟩ : ∃ z, z = firstN f b := ⟨_, rfl⟩
          have CF1 : RowKit.Hid (∀ U, Below W1.heap.size W1 U → Calls Tryd.prog 21 #[.agg #[.int .i64 r, .slice (some ⟨g8, off8, none⟩) i c], .int .i64 (b : Int)] U (NumPost ((fb : Nat) : Int) U)) := Lib.hid fun U hU => by rw [hfb]; exact CFI.out U hU b
          rw [← hfb] at hfp
          have HFB := Lib.hid hfb
          have hv1 : IntKind.i64.wrap ((fb : Int) + (pn : Int)) = (fb : Int) + (pn : Int) := kwrap_two hfp
          clear hfb
          go_upto_region 15 with fail
          refine wp_region_T (S := (fun u : World => (u.cell? ⟨w.heap.size, 0, none⟩ = some (.int .i64 r) ∧ u.cell? ⟨w.heap.size, 1, none⟩ = some (.slice (some ⟨g8, off8, none⟩) i c)) ∧ u.cell? ⟨go, oo + q, none⟩ = some (.int .i64 (b : Int)) ∧ u.cell? ⟨g8, off8 + b * 8, none⟩ = some (.slice pa pn pc) ∧ u.cell? ⟨g8, off8 + b * 8 + 1, none⟩ = some (.slice xa xn xc) ∧ u.cell? ⟨g8, off8 + b * 8 + 2, none⟩ = some (.int .i64 X.fin.K) ∧ u.cell? ⟨g8, off8 + b * 8 + 3, none⟩ = some (.int .i64 X.fin.A) ∧ u.cell? ⟨g8, off8 + b * 8 + 4, none⟩ = some (.int .i64 X.fin.To) ∧ u.cell? ⟨g8, off8 + b * 8 + 5, none⟩ = some (.int .i64 X.fin.Else) ∧ u.cell? ⟨g8, off8 + b * 8 + 6, none⟩ = some (.slice la ln lc) ∧ u.cell? ⟨g8, off8 + b * 8 + 7, none⟩ = some (.slice ma mn mc))) 28 (by kernel_rfl) (HS0.out _ ((Below.refl _ wr).drew)) (fun hHeld => ?_)
          refine wpAnyT_takeW (i := 0) (oi := ⟨some 61, _, _, _, _, _⟩) (v := ?_) rfl (by kernel_rfl) (by kernel_rfl) (by kernel_rfl) (fun _ _ _ h => h) (Or.inl ⟨by rfl, ?_⟩) ?_
          rotate_left
          · ((intro w _; go_simp); try with_reducible rfl)
          (try simp only [Act.put, List.setIfInBounds_toArray, List.set_cons_zero, List.set_cons_succ])
          refine wpAnyT_take (i := 1) (oi := ⟨some 62, _, _, _, _, _⟩) (v := ?_) 8 rfl (by kernel_rfl) (by kernel_rfl) (by kernel_rfl) (by kernel_rfl) (by kernel_rfl) (fun _ _ _ h => h) (Or.inl ⟨by rfl, ?_⟩) (by assumption) ?_
          rotate_left
          · ((intro w hSw; (try dsimp only at hSw); go_simp); try with_reducible rfl)
          (try simp only [Act.put, List.setIfInBounds_toArray, List.set_cons_zero, List.set_cons_succ])
          refine wpAnyT_takeW (i := 2) (oi := ⟨some 63, _, _, _, _, _⟩) (v := ?_) rfl (by kernel_rfl) (by kernel_rfl) (by kernel_rfl) (fun _ _ _ h => h) (Or.inl ⟨by rfl, ?_⟩) ?_
          rotate_left
          · ((intro w _; go_simp); try with_reducible rfl)
          (try simp only [Act.put, List.setIfInBounds_toArray, List.set_cons_zero, List.set_cons_succ])
          refine wpAnyT_takeW (i := 3) (oi := ⟨some 64, _, _, _, _, _⟩) (v := ?_) rfl (by kernel_rfl) (by kernel_rfl) (by kernel_rfl) (fun _ _ _ h => h) (Or.inl ⟨by rfl, ?_⟩) ?_
          rotate_left
          · ((intro w _; go_simp); try with_reducible rfl)
          (try simp only [Act.put, List.setIfInBounds_toArray, List.set_cons_zero, List.set_cons_succ])
          refine wpAnyT_takeW (i := 4) (oi := ⟨some 65, _, _, _, _, _⟩) (v := ?_) rfl (by kernel_rfl) (by kernel_rfl) (by kernel_rfl) (fun _ _ _ h => h) (Or.inl ⟨by rfl, ?_⟩) ?_
          rotate_left
          · ((intro w _; go_simp); try with_reducible rfl)
          (try simp only [Act.put, List.setIfInBounds_toArray, List.set_cons_zero, List.set_cons_succ])
          refine wpAnyT_take (i := 5) (oi := ⟨some 66, _, _, _, _, _⟩) (v := ?_) 8 rfl (by kernel_rfl) (by kernel_rfl) (by kernel_rfl) (by kernel_rfl) (by kernel_rfl) (fun _ _ _ h => h) (Or.inl ⟨by rfl, ?_⟩) (by assumption) ?_
          rotate_left
          · ((intro w hSw; (try dsimp only at hSw); go_simp); try with_reducible rfl)
          (try simp only [Act.put, List.setIfInBounds_toArray, List.set_cons_zero, List.set_cons_succ])
          refine wpAnyT_takeW (i := 6) (oi := ⟨some 67, _, _, _, _, _⟩) (v := ?_) rfl (by kernel_rfl) (by kernel_rfl) (by kernel_rfl) (fun _ _ _ h => h) (Or.inl ⟨by rfl, ?_⟩) ?_
          rotate_left
          · ((intro w _; go_simp); try with_reducible rfl)
          (try simp only [Act.put, List.setIfInBounds_toArray, List.set_cons_zero, List.set_cons_succ])
          refine wpAnyT_take (i := 7) (oi := ⟨some 68, _, _, _, _, _⟩) (v := ?_) 8 rfl (by kernel_rfl) (by kernel_rfl) (by kernel_rfl) (by kernel_rfl) (by kernel_rfl) (fun _ _ _ h => h) (Or.inl ⟨by rfl, ?_⟩) (by assumption) ?_
          rotate_left
          · ((intro w hSw; (try dsimp only at hSw); go_simp); try with_reducible rfl)
          (try simp only [Act.put, List.setIfInBounds_toArray, List.set_cons_zero, List.set_cons_succ])
          refine wpAnyT_take (i := 8) (oi := ⟨some 69, _, _, _, _, _⟩) (v := ?_) 8 rfl (by kernel_rfl) (by kernel_rfl) (by kernel_rfl) (by kernel_rfl) (by kernel_rfl) (fun _ _ _ h => h) (Or.inl ⟨by rfl, ?_⟩) (by assumption) ?_
          rotate_left
          · ((intro w hSw; (try dsimp only at hSw); go_simp); try with_reducible rfl)
          (try simp only [Act.put, List.setIfInBounds_toArray, List.set_cons_zero, List.set_cons_succ])
          refine wpAnyT_takeW (i := 9) (oi := ⟨some 70, _, _, _, _, _⟩) (v := ?_) rfl (by kernel_rfl) (by kernel_rfl) (by kernel_rfl) (fun _ _ _ h => h) (Or.inl ⟨by rfl, ?_⟩) ?_
          rotate_left
          · ((intro w _; go_simp); try with_reducible rfl)
          (try simp only [Act.put, List.setIfInBounds_toArray, List.set_cons_zero, List.set_cons_succ])
          refine wpAnyT_takeW (i := 10) (oi := ⟨some 71, _, _, _, _, _⟩) (v := ?_) rfl (by kernel_rfl) (by kernel_rfl) (by kernel_rfl) (fun _ _ _ h => h) (Or.inl ⟨by rfl, ?_⟩) ?_
          rotate_left
          · ((intro w _; go_simp); try with_reducible rfl)
          (try simp only [Act.put, List.setIfInBounds_toArray, List.set_cons_zero, List.set_cons_succ])
          refine wpAnyT_takeW (i := 11) (oi := ⟨some 72, _, _, _, _, _⟩) (v := ?_) rfl (by kernel_rfl) (by kernel_rfl) (by kernel_rfl) (fun _ _ _ h => h) (Or.inl ⟨by rfl, ?_⟩) ?_
          rotate_left
          · ((intro w _; go_simp); try with_reducible rfl)
          (try simp only [Act.put, List.setIfInBounds_toArray, List.set_cons_zero, List.set_cons_succ])
          refine wpAnyT_take (i := 12) (oi := ⟨some 73, _, _, _, _, _⟩) (v := ?_) 8 rfl (by kernel_rfl) (by kernel_rfl) (by kernel_rfl) (by kernel_rfl) (by kernel_rfl) (fun _ _ _ h => h) (Or.inl ⟨by rfl, ?_⟩) (by assumption) ?_
          rotate_left
          · ((intro w hSw; (try dsimp only at hSw); go_simp); try with_reducible rfl)
          (try simp only [Act.put, List.setIfInBounds_toArray, List.set_cons_zero, List.set_cons_succ])
          refine wpAnyT_takeW (i := 14) (oi := ⟨some 75, _, _, _, _, _⟩) (v := ?_) rfl (by kernel_rfl) (by kernel_rfl) (by kernel_rfl) (fun _ _ _ h => h) (Or.inl ⟨by rfl, ?_⟩) ?_
          rotate_left
          · ((intro w _; go_simp); try with_reducible rfl)
          (try simp only [Act.put, List.setIfInBounds_toArray, List.set_cons_zero, List.set_cons_succ])
          refine wpAnyT_take (i := 15) (oi := ⟨some 76, _, _, _, _, _⟩) (v := ?_) 8 rfl (by kernel_rfl) (by kernel_rfl) (by kernel_rfl) (by kernel_rfl) (by kernel_rfl) (fun _ _ _ h => h) (Or.inl ⟨by rfl, ?_⟩) (by assumption) ?_
          rotate_left
          · ((intro w hSw; (try dsimp only at hSw); go_simp); try with_reducible rfl)
          (try simp only [Act.put, List.setIfInBounds_toArray, List.set_cons_zero, List.set_cons_succ])
          refine wpAnyT_takeW (i := 16) (oi := ⟨some 77, _, _, _, _, _⟩) (v := ?_) rfl (by kernel_rfl) (by kernel_rfl) (by kernel_rfl) (fun _ _ _ h => h) (Or.inl ⟨by rfl, ?_⟩) ?_
          rotate_left
          · ((intro w _; go_simp); try with_reducible rfl)
          (try simp only [Act.put, List.setIfInBounds_toArray, List.set_cons_zero, List.set_cons_succ])
          refine wpAnyT_takeW (i := 17) (oi := ⟨some 78, _, _, _, _, _⟩) (v := ?_) rfl (by kernel_rfl) (by kernel_rfl) (by kernel_rfl) (fun _ _ _ h => h) (Or.inl ⟨by rfl, ?_⟩) ?_
          rotate_left
          · ((intro w _; go_simp); try with_reducible rfl)
          (try simp only [Act.put, List.setIfInBounds_toArray, List.set_cons_zero, List.set_cons_succ])
          refine wpAnyT_takeW (i := 18) (oi := ⟨some 79, _, _, _, _, _⟩) (v := ?_) rfl (by kernel_rfl) (by kernel_rfl) (by kernel_rfl) (fun _ _ _ h => h) (Or.inl ⟨by rfl, ?_⟩) ?_
          rotate_left
          · ((intro w _; go_simp); try with_reducible rfl)
          (try simp only [Act.put, List.setIfInBounds_toArray, List.set_cons_zero, List.set_cons_succ])
          refine wpAnyT_take (i := 19) (oi := ⟨some 80, _, _, _, _, _⟩) (v := ?_) 8 rfl (by kernel_rfl) (by kernel_rfl) (by kernel_rfl) (by kernel_rfl) (by kernel_rfl) (fun _ _ _ h => h) (Or.inl ⟨by rfl, ?_⟩) (by assumption) ?_
          rotate_left
          · ((intro w hSw; (try dsimp only at hSw); go_simp); try with_reducible rfl)
          (try simp only [Act.put, List.setIfInBounds_toArray, List.set_cons_zero, List.set_cons_succ])
          refine wpAnyT_takeW (i := 20) (oi := ⟨some 81, _, _, _, _, _⟩) (v := ?_) rfl (by kernel_rfl) (by kernel_rfl) (by kernel_rfl) (fun _ _ _ h => h) (Or.inl ⟨by rfl, ?_⟩) ?_
          rotate_left
          · ((intro w _; go_simp); try with_reducible rfl)
          (try simp only [Act.put, List.setIfInBounds_toArray, List.set_cons_zero, List.set_cons_succ])
          refine wpAnyT_takeW (i := 21) (oi := ⟨some 82, _, _, _, _, _⟩) (v := ?_) rfl (by kernel_rfl) (by kernel_rfl) (by kernel_rfl) (fun _ _ _ h => h) (Or.inl ⟨by rfl, ?_⟩) ?_
          rotate_left
          · ((intro w _; go_simp); try with_reducible rfl)
          (try simp only [Act.put, List.setIfInBounds_toArray, List.set_cons_zero, List.set_cons_succ])
          refine wpAnyT_take (i := 22) (oi := ⟨some 83, _, _, _, _, _⟩) (v := ?_) 8 rfl (by kernel_rfl) (by kernel_rfl) (by kernel_rfl) (by kernel_rfl) (by kernel_rfl) (fun _ _ _ h => h) (Or.inl ⟨by rfl, ?_⟩) (by assumption) ?_
          rotate_left
          · ((intro w hSw; (try dsimp only at hSw); go_simp); try with_reducible rfl)
          (try simp only [Act.put, List.setIfInBounds_toArray, List.set_cons_zero, List.set_cons_succ])
          refine wpAnyT_takeW (i := 23) (oi := ⟨some 84, _, _, _, _, _⟩) (v := ?_) rfl (by kernel_rfl) (by kernel_rfl) (by kernel_rfl) (fun _ _ _ h => h) (Or.inl ⟨by rfl, ?_⟩) ?_
          rotate_left
          · ((intro w _; go_simp); try with_reducible rfl)
          (try simp only [Act.put, List.setIfInBounds_toArray, List.set_cons_zero, List.set_cons_succ])
          refine wpAnyT_two (i := 13) (j := 25) (by kernel_rfl) rfl rfl (fun K hK => ?_) (fun K hK => ?_)
          · rw [if_pos (by rfl)]
            go_simp
            (with_reducible refine (CF1.out _ (HQ.out.bel.trans ((Below.refl _ wr).drew.mono HQ.out.bel.size))).mono ?_)
            rintro e w6 ⟨rfl, hb⟩
            have HB6 : RowKit.Hid (Below wr.heap.size wr w6) := Lib.hid ((Below.refl _ wr).drew.trans (hb.mono (Nat.le_refl _)))
            clear hb
            refine hK.out _ _ (HS0.out _ HB6.out) (fun hHeld => ?_)
            clear hK K
            (try simp only [Act.put, List.setIfInBounds_toArray, List.set_cons_zero, List.set_cons_succ])
            refine wpAnyT_takeW (i := 24) (oi := ⟨some 85, _, _, _, _, _⟩) (v := ?_) rfl (by kernel_rfl) (by kernel_rfl) (by kernel_rfl) (fun _ _ _ h => h) (Or.inl ⟨by rfl, ?_⟩) ?_
            rotate_left
            · ((intro w _; go_simp); try with_reducible rfl)
            (try simp only [Act.put, List.setIfInBounds_toArray, List.set_cons_zero, List.set_cons_succ])
            refine wpAnyT_one (i := 25) (by kernel_rfl) rfl (fun K hK => ?_)
            rw [if_pos (by rfl)]
            go_simp
            obtain ⟨U, hU⟩ : ∃ u, (w6.alloc (.cells #[.slice none 0 0, .slice none 0 0, .int .i64 0, .int .i64 0, .int .i64 0, .int .i64 0, .slice none 0 0, .slice none 0 0] 57)) = u := ⟨_, rfl⟩
            have hbU : Below wr.heap.size wr U := by rw [← hU]; exact HB6.out.alloc HB6.out.size _
            have hcU : ∀ j, U.cell? ⟨w6.heap.size, j, none⟩ = (#[.slice none 0 0, .slice none 0 0, .int .i64 0, .int .i64 0, .int .i64 0, .int .i64 0, .slice none 0 0, .slice none 0 0] : Array Value)[j]? := fun j => by rw [← hU]; exact World.cell?_alloc_mark _ _ _ _ _
            have hpU : w6.heap.size < U.heap.size := by rw [← hU]; simp
            have hbk : U.heap[w6.heap.size]? = some (.cells #[.slice none 0 0, .slice none 0 0, .int .i64 0, .int .i64 0, .int .i64 0, .int .i64 0, .slice none 0 0, .slice none 0 0] 57 (0, 0)) := by rw [← hU]; exact alloc_block _ _ _
            obtain ⟨p, hp⟩ : ∃ p, p = w6.heap.size := ⟨_, rfl⟩
            have HPL2 : RowKit.Hid (wr.heap.size ≤ p) := Lib.hid (by rw [hp]; exact HB6.out.size)
            rw [hU]
            rw [← hp] at hcU hpU hbk ⊢
            have HBU := Lib.hid hbU
            have HCU := Lib.hid hcU
            have HPU := Lib.hid hpU
            have HBK := Lib.hid hbk
            clear hbk hbU hcU hpU hU hp
            refine hK.out _ _ (HS0.out _ HBU.out) (fun hHeld => ?_)
            clear hK K
            (try simp only [Act.put, List.setIfInBounds_toArray, List.set_cons_zero, List.set_cons_succ])
            refine wpAnyT_one (i := 26) (by kernel_rfl) rfl (fun K hK => ?_)
            have HCV : RowKit.Hid (∀ j, U.cell? ⟨p, j, none⟩ = (#[.slice none 0 0, .slice none 0 0, .int .i64 0, .int .i64 0, .int .i64 0, .int .i64 0, .slice none 0 0, .slice none 0 0] : Array Value)[j]?) := Lib.hid (HCU.out)
            have HFZ : RowKit.Hid (U.heap[p]? = some (.cells #[.slice none 0 0, .slice none 0 0, .int .i64 0, .int .i64 0, .int .i64 0, .int .i64 0, .slice none 0 0, .slice none 0 0] 57 (0, 0))) := Lib.hid (HBK.out)
            have hz0 := HCV.out 0
            have hz1 := HCV.out 1
            have hz2 := HCV.out 2
            have hz3 := HCV.out 3
            have hz4 := HCV.out 4
            have hz5 := HCV.out 5
            have hz6 := HCV.out 6
            have hz7 := HCV.out 7
            have hf0 := frozen_of HFZ.out 0
            have hf1 := frozen_of HFZ.out 1
            have hf2 := frozen_of HFZ.out 2
            have hf3 := frozen_of HFZ.out 3
            have hf4 := frozen_of HFZ.out 4
            have hf5 := frozen_of HFZ.out 5
            have hf6 := frozen_of HFZ.out 6
            have hf7 := frozen_of HFZ.out 7
            have HEI := Lib.hid (eight_set U p (.slice pa pn pc) (.slice xa xn xc) (.int .i64 X.fin.K) (.int .i64 X.fin.A) (.int .i64 X.fin.To) (.int .i64 X.fin.Else) (.slice la ln lc) (.slice ma mn mc) _ (HCV.out 1))
            have HBV : RowKit.Hid (Below wr.heap.size wr (((((((((U.setCell ⟨p, 0, none⟩ (.slice pa pn pc)).setCell ⟨p, 1, none⟩ (.slice xa xn xc)).setCell ⟨p, 2, none⟩ (.int .i64 X.fin.K)).setCell ⟨p, 3, none⟩ (.int .i64 X.fin.A)).setCell ⟨p, 4, none⟩ (.int .i64 X.fin.To)).setCell ⟨p, 5, none⟩ (.int .i64 X.fin.Else)).setCell ⟨p, 6, none⟩ (.slice la ln lc)).setCell ⟨p, 7, none⟩ (.slice ma mn mc)))) := Lib.hid (eight_below (.slice pa pn pc) (.slice xa xn xc) (.int .i64 X.fin.K) (.int .i64 X.fin.A) (.int .i64 X.fin.To) (.int .i64 X.fin.Else) (.slice la ln lc) (.slice ma mn mc) HBU.out HPL2.out)
            have HVS : RowKit.Hid ((((((((((U.setCell ⟨p, 0, none⟩ (.slice pa pn pc)).setCell ⟨p, 1, none⟩ (.slice xa xn xc)).setCell ⟨p, 2, none⟩ (.int .i64 X.fin.K)).setCell ⟨p, 3, none⟩ (.int .i64 X.fin.A)).setCell ⟨p, 4, none⟩ (.int .i64 X.fin.To)).setCell ⟨p, 5, none⟩ (.int .i64 X.fin.Else)).setCell ⟨p, 6, none⟩ (.slice la ln lc)).setCell ⟨p, 7, none⟩ (.slice ma mn mc))).heap.size = U.heap.size) := Lib.hid (by simp)
            rw [if_pos (by rfl)]
            go_simp
            obtain ⟨V, hV⟩ : ∃ u, ((((((((U.setCell ⟨p, 0, none⟩ (.slice pa pn pc)).setCell ⟨p, 1, none⟩ (.slice xa xn xc)).setCell ⟨p, 2, none⟩ (.int .i64 X.fin.K)).setCell ⟨p, 3, none⟩ (.int .i64 X.fin.A)).setCell ⟨p, 4, none⟩ (.int .i64 X.fin.To)).setCell ⟨p, 5, none⟩ (.int .i64 X.fin.Else)).setCell ⟨p, 6, none⟩ (.slice la ln lc)).setCell ⟨p, 7, none⟩ (.slice ma mn mc)) = u := ⟨_, rfl⟩
            rw [hV] at HEI HBV HVS ⊢
            clear hV HCV HFZ hz0 hz1 hz2 hz3 hz4 hz5 hz6 hz7 hf0 hf1 hf2 hf3 hf4 hf5 hf6 hf7
            refine hK.out _ _ (HS0.out _ HBV.out) (fun hHeld => ?_)
            clear hK K
            (try simp only [Act.put, List.setIfInBounds_toArray, List.set_cons_zero, List.set_cons_succ])
            refine wpAnyT_takeW (i := 27) (oi := ⟨some 11, _, _, _, _, _⟩) (v := ?_) rfl (by kernel_rfl) (by kernel_rfl) (by kernel_rfl) (fun _ _ _ h => h) (Or.inl ⟨by rfl, ?_⟩) ?_
            rotate_left
            · ((intro w _; go_simp); try with_reducible rfl)
            (try simp only [Act.put, List.setIfInBounds_toArray, List.set_cons_zero, List.set_cons_succ])
            refine wpAnyT_done (by kernel_rfl) ?_
            have HT7 : RowKit.Hid (DtSt W1 (.slice va vn vc) (.slice (some ⟨go, oo, none⟩) on oc) (blockK P f b (typesK P f q) 0) (thruL f) V ∧ V.cell? ⟨p, 1, none⟩ = some (.slice xa xn xc) ∧ p < V.heap.size) := Lib.hid ⟨HQ.out.since HBV.out, HEI.out, (by rw [HVS.out]; exact HPU.out)⟩
            clear hHeld
            go_upto_region 17 with fail
            go_loopw [12] (fun v12 w8 => ∃ k : Nat, k ≤ xn ∧ v12 = .int .i64 (k : Int) ∧ RowKit.Hid (DtSt W1 (.slice va vn vc) (.slice (some ⟨go, oo, none⟩) on oc) (blockK P f b (typesK P f q) k) (thruL f) w8 ∧ w8.cell? ⟨p, 1, none⟩ = some (.slice xa xn xc) ∧ p < w8.heap.size)) (fun iv _ => xn - (intOf iv).toNat)
            case atStart => exact ⟨0, Nat.zero_le _, rfl, HT7⟩
            case round =>
              obtain ⟨k, hk, rfl, HK⟩ := hrel
              have kc1 := HK.out.2.1
              by_cases hkl : k < xn
              · have hklz : (k : Int) < (xn : Int) := by omega
                have hk0 : (0 : Int) ≤ (k : Int) := by omega
                obtain ⟨g9, off9, cs9, hif9, rfl, hl9, hcell9, hq9⟩ := (HXO.out.since OpQ.lasts HK.out.1.bel).elem hkl
                obtain ⟨O, hO⟩ : ∃ O, O = X.ops[k] := ⟨_, rfl⟩
                rw [← hO] at hq9
                obtain ⟨lv, rfl, s1, s2, s3, s4, s5, s6, ⟨ya, yn, yc, rfl, hy, hy0, hy8, hyr⟩⟩ := hq9
                have hd0 := hcell9 0 (by simp)
                have hd1 := hcell9 1 (by simp)
                have hd2 := hcell9 2 (by simp)
                have hd3 := hcell9 3 (by simp)
                have hd4 := hcell9 4 (by simp)
                have hd5 := hcell9 5 (by simp)
                have hd6 := hcell9 6 (by simp)
                have hd7 := hcell9 7 (by simp)
                simp only [Nat.add_zero, List.getElem_cons_zero, List.getElem_cons_succ] at hd0 hd1 hd2 hd3 hd4 hd5 hd6 hd7
                have HBE : RowKit.Hid (blockK P f b (typesK P f q) (k + 1) = (blockK P f b (typesK P f q) k).set (firstN f b + pn + k) (resO P O (blockK P f b (typesK P f q) k)).1) := Lib.hid (by rw [hO]; exact HBKK.out k hif9)
                have hroom := HRM.out k hkl
                obtain ⟨j, hj⟩ : ∃ j, j = fb + pn + k := ⟨_, rfl⟩
                have hjn : j < vn := by rw [hj, HFB.out]; exact hroom
                have hjt : j < (blockK P f b (typesK P f q) k).length := by rw [blockK_len, typesK_len, ← HVN.out]; exact hjn
                obtain ⟨gt, rfl, hgB, hgl, hxx1, hxx2⟩ := HK.out.1.at hjt
                have HGP : RowKit.Hid (W1.heap.size ≤ gt ∧ gt ≠ p ∧ j < vn) := Lib.hid ⟨hgB, by have h1 := (HQ.out.out.lt gt rfl).2; have h2 := HPL2.out; omega, hjn⟩
                have hv40 : vn ≤ 1099511627776 := by rw [HVN.out]; exact HV.out
                have hq2 : fb + pn + k ≤ 1099511627776 := by omega
                have hyn : yn ≤ 17592186044000 := by omega
                have hvn7 : vn ≤ 140737488355328 := by omega
                have hj0 : (0 : Int) ≤ (j : Int) := by omega
                have hjv : (j : Int) < (vn : Int) := by omega
                have HJ : RowKit.Hid (firstN f b + pn + k = j) := Lib.hid (by rw [hj, HFB.out])
                obtain ⟨rt, hrt⟩ : ∃ t, t = (resO P O (blockK P f b (typesK P f q) k)).1 := ⟨_, rfl⟩
                obtain ⟨rb, hrb⟩ : ∃ t, t = (resO P O (blockK P f b (typesK P f q) k)).2 := ⟨_, rfl⟩
                have CKR : RowKit.Hid (Calls Tryd.prog 56 #[.pointer (some ⟨pg, 0, none⟩), .agg #[.int .i64 O.K, .int .i64 O.A, .int .i64 O.B, .int .i64 O.C, .int .i64 O.N, .string O.S, .slice ya yn yc, .bool O.T], .slice (some ⟨gt, 0, none⟩) vn vc] wr fun e w' => e = .returned (.tuple #[.int .i64 rt, .bool rb]) ∧ Below wr.heap.size wr w') := Lib.hid (by
                  rw [hrt, hrb]
                  exact rresult_any pg O.K O.A O.B O.C O.N O.S ya yn yc O.T O.L (some ⟨gt, 0, none⟩) vn vc (blockK P f b (typesK P f q) k) wr (HP.out.since HK.out.1.bel) hy hy0 hyn HK.out.1.out.read hvn7 (HTR.out b (typesK P f q) k (HTK.out q)) s5)
                have hw3 : wrap64 ((fb : Int) + (pn : Int) + (k : Int)) = (j : Int) := by rw [hj]; exact wrap_nat3 hq2
                have hw4 : IntKind.i64.wrap ((fb : Int) + (pn : Int) + (k : Int)) = (j : Int) := by rw [hj]; exact kwrap_three hq2
                have HRT := Lib.hid hrt
                clear hxx1 hxx2 hgB hgl hjn hjt hj hroom hv40 hq2 hyn hvn7 hrt hrb hy hy0 hy8 hyr s1 s2 s3 s4 s5 s6 hcell9 hl9 hO hif9
                go_wp2_with (go_at_call 56; (with_reducible refine CKR.out.mono ?_); rintro e w9 ⟨rfl, hb⟩; have HT9 := Lib.hid (HK.out.1.since hb); obtain ⟨gt2, hge, _, _, h6c, h6f⟩ := HT9.out.at (j := j) (by rw [blockK_len, typesK_len, ← HVN.out]; exact HGP.out.2.2); cases hge; have HX9 : RowKit.Hid (DtSt W1 (.slice (some ⟨gt, 0, none⟩) vn vc) (.slice (some ⟨go, oo, none⟩) on oc) (blockK P f b (typesK P f q) (k + 1)) (thruL f) (w9.setCell ⟨gt, j, none⟩ (.int .i64 rt)) ∧ (w9.setCell ⟨gt, j, none⟩ (.int .i64 rt)).cell? ⟨p, 1, none⟩ = some (.slice (some ⟨g9, off9, none⟩) xn xc) ∧ p < (w9.setCell ⟨gt, j, none⟩ (.int .i64 rt)).heap.size) := Lib.hid ⟨by rw [HBE.out, HJ.out, ← HRT.out]; exact HT9.out.put j _, (World.cell?_setCell_other _ _ _ _ (fun e => HGP.out.2.1 (by cases e; rfl))).trans ((hb.cell (p := ⟨p, 1, none⟩) HK.out.2.2).trans HK.out.2.1), by rw [setCell_size]; exact Nat.lt_of_lt_of_le HK.out.2.2 hb.size⟩; clear hb)
                go_roundw
                case rel => exact ⟨k + 1, hkl, by go_num, HX9⟩
                case measure => simp [intOf]; omega
              · obtain rfl : k = xn := by omega
                have hnn : ¬ (k : Int) < (k : Int) := by omega
                have HX7 : RowKit.Hid (DtSt W1 (.slice va vn vc) (.slice (some ⟨go, oo, none⟩) on oc) (typesK P f (q + 1)) (thruL f) wr) := Lib.hid (by rw [HTQ.out]; exact HK.out.1)
                clear HTQ HBKK HRM
                go_wp2_with fail
                go_roundw
                case rel => exact ⟨q + 1, hql, by go_num, HX7⟩
                case measure => simp [intOf, hwq]; omega
          · rw [if_pos (by rfl)]
            go_simp
            obtain ⟨U, hU⟩ : ∃ u, (wr.alloc (.cells #[.slice none 0 0, .slice none 0 0, .int .i64 0, .int .i64 0, .int .i64 0, .int .i64 0, .slice none 0 0, .slice none 0 0] 57)).drew = u := ⟨_, rfl⟩
            have hbU : Below wr.heap.size wr U := by rw [← hU]; exact ((Below.refl _ wr).alloc (Nat.le_refl _) _).drew
            have hcU : ∀ j, U.cell? ⟨wr.heap.size, j, none⟩ = (#[.slice none 0 0, .slice none 0 0, .int .i64 0, .int .i64 0, .int .i64 0, .int .i64 0, .slice none 0 0, .slice none 0 0] : Array Value)[j]? := fun j => by rw [← hU]; exact World.cell?_alloc_mark _ _ _ _ _
            have hpU : wr.heap.size < U.heap.size := by rw [← hU]; simp
            have hbk : U.heap[wr.heap.size]? = some (.cells #[.slice none 0 0, .slice none 0 0, .int .i64 0, .int .i64 0, .int .i64 0, .int .i64 0, .slice none 0 0, .slice none 0 0] 57 (0, 0)) := by rw [← hU]; exact alloc_block _ _ _
            obtain ⟨p, hp⟩ : ∃ p, p = wr.heap.size := ⟨_, rfl⟩
            have HPL2 : RowKit.Hid (wr.heap.size ≤ p) := Lib.hid (by rw [hp]; exact Nat.le_refl _)
            rw [hU]
            rw [← hp] at hcU hpU hbk ⊢
            have HBU := Lib.hid hbU
            have HCU := Lib.hid hcU
            have HPU := Lib.hid hpU
            have HBK := Lib.hid hbk
            clear hbk hbU hcU hpU hU hp
            refine hK.out _ _ (HS0.out _ HBU.out) (fun hHeld => ?_)
            clear hK K
            (try simp only [Act.put, List.setIfInBounds_toArray, List.set_cons_zero, List.set_cons_succ])
            refine wpAnyT_one (i := 13) (by kernel_rfl) rfl (fun K hK => ?_)
            rw [if_pos (by rfl)]
            go_simp
            (with_reducible refine (CF1.out _ (HQ.out.bel.trans (HBU.out.mono HQ.out.bel.size))).mono ?_)
            rintro e w6 ⟨rfl, hb⟩
            have HB7 : RowKit.Hid (Below U.heap.size U w6) := Lib.hid hb
            have HB6 : RowKit.Hid (Below wr.heap.size wr w6) := Lib.hid (HBU.out.trans (hb.mono HBU.out.size))
            clear hb
            refine hK.out _ _ (HS0.out _ HB6.out) (fun hHeld => ?_)
            clear hK K
            (try simp only [Act.put, List.setIfInBounds_toArray, List.set_cons_zero, List.set_cons_succ])
            refine wpAnyT_takeW (i := 24) (oi := ⟨some 85, _, _, _, _, _⟩) (v := ?_) rfl (by kernel_rfl) (by kernel_rfl) (by kernel_rfl) (fun _ _ _ h => h) (Or.inl ⟨by rfl, ?_⟩) ?_
            rotate_left
            · ((intro w _; go_simp); try with_reducible rfl)
            (try simp only [Act.put, List.setIfInBounds_toArray, List.set_cons_zero, List.set_cons_succ])
            refine wpAnyT_one (i := 26) (by kernel_rfl) rfl (fun K hK => ?_)
            have HCV : RowKit.Hid (∀ j, w6.cell? ⟨p, j, none⟩ = (#[.slice none 0 0, .slice none 0 0, .int .i64 0, .int .i64 0, .int .i64 0, .int .i64 0, .slice none 0 0, .slice none 0 0] : Array Value)[j]?) := Lib.hid (fun j => (HB7.out.cell (p := ⟨p, j, none⟩) HPU.out).trans (HCU.out j))
            have HFZ : RowKit.Hid (w6.heap[p]? = some (.cells #[.slice none 0 0, .slice none 0 0, .int .i64 0, .int .i64 0, .int .i64 0, .int .i64 0, .slice none 0 0, .slice none 0 0] 57 (0, 0))) := Lib.hid ((HB7.out.block p HPU.out).trans HBK.out)
            have hz0 := HCV.out 0
            have hz1 := HCV.out 1
            have hz2 := HCV.out 2
            have hz3 := HCV.out 3
            have hz4 := HCV.out 4
            have hz5 := HCV.out 5
            have hz6 := HCV.out 6
            have hz7 := HCV.out 7
            have hf0 := frozen_of HFZ.out 0
            have hf1 := frozen_of HFZ.out 1
            have hf2 := frozen_of HFZ.out 2
            have hf3 := frozen_of HFZ.out 3
            have hf4 := frozen_of HFZ.out 4
            have hf5 := frozen_of HFZ.out 5
            have hf6 := frozen_of HFZ.out 6
            have hf7 := frozen_of HFZ.out 7
            have HEI := Lib.hid (eight_set w6 p (.slice pa pn pc) (.slice xa xn xc) (.int .i64 X.fin.K) (.int .i64 X.fin.A) (.int .i64 X.fin.To) (.int .i64 X.fin.Else) (.slice la ln lc) (.slice ma mn mc) _ (HCV.out 1))
            have HBV : RowKit.Hid (Below wr.heap.size wr (((((((((w6.setCell ⟨p, 0, none⟩ (.slice pa pn pc)).setCell ⟨p, 1, none⟩ (.slice xa xn xc)).setCell ⟨p, 2, none⟩ (.int .i64 X.fin.K)).setCell ⟨p, 3, none⟩ (.int .i64 X.fin.A)).setCell ⟨p, 4, none⟩ (.int .i64 X.fin.To)).setCell ⟨p, 5, none⟩ (.int .i64 X.fin.Else)).setCell ⟨p, 6, none⟩ (.slice la ln lc)).setCell ⟨p, 7, none⟩ (.slice ma mn mc)))) := Lib.hid (eight_below (.slice pa pn pc) (.slice xa xn xc) (.int .i64 X.fin.K) (.int .i64 X.fin.A) (.int .i64 X.fin.To) (.int .i64 X.fin.Else) (.slice la ln lc) (.slice ma mn mc) HB6.out HPL2.out)
            have HVS : RowKit.Hid ((((((((((w6.setCell ⟨p, 0, none⟩ (.slice pa pn pc)).setCell ⟨p, 1, none⟩ (.slice xa xn xc)).setCell ⟨p, 2, none⟩ (.int .i64 X.fin.K)).setCell ⟨p, 3, none⟩ (.int .i64 X.fin.A)).setCell ⟨p, 4, none⟩ (.int .i64 X.fin.To)).setCell ⟨p, 5, none⟩ (.int .i64 X.fin.Else)).setCell ⟨p, 6, none⟩ (.slice la ln lc)).setCell ⟨p, 7, none⟩ (.slice ma mn mc))).heap.size = w6.heap.size) := Lib.hid (by simp)
            rw [if_pos (by rfl)]
            go_simp
            obtain ⟨V, hV⟩ : ∃ u, ((((((((w6.setCell ⟨p, 0, none⟩ (.slice pa pn pc)).setCell ⟨p, 1, none⟩ (.slice xa xn xc)).setCell ⟨p, 2, none⟩ (.int .i64 X.fin.K)).setCell ⟨p, 3, none⟩ (.int .i64 X.fin.A)).setCell ⟨p, 4, none⟩ (.int .i64 X.fin.To)).setCell ⟨p, 5, none⟩ (.int .i64 X.fin.Else)).setCell ⟨p, 6, none⟩ (.slice la ln lc)).setCell ⟨p, 7, none⟩ (.slice ma mn mc)) = u := ⟨_, rfl⟩
            rw [hV] at HEI HBV HVS ⊢
            clear hV HCV HFZ hz0 hz1 hz2 hz3 hz4 hz5 hz6 hz7 hf0 hf1 hf2 hf3 hf4 hf5 hf6 hf7
            refine hK.out _ _ (HS0.out _ HBV.out) (fun hHeld => ?_)
            clear hK K
            (try simp only [Act.put, List.setIfInBounds_toArray, List.set_cons_zero, List.set_cons_succ])
            refine wpAnyT_takeW (i := 27) (oi := ⟨some 11, _, _, _, _, _⟩) (v := ?_) rfl (by kernel_rfl) (by kernel_rfl) (by kernel_rfl) (fun _ _ _ h => h) (Or.inl ⟨by rfl, ?_⟩) ?_
            rotate_left
            · ((intro w _; go_simp); try with_reducible rfl)
            (try simp only [Act.put, List.setIfInBounds_toArray, List.set_cons_zero, List.set_cons_succ])
            refine wpAnyT_done (by kernel_rfl) ?_
            have HT7 : RowKit.Hid (DtSt W1 (.slice va vn vc) (.slice (some ⟨go, oo, none⟩) on oc) (blockK P f b (typesK P f q) 0) (thruL f) V ∧ V.cell? ⟨p, 1, none⟩ = some (.slice xa xn xc) ∧ p < V.heap.size) := Lib.hid ⟨HQ.out.since HBV.out, HEI.out, (by rw [HVS.out]; exact Nat.lt_of_lt_of_le HPU.out HB7.out.size)⟩
            clear hHeld
            go_upto_region 17 with fail
            go_loopw [12] (fun v12 w8 => ∃ k : Nat, k ≤ xn ∧ v12 = .int .i64 (k : Int) ∧ RowKit.Hid (DtSt W1 (.slice va vn vc) (.slice (some ⟨go, oo, none⟩) on oc) (blockK P f b (typesK P f q) k) (thruL f) w8 ∧ w8.cell? ⟨p, 1, none⟩ = some (.slice xa xn xc) ∧ p < w8.heap.size)) (fun iv _ => xn - (intOf iv).toNat)
            case atStart => exact ⟨0, Nat.zero_le _, rfl, HT7⟩
            case round =>
              obtain ⟨k, hk, rfl, HK⟩ := hrel
              have kc1 := HK.out.2.1
              by_cases hkl : k < xn
              · have hklz : (k : Int) < (xn : Int) := by omega
                have hk0 : (0 : Int) ≤ (k : Int) := by omega
                obtain ⟨g9, off9, cs9, hif9, rfl, hl9, hcell9, hq9⟩ := (HXO.out.since OpQ.lasts HK.out.1.bel).elem hkl
                obtain ⟨O, hO⟩ : ∃ O, O = X.ops[k] := ⟨_, rfl⟩
                rw [← hO] at hq9
                obtain ⟨lv, rfl, s1, s2, s3, s4, s5, s6, ⟨ya, yn, yc, rfl, hy, hy0, hy8, hyr⟩⟩ := hq9
                have hd0 := hcell9 0 (by simp)
                have hd1 := hcell9 1 (by simp)
                have hd2 := hcell9 2 (by simp)
                have hd3 := hcell9 3 (by simp)
                have hd4 := hcell9 4 (by simp)
                have hd5 := hcell9 5 (by simp)
                have hd6 := hcell9 6 (by simp)
                have hd7 := hcell9 7 (by simp)
                simp only [Nat.add_zero, List.getElem_cons_zero, List.getElem_cons_succ] at hd0 hd1 hd2 hd3 hd4 hd5 hd6 hd7
                have HBE : RowKit.Hid (blockK P f b (typesK P f q) (k + 1) = (blockK P f b (typesK P f q) k).set (firstN f b + pn + k) (resO P O (blockK P f b (typesK P f q) k)).1) := Lib.hid (by rw [hO]; exact HBKK.out k hif9)
                have hroom := HRM.out k hkl
                obtain ⟨j, hj⟩ : ∃ j, j = fb + pn + k := ⟨_, rfl⟩
                have hjn : j < vn := by rw [hj, HFB.out]; exact hroom
                have hjt : j < (blockK P f b (typesK P f q) k).length := by rw [blockK_len, typesK_len, ← HVN.out]; exact hjn
                obtain ⟨gt, rfl, hgB, hgl, hxx1, hxx2⟩ := HK.out.1.at hjt
                have HGP : RowKit.Hid (W1.heap.size ≤ gt ∧ gt ≠ p ∧ j < vn) := Lib.hid ⟨hgB, by have h1 := (HQ.out.out.lt gt rfl).2; have h2 := HPL2.out; omega, hjn⟩
                have hv40 : vn ≤ 1099511627776 := by rw [HVN.out]; exact HV.out
                have hq2 : fb + pn + k ≤ 1099511627776 := by omega
                have hyn : yn ≤ 17592186044000 := by omega
                have hvn7 : vn ≤ 140737488355328 := by omega
                have hj0 : (0 : Int) ≤ (j : Int) := by omega
                have hjv : (j : Int) < (vn : Int) := by omega
                have HJ : RowKit.Hid (firstN f b + pn + k = j) := Lib.hid (by rw [hj, HFB.out])
                obtain ⟨rt, hrt⟩ : ∃ t, t = (resO P O (blockK P f b (typesK P f q) k)).1 := ⟨_, rfl⟩
                obtain ⟨rb, hrb⟩ : ∃ t, t = (resO P O (blockK P f b (typesK P f q) k)).2 := ⟨_, rfl⟩
                have CKR : RowKit.Hid (Calls Tryd.prog 56 #[.pointer (some ⟨pg, 0, none⟩), .agg #[.int .i64 O.K, .int .i64 O.A, .int .i64 O.B, .int .i64 O.C, .int .i64 O.N, .string O.S, .slice ya yn yc, .bool O.T], .slice (some ⟨gt, 0, none⟩) vn vc] wr fun e w' => e = .returned (.tuple #[.int .i64 rt, .bool rb]) ∧ Below wr.heap.size wr w') := Lib.hid (by
                  rw [hrt, hrb]
                  exact rresult_any pg O.K O.A O.B O.C O.N O.S ya yn yc O.T O.L (some ⟨gt, 0, none⟩) vn vc (blockK P f b (typesK P f q) k) wr (HP.out.since HK.out.1.bel) hy hy0 hyn HK.out.1.out.read hvn7 (HTR.out b (typesK P f q) k (HTK.out q)) s5)
                have hw3 : wrap64 ((fb : Int) + (pn : Int) + (k : Int)) = (j : Int) := by rw [hj]; exact wrap_nat3 hq2
                have hw4 : IntKind.i64.wrap ((fb : Int) + (pn : Int) + (k : Int)) = (j : Int) := by rw [hj]; exact kwrap_three hq2
                have HRT := Lib.hid hrt
                clear hxx1 hxx2 hgB hgl hjn hjt hj hroom hv40 hq2 hyn hvn7 hrt hrb hy hy0 hy8 hyr s1 s2 s3 s4 s5 s6 hcell9 hl9 hO hif9
                go_wp2_with (go_at_call 56; (with_reducible refine CKR.out.mono ?_); rintro e w9 ⟨rfl, hb⟩; have HT9 := Lib.hid (HK.out.1.since hb); obtain ⟨gt2, hge, _, _, h6c, h6f⟩ := HT9.out.at (j := j) (by rw [blockK_len, typesK_len, ← HVN.out]; exact HGP.out.2.2); cases hge; have HX9 : RowKit.Hid (DtSt W1 (.slice (some ⟨gt, 0, none⟩) vn vc) (.slice (some ⟨go, oo, none⟩) on oc) (blockK P f b (typesK P f q) (k + 1)) (thruL f) (w9.setCell ⟨gt, j, none⟩ (.int .i64 rt)) ∧ (w9.setCell ⟨gt, j, none⟩ (.int .i64 rt)).cell? ⟨p, 1, none⟩ = some (.slice (some ⟨g9, off9, none⟩) xn xc) ∧ p < (w9.setCell ⟨gt, j, none⟩ (.int .i64 rt)).heap.size) := Lib.hid ⟨by rw [HBE.out, HJ.out, ← HRT.out]; exact HT9.out.put j _, (World.cell?_setCell_other _ _ _ _ (fun e => HGP.out.2.1 (by cases e; rfl))).trans ((hb.cell (p := ⟨p, 1, none⟩) HK.out.2.2).trans HK.out.2.1), by rw [setCell_size]; exact Nat.lt_of_lt_of_le HK.out.2.2 hb.size⟩; clear hb)
                go_roundw
                case rel => exact ⟨k + 1, hkl, by go_num, HX9⟩
                case measure => simp [intOf]; omega
              · obtain rfl : k = xn := by omega
                have hnn : ¬ (k : Int) < (k : Int) := by omega
                have HX7 : RowKit.Hid (DtSt W1 (.slice va vn vc) (.slice (some ⟨go, oo, none⟩) on oc) (typesK P f (q + 1)) (thruL f) wr) := Lib.hid (by rw [HTQ.out]; exact HK.out.1)
                clear HTQ HBKK HRM
                go_wp2_with fail
                go_roundw
                case rel => exact ⟨q + 1, hql, by go_num, HX7⟩
                case measure => simp [intOf, hwq]; omega
        · obtain rfl : q = on := by omega
          have hnn : ¬ (q : Int) < (q : Int) := by omega
          have HE : RowKit.Hid (typesK P f q = typesL P f) := Lib.hid (by unfold typesL; rw [← HON.out])
          go_wp2_with fail
          go_ret
          exact ⟨va, vn, vc, rfl, by rw [← HE.out]; exact HQ.out.out.mono (by have := HS1.out; omega), HB1.out.trans (HQ.out.bel.mono HB1.out.size)⟩
end Go.Proofs.YtdchhfdmingnaaaDoor
