/- Layer 13: the document's Needs: whether a block needs a value ahead: walked. -/
import Derived.Test.YtdchhfdmingnaaaDoorVT6

namespace Go.Proofs.YtdchhfdmingnaaaDoor
open Go.RowKit (wrap64 intOf Below)
set_option linter.unusedVariables false
set_option linter.unusedSimpArgs false
set_option maxRecDepth 100000 in
set_option maxHeartbeats 8000000 in
theorem refneeds_any (r : Int) (a : Option Addr) (n c : Nat) (f : FuncD) (b0 : Nat) (v : Int) (w : World) (hq : FuncQ w [.int .i64 r, .slice a n c] f) (hsm : SmU f) (hb : b0 < n) :
    Calls Tryd.prog 28 #[.agg #[.int .i64 r, .slice a n c], .int .i64 (b0 : Int), .int .i64 v] w fun e w' => e = .returned (.bool (needB f v b0)) ∧ Below w.heap.size w w' := by
  have HQ := Lib.hid hq
  have HSM := Lib.hid hsm
  have HRW : RowKit.Hid (RowV BlockQ 8 w (.slice a n c) f.blocks) := Lib.hid (by
    obtain ⟨bv, he, _, hr⟩ := hq
    simp only [List.cons.injEq, and_true] at he
    obtain ⟨_, rfl⟩ := he
    exact hr)
  have HN : RowKit.Hid (n = f.blocks.length) := Lib.hid (by obtain ⟨_, _, _, e, h, _⟩ := HRW.out; cases e; exact h.symm)
  have hnb : n ≤ 100000 := by rw [HN.out]; exact hsm.blocks
  have CM : RowKit.Hid (∀ u (i : Nat), Below w.heap.size w u → i < n → Calls Tryd.prog 47 #[.agg #[.int .i64 r, .slice a n c], .int .i64 (i : Int), .int .i64 v] u fun e w' => e = .returned (.bool (decide (MakesU f i v))) ∧ Below u.heap.size u w') := Lib.hid fun u i hu hi => refmakes_any r a n c f i v u (FuncQ.lasts _ _ _ _ hu HQ.out) HSM.out hi
  have CA : RowKit.Hid (∀ u (i k : Nat), Below w.heap.size w u → i < n → k ≤ lenU f i → Calls Tryd.prog 26 #[.agg #[.int .i64 r, .slice a n c], .int .i64 (i : Int), .int .i64 (k : Int)] u (ListPostU (atU f i k) u)) := Lib.hid fun u i k hu hi hk => refat_any r a n c f i k u (FuncQ.lasts _ _ _ _ hu HQ.out) HSM.out hi hk
  have HAL : RowKit.Hid (∀ i k, i < n → k ≤ lenU f i → (atU f i k).length ≤ 140737488355328) := Lib.hid fun i k hi hk => atU_len HQ.out HSM.out hi hk
  obtain ⟨W0, hW0⟩ : ∃ u, u = (w.alloc (.cells #[.int .i64 r, .slice a n c] 30)).alloc (.cells #[.int .i64 (b0 : Int)] 3) := ⟨_, rfl⟩
  have HS0 : RowKit.Hid (NdSt w r a n c (some ⟨w.heap.size + 1, 0, none⟩) 1 1 [(b0 : Int)] W0 ∧ NMet f v b0 [] [(b0 : Int)]) := Lib.hid ⟨by rw [hW0]; exact nd_enter w r a n c b0, NMet.one (by rw [← HN.out]; exact hb)⟩
  clear hq hsm hb
  go_enter Tryd.func28, Tryd.ntmps28
  go_upto_region 2 with fail
  rw [← hW0]
  clear hW0
  go_wp2_with fail
  go_loopw [7, 8] (fun v7 v8 wr => ∃ (i : Nat) (xa : Option Addr) (xn xc : Nat), i ≤ xn ∧ v7 = .slice xa xn xc ∧ v8 = .int .i64 (i : Int) ∧ RowKit.Hid (∃ Z, NdSt w r a n c xa xn xc Z wr ∧ NMet f v b0 (Z.take i) Z)) (fun _ v8 _ => n - (intOf v8).toNat)
  case atStart => exact ⟨0, _, _, _, Nat.zero_le _, rfl, rfl, Lib.hid ⟨_, HS0.out⟩⟩
  case round =>
    obtain ⟨i, xa, xn, xc, hi, rfl, rfl, HI⟩ := hrel
    clear HS0
    obtain ⟨wp, hwp⟩ : ∃ u, u = wr := ⟨_, rfl⟩
    rw [← hwp] at HI ⊢
    clear hwp
    obtain ⟨Z, hZr, hZm⟩ := HI.out
    have hxl : Z.length = xn := hZr.own.read.1
    have hzn : Z.length ≤ n := by rw [HN.out]; exact hZm.inv.len
    by_cases hlt : i < xn
    · have hil : i < Z.length := by omega
      obtain ⟨h, hh, hhn⟩ : ∃ h : Nat, nth Z i = h ∧ h < n := by
        obtain ⟨h, e, hl⟩ := natU_of (hZm.inv.2 (nth Z i) (by rw [nth_is hil]; exact List.getElem_mem _))
        exact ⟨h, e, by rw [HN.out]; exact hl⟩
      obtain ⟨gz, hxa, hgz, hgzs⟩ := uown_addr hZr.own (by omega)
      subst hxa
      have hcz : wp.cell? ⟨gz, i, none⟩ = some (.int .i64 (h : Int)) := by rw [← hh]; exact uown_cell hZr.own hil
      obtain ⟨g, off, pa, pn, pc, oa, on, oc, la, ln, lc, ma, mn, mc, rfl, hg, hblk, hops, hla, hma⟩ := block_atO HRW.out hhn
      have HON : RowKit.Hid (on = lenU f h) := Lib.hid (by obtain ⟨_, _, _, e, h, _⟩ := hops; cases e; exact h.symm)
      have hob : on ≤ 100000 := by have h1 := HON.out; have h2 := lenU_le (f := f) (i := h) (by have := HN.out; omega); have h3 := fstU_le f (h + 1); have h4 := HSM.out.vals; omega
      have HBLK := Lib.hid hblk
      have hltz : (i : Int) < (xn : Int) := by omega
      have hi0 : (0 : Int) ≤ (i : Int) := by omega
      have hhz : (h : Int) < (n : Int) := by omega
      have hh0 : (0 : Int) ≤ (h : Int) := by omega
      have HZ : RowKit.Hid (NdSt w r (some ⟨g, off, none⟩) n c (some ⟨gz, 0, none⟩) xn xc Z wp ∧ NMet f v b0 (Z.take i) Z) := Lib.hid ⟨hZr, hZm⟩
      have hin1 : i < n := by omega
      have HIL : RowKit.Hid (i < Z.length ∧ nth Z i = h ∧ h < n ∧ Z.length = xn ∧ gz < wp.heap.size ∧ (h : Int) ∈ Z ∧ w.heap.size + 1 ≤ gz) := Lib.hid ⟨hil, hh, hhn, hxl, hgzs, by rw [← hh, nth_is hil]; exact List.getElem_mem _, hgz⟩
      have f0 := HZ.out.1.law.c0
      have f1 := HZ.out.1.law.c1
      clear hblk hops hla hma hg hZr hZm HI hxl hil hh hgzs hzn hgz
      have CM1 := CM.out wp h HZ.out.1.law.bel hhn
      cases hmk : decide (MakesU f h v) with
      | true =>
        have HE : RowKit.Hid (NMet f v b0 (Z.take (i + 1)) Z) := Lib.hid (by
          rw [List.take_succ_eq_append_getElem HIL.out.1]
          refine HZ.out.2.done (.inl ?_)
          rw [← nth_is HIL.out.1, HIL.out.2.1]
          simpa using of_decide_eq_true hmk)
        rw [hmk] at CM1
        have CM2 := Lib.hid CM1
        clear CM1 hmk
        go_wp2_with (go_at_call 47; (with_reducible refine CM2.out.mono ?_); rintro e w1 ⟨rfl, hb⟩; have HZ1 := Lib.hid (HZ.out.1.since hb); clear hb)
        go_roundw
        case rel => exact ⟨i + 1, _, _, _, by omega, rfl, by go_num, Lib.hid ⟨_, HZ1.out, HE.out⟩⟩
        case measure => simp [intOf]; omega
      | false =>
        have HMK : RowKit.Hid (¬ MakesU f h v) := Lib.hid (of_decide_eq_false hmk)
        rw [hmk] at CM1
        have CM2 := Lib.hid CM1
        clear CM1 hmk
        go_upto_region 7 with (go_at_call 47; (with_reducible refine CM2.out.mono ?_); rintro e w1 ⟨rfl, hb⟩; have HZ1 := Lib.hid (HZ.out.1.since hb); clear hb)
        clear f0 f1 hcz CM2
        have HZM : RowKit.Hid (NMet f v b0 (Z.take i) Z) := Lib.hid HZ.out.2
        clear HZ
        go_wp2_with fail
        go_loopw [10] (fun v10 wr => ∃ k : Nat, k ≤ on + 1 ∧ v10 = .int .i64 (k : Int) ∧ RowKit.Hid (NdSt w r (some ⟨g, off, none⟩) n c (some ⟨gz, 0, none⟩) xn xc Z wr ∧ ∀ j, j < k → v ∉ atU f h j)) (fun v10 _ => on + 1 - (intOf v10).toNat)
        case atStart => exact ⟨0, Nat.zero_le _, rfl, Lib.hid ⟨HZ1.out, fun j hj => by omega⟩⟩
        case round =>
          obtain ⟨k, hk, rfl, HK⟩ := hrel
          clear HZ1
          obtain ⟨wq, hwq⟩ : ∃ u, u = wr := ⟨_, rfl⟩
          rw [← hwq] at HK ⊢
          clear hwq
          have f0 := HK.out.1.law.c0
          have f1 := HK.out.1.law.c1
          obtain ⟨b0c, b1, b2, b3, b4, b5, b6, b7⟩ := HBLK.out wq HK.out.1.law.bel
          by_cases hlk : k ≤ on
          · have hlkz : (k : Int) ≤ (on : Int) := by omega
            have HKL : RowKit.Hid (k ≤ lenU f h) := Lib.hid (by rw [← HON.out]; exact hlk)
            have HNM : RowKit.Hid (∀ u ua un uc, NumsAt u ua un (atU f h k) → Calls Tryd.prog 20 #[.slice ua un uc, .int .i64 v] u fun e w' => e = .returned (.bool (decide (v ∈ atU f h k))) ∧ u = w') := Lib.hid fun u ua un uc hnu => chas_any ua un uc (atU f h k) v u hnu (by have h1 := hnu.1; have h2 := HAL.out h k hhn HKL.out; omega)
            clear b0c b2 b3 b4 b5 b6 b7
            cases hin : decide (v ∈ atU f h k) with
            | true =>
              have HR : RowKit.Hid (needB f v b0 = true) := Lib.hid (need_iff.2 (HZM.out.found HIL.out.2.2.2.2.2.1 HMK.out ⟨k, HKL.out, of_decide_eq_true hin⟩))
              rw [hin] at HNM
              clear hin
              go_wp2_with (first
                | (go_at_call 26; (with_reducible refine (CA.out _ h k HK.out.1.law.bel hhn HKL.out).mono ?_); rintro e w5 ⟨ua, un, uc, rfl, ho5, hb5⟩; have HK5 := Lib.hid (HK.out.1.since hb5); have HO5 := Lib.hid ho5; clear ho5 hb5)
                | (go_at_call 20; (with_reducible refine (HNM.out _ _ _ _ HO5.out.read).mono ?_); rintro e u ⟨rfl, rfl⟩; clear f0 f1 b1))
              go_ret
              exact ⟨by rw [HR.out]; rfl, HK5.out.law.bel⟩
            | false =>
              have HNI : RowKit.Hid (v ∉ atU f h k) := Lib.hid (of_decide_eq_false hin)
              rw [hin] at HNM
              clear hin
              go_wp2_with (first
                | (go_at_call 26; (with_reducible refine (CA.out _ h k HK.out.1.law.bel hhn HKL.out).mono ?_); rintro e w5 ⟨ua, un, uc, rfl, ho5, hb5⟩; have HK5 := Lib.hid (HK.out.1.since hb5); have HO5 := Lib.hid ho5; clear ho5 hb5)
                | (go_at_call 20; (with_reducible refine (HNM.out _ _ _ _ HO5.out.read).mono ?_); rintro e u ⟨rfl, rfl⟩; clear f0 f1 b1))
              go_roundw
              case rel => exact ⟨k + 1, by omega, by go_num, Lib.hid ⟨HK5.out, fun j hj => by
                by_cases hjk : j = k
                · rw [hjk]; exact HNI.out
                · exact HK.out.2 j (by omega)⟩⟩
              case measure => simp [intOf]; omega
          · have hkz : ¬ ((k : Int) ≤ (on : Int)) := by omega
            have HNU : RowKit.Hid (¬ InU f v h) := Lib.hid (by
              rintro ⟨j, hj, hv⟩
              exact HK.out.2 j (by have := HON.out; omega) hv)
            have HNXF : RowKit.Hid (nextL (theEnd f h) = nxF f h) := Lib.hid rfl
            have CN : RowKit.Hid (∀ u, Calls Tryd.prog 29 #[.agg #[.slice pa pn pc, .slice oa on oc, .int .i64 (theEnd f h).K, .int .i64 (theEnd f h).A, .int .i64 (theEnd f h).To, .int .i64 (theEnd f h).Else, .slice la ln lc, .slice ma mn mc]] u fun e' w' => ∃ va vn vc, e' = .returned (.slice va vn vc) ∧ OwnsI w' u.heap.size 3 (.slice va vn vc) (nxF f h) ∧ Below u.heap.size u w') := Lib.hid fun u => by rw [← HNXF.out]; exact refnext_any pa pn pc oa on oc (theEnd f h).A la ln lc ma mn mc (theEnd f h) u
            have HNL : RowKit.Hid ((nxF f h).length ≤ 2) := Lib.hid (next_len _)
            generalize (theEnd f h).K = EK at *
            generalize (theEnd f h).A = EA at *
            generalize (theEnd f h).To = ET at *
            generalize (theEnd f h).Else = EE at *
            go_upto_region 13 with (go_at_call 29; (with_reducible refine (CN.out _).mono ?_); rintro e w2 ⟨ya, yn, yc, rfl, ho, hb⟩; have HY := Lib.hid ho; have HB2 := Lib.hid hb; clear ho hb)
            clear f0 f1 b0c b1 b2 b3 b4 b5 b6 b7
            have hyl : (nxF f h).length = yn := HY.out.read.1
            have HYL := Lib.hid hyl
            have hyn2 : yn ≤ 2 := by have := HNL.out; omega
            have HIN0 : RowKit.Hid (NIn w r (some ⟨g, off, none⟩) n c f v b0 Z i (nxF f h) (some ⟨gz, 0, none⟩) xn xc ya yn 0 Z w2) := Lib.hid ⟨HK.out.1.since HB2.out, HZM.out, HY.out.read, fun g' off' e h0 => by
              have hbk : (Value.slice ya yn yc).ownBlock = some g' := by rw [e]; rfl
              obtain ⟨h1, h2⟩ := HY.out.lt g' hbk
              refine ⟨h2, fun e2 => ?_⟩
              have e3 : gz = g' := by simpa [Value.ownBlock] using e2
              have h3 := (HK.out.1.own.lt gz rfl).2
              omega, ⟨[], by rw [List.append_nil]⟩, fun z hz => by simp at hz⟩
            have HNXT : RowKit.Hid (nxF f h = nxF f h) := Lib.hid rfl
            clear CN HY hyl HB2 HK
            go_wp2_with fail
            go_loopw [7, 12] (fun v7 v12 wr => ∃ (k : Nat) (xa' : Option Addr) (xn' xc' : Nat), k ≤ yn ∧ v7 = .slice xa' xn' xc' ∧ v12 = .int .i64 (k : Int) ∧ RowKit.Hid (∃ Zk, NIn w r (some ⟨g, off, none⟩) n c f v b0 Z i (nxF f h) xa' xn' xc' ya yn k Zk wr)) (fun _ v12 _ => yn - (intOf v12).toNat)
            case atStart => exact ⟨0, _, _, _, Nat.zero_le _, rfl, rfl, Lib.hid ⟨_, HIN0.out⟩⟩
            case round =>
              obtain ⟨k, qa, qn, qc, hk, rfl, rfl, HKK⟩ := hrel
              clear HIN0
              obtain ⟨wz, hwz⟩ : ∃ u, u = wr := ⟨_, rfl⟩
              rw [← hwz] at HKK ⊢
              clear hwz
              obtain ⟨Zk, hZK⟩ := HKK.out
              have HZK := Lib.hid hZK
              have hc1 := hZK.st.law.c1
              clear HKK hZK
              by_cases hkl : k < yn
              · have hkli : (k : Int) < (yn : Int) := by omega
                have hk0 : (0 : Int) ≤ (k : Int) := by omega
                have HKL : RowKit.Hid (k < (nxF f h).length) := Lib.hid (by rw [HYL.out]; exact hkl)
                obtain ⟨g2, off2, hya, hg2, hcs⟩ := HZK.out.lst.2 (by omega)
                obtain ⟨z, hz⟩ : ∃ z, z = (nxF f h)[k]'HKL.out := ⟨_, rfl⟩
                have hcz : wz.cell? ⟨g2, off2 + k, none⟩ = some (.int .i64 z) := by rw [hz]; exact hcs k HKL.out
                have HZE := Lib.hid hz
                subst hya
                clear hcs hz hg2
                have hqn : Zk.length = qn := HZK.out.st.own.read.1
                have hqb : qn ≤ 1099511627776 := by have h1 := HZK.out.met.inv.len; rw [← HN.out] at h1; omega
                have CH : RowKit.Hid (∀ d, Calls Tryd.prog 20 #[.slice qa qn qc, .int .i64 z] (wz.drewN d) fun e w' => e = .returned (.bool (inL Zk z)) ∧ ∃ m, w' = (wz.drewN d).drewN m) := Lib.hid fun d => (chas_any qa qn qc Zk z (wz.drewN d) (HZK.out.st.own.read.drewN d) (by omega)).mono (by rintro e w' ⟨rfl, rfl⟩; exact ⟨rfl, 0, rfl⟩)
                have HQL : RowKit.Hid ((Zk.length + 1) * 8 ≤ 140737488355328) := Lib.hid (by rw [hqn]; omega)
                have HQN := Lib.hid hqn
                clear hqn
                by_cases h0 : 0 ≤ z
                · by_cases h1 : z < (n : Int)
                  · have HT : RowKit.Hid (There f.blocks.length z) := Lib.hid ⟨h0, by rw [← HN.out]; exact h1⟩
                    cases hin : inL Zk z with
                    | true =>
                      have HSK : RowKit.Hid (∀ d, NIn w r (some ⟨g, off, none⟩) n c f v b0 Z i (nxF f h) qa qn qc (some ⟨g2, off2, none⟩) yn (k + 1) Zk (wz.drewN d)) := Lib.hid fun d => (HZK.out.skip HKL.out fun _ => by rw [← HZE.out]; exact of_decide_eq_true hin).drewN d
                      rw [hin] at CH
                      clear hin
                      go_upto_region 16 with fail
                      go_quiet (((go_at_call 20; first | exact quietU_more (CH.out _) | exact Calls.quiet_of (CH.out _))))
                      go_wp2_with fail
                      go_roundw
                      case rel => exact ⟨k + 1, _, _, _, by omega, rfl, by go_num, Lib.hid ⟨_, HSK.out _⟩⟩
                      case measure => simp [intOf]; omega
                    | false =>
                      have HNI : RowKit.Hid (z ∉ Zk) := Lib.hid (of_decide_eq_false hin)
                      rw [hin] at CH
                      clear hin
                      go_upto_region 16 with fail
                      go_quiet (((go_at_call 20; first | exact quietU_more (CH.out _) | exact Calls.quiet_of (CH.out _))))
                      go_wp2_with ((with_reducible refine wpList_append_numU _ rfl _ _ 34 rfl 3 Tryd.underlying34 info_int (w.heap.size + 1) (.slice qa qn qc) Zk ?_ ?_ ?_ _ 1 wz.heap.size z ?_ ?_ ?_ ?_ ?_); (next => rfl); (next => exact (HZK.out.drewN _).st.own); (next => exact (HZK.out.drewN _).st.siz); (next => rfl); (next => rfl); (next => rfl); (next => exact HQL.out); intro va vn vc w3 ho3 hg3 hwh3; have HAD : RowKit.Hid (NIn w r (some ⟨g, off, none⟩) n c f v b0 Z i (nxF f h) va vn vc (some ⟨g2, off2, none⟩) yn (k + 1) (Zk ++ [z]) w3) := Lib.hid (by have e := HZE.out; rw [e] at ho3 ⊢; exact (HZK.out.drewN _).add HKL.out HIL.out.2.2.2.2.2.1 rfl HMK.out (by rw [← e]; exact HT.out) (by rw [← e]; exact HNI.out) ho3 hg3 hwh3); clear ho3 hg3 hwh3)
                      go_roundw
                      case rel => exact ⟨k + 1, _, _, _, by omega, rfl, by go_num, Lib.hid ⟨_, HAD.out⟩⟩
                      case measure => simp [intOf]; omega
                  · have HSK : RowKit.Hid (∀ d, NIn w r (some ⟨g, off, none⟩) n c f v b0 Z i (nxF f h) qa qn qc (some ⟨g2, off2, none⟩) yn (k + 1) Zk (wz.drewN d)) := Lib.hid fun d => (HZK.out.skip HKL.out fun h2 => absurd h2.2 (by rw [← HZE.out, ← HN.out]; exact h1)).drewN d
                    go_upto_region 16 with fail
                    go_quiet (fail)
                    go_wp2_with fail
                    go_roundw
                    case rel => exact ⟨k + 1, _, _, _, by omega, rfl, by go_num, Lib.hid ⟨_, HSK.out _⟩⟩
                    case measure => simp [intOf]; omega
                · have HSK : RowKit.Hid (∀ d, NIn w r (some ⟨g, off, none⟩) n c f v b0 Z i (nxF f h) qa qn qc (some ⟨g2, off2, none⟩) yn (k + 1) Zk (wz.drewN d)) := Lib.hid fun d => (HZK.out.skip HKL.out fun h2 => absurd h2.1 (by rw [← HZE.out]; exact h0)).drewN d
                  go_upto_region 16 with fail
                  go_quiet (fail)
                  go_wp2_with fail
                  go_roundw
                  case rel => exact ⟨k + 1, _, _, _, by omega, rfl, by go_num, Lib.hid ⟨_, HSK.out _⟩⟩
                  case measure => simp [intOf]; omega
              · have hky : k = yn := by omega
                have hkz2 : ¬ ((k : Int) < (yn : Int)) := by omega
                have HFI : RowKit.Hid (i + 1 ≤ Zk.length ∧ NMet f v b0 (Zk.take (i + 1)) Zk) := Lib.hid (by
                  have := HZK.out
                  rw [hky, ← HYL.out] at this
                  exact this.fin HIL.out.1 HIL.out.2.1 rfl HNU.out)
                have HQN : RowKit.Hid (Zk.length = qn) := Lib.hid HZK.out.st.own.read.1
                clear hky
                go_wp2_with fail
                go_roundw
                case rel => exact ⟨i + 1, _, _, _, by rw [← HQN.out]; exact HFI.out.1, rfl, by go_num, Lib.hid ⟨_, HZK.out.st, HFI.out.2⟩⟩
                case measure => simp [intOf]; omega
    · obtain rfl : i = xn := by omega
      have hge : ¬ ((i : Int) < (i : Int)) := by omega
      have HR : RowKit.Hid (needB f v b0 = false) := Lib.hid (by
        rw [← hxl, List.take_length] at hZm
        have h := hZm.none
        cases hb : needB f v b0 with
        | false => rfl
        | true => exact absurd (need_iff.1 hb) h)
      have HB : RowKit.Hid (Below w.heap.size w wp) := Lib.hid hZr.law.bel
      clear hZr hZm hxl hzn HI
      go_wp2_with fail
      go_ret
      exact ⟨by rw [HR.out]; rfl, HB.out⟩
end Go.Proofs.YtdchhfdmingnaaaDoor
