/- Layer 10: the law HeapFrames, walked. -/
import Derived.Test.YtnnccahpgailiaaQHeapX

namespace Go.Proofs.Ytnnccahpgailiaa
open Go.RowKit (wrap64 intOf Below)
set_option linter.unusedVariables false
set_option linter.unusedSimpArgs false

def Zl (i : Nat) : List Int := (List.range i).map (fun (q : Nat) => (q : Int) + 1)
theorem Zl_len (i : Nat) : (Zl i).length = i := by simp [Zl]
theorem Zl_more (i : Nat) : Zl i ++ [(i : Int) + 1] = Zl (i + 1) := by simp [Zl, List.range_succ]
set_option maxRecDepth 100000 in
set_option maxHeartbeats 4000000 in
theorem heapframes_walk (deep up : Int) (again : Bool) (hd : 0 ≤ deep ∧ deep ≤ 255) (hu : 0 ≤ up ∧ up ≤ 255) (w : World) :
    Calls Try.prog 7 #[.int .u8 deep, .int .u8 up, .bool again] w fun e w' => e = .returned (.bool true) ∧ Below w.heap.size w w' := by
  obtain ⟨B, hB⟩ : ∃ B, B = w.heap.size := ⟨_, rfl⟩
  have C0 := Lib.hid (new_any 0 w)
  rw [← hB] at C0 ⊢
  go_enter Try.func7, Try.ntmps7
  go_upto_region 6 with (first
    | (go_at_call 17; refine C0.out.mono ?_; rintro e u0 ⟨G0, rfl, hm, hb⟩; obtain ⟨p, hp⟩ : ∃ p, G0.p = p := ⟨_, rfl⟩; have HM0 : RowKit.Hid (MemAt u0 B 0 (newM 0) G0 ∧ G0.p = p) := Lib.hid ⟨hm, hp⟩; have HB0 := Lib.hid hb; rw [hp]; clear hm hb hp C0))
  obtain ⟨n, hn, hn1, hn2⟩ : ∃ n : Nat, 1 + deep % 20 = (n : Int) ∧ 1 ≤ n ∧ n ≤ 20 := ⟨(1 + deep % 20).toNat, by omega, by omega, by omega⟩
  rw [hn]
  clear hn
  have HS0 : RowKit.Hid (FrSt w B 0 p (phiM 0) (Zl 0) (some ⟨u0.heap.size, 0, none⟩) 0 0 G0 (u0.alloc (.cells #[] 3))) := Lib.hid (by
    have hbl : Below u0.heap.size u0 (u0.alloc (.cells #[] 3)) := (Below.refl _ u0).alloc (Nat.le_refl _) _
    have hsz : B ≤ u0.heap.size := by have := HM0.out.1.plt; omega
    refine ⟨HM0.out.1.since hbl, HM0.out.2, fmAt_nil rfl, (OwnsI.empty u0 3).mono hsz, fun b hb hd => ?_, HB0.out.trans (hbl.mono hsz)⟩
    obtain ⟨r, hr⟩ := hd
    have h1 := (HM0.out.1.range b r hr).2
    have h2 : u0.heap.size = b := Option.some.inj hb
    omega)
  have HBW := Lib.hid hB
  clear HM0 HB0 hB hd
  go_wp2_with fail
  go_loopw [9, 10] (fun v9 v10 wr => ∃ (i : Nat) (ya : Option Addr) (yn yc : Nat) (G : GM), i ≤ n ∧ v9 = .slice ya yn yc ∧ v10 = .int .i64 (i : Int) ∧ RowKit.Hid (FrSt w B (2 * i) p (phiM i) (Zl i) ya yn yc G wr)) (fun _ v10 _ => n - (intOf v10).toNat)
  case atStart => exact ⟨0, _, _, _, G0, Nat.zero_le _, rfl, rfl, HS0⟩
  case round =>
    obtain ⟨i, ya, yn, yc, G, hi, rfl, rfl, HI⟩ := hrel
    clear HS0
    obtain ⟨wo, hwo⟩ : ∃ u, u = wr := ⟨_, rfl⟩
    rw [← hwo] at HI ⊢
    clear hwo
    have HW : RowKit.Hid (wrap64 ((i : Int) + 1) = (i : Int) + 1) := Lib.hid (by unfold wrap64; omega)
    by_cases hlt : i < n
    · have CE := Lib.hid (HI.out.enter (by omega))
      have CS : RowKit.Hid (∀ (u : World) (G : GM), FrSt w B (2 * i + 1) p (enterM (phiM i)).1 (Zl i) ya yn yc G u → Calls Try.prog 25 #[.pointer (some ⟨p, 0, none⟩), .int .i64 1, .bool true] u fun e w' => e = .returned (.tuple #[.int .i64 ((i : Int) + 1), .int .i64 0]) ∧ ∃ G', FrSt w B (2 * i + 1 + 1) p (phiM (i + 1)) (Zl i) ya yn yc G' w') := Lib.hid fun u G h => by
        have hr := h.slice (by omega) 1 true
        rw [phi_step] at hr
        exact hr
      have hin : (i : Int) < (n : Int) := by omega
      have HLZ : RowKit.Hid (((Zl i).length + 1) * 8 ≤ 140737488355328) := Lib.hid (by rw [Zl_len]; omega)
      go_wp2_with (first
        | (go_at_call 24; (with_reducible refine CE.out.mono ?_); rintro e u1 ⟨rfl, G1, h1⟩; have H1 := Lib.hid h1; clear h1)
        | (go_at_call 25; (with_reducible refine (CS.out u1 G1 H1.out).mono ?_); rintro e u2 ⟨rfl, G2, h2⟩; have H2 := Lib.hid h2; have hBo : B ≤ u2.heap.size := (by have := h2.mem.plt; omega); clear h2)
        | ((with_reducible refine wpList_append_numA _ rfl _ _ 29 rfl 3 Try.underlying29 info_int B (.slice ya yn yc) (Zl i) ?_ ?_ ?_ _ 1 u2.heap.size ((i : Int) + 1) ?_ ?_ ?_ ?_ ?_); (next => rfl); (next => exact H2.out.own); (next => exact hBo); (next => rfl); (next => rfl); (next => rfl); (next => exact HLZ.out); intro za zn zc w1 ho1 hg1 hw1; have HA1 := Lib.hid (H2.out.app hg1 ho1 hw1); clear ho1 hg1 hw1))
      go_roundw
      case rel => exact ⟨i + 1, za, zn, zc, G2, hlt, rfl, by go_num, Lib.hid (by have h5 := HA1.out; rw [Zl_more] at h5; rw [show 2 * (i + 1) = 2 * i + 1 + 1 by omega]; exact h5)⟩
      case measure => simp [intOf, HW.out]; omega
    · obtain rfl : i = n := by omega
      go_upto_region 15 with fail
      obtain ⟨k, hk, hki⟩ : ∃ k : Nat, up % ((i : Int) + 1) = (k : Int) ∧ k ≤ i := ⟨(up % ((i : Int) + 1)).toNat, by have := Int.emod_nonneg up (show ((i : Int) + 1) ≠ 0 by omega); omega, by have := Int.emod_lt_of_pos up (show (0 : Int) < (i : Int) + 1 by omega); omega⟩
      rw [hk]
      clear hk hu hlt
      have HP0 : RowKit.Hid (FrSt w B (2 * i) p (psiM i (i - 0)) (Zl i) ya yn yc G wo) := Lib.hid (by rw [Nat.sub_zero, psi_all]; exact HI.out)
      have HWK : RowKit.Hid (wrap64 ((i : Int) - (k : Int)) = (i : Int) - (k : Int)) := Lib.hid (by unfold wrap64; omega)
      clear HI
      go_wp2_with fail
      go_loopw [14] (fun v14 wr => ∃ (j : Nat) (G : GM), j ≤ k ∧ v14 = .int .i64 (j : Int) ∧ RowKit.Hid (FrSt w B (2 * i) p (psiM i (i - j)) (Zl i) ya yn yc G wr)) (fun v14 _ => k - (intOf v14).toNat)
      case atStart => exact ⟨0, G, Nat.zero_le _, rfl, HP0⟩
      case round =>
        obtain ⟨j, G, hj, rfl, HJ⟩ := hrel
        clear HP0
        obtain ⟨wj, hwj⟩ : ∃ u, u = wr := ⟨_, rfl⟩
        rw [← hwj] at HJ ⊢
        clear hwj
        have HWJ : RowKit.Hid (wrap64 ((j : Int) + 1) = (j : Int) + 1) := Lib.hid (by unfold wrap64; omega)
        by_cases hjk : j < k
        · have hlv := HJ.out.leave (by omega)
          rw [show i - j = (i - (j + 1)) + 1 by omega, psi_leave (by omega)] at hlv
          have CL := Lib.hid hlv
          have hji : (j : Int) < (k : Int) := by omega
          clear hlv
          go_wp2_with (go_at_call 26; (with_reducible refine CL.out.mono ?_); rintro e u2 ⟨rfl, G2, h2⟩; have H2 := Lib.hid h2; clear h2)
          go_roundw
          case rel => exact ⟨j + 1, G2, hjk, by go_num, H2⟩
          case measure => simp [intOf, HWJ.out]; omega
        · obtain rfl : j = k := by omega
          have HC0 : RowKit.Hid (FrSt w B (2 * i) p (chiM i (i - j) 0) (Zl i) ya yn yc G wj) := Lib.hid (by rw [chi_zero]; exact HJ.out)
          clear HJ
          cases again with
          | false =>
            go_wp2_with fail
            go_loopw [16] (fun v16 wr => ∃ q : Nat, q ≤ i ∧ v16 = .int .i64 (q : Int) ∧ RowKit.Hid (FrSt w B (2 * i) p (chiM i (i - j) 0) (Zl i) ya yn yc G wr)) (fun v16 _ => i - (intOf v16).toNat)
            case atStart => exact ⟨0, Nat.zero_le _, rfl, HC0⟩
            case round =>
              obtain ⟨q, hq, rfl, HQ⟩ := hrel
              clear HC0
              obtain ⟨wq, hwq⟩ : ∃ u, u = wr := ⟨_, rfl⟩
              rw [← hwq] at HQ ⊢
              clear hwq
              have HWQ : RowKit.Hid (wrap64 ((q : Int) + 1) = (q : Int) + 1) := Lib.hid (by unfold wrap64; omega)
              by_cases hqi : q < i
              · have hqZ : q < (Zl i).length := by rw [Zl_len]; exact hqi
                obtain ⟨gy, offy, hye, hgy, hcy⟩ := (OwnsI.read HQ.out.own).2 (by rw [← (OwnsI.read HQ.out.own).1]; omega)
                have hcj : wq.cell? ⟨gy, offy + q, none⟩ = some (.int .i64 ((q : Int) + 1)) := by rw [hcy q hqZ]; simp [Zl]; rfl
                have hyn : yn = i := by rw [← (OwnsI.read HQ.out.own).1, Zl_len]
                have hg := HQ.out.get (by omega) ((q : Int) + 1) 0 (by omega)
                rw [chi_get (by omega) hqi] at hg
                obtain ⟨y1, y2, y3, hy⟩ : ∃ y1 y2 y3, (getM (chiM i (i - j) 0) ((q : Int) + 1) 0).1 = (y1, y2, y3) := ⟨_, _, _, rfl⟩
                rw [hy] at hg
                unfold vvV at hg
                have hqi' : (q : Int) < (i : Int) := by omega
                have hq0 : (0 : Int) ≤ (q : Int) := by omega
                clear hcy hgy hqZ hy
                subst hye hyn
                by_cases hs : yn - j ≤ q
                · rw [if_pos hs] at hg
                  have CG := Lib.hid hg
                  have hsi : (yn : Int) - (j : Int) ≤ (q : Int) := by omega
                  clear hg
                  go_wp2_with (go_at_call 27; (with_reducible refine CG.out.mono ?_); rintro e u2 ⟨rfl, h2⟩; have H2 := Lib.hid h2; clear h2)
                  go_roundw
                  case rel => exact ⟨q + 1, hqi, by go_num, Lib.hid (H2.out.since ((Below.refl _ u2).alloc (Nat.le_refl _) _))⟩
                  case measure => simp [intOf, HWQ.out]; omega
                · rw [if_neg hs] at hg
                  have CG := Lib.hid hg
                  have hsi : ¬ ((yn : Int) - (j : Int) ≤ (q : Int)) := by omega
                  clear hg
                  go_wp2_with (go_at_call 27; (with_reducible refine CG.out.mono ?_); rintro e u2 ⟨rfl, h2⟩; have H2 := Lib.hid h2; clear h2)
                  go_roundw
                  case rel => exact ⟨q + 1, hqi, by go_num, Lib.hid (H2.out.since ((Below.refl _ u2).alloc (Nat.le_refl _) _))⟩
                  case measure => simp [intOf, HWQ.out]; omega
              · obtain rfl : q = i := by omega
                have CV := Lib.hid (lives10_any wq)
                go_wp2_with (go_at_call 21; refine CV.out.mono ?_; rintro e u3 ⟨rfl, hb⟩; have HB3 := Lib.hid hb; clear hb)
                go_ret
                exact ⟨rfl, HQ.out.bel.trans (HB3.out.mono (by have := HQ.out.mem.plt; omega))⟩
          | true =>
            go_wp2_with fail
            go_loopw [15] (fun v15 wr => ∃ (m : Nat) (GE : GM), m ≤ j ∧ v15 = .int .i64 (m : Int) ∧ RowKit.Hid (FrSt w B (2 * i + m) p (chiM i (i - j) m) (Zl i) ya yn yc GE wr)) (fun v15 _ => j - (intOf v15).toNat)
            case atStart => exact ⟨0, G, Nat.zero_le _, rfl, HC0⟩
            case round =>
              obtain ⟨m, GE, hm, rfl, HE⟩ := hrel
              clear HC0
              obtain ⟨we, hwe⟩ : ∃ u, u = wr := ⟨_, rfl⟩
              rw [← hwe] at HE ⊢
              clear hwe
              have HWM : RowKit.Hid (wrap64 ((m : Int) + 1) = (m : Int) + 1) := Lib.hid (by unfold wrap64; omega)
              by_cases hmj : m < j
              · have hen := HE.out.enter (by omega)
                rw [chi_enter] at hen
                have CE := Lib.hid hen
                have hmi : (m : Int) < (j : Int) := by omega
                clear hen
                go_wp2_with (go_at_call 24; (with_reducible refine CE.out.mono ?_); rintro e u2 ⟨rfl, G2, h2⟩; have H2 := Lib.hid h2; clear h2)
                go_roundw
                case rel => exact ⟨m + 1, G2, hmj, by go_num, H2⟩
                case measure => simp [intOf, HWM.out]; omega
              · obtain rfl : m = j := by omega
                have HC1 := HE
                clear HE
                go_wp2_with fail
                go_loopw [16] (fun v16 wr => ∃ q : Nat, q ≤ i ∧ v16 = .int .i64 (q : Int) ∧ RowKit.Hid (FrSt w B (2 * i + m) p (chiM i (i - m) m) (Zl i) ya yn yc GE wr)) (fun v16 _ => i - (intOf v16).toNat)
                case atStart => exact ⟨0, Nat.zero_le _, rfl, HC1⟩
                case round =>
                  obtain ⟨q, hq, rfl, HQ⟩ := hrel
                  clear HC1
                  obtain ⟨wq, hwq⟩ : ∃ u, u = wr := ⟨_, rfl⟩
                  rw [← hwq] at HQ ⊢
                  clear hwq
                  have HWQ : RowKit.Hid (wrap64 ((q : Int) + 1) = (q : Int) + 1) := Lib.hid (by unfold wrap64; omega)
                  by_cases hqi : q < i
                  · have hqZ : q < (Zl i).length := by rw [Zl_len]; exact hqi
                    obtain ⟨gy, offy, hye, hgy, hcy⟩ := (OwnsI.read HQ.out.own).2 (by rw [← (OwnsI.read HQ.out.own).1]; omega)
                    have hcj : wq.cell? ⟨gy, offy + q, none⟩ = some (.int .i64 ((q : Int) + 1)) := by rw [hcy q hqZ]; simp [Zl]; rfl
                    have hyn : yn = i := by rw [← (OwnsI.read HQ.out.own).1, Zl_len]
                    have hg := HQ.out.get (by omega) ((q : Int) + 1) 0 (by omega)
                    rw [chi_get (by omega) hqi] at hg
                    obtain ⟨y1, y2, y3, hy⟩ : ∃ y1 y2 y3, (getM (chiM i (i - m) m) ((q : Int) + 1) 0).1 = (y1, y2, y3) := ⟨_, _, _, rfl⟩
                    rw [hy] at hg
                    unfold vvV at hg
                    have hqi' : (q : Int) < (i : Int) := by omega
                    have hq0 : (0 : Int) ≤ (q : Int) := by omega
                    clear hcy hgy hqZ hy
                    subst hye hyn
                    by_cases hs : yn - m ≤ q
                    · rw [if_pos hs] at hg
                      have CG := Lib.hid hg
                      have hsi : (yn : Int) - (m : Int) ≤ (q : Int) := by omega
                      clear hg
                      go_wp2_with (go_at_call 27; (with_reducible refine CG.out.mono ?_); rintro e u2 ⟨rfl, h2⟩; have H2 := Lib.hid h2; clear h2)
                      go_roundw
                      case rel => exact ⟨q + 1, hqi, by go_num, Lib.hid (H2.out.since ((Below.refl _ u2).alloc (Nat.le_refl _) _))⟩
                      case measure => simp [intOf, HWQ.out]; omega
                    · rw [if_neg hs] at hg
                      have CG := Lib.hid hg
                      have hsi : ¬ ((yn : Int) - (m : Int) ≤ (q : Int)) := by omega
                      clear hg
                      go_wp2_with (go_at_call 27; (with_reducible refine CG.out.mono ?_); rintro e u2 ⟨rfl, h2⟩; have H2 := Lib.hid h2; clear h2)
                      go_roundw
                      case rel => exact ⟨q + 1, hqi, by go_num, Lib.hid (H2.out.since ((Below.refl _ u2).alloc (Nat.le_refl _) _))⟩
                      case measure => simp [intOf, HWQ.out]; omega
                  · obtain rfl : q = i := by omega
                    have CV := Lib.hid (lives10_any wq)
                    go_wp2_with (go_at_call 21; refine CV.out.mono ?_; rintro e u3 ⟨rfl, hb⟩; have HB3 := Lib.hid hb; clear hb)
                    go_ret
                    exact ⟨rfl, HQ.out.bel.trans (HB3.out.mono (by have := HQ.out.mem.plt; omega))⟩
end Go.Proofs.Ytnnccahpgailiaa
