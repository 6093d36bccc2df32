/- Layer 14: the law FlowDistances. -/
import Derived.Test.YtgncpiamokeohaaFlowDr
namespace Go.Proofs.Ytgncpiamokeohaa
open Go.RowKit (wrap64 intOf Below)
set_option linter.unusedVariables false
set_option linter.unusedSimpArgs false
theorem IntsAt.nilc {W : World} {a : Option Addr} {n c : Nat} {zs : List Int} (h : IntsAt W (.slice a n c) zs) : a = none → c = 0 := by
  intro hn
  rcases h with ⟨e, _⟩ | ⟨b, c', e, _⟩
  · cases e; rfl
  · subst hn; cases e
set_option maxRecDepth 100000 in
set_option maxHeartbeats 2000000 in
theorem ints14_any (a : Option Addr) (n c : Nat) (L : List Int) (b : Option Addr) (m d : Nat) (w : World) (hL : NumsAt w a n L) (hM : NumsAt w b m L) (hn : n ≤ 1099511627776) :
    Calls Try.prog 17 #[.slice a n c, .slice b m d] w fun e w' => e = .returned (.bool true) ∧ Below w.heap.size w w' := by
  have hm : m = n := by rw [← hM.1, hL.1]
  subst hm
  have hl := hL.1
  have HL := Lib.hid hL
  have HM := Lib.hid hM
  clear hL hM
  go_enter Try.func17, Try.ntmps17
  go_upto_region 4 with fail
  go_loopw [5] (fun v5 wr => ∃ i : Nat, i ≤ m ∧ v5 = .int .i64 (i : Int) ∧ RowKit.Hid (Below w.heap.size w wr)) (fun v5 _ => m - (intOf v5).toNat)
  case atStart => exact ⟨0, Nat.zero_le _, rfl, Lib.hid (Below.refl _ _)⟩
  case round =>
    obtain ⟨i, hi, rfl, HB⟩ := hrel
    by_cases hlt : i < m
    · have hltz : (i : Int) < (m : Int) := by omega
      have hi0 : (0 : Int) ≤ (i : Int) := by omega
      obtain ⟨g, off, rfl, hg, hiL, c1⟩ := nums_cell (HL.out.since HB.out) hlt
      obtain ⟨g2, off2, rfl, hg2, hiM, c2⟩ := nums_cell (HM.out.since HB.out) hlt
      generalize L[i] = x at *
      have hxx : (x != x) = false := by simp
      go_wp2_with fail
      go_quiet (fail)
      go_wp2_with fail
      go_roundw
      case rel => exact ⟨i + 1, by omega, by go_num, Lib.hid (below_drewF _ HB.out)⟩
      case measure => simp [intOf]; omega
    · obtain rfl : m = i := by omega
      have hge : ¬ ((m : Int) < (m : Int)) := by omega
      go_wp2_with fail
      go_ret
      exact ⟨rfl, HB.out⟩
theorem few_in {E : List (Int × Int)} : (E.take 60).length ≤ 60 := by rw [List.length_take]; omega
set_option maxRecDepth 100000 in
set_option maxHeartbeats 4000000 in
theorem flowdistances_walk (n : Int) (ea : Option Addr) (en ec : Nat) (E : List (Int × Int)) (fr : Int) (w : World) (hE : PairsAt w ea en E) (hnil : ea = none → ec = 0) (hec : en ≤ ec) (hcm : ec ≤ 9223372036854775807) :
    Calls Try.prog 4 #[.int .i64 n, .slice ea en ec, .int .i64 fr] w fun e w' => e = .returned (.bool true) ∧ Below w.heap.size w w' := by
  have CF := Lib.hid (few_any ea en ec E w hE hec hcm)
  have HNI := Lib.hid hnil
  have HK := Lib.hid (few_in (E := E))
  clear hE hnil hec hcm
  obtain ⟨F, hF⟩ : ∃ F, F = E.take 60 := ⟨_, rfl⟩
  rw [← hF] at CF HK
  clear hF
  obtain ⟨er, her⟩ : ∃ er, er = fitF n F [fr] := ⟨_, rfl⟩
  have hee : (er == er) = true := by simp
  have HER := Lib.hid her
  clear her
  go_enter Try.func4, Try.ntmps4
  go_wp2_with (first
    | (go_at_call 7; refine CF.out.mono ?_; rintro e w' ⟨k, rfl, hk, hE, hww⟩; rw [hww]; rw [hww] at hE; have HE := Lib.hid hE; have HKL : RowKit.Hid (k ≤ 60) := Lib.hid (by rw [hk]; exact HK.out); clear hww w' hE hk)
    | (go_at_call 9; refine (own_any ea k ec F _ HE.out HNI.out (by have := HKL.out; omega)).mono ?_; rintro e w2 ⟨wa, wn, wc, rfl, h2, h3⟩; have H2 := Lib.hid h2; have H3 := Lib.hid h3; clear h2 h3)
    | (go_at_call 15; refine (distances_any n fr wa wn wc F _ H2.out.read (by have := H2.out.read.1; have := HK.out; omega)).mono ?_; rintro e w4 ⟨pa, pk, pc, rfl, h4, h5⟩; rw [← HER.out]; have H4 := Lib.hid h4; have H5 := Lib.hid h5; clear h4 h5)
    | (go_at_call 16; refine (dist14_any n ea k ec F (some ⟨w4.heap.size, 0, none⟩) 1 1 [fr] _ (HE.out.since (H3.out.trans ((H5.out.trans (((Below.refl _ w4).alloc (Nat.le_refl _) _).mono H5.out.size)).mono H3.out.size))) (nums1 w4 _) (by have := HKL.out; omega) (by omega)).mono ?_; rintro e w5 ⟨qa, qk, qc, rfl, h6, h7⟩; rw [← HER.out]; have H6 := Lib.hid h6; have H7 := Lib.hid (((Below.refl _ w4).alloc (Nat.le_refl _) _).trans (h7.mono (by simp))); clear h6 h7)
    | (go_at_call 17; refine (ints14_any pa pk pc _ qa qk qc w5 (H4.out.since H7.out) H6.out (by have := H4.out.1; have := distL_len n F [fr]; omega)).mono ?_; rintro e w6 ⟨rfl, h8⟩; have H8 := Lib.hid h8; clear h8)
    | (go_at_call 14; refine (lives14_any _).mono ?_; rintro e w7 ⟨rfl, h9⟩; have H9 := Lib.hid h9; clear h9))
  go_ret
  have b4 : Below w.heap.size w w4 := H3.out.trans (H5.out.mono H3.out.size)
  have b5 : Below w.heap.size w w5 := b4.trans (H7.out.mono b4.size)
  have b6 : Below w.heap.size w w6 := b5.trans (H8.out.mono b5.size)
  exact ⟨rfl, b6.trans (H9.out.mono b6.size)⟩
end Go.Proofs.Ytgncpiamokeohaa
