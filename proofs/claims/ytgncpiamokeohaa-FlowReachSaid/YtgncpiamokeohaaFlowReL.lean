/- Layer 14: the law FlowReach. -/
import Derived.Test.YtgncpiamokeohaaFlowDiL
namespace Go.Proofs.Ytgncpiamokeohaa
open Go.RowKit (wrap64 intOf Below)
set_option linter.unusedVariables false
set_option linter.unusedSimpArgs false
set_option maxRecDepth 100000 in
set_option maxHeartbeats 8000000 in
theorem flowreach_walk (n : Int) (ea : Option Addr) (en ec : Nat) (E : List (Int × Int)) (sa : Option Addr) (sn sc : Nat) (S : List Int) (w : World) (hE : PairsAt w ea en E) (hnil : ea = none → ec = 0) (hec : en ≤ ec) (hcm : ec ≤ 9223372036854775807) (hS : NumsAt w sa sn S) (hsni : sa = none → sc = 0) (hsn : sn * 8 ≤ 140737488351232) :
    Calls Try.prog 3 #[.int .i64 n, .slice ea en ec, .slice sa sn sc] w fun e w' => e = .returned (.bool true) ∧ Below w.heap.size w w' := by
  have CF := Lib.hid (few_any ea en ec E w hE hec hcm)
  have HNI := Lib.hid hnil
  have HSN := Lib.hid hsni
  have HS := Lib.hid hS
  have HK := Lib.hid (few_in (E := E))
  have HZ : RowKit.Hid (sn ≤ 17592186044416 ∧ ([] : List Int).length * 8 = 0) := Lib.hid ⟨by omega, rfl⟩
  clear hE hnil hec hcm hS hsni
  obtain ⟨F, hF⟩ : ∃ F, F = E.take 60 := ⟨_, rfl⟩
  rw [← hF] at CF HK
  clear hF
  obtain ⟨er, her⟩ : ∃ er, er = fitF n F S := ⟨_, rfl⟩
  have hee : (er == er) = true := by simp
  have HER := Lib.hid her
  have HER2 : RowKit.Hid (er = fitF n (turnF F) S) := Lib.hid (by rw [fitF_turn]; exact her)
  clear her
  go_enter Try.func3, Try.ntmps3
  go_upto_region 3 with (first
    | (go_at_call 7; refine CF.out.mono ?_; rintro e w' ⟨k, rfl, hk, hE, hww⟩; rw [hww]; rw [hww] at hE; have HE := Lib.hid hE; have HKL : RowKit.Hid (k ≤ 60) := Lib.hid (by rw [hk]; exact HK.out); clear hww w' hE hk)
    | (go_at_call 9; refine (own_any ea k ec F _ HE.out HNI.out (by have := HKL.out; omega)).mono ?_; rintro e w2 ⟨wa, wn, wc, rfl, h2, h3⟩; have H2 := Lib.hid h2; have H3 := Lib.hid h3; clear h2 h3)
    | ((with_reducible refine wpList_append_nums _ rfl _ _ 23 rfl 3 Try.underlying23 info_intF w2.heap.size (.slice (some ⟨w2.heap.size, 0, none⟩) 0 0) [] ?_ ?_ ?_ sa sn sc S ?_ ?_ ?_ ?_ ?_); (next => rfl); (next => exact ownsI_none w2); (next => simp); (next => rfl); (next => exact HSN.out); (next => exact (HS.out.since H3.out).since ((Below.refl _ w2).alloc (Nat.le_refl _) _)); (next => simp; omega); intro ta tn tc w3 ho3 hb3; rw [List.nil_append] at ho3; have HO3 := Lib.hid ho3; have HB3 := Lib.hid (((Below.refl _ w2).alloc (Nat.le_refl _) _).trans hb3); clear ho3 hb3)
    | (go_at_call 8; refine (reachF_any n wa wn wc F ta tn tc S _ (H2.out.read.since HB3.out) HO3.out.reads (by have := H2.out.read.1; have := HK.out; omega) (by have h1 := HO3.out.reads.1; have h2 := HS.out.1; have := HZ.out.1; omega)).mono ?_; rintro e w4 ⟨pa, pk, pc, rfl, h4, h5⟩; rw [← HER.out]; have H4 := Lib.hid h4; have H5 := Lib.hid (H3.out.trans ((HB3.out.trans (h5.mono HB3.out.size)).mono H3.out.size)); clear h4 h5 H3 HB3 H2 HO3))
  go_upto_region 4 with (go_at_call 10; refine (reach14_any n ea k ec F sa sn sc S w4 (HE.out.since H5.out) (HS.out.since H5.out) (by have := HKL.out; omega) HZ.out.1).mono ?_; rintro e w5 ⟨qa, qk, qc, rfl, h6, h7⟩; rw [← HER.out]; have H6 := Lib.hid h6; have H7 := Lib.hid h7; clear h6 h7)
  have HB5 : RowKit.Hid (Below w.heap.size w w5) := Lib.hid (H5.out.trans (H7.out.mono H5.out.size))
  go_upto_region 5 with (first
    | (go_at_call 9; refine (own_any ea k ec F _ (HE.out.since HB5.out) HNI.out (by have := HKL.out; omega)).mono ?_; rintro e w6 ⟨wa, wn, wc, rfl, h2, h3⟩; have H2 := Lib.hid h2; have H3 := Lib.hid h3; clear h2 h3)
    | ((with_reducible refine wpList_append_nums _ rfl _ _ 23 rfl 3 Try.underlying23 info_intF w6.heap.size (.slice (some ⟨w6.heap.size, 0, none⟩) 0 0) [] ?_ ?_ ?_ sa sn sc S ?_ ?_ ?_ ?_ ?_); (next => rfl); (next => exact ownsI_none w6); (next => simp); (next => rfl); (next => exact HSN.out); (next => exact ((HS.out.since HB5.out).since H3.out).since ((Below.refl _ w6).alloc (Nat.le_refl _) _)); (next => simp; omega); intro ta tn tc w7 ho3 hb3; rw [List.nil_append] at ho3; have HO3 := Lib.hid ho3; have HB3 := Lib.hid (((Below.refl _ w6).alloc (Nat.le_refl _) _).trans hb3); clear ho3 hb3)
    | (go_at_call 11; refine (backF_any n wa wn wc F ta tn tc S _ (H2.out.read.since HB3.out) HO3.out.reads (by have := H2.out.read.1; have := HK.out; omega) (by have h1 := HO3.out.reads.1; have h2 := HS.out.1; have := HZ.out.1; omega)).mono ?_; rintro e w8 ⟨ra, rk, rc, rfl, h4, h5⟩; rw [← HER2.out]; have H8 := Lib.hid h4; have H9 := Lib.hid (H3.out.trans ((HB3.out.trans (h5.mono HB3.out.size)).mono H3.out.size)); clear h4 h5 H3 HB3 H2 HO3))
  have HB8 : RowKit.Hid (Below w.heap.size w w8) := Lib.hid (HB5.out.trans (H9.out.mono HB5.out.size))
  go_upto_region 6 with (first
    | (go_at_call 12; refine (turned_any ea k ec F w8 (HE.out.since HB8.out) (by have := HKL.out; omega)).mono ?_; rintro e w9 ⟨ua, un, uc, rfl, h1⟩; have H10 := Lib.hid h1; clear h1)
    | (go_at_call 10; refine (reach14_any n ua un uc (turnF F) sa sn sc S w9 H10.out.own.read ((HS.out.since HB8.out).since H10.out.bel) (by have h1 := H10.out.own.read.1; have h2 := HK.out; unfold turnF at h1; rw [List.length_map] at h1; omega) HZ.out.1).mono ?_; rintro e w10 ⟨va, vk, vc, rfl, h6, h7⟩; rw [← HER2.out]; have H11 := Lib.hid h6; have H12 := Lib.hid (H10.out.bel.trans (h7.mono H10.out.bel.size)); clear h6 h7))
  have HB10 : RowKit.Hid (Below w.heap.size w w10) := Lib.hid (HB8.out.trans (H12.out.mono HB8.out.size))
  have HPB : RowKit.Hid (BoolsAt w10 pa pk (metL n F S) ∧ BoolsAt w10 qa qk (metL n F S) ∧ BoolsAt w10 ra rk (metL n (turnF F) S) ∧ pk ≤ 16384 ∧ rk ≤ 16384) := Lib.hid (by
    have b1 : Below w5.heap.size w5 w10 := H9.out.trans (H12.out.mono H9.out.size)
    have b0 : Below w4.heap.size w4 w10 := H7.out.trans (b1.mono H7.out.size)
    refine ⟨H4.out.since b0, H6.out.since b1, H8.out.since H12.out, ?_, ?_⟩
    · have h1 := H4.out.1; rw [metL_dist] at h1; have := distL_len n F S; unfold boD at h1; rw [List.length_map] at h1; omega
    · have h1 := H8.out.1; rw [metL_dist] at h1; have := distL_len n (turnF F) S; unfold boD at h1; rw [List.length_map] at h1; omega)
  have CS1 := Lib.hid (same_any pa pk pc _ qa qk qc w10 HPB.out.1 HPB.out.2.1 (by have := HPB.out.2.2.2.1; omega))
  have CS2 : RowKit.Hid (∀ u, Below w10.heap.size w10 u → Calls Try.prog 13 #[.slice ra rk rc, .slice va vk vc] u fun e w' => e = .returned (.bool true) ∧ Below u.heap.size u w') := Lib.hid fun u hu => same_any ra rk rc _ va vk vc u (HPB.out.2.2.1.since hu) (H11.out.since hu) (by have := HPB.out.2.2.2.2; omega)
  clear CF HNI HSN HS HK HZ HER HER2 HE HKL H4 H5 H6 H7 HB5 H8 H9 HB8 H10 H11 H12 HPB
  go_wp2_with (first
    | (go_at_call 13; (with_reducible refine CS1.out.mono ?_); rintro e w11 ⟨rfl, h8⟩; have H13 := Lib.hid h8; clear h8)
    | (go_at_call 13; (with_reducible refine (CS2.out w11 H13.out).mono ?_); rintro e w12 ⟨rfl, h8⟩; have H14 := Lib.hid h8; clear h8)
    | (go_at_call 14; (with_reducible refine (lives14_any _).mono ?_); rintro e w13 ⟨rfl, h9⟩; have H15 := Lib.hid h9; clear h9))
  go_ret
  have b11 : Below w.heap.size w w11 := HB10.out.trans (H13.out.mono HB10.out.size)
  have b12 : Below w.heap.size w w12 := b11.trans (H14.out.mono b11.size)
  exact ⟨rfl, b12.trans (H15.out.mono b12.size)⟩
end Go.Proofs.Ytgncpiamokeohaa
