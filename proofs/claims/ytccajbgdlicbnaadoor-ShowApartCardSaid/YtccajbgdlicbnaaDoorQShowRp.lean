/- Layer 6: a program's text: the document's Prog, walked (mk_rp.py). -/
import Derived.Test.YtccajbgdlicbnaaDoorQShowRf
import Derived.Test.YtccajbgdlicbnaaDoorQT8
import Derived.Deep.RegionHeld3
namespace Go.Proofs.YtccajbgdlicbnaaDoor
open Go.RowKit (wrap64 intOf Below)
set_option linter.unusedVariables false
set_option linter.unusedSimpArgs false
set_option linter.unnecessarySimpa false

theorem says_list2 {W : World} {a : Option Addr} {n c : Nat} {Z : List Int} (hat : NumsAt W a n Z) (hn : n ≤ 1048576) (hr : ∀ z ∈ Z, InR z) : Says W 18 #[.slice a n c, .int .i64 2] (mk (listText Lib.itoa Z)) :=
  fun u hb => list_digits a n c Z u (hat.below hb (Nat.le_refl _)) hn hr
theorem listT_digits_txt {L : List Int} (h2 : L.length ≤ 1048576) (hr : ∀ z ∈ L, InR z) : Txt (mk (listText Lib.itoa L)) (listText Lib.itoa L) 100000000 := ⟨rfl, texts_len itoa_len h2 hr⟩
theorem sig_split (y : SigD) : sigText y = [115, 105, 103, 32, 40] ++ listText typeText y.params ++ [41, 32] ++ typeText y.ret ++ [10] := by simp [sigText, listT]
theorem class_split (y : ClassD) : classText y = [99, 108, 97, 115, 115, 32, 40] ++ listText typeText y.fields ++ [41, 32, 91] ++ listText Lib.itoa y.methods ++ [93, 10] := by simp [classText, listT]
theorem says_rfunc {W : World} {ba : Option Addr} {bn bc : Nat} {x : FuncD} (h : FuncQ W [.int .i64 x.ret, .slice ba bn bc] x) (hfit : FitFunc x) : Says W 10 #[.agg #[.int .i64 x.ret, .slice ba bn bc]] (mk (funcText x)) :=
  fun u hb => func_ref ba bn bc x u (FuncQ.lasts _ _ _ _ hb h) hfit

set_option maxRecDepth 100000 in
set_option maxHeartbeats 8000000 in
theorem prog_ref (g off : Nat) (s c f : Value) (P : ProgD) (w : World) (hg : g < w.heap.size) (hc0 : w.cell? ⟨g, off, none⟩ = some s) (hc1 : w.cell? ⟨g, off + 1, none⟩ = some c) (hc2 : w.cell? ⟨g, off + 2, none⟩ = some f) (h : ProgQ w [s, c, f] P) (hfit : FitProg P) :
    Calls Tryd.prog 8 #[.pointer (some ⟨g, off, none⟩)] w fun e w' => e = .returned (.string (mk (progText P))) ∧ Below w.heap.size w w' := by
  obtain ⟨s1, c1, f1, he, hs, hc, hf⟩ := h
  simp only [List.cons.injEq, and_true] at he
  obtain ⟨rfl, rfl, rfl⟩ := he
  have hs' := hs
  have hc' := hc
  have hf' := hf
  obtain ⟨sa, sn, sc, rfl, hsl, _, hsm, _⟩ := hs'
  obtain ⟨ca, cn, cc, rfl, hcl, _, hcm, _⟩ := hc'
  obtain ⟨fa, fn, fc, rfl, hfl, _, hfm, _⟩ := hf'
  have HCE : RowKit.Hid (∀ u, Below w.heap.size w u → u.cell? ⟨g, off, none⟩ = some (.slice sa sn sc) ∧ u.cell? ⟨g, off + 1, none⟩ = some (.slice ca cn cc) ∧ u.cell? ⟨g, off + 2, none⟩ = some (.slice fa fn fc)) := Lib.hid fun u hb =>
    ⟨(hb.cell (p := ⟨g, off, none⟩) hg).trans hc0, (hb.cell (p := ⟨g, off + 1, none⟩) hg).trans hc1, (hb.cell (p := ⟨g, off + 2, none⟩) hg).trans hc2⟩
  have HS := Lib.hid hs
  have HC := Lib.hid hc
  have HF := Lib.hid hf
  have HSL := Lib.hid hsl
  have HCL := Lib.hid hcl
  have HFL := Lib.hid hfl
  have HFIT := Lib.hid hfit
  have HST : RowKit.Hid (Below w.heap.size w w) := Lib.hid (Below.refl _ _)
  have HS0 : RowKit.Hid (mkB [] = mk (pre1 P ++ rowsText sigText (P.sigs.take 0))) := Lib.hid rfl
  clear hs hc hf hsl hcl hfl hfit hc0 hc1 hc2
  go_enter Tryd.func8, Tryd.ntmps8
  go_wp2_with fail
  go_loopw [3, 4] (fun sv iv wr => ∃ k : Nat, k ≤ sn ∧ iv = .int .i64 (k : Int) ∧ sv = .string (mk (pre1 P ++ rowsText sigText (P.sigs.take k))) ∧ RowKit.Hid (Below w.heap.size w wr)) (fun _ iv _ => sn - (intOf iv).toNat)
  case atStart => exact ⟨0, Nat.zero_le _, rfl, congrArg Value.string HS0.out, HST⟩
  case round =>
    obtain ⟨k, hk, rfl, rfl, HI⟩ := hrel
    obtain ⟨wo, hwo⟩ : ∃ u, u = wr := ⟨_, rfl⟩
    rw [← hwo] at HI ⊢
    clear hwo
    have x0 := (HCE.out wo HI.out).1
    by_cases hlt : k < sn
    · have HLT := Lib.hid hlt
      have HKL : RowKit.Hid (k < P.sigs.length) := Lib.hid (by rw [HSL.out]; exact hlt)
      obtain ⟨h, oo, rfl, hh, hcs⟩ := rowV_at_ HS.out (by omega)
      obtain ⟨cs, hc8, hcell, hq⟩ := hcs k HKL.out
      obtain ⟨y, hye⟩ : ∃ y, y = P.sigs[k]'HKL.out := ⟨_, rfl⟩
      rw [← hye] at hq
      have HYE : RowKit.Hid (P.sigs[k]'HKL.out = y) := Lib.hid hye.symm
      have hym : y ∈ P.sigs := by rw [hye]; exact List.getElem_mem HKL.out
      have hq0 := hq
      obtain ⟨pv, rfl, ⟨pa, pn, pc, rfl, hpat, _, _, hpr⟩, hret⟩ := hq0
      have hfy := HFIT.out.sigs y hym
      have e0 : w.cell? ⟨h, oo + k * 2, none⟩ = some (.slice pa pn pc) := by have := hcell 0 (by simp); simpa using this
      have e1 : w.cell? ⟨h, oo + k * 2 + 1, none⟩ = some (.int .i64 y.ret) := by have := hcell 1 (by simp); simpa using this
      have HDC : RowKit.Hid (∀ u, Below w.heap.size w u → u.cell? ⟨h, oo + k * 2, none⟩ = some (.slice pa pn pc) ∧ u.cell? ⟨h, oo + k * 2 + 1, none⟩ = some (.int .i64 y.ret)) := Lib.hid fun u hb => ⟨(hb.cell (p := ⟨h, oo + k * 2, none⟩) hh).trans e0, (hb.cell (p := ⟨h, oo + k * 2 + 1, none⟩) hh).trans e1⟩
      have HTK : RowKit.Hid (rowsText sigText (P.sigs.take (k + 1)) = rowsText sigText (P.sigs.take k) ++ sigText y) := Lib.hid (by rw [List.take_succ_eq_append_getElem HKL.out, HYE.out, rowsText_snoc])
      have XS : RowKit.Hid (Txt (mk (pre1 P ++ rowsText sigText (P.sigs.take k))) (pre1 P ++ rowsText sigText (P.sigs.take k)) 1000000000000) := Lib.hid ⟨rfl, pre_len1 HFIT.out k⟩
      obtain ⟨a0, ha0⟩ : ∃ a, a = mk (pre1 P ++ rowsText sigText (P.sigs.take k)) := ⟨_, rfl⟩
      rw [← ha0] at XS ⊢
      have za := XS.out.size
      have XP := Lib.hid (listT_types_txt hfy hpr)
      have CP := Lib.hid (says_list0 (c := pc) hpat (by rw [← hpat.1]; exact hfy) hpr)
      obtain ⟨sP, hsP⟩ : ∃ s, s = mk (listText typeText y.params) := ⟨_, rfl⟩
      rw [← hsP] at XP CP
      have zP := XP.out.size
      clear hsP
      have XR := Lib.hid (type_txt hret)
      have CR := Lib.hid (says_rtype (W := w) hret)
      obtain ⟨sR, hsR⟩ : ∃ s, s = mk (typeText y.ret) := ⟨_, rfl⟩
      rw [← hsR] at XR CR
      have zR := XR.out.size
      clear hsR
      have HKT : RowKit.Hid (∀ u, Below wo.heap.size wo u → (fun u => u.cell? ⟨g, off, none⟩ = some (.slice (some ⟨h, oo, none⟩) sn sc) ∧ u.cell? ⟨h, oo + k * 2, none⟩ = some (.slice pa pn pc) ∧ u.cell? ⟨h, oo + k * 2 + 1, none⟩ = some (.int .i64 y.ret)) u) := Lib.hid fun u hb => ⟨(HCE.out u (keepS HI.out hb)).1, HDC.out u (keepS HI.out hb)⟩
      clear hcell hcs hye hc8 hq hym ha0 e0 e1 hh hpat hpr hret hfy
      go_upto_region 7 with fail
      have hk0 : Below wo.heap.size wo wo.drew := (Below.refl _ _).drew
      refine wp_region_held_drew (S := (fun u => u.cell? ⟨g, off, none⟩ = some (.slice (some ⟨h, oo, none⟩) sn sc) ∧ u.cell? ⟨h, oo + k * 2, none⟩ = some (.slice pa pn pc) ∧ u.cell? ⟨h, oo + k * 2 + 1, none⟩ = some (.int .i64 y.ret))) (by kernel_rfl) (HKT.out _ hk0) (fun hHeld => ?_)
      refine wpAnyH_take (i := 0) (oi := ⟨some 18, _, _, _, _, _⟩) (v := ?_) rfl (by kernel_rfl) (by kernel_rfl) (by kernel_rfl) (fun _ _ _ h => h) (Or.inl ⟨by rfl, ?_⟩) (by assumption) ?_
      rotate_left
      · ((intro w hSw; (try dsimp only at hSw); go_simp); try with_reducible rfl)
      (try simp only [Act.put, List.setIfInBounds_toArray, List.set_cons_zero, List.set_cons_succ])
      refine wpAnyH_take (i := 1) (oi := ⟨some 19, _, _, _, _, _⟩) (v := ?_) rfl (by kernel_rfl) (by kernel_rfl) (by kernel_rfl) (fun _ _ _ h => h) (Or.inl ⟨by rfl, ?_⟩) (by assumption) ?_
      rotate_left
      · ((intro w hSw; (try dsimp only at hSw); go_simp; rw [if_neg (by omega)]); try with_reducible rfl)
      (try simp only [Act.put, List.setIfInBounds_toArray, List.set_cons_zero, List.set_cons_succ])
      refine wpAnyH_take (i := 2) (oi := ⟨some 20, _, _, _, _, _⟩) (v := ?_) rfl (by kernel_rfl) (by kernel_rfl) (by kernel_rfl) (fun _ _ _ h => h) (Or.inl ⟨by rfl, ?_⟩) (by assumption) ?_
      rotate_left
      · ((intro w hSw; (try dsimp only at hSw); go_simp); try with_reducible rfl)
      (try simp only [Act.put, List.setIfInBounds_toArray, List.set_cons_zero, List.set_cons_succ])
      refine wpAnyH_take (i := 3) (oi := ⟨some 21, _, _, _, _, _⟩) (v := ?_) rfl (by kernel_rfl) (by kernel_rfl) (by kernel_rfl) (fun _ _ _ h => h) (Or.inl ⟨by rfl, ?_⟩) (by assumption) ?_
      rotate_left
      · ((intro w hSw; (try dsimp only at hSw); go_simp); try with_reducible rfl)
      (try simp only [Act.put, List.setIfInBounds_toArray, List.set_cons_zero, List.set_cons_succ])
      refine wpAnyH_take (i := 4) (oi := ⟨some 22, _, _, _, _, _⟩) (v := ?_) rfl (by kernel_rfl) (by kernel_rfl) (by kernel_rfl) (fun _ _ _ h => h) (Or.inl ⟨by rfl, ?_⟩) (by assumption) ?_
      rotate_left
      · ((intro w hSw; (try dsimp only at hSw); go_simp); try with_reducible rfl)
      (try simp only [Act.put, List.setIfInBounds_toArray, List.set_cons_zero, List.set_cons_succ])
      refine wpAnyH_take (i := 5) (oi := ⟨some 23, _, _, _, _, _⟩) (v := ?_) rfl (by kernel_rfl) (by kernel_rfl) (by kernel_rfl) (fun _ _ _ h => h) (Or.inl ⟨by rfl, ?_⟩) (by assumption) ?_
      rotate_left
      · ((intro w hSw; (try dsimp only at hSw); go_simp); try with_reducible rfl)
      (try simp only [Act.put, List.setIfInBounds_toArray, List.set_cons_zero, List.set_cons_succ])
      refine wpAnyH_take (i := 6) (oi := ⟨some 24, _, _, _, _, _⟩) (v := ?_) rfl (by kernel_rfl) (by kernel_rfl) (by kernel_rfl) (fun _ _ _ h => h) (Or.inl ⟨by rfl, ?_⟩) (by assumption) ?_
      rotate_left
      · ((intro w hSw; (try dsimp only at hSw); go_simp); try with_reducible rfl)
      (try simp only [Act.put, List.setIfInBounds_toArray, List.set_cons_zero, List.set_cons_succ])
      refine wpAnyH_take (i := 7) (oi := ⟨some 25, _, _, _, _, _⟩) (v := ?_) rfl (by kernel_rfl) (by kernel_rfl) (by kernel_rfl) (fun _ _ _ h => h) (Or.inl ⟨by rfl, ?_⟩) (by assumption) ?_
      rotate_left
      · ((intro w hSw; (try dsimp only at hSw); go_simp); try with_reducible rfl)
      (try simp only [Act.put, List.setIfInBounds_toArray, List.set_cons_zero, List.set_cons_succ])
      refine wpAnyH_take (i := 8) (oi := ⟨some 26, _, _, _, _, _⟩) (v := ?_) rfl (by kernel_rfl) (by kernel_rfl) (by kernel_rfl) (fun _ _ _ h => h) (Or.inl ⟨by rfl, ?_⟩) (by assumption) ?_
      rotate_left
      · ((intro w hSw; (try dsimp only at hSw); go_simp); try with_reducible rfl)
      (try simp only [Act.put, List.setIfInBounds_toArray, List.set_cons_zero, List.set_cons_succ])
      refine wpAnyH_take (i := 9) (oi := ⟨some 27, _, _, _, _, _⟩) (v := ?_) rfl (by kernel_rfl) (by kernel_rfl) (by kernel_rfl) (fun _ _ _ h => h) (Or.inl ⟨by rfl, ?_⟩) (by assumption) ?_
      rotate_left
      · ((intro w hSw; (try dsimp only at hSw); go_simp); try with_reducible rfl)
      (try simp only [Act.put, List.setIfInBounds_toArray, List.set_cons_zero, List.set_cons_succ])
      refine wpAnyH_take (i := 13) (oi := ⟨some 31, _, _, _, _, _⟩) (v := ?_) rfl (by kernel_rfl) (by kernel_rfl) (by kernel_rfl) (fun _ _ _ h => h) (Or.inl ⟨by rfl, ?_⟩) (by assumption) ?_
      rotate_left
      · ((intro w hSw; (try dsimp only at hSw); go_simp); try with_reducible rfl)
      (try simp only [Act.put, List.setIfInBounds_toArray, List.set_cons_zero, List.set_cons_succ])
      refine wpAnyH_take (i := 14) (oi := ⟨some 32, _, _, _, _, _⟩) (v := ?_) rfl (by kernel_rfl) (by kernel_rfl) (by kernel_rfl) (fun _ _ _ h => h) (Or.inl ⟨by rfl, ?_⟩) (by assumption) ?_
      rotate_left
      · ((intro w hSw; (try dsimp only at hSw); go_simp); try with_reducible rfl)
      (try simp only [Act.put, List.setIfInBounds_toArray, List.set_cons_zero, List.set_cons_succ])
      refine wpAnyH_take (i := 15) (oi := ⟨some 33, _, _, _, _, _⟩) (v := ?_) rfl (by kernel_rfl) (by kernel_rfl) (by kernel_rfl) (fun _ _ _ h => h) (Or.inl ⟨by rfl, ?_⟩) (by assumption) ?_
      rotate_left
      · ((intro w hSw; (try dsimp only at hSw); go_simp); try with_reducible rfl)
      (try simp only [Act.put, List.setIfInBounds_toArray, List.set_cons_zero, List.set_cons_succ])
      refine wpAnyH_take (i := 16) (oi := ⟨some 34, _, _, _, _, _⟩) (v := ?_) rfl (by kernel_rfl) (by kernel_rfl) (by kernel_rfl) (fun _ _ _ h => h) (Or.inl ⟨by rfl, ?_⟩) (by assumption) ?_
      rotate_left
      · ((intro w hSw; (try dsimp only at hSw); go_simp); try with_reducible rfl)
      (try simp only [Act.put, List.setIfInBounds_toArray, List.set_cons_zero, List.set_cons_succ])
      refine wpAnyH_take (i := 17) (oi := ⟨some 35, _, _, _, _, _⟩) (v := ?_) rfl (by kernel_rfl) (by kernel_rfl) (by kernel_rfl) (fun _ _ _ h => h) (Or.inl ⟨by rfl, ?_⟩) (by assumption) ?_
      rotate_left
      · ((intro w hSw; (try dsimp only at hSw); go_simp); try with_reducible rfl)
      (try simp only [Act.put, List.setIfInBounds_toArray, List.set_cons_zero, List.set_cons_succ])
      refine wpAnyH_take (i := 18) (oi := ⟨some 36, _, _, _, _, _⟩) (v := ?_) rfl (by kernel_rfl) (by kernel_rfl) (by kernel_rfl) (fun _ _ _ h => h) (Or.inl ⟨by rfl, ?_⟩) (by assumption) ?_
      rotate_left
      · ((intro w hSw; (try dsimp only at hSw); go_simp); try with_reducible rfl)
      (try simp only [Act.put, List.setIfInBounds_toArray, List.set_cons_zero, List.set_cons_succ])
      refine wpAnyH_take (i := 19) (oi := ⟨some 37, _, _, _, _, _⟩) (v := ?_) rfl (by kernel_rfl) (by kernel_rfl) (by kernel_rfl) (fun _ _ _ h => h) (Or.inl ⟨by rfl, ?_⟩) (by assumption) ?_
      rotate_left
      · ((intro w hSw; (try dsimp only at hSw); go_simp); try with_reducible rfl)
      (try simp only [Act.put, List.setIfInBounds_toArray, List.set_cons_zero, List.set_cons_succ])
      refine wpAnyH_take (i := 20) (oi := ⟨some 38, _, _, _, _, _⟩) (v := ?_) rfl (by kernel_rfl) (by kernel_rfl) (by kernel_rfl) (fun _ _ _ h => h) (Or.inl ⟨by rfl, ?_⟩) (by assumption) ?_
      rotate_left
      · ((intro w hSw; (try dsimp only at hSw); go_simp); try with_reducible rfl)
      (try simp only [Act.put, List.setIfInBounds_toArray, List.set_cons_zero, List.set_cons_succ])
      refine wpAnyH_ready (rs := [10]) (by kernel_rfl) (by simp) (AllReadyH.cons rfl (fun K hK => ?_) AllReadyH.nil)
      rw [if_pos (by rfl)]
      go_simp
      go_at_call 18
      (with_reducible refine (CP.out.go (keepS HI.out hk0)).mono ?_)
      rintro e v0 ⟨rfl, hb0⟩
      have hk1 := keepS hk0 hb0
      clear hb0
      refine hK.out _ _ (HKT.out _ hk1) (fun hHeld => ?_)
      clear hK K
      (try simp only [Act.put, List.setIfInBounds_toArray, List.set_cons_zero, List.set_cons_succ])
      refine wpAnyH_take (i := 11) (oi := ⟨some 29, _, _, _, _, _⟩) (v := ?_) rfl (by kernel_rfl) (by kernel_rfl) (by kernel_rfl) (fun _ _ _ h => h) (Or.inl ⟨by rfl, ?_⟩) (by assumption) ?_
      rotate_left
      · ((intro w hSw; (try dsimp only at hSw); go_simp; rw [if_neg (by omega)]); try with_reducible rfl)
      (try simp only [Act.put, List.setIfInBounds_toArray, List.set_cons_zero, List.set_cons_succ])
      refine wpAnyH_take (i := 12) (oi := ⟨some 30, _, _, _, _, _⟩) (v := ?_) rfl (by kernel_rfl) (by kernel_rfl) (by kernel_rfl) (fun _ _ _ h => h) (Or.inl ⟨by rfl, ?_⟩) (by assumption) ?_
      rotate_left
      · ((intro w hSw; (try dsimp only at hSw); go_simp; rw [if_neg (by omega)]); try with_reducible rfl)
      (try simp only [Act.put, List.setIfInBounds_toArray, List.set_cons_zero, List.set_cons_succ])
      refine wpAnyH_ready (rs := [21]) (by kernel_rfl) (by simp) (AllReadyH.cons rfl (fun K hK => ?_) AllReadyH.nil)
      rw [if_pos (by rfl)]
      go_simp
      go_at_call 19
      (with_reducible refine (CR.out.go (keepS HI.out hk1)).mono ?_)
      rintro e v1 ⟨rfl, hb1⟩
      have hk2 := keepS hk1 hb1
      clear hb1
      have HKA := Lib.hid (keepS HI.out hk2)
      refine hK.out _ _ (HKT.out _ hk2) (fun hHeld => ?_)
      clear hK K
      (try simp only [Act.put, List.setIfInBounds_toArray, List.set_cons_zero, List.set_cons_succ])
      refine wpAnyH_take (i := 22) (oi := ⟨some 40, _, _, _, _, _⟩) (v := ?_) rfl (by kernel_rfl) (by kernel_rfl) (by kernel_rfl) (fun _ _ _ h => h) (Or.inl ⟨by rfl, ?_⟩) (by assumption) ?_
      rotate_left
      · ((intro w hSw; (try dsimp only at hSw); go_simp; rw [if_neg (by omega)]); try with_reducible rfl)
      (try simp only [Act.put, List.setIfInBounds_toArray, List.set_cons_zero, List.set_cons_succ])
      refine wpAnyH_take (i := 23) (oi := ⟨some 41, _, _, _, _, _⟩) (v := ?_) rfl (by kernel_rfl) (by kernel_rfl) (by kernel_rfl) (fun _ _ _ h => h) (Or.inl ⟨by rfl, ?_⟩) (by assumption) ?_
      rotate_left
      · ((intro w hSw; (try dsimp only at hSw); go_simp; rw [if_neg (by omega)]); try with_reducible rfl)
      (try simp only [Act.put, List.setIfInBounds_toArray, List.set_cons_zero, List.set_cons_succ])
      refine wpAnyH_take (i := 24) (oi := ⟨some 3, _, _, _, _, _⟩) (v := ?_) rfl (by kernel_rfl) (by kernel_rfl) (by kernel_rfl) (fun _ _ _ h => h) (Or.inl ⟨by rfl, ?_⟩) (by assumption) ?_
      rotate_left
      · ((intro w hSw; (try dsimp only at hSw); go_simp); try with_reducible rfl)
      (try simp only [Act.put, List.setIfInBounds_toArray, List.set_cons_zero, List.set_cons_succ])
      refine wpAnyH_done (by kernel_rfl) ?_ _
      have HS2 : RowKit.Hid (a0 ++ mkB [115, 105, 103, 32, 40] ++ sP ++ mkB [41, 32] ++ sR ++ mkB [10] = mk (pre1 P ++ rowsText sigText (P.sigs.take (k + 1)))) := Lib.hid (by have := (((((XS.out.app (Txt.lit [115, 105, 103, 32, 40])).app XP.out).app (Txt.lit [41, 32])).app XR.out).app (Txt.lit [10])).is; rw [this, HTK.out, sig_split]; simp; rfl)
      clear hk0 hk1 hk2 za zP zR x0
      go_wp2_with fail
      go_roundw
      case rel => exact ⟨k + 1, by have := HLT.out; omega, by go_num, congrArg Value.string HS2.out, HKA⟩
      case measure => simp [intOf]; omega
    · have HS0 : RowKit.Hid (mk (pre1 P ++ rowsText sigText (P.sigs.take k)) = mk (pre2 P ++ rowsText classText (P.classes.take 0))) := Lib.hid (by rw [List.take_of_length_le (by rw [HSL.out]; omega)]; simp [pre1, pre2, pre3, rowsText])
      have HST : RowKit.Hid (Below w.heap.size w wo) := Lib.hid HI.out
      clear HI
      go_wp2_with fail
      clear x0
      go_loopw [3, 5] (fun sv iv wr => ∃ k : Nat, k ≤ cn ∧ iv = .int .i64 (k : Int) ∧ sv = .string (mk (pre2 P ++ rowsText classText (P.classes.take k))) ∧ RowKit.Hid (Below w.heap.size w wr)) (fun _ iv _ => cn - (intOf iv).toNat)
      case atStart => exact ⟨0, Nat.zero_le _, rfl, congrArg Value.string HS0.out, HST⟩
      case round =>
        obtain ⟨k, hk, rfl, rfl, HI⟩ := hrel
        obtain ⟨wo, hwo⟩ : ∃ u, u = wr := ⟨_, rfl⟩
        rw [← hwo] at HI ⊢
        clear hwo
        have x1 := (HCE.out wo HI.out).2.1
        by_cases hlt : k < cn
        · have HLT := Lib.hid hlt
          have HKL : RowKit.Hid (k < P.classes.length) := Lib.hid (by rw [HCL.out]; exact hlt)
          obtain ⟨h, oo, rfl, hh, hcs⟩ := rowV_at_ HC.out (by omega)
          obtain ⟨cs, hc8, hcell, hq⟩ := hcs k HKL.out
          obtain ⟨y, hye⟩ : ∃ y, y = P.classes[k]'HKL.out := ⟨_, rfl⟩
          rw [← hye] at hq
          have HYE : RowKit.Hid (P.classes[k]'HKL.out = y) := Lib.hid hye.symm
          have hym : y ∈ P.classes := by rw [hye]; exact List.getElem_mem HKL.out
          have hq0 := hq
          obtain ⟨pv, qv, rfl, ⟨pa, pn, pc, rfl, hpat, _, _, hpr⟩, ⟨qa, qn, qc, rfl, hqat, _, _, hqr⟩⟩ := hq0
          have hfy := HFIT.out.fields y hym
          have hfz := HFIT.out.methods y hym
          have e0 : w.cell? ⟨h, oo + k * 2, none⟩ = some (.slice pa pn pc) := by have := hcell 0 (by simp); simpa using this
          have e1 : w.cell? ⟨h, oo + k * 2 + 1, none⟩ = some (.slice qa qn qc) := by have := hcell 1 (by simp); simpa using this
          have HDC : RowKit.Hid (∀ u, Below w.heap.size w u → u.cell? ⟨h, oo + k * 2, none⟩ = some (.slice pa pn pc) ∧ u.cell? ⟨h, oo + k * 2 + 1, none⟩ = some (.slice qa qn qc)) := Lib.hid fun u hb => ⟨(hb.cell (p := ⟨h, oo + k * 2, none⟩) hh).trans e0, (hb.cell (p := ⟨h, oo + k * 2 + 1, none⟩) hh).trans e1⟩
          have HTK : RowKit.Hid (rowsText classText (P.classes.take (k + 1)) = rowsText classText (P.classes.take k) ++ classText y) := Lib.hid (by rw [List.take_succ_eq_append_getElem HKL.out, HYE.out, rowsText_snoc])
          have XS : RowKit.Hid (Txt (mk (pre2 P ++ rowsText classText (P.classes.take k))) (pre2 P ++ rowsText classText (P.classes.take k)) 1000000000000) := Lib.hid ⟨rfl, pre_len2 HFIT.out k⟩
          obtain ⟨a0, ha0⟩ : ∃ a, a = mk (pre2 P ++ rowsText classText (P.classes.take k)) := ⟨_, rfl⟩
          rw [← ha0] at XS ⊢
          have za := XS.out.size
          have XP := Lib.hid (listT_types_txt hfy hpr)
          have CP := Lib.hid (says_list0 (c := pc) hpat (by rw [← hpat.1]; exact hfy) hpr)
          obtain ⟨sP, hsP⟩ : ∃ s, s = mk (listText typeText y.fields) := ⟨_, rfl⟩
          rw [← hsP] at XP CP
          have zP := XP.out.size
          clear hsP
          have XR := Lib.hid (listT_digits_txt hfz hqr)
          have CR := Lib.hid (says_list2 (c := qc) hqat (by rw [← hqat.1]; exact hfz) hqr)
          obtain ⟨sR, hsR⟩ : ∃ s, s = mk (listText Lib.itoa y.methods) := ⟨_, rfl⟩
          rw [← hsR] at XR CR
          have zR := XR.out.size
          clear hsR
          have HKT : RowKit.Hid (∀ u, Below wo.heap.size wo u → (fun u => u.cell? ⟨g, off + 1, none⟩ = some (.slice (some ⟨h, oo, none⟩) cn cc) ∧ u.cell? ⟨h, oo + k * 2, none⟩ = some (.slice pa pn pc) ∧ u.cell? ⟨h, oo + k * 2 + 1, none⟩ = some (.slice qa qn qc)) u) := Lib.hid fun u hb => ⟨(HCE.out u (keepS HI.out hb)).2.1, HDC.out u (keepS HI.out hb)⟩
          clear hcell hcs hye hc8 hq hym ha0 e0 e1 hh hpat hqat hpr hqr hfy hfz
          go_upto_region 11 with fail
          have hk0 : Below wo.heap.size wo wo.drew := (Below.refl _ _).drew
          refine wp_region_held_drew (S := (fun u => u.cell? ⟨g, off + 1, none⟩ = some (.slice (some ⟨h, oo, none⟩) cn cc) ∧ u.cell? ⟨h, oo + k * 2, none⟩ = some (.slice pa pn pc) ∧ u.cell? ⟨h, oo + k * 2 + 1, none⟩ = some (.slice qa qn qc))) (by kernel_rfl) (HKT.out _ hk0) (fun hHeld => ?_)
          refine wpAnyH_take (i := 0) (oi := ⟨some 51, _, _, _, _, _⟩) (v := ?_) rfl (by kernel_rfl) (by kernel_rfl) (by kernel_rfl) (fun _ _ _ h => h) (Or.inl ⟨by rfl, ?_⟩) (by assumption) ?_
          rotate_left
          · ((intro w hSw; (try dsimp only at hSw); go_simp); try with_reducible rfl)
          (try simp only [Act.put, List.setIfInBounds_toArray, List.set_cons_zero, List.set_cons_succ])
          refine wpAnyH_take (i := 1) (oi := ⟨some 52, _, _, _, _, _⟩) (v := ?_) rfl (by kernel_rfl) (by kernel_rfl) (by kernel_rfl) (fun _ _ _ h => h) (Or.inl ⟨by rfl, ?_⟩) (by assumption) ?_
          rotate_left
          · ((intro w hSw; (try dsimp only at hSw); go_simp; rw [if_neg (by omega)]); try with_reducible rfl)
          (try simp only [Act.put, List.setIfInBounds_toArray, List.set_cons_zero, List.set_cons_succ])
          refine wpAnyH_take (i := 2) (oi := ⟨some 53, _, _, _, _, _⟩) (v := ?_) rfl (by kernel_rfl) (by kernel_rfl) (by kernel_rfl) (fun _ _ _ h => h) (Or.inl ⟨by rfl, ?_⟩) (by assumption) ?_
          rotate_left
          · ((intro w hSw; (try dsimp only at hSw); go_simp); try with_reducible rfl)
          (try simp only [Act.put, List.setIfInBounds_toArray, List.set_cons_zero, List.set_cons_succ])
          refine wpAnyH_take (i := 3) (oi := ⟨some 54, _, _, _, _, _⟩) (v := ?_) rfl (by kernel_rfl) (by kernel_rfl) (by kernel_rfl) (fun _ _ _ h => h) (Or.inl ⟨by rfl, ?_⟩) (by assumption) ?_
          rotate_left
          · ((intro w hSw; (try dsimp only at hSw); go_simp); try with_reducible rfl)
          (try simp only [Act.put, List.setIfInBounds_toArray, List.set_cons_zero, List.set_cons_succ])
          refine wpAnyH_take (i := 4) (oi := ⟨some 55, _, _, _, _, _⟩) (v := ?_) rfl (by kernel_rfl) (by kernel_rfl) (by kernel_rfl) (fun _ _ _ h => h) (Or.inl ⟨by rfl, ?_⟩) (by assumption) ?_
          rotate_left
          · ((intro w hSw; (try dsimp only at hSw); go_simp); try with_reducible rfl)
          (try simp only [Act.put, List.setIfInBounds_toArray, List.set_cons_zero, List.set_cons_succ])
          refine wpAnyH_take (i := 5) (oi := ⟨some 56, _, _, _, _, _⟩) (v := ?_) rfl (by kernel_rfl) (by kernel_rfl) (by kernel_rfl) (fun _ _ _ h => h) (Or.inl ⟨by rfl, ?_⟩) (by assumption) ?_
          rotate_left
          · ((intro w hSw; (try dsimp only at hSw); go_simp); try with_reducible rfl)
          (try simp only [Act.put, List.setIfInBounds_toArray, List.set_cons_zero, List.set_cons_succ])
          refine wpAnyH_take (i := 6) (oi := ⟨some 57, _, _, _, _, _⟩) (v := ?_) rfl (by kernel_rfl) (by kernel_rfl) (by kernel_rfl) (fun _ _ _ h => h) (Or.inl ⟨by rfl, ?_⟩) (by assumption) ?_
          rotate_left
          · ((intro w hSw; (try dsimp only at hSw); go_simp); try with_reducible rfl)
          (try simp only [Act.put, List.setIfInBounds_toArray, List.set_cons_zero, List.set_cons_succ])
          refine wpAnyH_take (i := 7) (oi := ⟨some 58, _, _, _, _, _⟩) (v := ?_) rfl (by kernel_rfl) (by kernel_rfl) (by kernel_rfl) (fun _ _ _ h => h) (Or.inl ⟨by rfl, ?_⟩) (by assumption) ?_
          rotate_left
          · ((intro w hSw; (try dsimp only at hSw); go_simp); try with_reducible rfl)
          (try simp only [Act.put, List.setIfInBounds_toArray, List.set_cons_zero, List.set_cons_succ])
          refine wpAnyH_take (i := 8) (oi := ⟨some 59, _, _, _, _, _⟩) (v := ?_) rfl (by kernel_rfl) (by kernel_rfl) (by kernel_rfl) (fun _ _ _ h => h) (Or.inl ⟨by rfl, ?_⟩) (by assumption) ?_
          rotate_left
          · ((intro w hSw; (try dsimp only at hSw); go_simp); try with_reducible rfl)
          (try simp only [Act.put, List.setIfInBounds_toArray, List.set_cons_zero, List.set_cons_succ])
          refine wpAnyH_take (i := 9) (oi := ⟨some 60, _, _, _, _, _⟩) (v := ?_) rfl (by kernel_rfl) (by kernel_rfl) (by kernel_rfl) (fun _ _ _ h => h) (Or.inl ⟨by rfl, ?_⟩) (by assumption) ?_
          rotate_left
          · ((intro w hSw; (try dsimp only at hSw); go_simp); try with_reducible rfl)
          (try simp only [Act.put, List.setIfInBounds_toArray, List.set_cons_zero, List.set_cons_succ])
          refine wpAnyH_take (i := 13) (oi := ⟨some 64, _, _, _, _, _⟩) (v := ?_) rfl (by kernel_rfl) (by kernel_rfl) (by kernel_rfl) (fun _ _ _ h => h) (Or.inl ⟨by rfl, ?_⟩) (by assumption) ?_
          rotate_left
          · ((intro w hSw; (try dsimp only at hSw); go_simp); try with_reducible rfl)
          (try simp only [Act.put, List.setIfInBounds_toArray, List.set_cons_zero, List.set_cons_succ])
          refine wpAnyH_take (i := 14) (oi := ⟨some 65, _, _, _, _, _⟩) (v := ?_) rfl (by kernel_rfl) (by kernel_rfl) (by kernel_rfl) (fun _ _ _ h => h) (Or.inl ⟨by rfl, ?_⟩) (by assumption) ?_
          rotate_left
          · ((intro w hSw; (try dsimp only at hSw); go_simp); try with_reducible rfl)
          (try simp only [Act.put, List.setIfInBounds_toArray, List.set_cons_zero, List.set_cons_succ])
          refine wpAnyH_take (i := 15) (oi := ⟨some 66, _, _, _, _, _⟩) (v := ?_) rfl (by kernel_rfl) (by kernel_rfl) (by kernel_rfl) (fun _ _ _ h => h) (Or.inl ⟨by rfl, ?_⟩) (by assumption) ?_
          rotate_left
          · ((intro w hSw; (try dsimp only at hSw); go_simp); try with_reducible rfl)
          (try simp only [Act.put, List.setIfInBounds_toArray, List.set_cons_zero, List.set_cons_succ])
          refine wpAnyH_take (i := 16) (oi := ⟨some 67, _, _, _, _, _⟩) (v := ?_) rfl (by kernel_rfl) (by kernel_rfl) (by kernel_rfl) (fun _ _ _ h => h) (Or.inl ⟨by rfl, ?_⟩) (by assumption) ?_
          rotate_left
          · ((intro w hSw; (try dsimp only at hSw); go_simp); try with_reducible rfl)
          (try simp only [Act.put, List.setIfInBounds_toArray, List.set_cons_zero, List.set_cons_succ])
          refine wpAnyH_take (i := 17) (oi := ⟨some 68, _, _, _, _, _⟩) (v := ?_) rfl (by kernel_rfl) (by kernel_rfl) (by kernel_rfl) (fun _ _ _ h => h) (Or.inl ⟨by rfl, ?_⟩) (by assumption) ?_
          rotate_left
          · ((intro w hSw; (try dsimp only at hSw); go_simp); try with_reducible rfl)
          (try simp only [Act.put, List.setIfInBounds_toArray, List.set_cons_zero, List.set_cons_succ])
          refine wpAnyH_take (i := 18) (oi := ⟨some 69, _, _, _, _, _⟩) (v := ?_) rfl (by kernel_rfl) (by kernel_rfl) (by kernel_rfl) (fun _ _ _ h => h) (Or.inl ⟨by rfl, ?_⟩) (by assumption) ?_
          rotate_left
          · ((intro w hSw; (try dsimp only at hSw); go_simp); try with_reducible rfl)
          (try simp only [Act.put, List.setIfInBounds_toArray, List.set_cons_zero, List.set_cons_succ])
          refine wpAnyH_take (i := 19) (oi := ⟨some 70, _, _, _, _, _⟩) (v := ?_) rfl (by kernel_rfl) (by kernel_rfl) (by kernel_rfl) (fun _ _ _ h => h) (Or.inl ⟨by rfl, ?_⟩) (by assumption) ?_
          rotate_left
          · ((intro w hSw; (try dsimp only at hSw); go_simp); try with_reducible rfl)
          (try simp only [Act.put, List.setIfInBounds_toArray, List.set_cons_zero, List.set_cons_succ])
          refine wpAnyH_take (i := 20) (oi := ⟨some 71, _, _, _, _, _⟩) (v := ?_) rfl (by kernel_rfl) (by kernel_rfl) (by kernel_rfl) (fun _ _ _ h => h) (Or.inl ⟨by rfl, ?_⟩) (by assumption) ?_
          rotate_left
          · ((intro w hSw; (try dsimp only at hSw); go_simp); try with_reducible rfl)
          (try simp only [Act.put, List.setIfInBounds_toArray, List.set_cons_zero, List.set_cons_succ])
          refine wpAnyH_ready (rs := [10]) (by kernel_rfl) (by simp) (AllReadyH.cons rfl (fun K hK => ?_) AllReadyH.nil)
          rw [if_pos (by rfl)]
          go_simp
          go_at_call 18
          (with_reducible refine (CP.out.go (keepS HI.out hk0)).mono ?_)
          rintro e v0 ⟨rfl, hb0⟩
          have hk1 := keepS hk0 hb0
          clear hb0
          refine hK.out _ _ (HKT.out _ hk1) (fun hHeld => ?_)
          clear hK K
          (try simp only [Act.put, List.setIfInBounds_toArray, List.set_cons_zero, List.set_cons_succ])
          refine wpAnyH_take (i := 11) (oi := ⟨some 62, _, _, _, _, _⟩) (v := ?_) rfl (by kernel_rfl) (by kernel_rfl) (by kernel_rfl) (fun _ _ _ h => h) (Or.inl ⟨by rfl, ?_⟩) (by assumption) ?_
          rotate_left
          · ((intro w hSw; (try dsimp only at hSw); go_simp; rw [if_neg (by omega)]); try with_reducible rfl)
          (try simp only [Act.put, List.setIfInBounds_toArray, List.set_cons_zero, List.set_cons_succ])
          refine wpAnyH_take (i := 12) (oi := ⟨some 63, _, _, _, _, _⟩) (v := ?_) rfl (by kernel_rfl) (by kernel_rfl) (by kernel_rfl) (fun _ _ _ h => h) (Or.inl ⟨by rfl, ?_⟩) (by assumption) ?_
          rotate_left
          · ((intro w hSw; (try dsimp only at hSw); go_simp; rw [if_neg (by omega)]); try with_reducible rfl)
          (try simp only [Act.put, List.setIfInBounds_toArray, List.set_cons_zero, List.set_cons_succ])
          refine wpAnyH_ready (rs := [21]) (by kernel_rfl) (by simp) (AllReadyH.cons rfl (fun K hK => ?_) AllReadyH.nil)
          rw [if_pos (by rfl)]
          go_simp
          go_at_call 18
          (with_reducible refine (CR.out.go (keepS HI.out hk1)).mono ?_)
          rintro e v1 ⟨rfl, hb1⟩
          have hk2 := keepS hk1 hb1
          clear hb1
          have HKA := Lib.hid (keepS HI.out hk2)
          refine hK.out _ _ (HKT.out _ hk2) (fun hHeld => ?_)
          clear hK K
          (try simp only [Act.put, List.setIfInBounds_toArray, List.set_cons_zero, List.set_cons_succ])
          refine wpAnyH_take (i := 22) (oi := ⟨some 73, _, _, _, _, _⟩) (v := ?_) rfl (by kernel_rfl) (by kernel_rfl) (by kernel_rfl) (fun _ _ _ h => h) (Or.inl ⟨by rfl, ?_⟩) (by assumption) ?_
          rotate_left
          · ((intro w hSw; (try dsimp only at hSw); go_simp; rw [if_neg (by omega)]); try with_reducible rfl)
          (try simp only [Act.put, List.setIfInBounds_toArray, List.set_cons_zero, List.set_cons_succ])
          refine wpAnyH_take (i := 23) (oi := ⟨some 74, _, _, _, _, _⟩) (v := ?_) rfl (by kernel_rfl) (by kernel_rfl) (by kernel_rfl) (fun _ _ _ h => h) (Or.inl ⟨by rfl, ?_⟩) (by assumption) ?_
          rotate_left
          · ((intro w hSw; (try dsimp only at hSw); go_simp; rw [if_neg (by omega)]); try with_reducible rfl)
          (try simp only [Act.put, List.setIfInBounds_toArray, List.set_cons_zero, List.set_cons_succ])
          refine wpAnyH_take (i := 24) (oi := ⟨some 3, _, _, _, _, _⟩) (v := ?_) rfl (by kernel_rfl) (by kernel_rfl) (by kernel_rfl) (fun _ _ _ h => h) (Or.inl ⟨by rfl, ?_⟩) (by assumption) ?_
          rotate_left
          · ((intro w hSw; (try dsimp only at hSw); go_simp); try with_reducible rfl)
          (try simp only [Act.put, List.setIfInBounds_toArray, List.set_cons_zero, List.set_cons_succ])
          refine wpAnyH_done (by kernel_rfl) ?_ _
          have HS2 : RowKit.Hid (a0 ++ mkB [99, 108, 97, 115, 115, 32, 40] ++ sP ++ mkB [41, 32, 91] ++ sR ++ mkB [93, 10] = mk (pre2 P ++ rowsText classText (P.classes.take (k + 1)))) := Lib.hid (by have := (((((XS.out.app (Txt.lit [99, 108, 97, 115, 115, 32, 40])).app XP.out).app (Txt.lit [41, 32, 91])).app XR.out).app (Txt.lit [93, 10])).is; rw [this, HTK.out, class_split]; simp; rfl)
          clear hk0 hk1 hk2 za zP zR x1
          go_wp2_with fail
          go_roundw
          case rel => exact ⟨k + 1, by have := HLT.out; omega, by go_num, congrArg Value.string HS2.out, HKA⟩
          case measure => simp [intOf]; omega
        · have HS0 : RowKit.Hid (mk (pre2 P ++ rowsText classText (P.classes.take k)) = mk (pre3 P ++ rowsText funcText (P.funcs.take 0))) := Lib.hid (by rw [List.take_of_length_le (by rw [HCL.out]; omega)]; simp [pre1, pre2, pre3, rowsText])
          have HST : RowKit.Hid (Below w.heap.size w wo) := Lib.hid HI.out
          clear HI
          go_wp2_with fail
          clear x1
          go_loopw [3, 6] (fun sv iv wr => ∃ k : Nat, k ≤ fn ∧ iv = .int .i64 (k : Int) ∧ sv = .string (mk (pre3 P ++ rowsText funcText (P.funcs.take k))) ∧ RowKit.Hid (Below w.heap.size w wr)) (fun _ iv _ => fn - (intOf iv).toNat)
          case atStart => exact ⟨0, Nat.zero_le _, rfl, congrArg Value.string HS0.out, HST⟩
          case round =>
            obtain ⟨k, hk, rfl, rfl, HI⟩ := hrel
            obtain ⟨wo, hwo⟩ : ∃ u, u = wr := ⟨_, rfl⟩
            rw [← hwo] at HI ⊢
            clear hwo
            have x2 := (HCE.out wo HI.out).2.2
            by_cases hlt : k < fn
            · have HLT := Lib.hid hlt
              have HKL : RowKit.Hid (k < P.funcs.length) := Lib.hid (by rw [HFL.out]; exact hlt)
              obtain ⟨h, oo, rfl, hh, hcs⟩ := rowV_at_ HF.out (by omega)
              obtain ⟨cs, hc8, hcell, hq⟩ := hcs k HKL.out
              obtain ⟨y, hye⟩ : ∃ y, y = P.funcs[k]'HKL.out := ⟨_, rfl⟩
              rw [← hye] at hq
              have HYE : RowKit.Hid (P.funcs[k]'HKL.out = y) := Lib.hid hye.symm
              have hym : y ∈ P.funcs := by rw [hye]; exact List.getElem_mem HKL.out
              have hq0 := hq
              obtain ⟨bv, rfl, _, hbv⟩ := hq0
              obtain ⟨ba, bn, bc, rfl, _⟩ := hbv
              have hfy := HFIT.out.funcs y hym
              have e0 : w.cell? ⟨h, oo + k * 2, none⟩ = some (.int .i64 y.ret) := by have := hcell 0 (by simp); simpa using this
              have e1 : w.cell? ⟨h, oo + k * 2 + 1, none⟩ = some (.slice ba bn bc) := by have := hcell 1 (by simp); simpa using this
              have HDC : RowKit.Hid (∀ u, Below w.heap.size w u → u.cell? ⟨h, oo + k * 2, none⟩ = some (.int .i64 y.ret) ∧ u.cell? ⟨h, oo + k * 2 + 1, none⟩ = some (.slice ba bn bc)) := Lib.hid fun u hb => ⟨(hb.cell (p := ⟨h, oo + k * 2, none⟩) hh).trans e0, (hb.cell (p := ⟨h, oo + k * 2 + 1, none⟩) hh).trans e1⟩
              have HTK : RowKit.Hid (rowsText funcText (P.funcs.take (k + 1)) = rowsText funcText (P.funcs.take k) ++ funcText y) := Lib.hid (by rw [List.take_succ_eq_append_getElem HKL.out, HYE.out, rowsText_snoc])
              have XS : RowKit.Hid (Txt (mk (pre3 P ++ rowsText funcText (P.funcs.take k))) (pre3 P ++ rowsText funcText (P.funcs.take k)) 1000000000000) := Lib.hid ⟨rfl, pre_len3 HFIT.out k⟩
              obtain ⟨a0, ha0⟩ : ∃ a, a = mk (pre3 P ++ rowsText funcText (P.funcs.take k)) := ⟨_, rfl⟩
              rw [← ha0] at XS ⊢
              have za := XS.out.size
              have XF : RowKit.Hid (Txt (mk (funcText y)) (funcText y) 1000000000000) := Lib.hid ⟨rfl, hfy.len⟩
              have CF := Lib.hid (says_rfunc hq hfy)
              obtain ⟨sF, hsF⟩ : ∃ s, s = mk (funcText y) := ⟨_, rfl⟩
              rw [← hsF] at XF CF
              have zF := XF.out.size
              have d0 := (HDC.out wo HI.out).1
              have d1 := (HDC.out wo HI.out).2
              clear hcell hcs hye hc8 hq hym ha0 e0 e1 hh hfy hsF
              go_wp2_with fail
              refine (CF.out.go HI.out).mono ?_
              rintro e v1 ⟨rfl, hb1⟩
              have HKA := Lib.hid (keepS HI.out hb1)
              have HS2 : RowKit.Hid (a0 ++ sF = mk (pre3 P ++ rowsText funcText (P.funcs.take (k + 1)))) := Lib.hid (by have := (XS.out.app XF.out).is; rw [this, HTK.out]; simp; rfl)
              clear hb1 d0 d1 x2
              go_wp2_with fail
              go_roundw
              case rel => exact ⟨k + 1, by have := HLT.out; omega, by go_num, congrArg Value.string HS2.out, HKA⟩
              case measure => simp [intOf]; omega
            · have HFULL : RowKit.Hid (pre3 P ++ rowsText funcText (P.funcs.take k) = progText P) := Lib.hid (by rw [List.take_of_length_le (by rw [HFL.out]; omega)]; rfl)
              rw [HFULL.out]
              go_wp2_with fail
              go_ret
              exact ⟨rfl, HI.out⟩
end Go.Proofs.YtccajbgdlicbnaaDoor
