/- Layer 5: the document's Own (mk_ow.py). -/
import Derived.Test.YtfnkmigcklmghaaDoorQCodeSs
import Derived.Test.YtfnkmigcklmghaaDoorQT0
import Derived.Test.YtfnkmigcklmghaaDoorQT13

namespace Go.Proofs.YtfnkmigcklmghaaDoor
open Go.RowKit (wrap64 intOf Below)
set_option linter.unusedVariables false
set_option linter.unusedSimpArgs false
attribute [local go_sem ↓] Go.wp_at_zero Go.wp_at_succ

set_option maxRecDepth 100000 in
set_option maxHeartbeats 16000000 in
theorem ref_own (g off : Nat) (sa : Option Addr) (sn sc : Nat) (ca : Option Addr) (cn cc : Nat) (fa : Option Addr) (fn fc : Nat) (P : ProgD) (w : World) (hg : g < w.heap.size) (hc0 : w.cell? ⟨g, off, none⟩ = some (.slice sa sn sc)) (hc1 : w.cell? ⟨g, off + 1, none⟩ = some (.slice ca cn cc)) (hc2 : w.cell? ⟨g, off + 2, none⟩ = some (.slice fa fn fc)) (hP : ProgQ w [.slice sa sn sc, .slice ca cn cc, .slice fa fn fc] P) (hsm : SmProg P) :
    Calls Tryd.prog 11 #[.pointer (some ⟨g, off, none⟩)] w (CopyPost (plainProg P) w) := by
  obtain ⟨_, _, _, he, hS, hC, hF⟩ := hP
  simp only [List.cons.injEq, and_true] at he
  obtain ⟨rfl, rfl, rfl⟩ := he
  have HRs := Lib.hid hS
  have HRc := Lib.hid hC
  have HRf := Lib.hid hF
  have HLs : RowKit.Hid (P.sigs.length = sn) := Lib.hid (rowV_len' hS).1
  have HLc : RowKit.Hid (P.classes.length = cn) := Lib.hid (rowV_len' hC).1
  have HLf : RowKit.Hid (P.funcs.length = fn) := Lib.hid (rowV_len' hF).1
  have hsn := (rowV_len' hS).2
  have hcn := (rowV_len' hC).2
  have hfn := (rowV_len' hF).2
  have HM1 := Lib.hid hsm.1
  have HM2 := Lib.hid hsm.2.1
  have HM3 := Lib.hid hsm.2.2.1
  have HM4 := Lib.hid hsm.2.2.2
  obtain ⟨O, hO⟩ : ∃ O, O = w.heap.size := ⟨_, rfl⟩
  have HO : RowKit.Hid (O = w.heap.size) := Lib.hid hO
  have HS0 : RowKit.Hid (OSt w 26 O #[.slice none 0 0, .slice none 0 0, .slice none 0 0] (w.alloc (.cells #[.slice none 0 0, .slice none 0 0, .slice none 0 0] 26))) := Lib.hid ⟨by rw [hO]; exact heap_alloc_new w _, (Below.refl _ _).alloc (Nat.le_refl _) _, by omega⟩
  have HPC : RowKit.Hid (∀ u, Below w.heap.size w u → u.cell? ⟨g, off, none⟩ = some (.slice sa sn sc) ∧ u.cell? ⟨g, off + 1, none⟩ = some (.slice ca cn cc) ∧ u.cell? ⟨g, off + 2, none⟩ = some (.slice fa fn fc)) := Lib.hid fun u hb => ⟨(hb.cell (p := ⟨g, off, none⟩) hg).trans hc0, (hb.cell (p := ⟨g, off + 1, none⟩) hg).trans hc1, (hb.cell (p := ⟨g, off + 2, none⟩) hg).trans hc2⟩
  clear hS hC hF hg hc0 hc1 hc2 hsm
  go_enter Tryd.func11, Tryd.ntmps11
  go_upto_region 4 with fail
  rw [← hO]
  generalize hW0 : w.alloc (.cells #[.slice none 0 0, .slice none 0 0, .slice none 0 0] 26) = W0 at HS0 ⊢
  clear hW0 hO
  have hpx := (HPC.out _ HS0.out.bel).1
  go_wp2_with fail
  go_loopw [4] (fun iv wr => ∃ (i : Nat) (va : Option Addr) (vn vc : Nat), i ≤ sn ∧ iv = .int .i64 (i : Int) ∧ wr.cell? ⟨g, off, none⟩ = some (.slice sa sn sc) ∧ RowKit.Hid (OSt w 26 O #[.slice va vn vc, .slice none 0 0, .slice none 0 0] wr ∧ RowO 52 2 SigO wr (From (O + 1)) (.slice va vn vc) (P.sigs.take i))) (fun iv _ => sn - (intOf iv).toNat)
  case atStart => exact ⟨0, none, 0, 0, Nat.zero_le _, rfl, hpx, Lib.hid ⟨HS0.out, RowO.none _ _⟩⟩
  case round =>
    obtain ⟨i, va, vn, vc, hi, rfl, hpx, HI⟩ := hrel
    by_cases hlt : i < sn
    · have HLT := Lib.hid hlt
      have HIL : RowKit.Hid (i < P.sigs.length) := Lib.hid (by rw [HLs.out]; exact hlt)
      obtain ⟨h, oo, rfl, hh, hcs⟩ := rowV_at HRs.out (by omega)
      obtain ⟨cs, hc8, hcell, hq⟩ := hcs i HIL.out
      obtain ⟨x, hx⟩ : ∃ x, x = P.sigs[i]'HIL.out := ⟨_, rfl⟩
      rw [← hx] at hq
      have HX : RowKit.Hid (P.sigs[i]'HIL.out = x) := Lib.hid hx.symm
      obtain ⟨pv, rfl, ⟨pa, pn, pc, rfl, hn1, hn2, hm1, hr1⟩, hrt⟩ := hq
      have HN2 := Lib.hid hn2
      have HR1 := Lib.hid hr1
      have HRT := Lib.hid hrt
      have HPL : RowKit.Hid (x.params.length = pn) := Lib.hid hn1.1
      have HZ : RowKit.Hid (O < wr.heap.size) := Lib.hid HI.out.1.elt
      have HWB := Lib.hid HI.out.1.bel
      have HN1 := Lib.hid (NumsAt.below hn1 HWB.out (Nat.le_refl _))
      have HFR : RowKit.Hid (∀ b, (Value.slice va vn vc).ownBlock = some b → b < wr.heap.size) := Lib.hid fun b hb => (HI.out.2.own hb).2
      have HTK : RowKit.Hid ((P.sigs.take i).length ≤ 100000) := Lib.hid (by rw [List.length_take]; have := HM1.out; omega)
      have HKS : RowKit.Hid (∀ u, Below (O + 1) wr u → (fun u => u.cell? ⟨g, off, none⟩ = some (.slice (some ⟨h, oo, none⟩) sn sc) ∧ u.cell? ⟨h, oo + i * 2, none⟩ = some (.slice pa pn pc) ∧ u.cell? ⟨h, oo + i * 2 + 1, none⟩ = some (.int .i64 x.ret) ∧ u.cell? ⟨O, 0, none⟩ = some (.slice va vn vc)) u) := Lib.hid fun u hb => by
        have hbw : Below w.heap.size w u := HWB.out.trans (hb.mono (by have := HO.out; omega))
        exact ⟨(HPC.out u hbw).1, (hbw.cell (p := ⟨h, oo + i * 2 + 0, none⟩) hh).trans (hcell 0 (by simp)), (hbw.cell (p := ⟨h, oo + i * 2 + 1, none⟩) hh).trans (hcell 1 (by simp)), (hb.cell (p := ⟨O, 0, none⟩) (Nat.lt_succ_self O)).trans (HI.out.1.ec 0)⟩
      clear hcell hcs hx hc8 hn1 hn2 hr1 hrt hi
      go_wp2_with fail
      refine wp_region_Z (S := (fun u => u.cell? ⟨g, off, none⟩ = some (.slice (some ⟨h, oo, none⟩) sn sc) ∧ u.cell? ⟨h, oo + i * 2, none⟩ = some (.slice pa pn pc) ∧ u.cell? ⟨h, oo + i * 2 + 1, none⟩ = some (.int .i64 x.ret) ∧ u.cell? ⟨O, 0, none⟩ = some (.slice va vn vc))) 28 (by kernel_rfl) (HKS.out _ (Below.refl _ _).drew) (fun hHeld => ?_)
      refine wpAnyZ_take (i := 0) (oi := ⟨some 26, _, _, _, _, _⟩) (v := ?_) rfl (by kernel_rfl) (by kernel_rfl) (by kernel_rfl) (by kernel_rfl) (fun _ _ _ h => h) (Or.inl ⟨by rfl, ?_⟩) (by assumption) ?_
      rotate_left
      · ((intro w hSw; (try dsimp only at hSw); go_simp); try with_reducible rfl)
      (try simp only [Act.put, List.setIfInBounds_toArray, List.set_cons_zero, List.set_cons_succ])
      refine wpAnyZ_take (i := 1) (oi := ⟨some 27, _, _, _, _, _⟩) (v := ?_) rfl (by kernel_rfl) (by kernel_rfl) (by kernel_rfl) (by kernel_rfl) (fun _ _ _ h => h) (Or.inl ⟨by rfl, ?_⟩) (by assumption) ?_
      rotate_left
      · ((intro w hSw; (try dsimp only at hSw); go_simp); try with_reducible rfl)
      (try simp only [Act.put, List.setIfInBounds_toArray, List.set_cons_zero, List.set_cons_succ])
      refine wpAnyZ_take (i := 2) (oi := ⟨some 28, _, _, _, _, _⟩) (v := ?_) rfl (by kernel_rfl) (by kernel_rfl) (by kernel_rfl) (by kernel_rfl) (fun _ _ _ h => h) (Or.inl ⟨by rfl, ?_⟩) (by assumption) ?_
      rotate_left
      · ((intro w hSw; (try dsimp only at hSw); go_simp); try with_reducible rfl)
      (try simp only [Act.put, List.setIfInBounds_toArray, List.set_cons_zero, List.set_cons_succ])
      refine wpAnyZ_take (i := 3) (oi := ⟨some 29, _, _, _, _, _⟩) (v := ?_) rfl (by kernel_rfl) (by kernel_rfl) (by kernel_rfl) (by kernel_rfl) (fun _ _ _ h => h) (Or.inl ⟨by rfl, ?_⟩) (by assumption) ?_
      rotate_left
      · ((intro w hSw; (try dsimp only at hSw); go_simp); try with_reducible rfl)
      (try simp only [Act.put, List.setIfInBounds_toArray, List.set_cons_zero, List.set_cons_succ])
      refine wpAnyZ_take (i := 4) (oi := ⟨some 30, _, _, _, _, _⟩) (v := ?_) rfl (by kernel_rfl) (by kernel_rfl) (by kernel_rfl) (by kernel_rfl) (fun _ _ _ h => h) (Or.inl ⟨by rfl, ?_⟩) (by assumption) ?_
      rotate_left
      · ((intro w hSw; (try dsimp only at hSw); go_simp); try with_reducible rfl)
      (try simp only [Act.put, List.setIfInBounds_toArray, List.set_cons_zero, List.set_cons_succ])
      refine wpAnyZ_take (i := 6) (oi := ⟨some 32, _, _, _, _, _⟩) (v := ?_) rfl (by kernel_rfl) (by kernel_rfl) (by kernel_rfl) (by kernel_rfl) (fun _ _ _ h => h) (Or.inl ⟨by rfl, ?_⟩) (by assumption) ?_
      rotate_left
      · ((intro w hSw; (try dsimp only at hSw); go_simp); try with_reducible rfl)
      (try simp only [Act.put, List.setIfInBounds_toArray, List.set_cons_zero, List.set_cons_succ])
      refine wpAnyZ_take (i := 7) (oi := ⟨some 33, _, _, _, _, _⟩) (v := ?_) rfl (by kernel_rfl) (by kernel_rfl) (by kernel_rfl) (by kernel_rfl) (fun _ _ _ h => h) (Or.inl ⟨by rfl, ?_⟩) (by assumption) ?_
      rotate_left
      · ((intro w hSw; (try dsimp only at hSw); go_simp); try with_reducible rfl)
      (try simp only [Act.put, List.setIfInBounds_toArray, List.set_cons_zero, List.set_cons_succ])
      refine wpAnyZ_take (i := 8) (oi := ⟨some 34, _, _, _, _, _⟩) (v := ?_) rfl (by kernel_rfl) (by kernel_rfl) (by kernel_rfl) (by kernel_rfl) (fun _ _ _ h => h) (Or.inl ⟨by rfl, ?_⟩) (by assumption) ?_
      rotate_left
      · ((intro w hSw; (try dsimp only at hSw); go_simp); try with_reducible rfl)
      (try simp only [Act.put, List.setIfInBounds_toArray, List.set_cons_zero, List.set_cons_succ])
      refine wpAnyZ_take (i := 9) (oi := ⟨some 35, _, _, _, _, _⟩) (v := ?_) rfl (by kernel_rfl) (by kernel_rfl) (by kernel_rfl) (by kernel_rfl) (fun _ _ _ h => h) (Or.inl ⟨by rfl, ?_⟩) (by assumption) ?_
      rotate_left
      · ((intro w hSw; (try dsimp only at hSw); go_simp); try with_reducible rfl)
      (try simp only [Act.put, List.setIfInBounds_toArray, List.set_cons_zero, List.set_cons_succ])
      refine wpAnyZ_take (i := 10) (oi := ⟨some 36, _, _, _, _, _⟩) (v := ?_) rfl (by kernel_rfl) (by kernel_rfl) (by kernel_rfl) (by kernel_rfl) (fun _ _ _ h => h) (Or.inl ⟨by rfl, ?_⟩) (by assumption) ?_
      rotate_left
      · ((intro w hSw; (try dsimp only at hSw); go_simp); try with_reducible rfl)
      (try simp only [Act.put, List.setIfInBounds_toArray, List.set_cons_zero, List.set_cons_succ])
      refine wpAnyZ_take (i := 11) (oi := ⟨some 37, _, _, _, _, _⟩) (v := ?_) rfl (by kernel_rfl) (by kernel_rfl) (by kernel_rfl) (by kernel_rfl) (fun _ _ _ h => h) (Or.inl ⟨by rfl, ?_⟩) (by assumption) ?_
      rotate_left
      · ((intro w hSw; (try dsimp only at hSw); go_simp); try with_reducible rfl)
      (try simp only [Act.put, List.setIfInBounds_toArray, List.set_cons_zero, List.set_cons_succ])
      refine wpAnyZ_take (i := 12) (oi := ⟨some 38, _, _, _, _, _⟩) (v := ?_) rfl (by kernel_rfl) (by kernel_rfl) (by kernel_rfl) (by kernel_rfl) (fun _ _ _ h => h) (Or.inl ⟨by rfl, ?_⟩) (by assumption) ?_
      rotate_left
      · ((intro w hSw; (try dsimp only at hSw); go_simp); try with_reducible rfl)
      (try simp only [Act.put, List.setIfInBounds_toArray, List.set_cons_zero, List.set_cons_succ])
      refine wpAnyZ_take (i := 13) (oi := ⟨some 39, _, _, _, _, _⟩) (v := ?_) rfl (by kernel_rfl) (by kernel_rfl) (by kernel_rfl) (by kernel_rfl) (fun _ _ _ h => h) (Or.inl ⟨by rfl, ?_⟩) (by assumption) ?_
      rotate_left
      · ((intro w hSw; (try dsimp only at hSw); go_simp); try with_reducible rfl)
      (try simp only [Act.put, List.setIfInBounds_toArray, List.set_cons_zero, List.set_cons_succ])
      refine wpAnyZ_take (i := 15) (oi := ⟨some 41, _, _, _, _, _⟩) (v := ?_) rfl (by kernel_rfl) (by kernel_rfl) (by kernel_rfl) (by kernel_rfl) (fun _ _ _ h => h) (Or.inl ⟨by rfl, ?_⟩) (by assumption) ?_
      rotate_left
      · ((intro w hSw; (try dsimp only at hSw); go_simp); try with_reducible rfl)
      (try simp only [Act.put, List.setIfInBounds_toArray, List.set_cons_zero, List.set_cons_succ])
      refine wpAnyZ_take (i := 16) (oi := ⟨some 42, _, _, _, _, _⟩) (v := ?_) rfl (by kernel_rfl) (by kernel_rfl) (by kernel_rfl) (by kernel_rfl) (fun _ _ _ h => h) (Or.inl ⟨by rfl, ?_⟩) (by assumption) ?_
      rotate_left
      · ((intro w hSw; (try dsimp only at hSw); go_simp); try with_reducible rfl)
      (try simp only [Act.put, List.setIfInBounds_toArray, List.set_cons_zero, List.set_cons_succ])
      refine wpAnyZ_take (i := 17) (oi := ⟨some 43, _, _, _, _, _⟩) (v := ?_) rfl (by kernel_rfl) (by kernel_rfl) (by kernel_rfl) (by kernel_rfl) (fun _ _ _ h => h) (Or.inl ⟨by rfl, ?_⟩) (by assumption) ?_
      rotate_left
      · ((intro w hSw; (try dsimp only at hSw); go_simp); try with_reducible rfl)
      (try simp only [Act.put, List.setIfInBounds_toArray, List.set_cons_zero, List.set_cons_succ])
      refine wpAnyZ_take (i := 18) (oi := ⟨some 44, _, _, _, _, _⟩) (v := ?_) rfl (by kernel_rfl) (by kernel_rfl) (by kernel_rfl) (by kernel_rfl) (fun _ _ _ h => h) (Or.inl ⟨by rfl, ?_⟩) (by assumption) ?_
      rotate_left
      · ((intro w hSw; (try dsimp only at hSw); go_simp); try with_reducible rfl)
      (try simp only [Act.put, List.setIfInBounds_toArray, List.set_cons_zero, List.set_cons_succ])
      refine wpAnyZ_take (i := 19) (oi := ⟨some 45, _, _, _, _, _⟩) (v := ?_) rfl (by kernel_rfl) (by kernel_rfl) (by kernel_rfl) (by kernel_rfl) (fun _ _ _ h => h) (Or.inl ⟨by rfl, ?_⟩) (by assumption) ?_
      rotate_left
      · ((intro w hSw; (try dsimp only at hSw); go_simp); try with_reducible rfl)
      (try simp only [Act.put, List.setIfInBounds_toArray, List.set_cons_zero, List.set_cons_succ])
      refine wpAnyZ_take (i := 20) (oi := ⟨some 46, _, _, _, _, _⟩) (v := ?_) rfl (by kernel_rfl) (by kernel_rfl) (by kernel_rfl) (by kernel_rfl) (fun _ _ _ h => h) (Or.inl ⟨by rfl, ?_⟩) (by assumption) ?_
      rotate_left
      · ((intro w hSw; (try dsimp only at hSw); go_simp); try with_reducible rfl)
      (try simp only [Act.put, List.setIfInBounds_toArray, List.set_cons_zero, List.set_cons_succ])
      refine wpAnyZ_take (i := 21) (oi := ⟨some 47, _, _, _, _, _⟩) (v := ?_) rfl (by kernel_rfl) (by kernel_rfl) (by kernel_rfl) (by kernel_rfl) (fun _ _ _ h => h) (Or.inl ⟨by rfl, ?_⟩) (by assumption) ?_
      rotate_left
      · ((intro w hSw; (try dsimp only at hSw); go_simp); try with_reducible rfl)
      (try simp only [Act.put, List.setIfInBounds_toArray, List.set_cons_zero, List.set_cons_succ])
      refine wpAnyZ_take (i := 22) (oi := ⟨some 48, _, _, _, _, _⟩) (v := ?_) rfl (by kernel_rfl) (by kernel_rfl) (by kernel_rfl) (by kernel_rfl) (fun _ _ _ h => h) (Or.inl ⟨by rfl, ?_⟩) (by assumption) ?_
      rotate_left
      · ((intro w hSw; (try dsimp only at hSw); go_simp); try with_reducible rfl)
      (try simp only [Act.put, List.setIfInBounds_toArray, List.set_cons_zero, List.set_cons_succ])
      refine wpAnyZ_one (i := 5) (by kernel_rfl) rfl (fun K hK => ?_)
      rw [if_pos (by rfl)]
      go_simp
      have hke : Below wr.heap.size wr (wr.drew.alloc (.cells #[] 3)) := ((Below.refl _ _).drew).alloc (by simp) _
      refine hK.out _ _ (HKS.out _ (hke.mono HZ.out)) (fun hHeld => ?_)
      clear hK K
      (try simp only [Act.put, List.setIfInBounds_toArray, List.set_cons_zero, List.set_cons_succ])
      refine wpAnyZ_one (i := 14) (by kernel_rfl) rfl (fun K hK => ?_)
      refine step_copy_keep (by rfl) _ _ 36 (by rfl) 3 Tryd.underlying36 info_int wr.heap.size ⟨wr.heap.size, 0, none⟩ (by rfl) (OwnsI.laid (by simp) (Nat.le_refl _)) (by simp) pa pn pc x.params (by rfl) HN2.out (HN1.out.below hke (Nat.le_refl _)) (by omega) ?_
      intro va5 vn5 vc5 w5 hown5 hb5 _
      have HB5 := Lib.hid (keepB hke hb5)
      have HO5 := Lib.hid hown5
      clear hown5 hb5 hke
      refine hK.out _ _ (HKS.out _ (HB5.out.mono HZ.out)) (fun hHeld => ?_)
      clear hK K
      (try simp only [Act.put, List.setIfInBounds_toArray, List.set_cons_zero, List.set_cons_succ])
      refine wpAnyZ_take (i := 23) (oi := ⟨some 49, _, _, _, _, _⟩) (v := ?_) rfl (by kernel_rfl) (by kernel_rfl) (by kernel_rfl) (by kernel_rfl) (fun _ _ _ h => h) (Or.inl ⟨by rfl, ?_⟩) (by assumption) ?_
      rotate_left
      · ((intro w hSw; (try dsimp only at hSw); go_simp); try with_reducible rfl)
      (try simp only [Act.put, List.setIfInBounds_toArray, List.set_cons_zero, List.set_cons_succ])
      refine wpAnyZ_one (i := 24) (by kernel_rfl) rfl (fun K hK => ?_)
      rw [if_pos (by rfl)]
      go_simp
      have hka := HB5.out.alloc HB5.out.size (.cells #[.slice va5 vn5 vc5, .int .i64 x.ret] 52)
      refine hK.out _ _ (HKS.out _ (hka.mono HZ.out)) (fun hHeld => ?_)
      clear hK K
      (try simp only [Act.put, List.setIfInBounds_toArray, List.set_cons_zero, List.set_cons_succ])
      refine wpAnyZ_one (i := 25) (by kernel_rfl) rfl (fun K hK => ?_)
      refine step_append_elem2 w5 (by rfl) _ _ 22 (by rfl) 52 Tryd.underlying22 _ 2 32 info_sig rfl (by decide) (by decide) SigO.holds (O + 1) (.slice va vn vc) (P.sigs.take i) (by rfl) (HI.out.2.holds SigO.holds (fun b hb hs => ⟨HB5.out.block b hb, hs⟩)) (Nat.le_trans HZ.out HB5.out.size) _ 1 w5.heap.size (by rfl) rfl rfl (by intro u hu; simp at hu; rcases hu with rfl | rfl <;> rfl) ⟨x.params, x.ret⟩ wr.heap.size ⟨_, rfl, OwnsI.numsO HO5.out (by rw [HPL.out]; omega) HR1.out, HRT.out⟩ HZ.out HFR.out HTK.out ?_
      intro va6 vn6 vc6 w6 hrow6 hb6 _
      have HR6 := Lib.hid hrow6
      have HB6 : RowKit.Hid (Below (O + 1) wr w6) := Lib.hid ((HB5.out.mono HZ.out).trans hb6)
      clear hrow6 hb6 hka
      refine hK.out _ _ (HKS.out _ HB6.out) (fun hHeld => ?_)
      clear hK K
      (try simp only [Act.put, List.setIfInBounds_toArray, List.set_cons_zero, List.set_cons_succ])
      refine wpAnyZ_one (i := 26) (by kernel_rfl) rfl (fun K hK => ?_)
      rw [if_pos (by rfl)]
      go_simp
      refine hK.out _ _ hHeld (fun hHeld => ?_)
      clear hK K
      (try simp only [Act.put, List.setIfInBounds_toArray, List.set_cons_zero, List.set_cons_succ])
      refine wpAnyZ_one (i := 27) (by kernel_rfl) rfl (fun K hK => ?_)
      rw [if_pos (by rfl)]
      go_simp
      refine hK.out _ _ hHeld (fun hHeld => ?_)
      clear hK K
      (try simp only [Act.put, List.setIfInBounds_toArray, List.set_cons_zero, List.set_cons_succ])
      have HS6 := Lib.hid (HI.out.1.news HB6.out (Nat.lt_succ_self O))
      have f6 := HS6.out.ef 0
      have e6 := HS6.out.ec 0
      refine wpAnyZ_last (by kernel_rfl) rfl (by kernel_rfl) (fun K hK => ?_)
      rw [if_pos (by rfl)]
      go_simp
      refine hK.out _ _ ?_
      clear hK K
      (try simp only [Act.put, List.setIfInBounds_toArray, List.set_cons_zero, List.set_cons_succ])
      go_wp2_with fail
      go_roundw
      case rel => exact ⟨i + 1, va6, vn6, vc6, by have := HLT.out; omega, by go_num, (HPC.out _ (HS6.out.set 0 _).bel).1, Lib.hid ⟨HS6.out.set 0 _, by rw [List.take_succ_eq_append_getElem HIL.out, HX.out]; exact HR6.out.stored_ SigO.holds 0 _ (Nat.lt_succ_self O)⟩⟩
      case measure => simp [intOf]; omega
    obtain ⟨W1, rfl⟩ : ∃ v, v = wr := ⟨_, rfl⟩
    obtain ⟨ua, rfl⟩ : ∃ v, v = va := ⟨_, rfl⟩
    obtain ⟨un, rfl⟩ : ∃ v, v = vn := ⟨_, rfl⟩
    obtain ⟨uc, rfl⟩ : ∃ v, v = vc := ⟨_, rfl⟩
    have HOS := Lib.hid HI.out.1
    obtain ⟨B2, hB2⟩ : ∃ B, B = W1.heap.size := ⟨_, rfl⟩
    have HPs : RowKit.Hid (RowO 52 2 SigO W1 (Amid_ (O + 1) B2) (.slice ua un uc) P.sigs) := Lib.hid (by have h := HI.out.2; rw [List.take_of_length_le (by rw [HLs.out]; omega)] at h; exact h.holds SigO.holds (fun b hb hs => ⟨rfl, hs, by rw [hB2]; exact hb⟩))
    have HB2 : RowKit.Hid (O + 1 ≤ B2 ∧ B2 ≤ W1.heap.size) := Lib.hid ⟨by rw [hB2]; exact HI.out.1.elt, by omega⟩
    clear HI hB2 hi
    obtain ⟨_, hpy, _⟩ := HPC.out _ HOS.out.bel
    go_wp2_with fail
    clear hpx
    go_loopw [5] (fun iv wr => ∃ (i : Nat) (va : Option Addr) (vn vc : Nat), i ≤ cn ∧ iv = .int .i64 (i : Int) ∧ wr.cell? ⟨g, off + 1, none⟩ = some (.slice ca cn cc) ∧ RowKit.Hid (OSt w 26 O #[.slice ua un uc, .slice va vn vc, .slice none 0 0] wr ∧ RowO 54 2 ClassO wr (From B2) (.slice va vn vc) (P.classes.take i) ∧ RowO 52 2 SigO wr (Amid_ (O + 1) B2) (.slice ua un uc) P.sigs ∧ B2 ≤ wr.heap.size)) (fun iv _ => cn - (intOf iv).toNat)
    case atStart => exact ⟨0, none, 0, 0, Nat.zero_le _, rfl, hpy, Lib.hid ⟨HOS.out, RowO.none _ _, HPs.out, HB2.out.2⟩⟩
    case round =>
      obtain ⟨i, va, vn, vc, hi, rfl, hpy, HI⟩ := hrel
      by_cases hlt : i < cn
      · have HLT := Lib.hid hlt
        have HIL : RowKit.Hid (i < P.classes.length) := Lib.hid (by rw [HLc.out]; exact hlt)
        obtain ⟨h, oo, rfl, hh, hcs⟩ := rowV_at HRc.out (by omega)
        obtain ⟨cs, hc8, hcell, hq⟩ := hcs i HIL.out
        obtain ⟨x, hx⟩ : ∃ x, x = P.classes[i]'HIL.out := ⟨_, rfl⟩
        rw [← hx] at hq
        have HX : RowKit.Hid (P.classes[i]'HIL.out = x) := Lib.hid hx.symm
        obtain ⟨pv, qv, rfl, ⟨pa, pn, pc, rfl, hn1, hn2, hm1, hr1⟩, ⟨ma, mn, mc, rfl, hu1, hu2, hv1, hr2⟩⟩ := hq
        have HN2 := Lib.hid hn2
        have HU2 := Lib.hid hu2
        have HR1 := Lib.hid hr1
        have HR2 := Lib.hid hr2
        have HPL : RowKit.Hid (x.fields.length = pn) := Lib.hid hn1.1
        have HML : RowKit.Hid (x.methods.length = mn) := Lib.hid hu1.1
        have HZ : RowKit.Hid (O + 1 ≤ B2 ∧ B2 ≤ wr.heap.size) := Lib.hid ⟨HB2.out.1, HI.out.2.2.2⟩
        have HWB := Lib.hid HI.out.1.bel
        have HN1 := Lib.hid (NumsAt.below hn1 HWB.out (Nat.le_refl _))
        have HU1 := Lib.hid (NumsAt.below hu1 HWB.out (Nat.le_refl _))
        have HFR : RowKit.Hid (∀ b, (Value.slice va vn vc).ownBlock = some b → b < wr.heap.size) := Lib.hid fun b hb => (HI.out.2.1.own hb).2
        have HTK : RowKit.Hid ((P.classes.take i).length ≤ 100000) := Lib.hid (by rw [List.length_take]; have := HM2.out; omega)
        have d0 := (HWB.out.cell (p := ⟨h, oo + i * 2 + 0, none⟩) hh).trans (hcell 0 (by simp))
        have d1 := (HWB.out.cell (p := ⟨h, oo + i * 2 + 1, none⟩) hh).trans (hcell 1 (by simp))
        simp only [Nat.add_zero, List.getElem_cons_zero, List.getElem_cons_succ] at d0 d1
        obtain ⟨X, hX⟩ : ∃ X, X = wr.heap.size := ⟨_, rfl⟩
        have HXS : RowKit.Hid (OSt wr 54 X #[.slice pa pn pc, .slice ma mn mc] (wr.alloc (.cells #[.slice pa pn pc, .slice ma mn mc] 54))) := Lib.hid ⟨by rw [hX]; exact heap_alloc_new wr _, (Below.refl _ _).alloc (Nat.le_refl _) _, by omega⟩
        have HXE : RowKit.Hid (X = wr.heap.size) := Lib.hid hX
        clear hcell hcs hx hc8 hn1 hn2 hr1 hu1 hu2 hr2 hi
        go_upto_region 12 with fail
        rw [← hX]
        generalize hW3 : wr.alloc (.cells #[.slice pa pn pc, .slice ma mn mc] 54) = W3 at HXS ⊢
        clear hW3 hX d0 d1
        have HXZ : RowKit.Hid (X < W3.heap.size) := Lib.hid HXS.out.elt
        have HKS : RowKit.Hid (∀ u, Below W3.heap.size W3 u → (fun u => u.cell? ⟨X, 0, none⟩ = some (.slice pa pn pc) ∧ u.cell? ⟨X, 1, none⟩ = some (.slice ma mn mc) ∧ u.cell? ⟨O, 1, none⟩ = some (.slice va vn vc)) u) := Lib.hid fun u hb => by
          have hs := HXS.out.past hb
          exact ⟨hs.ec 0, hs.ec 1, (hs.bel.cell (p := ⟨O, 1, none⟩) HI.out.1.elt).trans (HI.out.1.ec 1)⟩
        refine wp_region_Z (S := (fun u => u.cell? ⟨X, 0, none⟩ = some (.slice pa pn pc) ∧ u.cell? ⟨X, 1, none⟩ = some (.slice ma mn mc) ∧ u.cell? ⟨O, 1, none⟩ = some (.slice va vn vc))) 18 (by kernel_rfl) (HKS.out _ (Below.refl _ _).drew) (fun hHeld => ?_)
        refine wpAnyZ_take (i := 0) (oi := ⟨some 70, _, _, _, _, _⟩) (v := ?_) rfl (by kernel_rfl) (by kernel_rfl) (by kernel_rfl) (by kernel_rfl) (fun _ _ _ h => h) (Or.inl ⟨by rfl, ?_⟩) (by assumption) ?_
        rotate_left
        · ((intro w hSw; (try dsimp only at hSw); go_simp); try with_reducible rfl)
        (try simp only [Act.put, List.setIfInBounds_toArray, List.set_cons_zero, List.set_cons_succ])
        refine wpAnyZ_take (i := 1) (oi := ⟨some 71, _, _, _, _, _⟩) (v := ?_) rfl (by kernel_rfl) (by kernel_rfl) (by kernel_rfl) (by kernel_rfl) (fun _ _ _ h => h) (Or.inl ⟨by rfl, ?_⟩) (by assumption) ?_
        rotate_left
        · ((intro w hSw; (try dsimp only at hSw); go_simp); try with_reducible rfl)
        (try simp only [Act.put, List.setIfInBounds_toArray, List.set_cons_zero, List.set_cons_succ])
        refine wpAnyZ_take (i := 2) (oi := ⟨some 72, _, _, _, _, _⟩) (v := ?_) rfl (by kernel_rfl) (by kernel_rfl) (by kernel_rfl) (by kernel_rfl) (fun _ _ _ h => h) (Or.inl ⟨by rfl, ?_⟩) (by assumption) ?_
        rotate_left
        · ((intro w hSw; (try dsimp only at hSw); go_simp); try with_reducible rfl)
        (try simp only [Act.put, List.setIfInBounds_toArray, List.set_cons_zero, List.set_cons_succ])
        refine wpAnyZ_take (i := 3) (oi := ⟨some 73, _, _, _, _, _⟩) (v := ?_) rfl (by kernel_rfl) (by kernel_rfl) (by kernel_rfl) (by kernel_rfl) (fun _ _ _ h => h) (Or.inl ⟨by rfl, ?_⟩) (by assumption) ?_
        rotate_left
        · ((intro w hSw; (try dsimp only at hSw); go_simp); try with_reducible rfl)
        (try simp only [Act.put, List.setIfInBounds_toArray, List.set_cons_zero, List.set_cons_succ])
        refine wpAnyZ_take (i := 4) (oi := ⟨some 74, _, _, _, _, _⟩) (v := ?_) rfl (by kernel_rfl) (by kernel_rfl) (by kernel_rfl) (by kernel_rfl) (fun _ _ _ h => h) (Or.inl ⟨by rfl, ?_⟩) (by assumption) ?_
        rotate_left
        · ((intro w hSw; (try dsimp only at hSw); go_simp); try with_reducible rfl)
        (try simp only [Act.put, List.setIfInBounds_toArray, List.set_cons_zero, List.set_cons_succ])
        refine wpAnyZ_take (i := 6) (oi := ⟨some 76, _, _, _, _, _⟩) (v := ?_) rfl (by kernel_rfl) (by kernel_rfl) (by kernel_rfl) (by kernel_rfl) (fun _ _ _ h => h) (Or.inl ⟨by rfl, ?_⟩) (by assumption) ?_
        rotate_left
        · ((intro w hSw; (try dsimp only at hSw); go_simp); try with_reducible rfl)
        (try simp only [Act.put, List.setIfInBounds_toArray, List.set_cons_zero, List.set_cons_succ])
        refine wpAnyZ_take (i := 7) (oi := ⟨some 77, _, _, _, _, _⟩) (v := ?_) rfl (by kernel_rfl) (by kernel_rfl) (by kernel_rfl) (by kernel_rfl) (fun _ _ _ h => h) (Or.inl ⟨by rfl, ?_⟩) (by assumption) ?_
        rotate_left
        · ((intro w hSw; (try dsimp only at hSw); go_simp); try with_reducible rfl)
        (try simp only [Act.put, List.setIfInBounds_toArray, List.set_cons_zero, List.set_cons_succ])
        refine wpAnyZ_take (i := 10) (oi := ⟨some 80, _, _, _, _, _⟩) (v := ?_) rfl (by kernel_rfl) (by kernel_rfl) (by kernel_rfl) (by kernel_rfl) (fun _ _ _ h => h) (Or.inl ⟨by rfl, ?_⟩) (by assumption) ?_
        rotate_left
        · ((intro w hSw; (try dsimp only at hSw); go_simp); try with_reducible rfl)
        (try simp only [Act.put, List.setIfInBounds_toArray, List.set_cons_zero, List.set_cons_succ])
        refine wpAnyZ_take (i := 11) (oi := ⟨some 81, _, _, _, _, _⟩) (v := ?_) rfl (by kernel_rfl) (by kernel_rfl) (by kernel_rfl) (by kernel_rfl) (fun _ _ _ h => h) (Or.inl ⟨by rfl, ?_⟩) (by assumption) ?_
        rotate_left
        · ((intro w hSw; (try dsimp only at hSw); go_simp); try with_reducible rfl)
        (try simp only [Act.put, List.setIfInBounds_toArray, List.set_cons_zero, List.set_cons_succ])
        refine wpAnyZ_two (i := 5) (j := 9) (by kernel_rfl) rfl rfl (fun K hK => ?_) (fun K hK => ?_)
        · rw [if_pos (by rfl)]
          go_simp
          have hk1 : Below W3.heap.size W3 (W3.drew.alloc (.cells #[] 3)) := ((Below.refl _ _).drew).alloc (by simp) _
          refine hK.out _ _ (HKS.out _ hk1) (fun hHeld => ?_)
          clear hK K
          (try simp only [Act.put, List.setIfInBounds_toArray, List.set_cons_zero, List.set_cons_succ])
          refine wpAnyZ_two (i := 8) (j := 9) (by kernel_rfl) rfl rfl (fun K hK => ?_) (fun K hK => ?_)
          · refine step_copy_keep (by rfl) _ _ 36 (by rfl) 3 Tryd.underlying36 info_int (X + 1) ⟨W3.heap.size, 0, none⟩ (by rfl) (OwnsI.laid (by simp) HXZ.out) (by have := HXZ.out; simp; omega) pa pn pc x.fields (by rfl) HN2.out ((HN1.out.below HXS.out.bel (by simp [← HXE.out])).below hk1 (Nat.le_refl _)) (by omega) ?_
            intro va5 vn5 vc5 w5 hown5 hb5 _
            have HB5 := Lib.hid (keepB hk1 hb5)
            have HO5 := Lib.hid hown5
            clear hown5 hb5
            refine hK.out _ _ (HKS.out _ HB5.out) (fun hHeld => ?_)
            clear hK K
            (try simp only [Act.put, List.setIfInBounds_toArray, List.set_cons_zero, List.set_cons_succ])
            refine wpAnyZ_one (i := 9) (by kernel_rfl) rfl (fun K hK => ?_)
            rw [if_pos (by rfl)]
            go_simp
            have hk2 := HB5.out.alloc HB5.out.size (.cells #[] 3)
            refine hK.out _ _ (HKS.out _ hk2) (fun hHeld => ?_)
            clear hK K
            (try simp only [Act.put, List.setIfInBounds_toArray, List.set_cons_zero, List.set_cons_succ])
            refine wpAnyZ_one (i := 12) (by kernel_rfl) rfl (fun K hK => ?_)
            refine step_copy_keep (by rfl) _ _ 36 (by rfl) 3 Tryd.underlying36 info_int (X + 1) ⟨w5.heap.size, 0, none⟩ (by rfl) (OwnsI.laid (by simp) (Nat.le_trans HXZ.out HB5.out.size)) (by have := HXZ.out; have := HB5.out.size; first | omega | (simp; omega)) ma mn mc x.methods (by rfl) HU2.out ((HU1.out.below HXS.out.bel (by simp [← HXE.out])).below hk2 (Nat.le_refl _)) (by omega) ?_
            intro va6 vn6 vc6 w6 hown6 hb6 _
            have HB6 := Lib.hid (keepB hk2 hb6)
            have HO6 := Lib.hid hown6
            have HO56 := Lib.hid ((HO5.out.below ((Below.refl _ _).alloc (Nat.le_refl _) (.cells #[] 3))).below hb6)
            clear hown6 hb6
            refine hK.out _ _ (HKS.out _ HB6.out) (fun hHeld => ?_)
            clear hK K
            (try simp only [Act.put, List.setIfInBounds_toArray, List.set_cons_zero, List.set_cons_succ])
            refine wpAnyZ_take (i := 13) (oi := ⟨some 83, _, _, _, _, _⟩) (v := ?_) rfl (by kernel_rfl) (by kernel_rfl) (by kernel_rfl) (by kernel_rfl) (fun _ _ _ h => h) (Or.inl ⟨by rfl, ?_⟩) (by assumption) ?_
            rotate_left
            · ((intro w hSw; (try dsimp only at hSw); go_simp); try with_reducible rfl)
            (try simp only [Act.put, List.setIfInBounds_toArray, List.set_cons_zero, List.set_cons_succ])
            refine wpAnyZ_one (i := 14) (by kernel_rfl) rfl (fun K hK => ?_)
            rw [if_pos (by rfl)]
            go_simp
            have hka := HB6.out.alloc HB6.out.size (.cells #[.slice va5 vn5 vc5, .slice va6 vn6 vc6] 54)
            refine hK.out _ _ (HKS.out _ hka) (fun hHeld => ?_)
            clear hK K
            (try simp only [Act.put, List.setIfInBounds_toArray, List.set_cons_zero, List.set_cons_succ])
            refine wpAnyZ_one (i := 15) (by kernel_rfl) rfl (fun K hK => ?_)
            have HBW : RowKit.Hid (Below wr.heap.size wr w6) := Lib.hid (keepB HXS.out.bel HB6.out)
            refine step_append_elem2 w6 (by rfl) _ _ 23 (by rfl) 54 Tryd.underlying23 _ 2 48 info_cls rfl (by decide) (by decide) ClassO.holds B2 (.slice va vn vc) (P.classes.take i) (by rfl) (HI.out.2.1.holds ClassO.holds (fun b hb hs => ⟨HBW.out.block b hb, hs⟩)) (Nat.le_trans HZ.out.2 HBW.out.size) _ 1 w6.heap.size (by rfl) rfl rfl (by intro u hu; simp at hu; rcases hu with rfl | rfl <;> rfl) ⟨x.fields, x.methods⟩ wr.heap.size ⟨_, _, rfl, OwnsI.numsO (HO56.out.mono (by have := HXE.out; omega)) (by rw [HPL.out]; omega) HR1.out, OwnsI.numsO (HO6.out.mono (by have := HXE.out; omega)) (by rw [HML.out]; omega) HR2.out⟩ HZ.out.2 HFR.out HTK.out ?_
            intro va7 vn7 vc7 w7 hrow7 hb7 hk7
            have HR7 := Lib.hid hrow7
            have HX7 : RowKit.Hid (w7.heap[X]? = some (.cells #[.slice pa pn pc, .slice ma mn mc] 54 (0, 0))) := Lib.hid ((hk7 X (Nat.lt_of_lt_of_le HXZ.out HB6.out.size) (fun e => by have := HFR.out X e; have := HXE.out; omega)).trans (HXS.out.past HB6.out).e)
            have HS7 := Lib.hid ((HI.out.1.past HBW.out).news hb7 HZ.out.1)
            have HP7 : RowKit.Hid (RowO 52 2 SigO w7 (Amid_ (O + 1) B2) (.slice ua un uc) P.sigs) := Lib.hid ((HI.out.2.2.1.holds SigO.holds (S' := Amid_ (O + 1) B2) (fun b hb hs => ⟨HBW.out.block b hb, hs⟩)).holds SigO.holds (fun b hb hs => ⟨hb7.block b hs.2, hs⟩))
            have HZ7 : RowKit.Hid (B2 ≤ w7.heap.size) := Lib.hid (Nat.le_trans (Nat.le_trans HZ.out.2 HBW.out.size) hb7.size)
            clear hrow7 hb7 hk7 hka
            refine hK.out _ _ ⟨by simp [World.cell?, HX7.out], by simp [World.cell?, HX7.out], HS7.out.ec 1⟩ (fun hHeld => ?_)
            clear hK K
            (try simp only [Act.put, List.setIfInBounds_toArray, List.set_cons_zero, List.set_cons_succ])
            refine wpAnyZ_one (i := 16) (by kernel_rfl) rfl (fun K hK => ?_)
            rw [if_pos (by rfl)]
            go_simp
            refine hK.out _ _ hHeld (fun hHeld => ?_)
            clear hK K
            (try simp only [Act.put, List.setIfInBounds_toArray, List.set_cons_zero, List.set_cons_succ])
            refine wpAnyZ_one (i := 17) (by kernel_rfl) rfl (fun K hK => ?_)
            rw [if_pos (by rfl)]
            go_simp
            refine hK.out _ _ hHeld (fun hHeld => ?_)
            clear hK K
            (try simp only [Act.put, List.setIfInBounds_toArray, List.set_cons_zero, List.set_cons_succ])
            have f7 := HS7.out.ef 1
            have e7 := HS7.out.ec 1
            refine wpAnyZ_last (by kernel_rfl) rfl (by kernel_rfl) (fun K hK => ?_)
            rw [if_pos (by rfl)]
            go_simp
            refine hK.out _ _ ?_
            clear hK K
            (try simp only [Act.put, List.setIfInBounds_toArray, List.set_cons_zero, List.set_cons_succ])
            go_wp2_with fail
            go_roundw
            case rel => exact ⟨i + 1, va7, vn7, vc7, by have := HLT.out; omega, by go_num, (HPC.out _ (HS7.out.set 1 _).bel).2.1, Lib.hid ⟨HS7.out.set 1 _, by rw [List.take_succ_eq_append_getElem HIL.out, HX.out]; exact HR7.out.stored_ ClassO.holds 1 _ HZ.out.1, HP7.out.holds SigO.holds (fun b hb hs => ⟨Below.heap_setCell _ _ _ _ (by have := hs.1; simp only; omega), hs⟩), by simpa [World.setCell] using HZ7.out⟩⟩
            case measure => simp [intOf]; omega
          · rw [if_pos (by rfl)]
            go_simp
            have hk2 : Below W3.heap.size W3 ((W3.drew.alloc (.cells #[] 3)).alloc (.cells #[] 3)) := hk1.alloc (by simp) _
            refine hK.out _ _ (HKS.out _ hk2) (fun hHeld => ?_)
            clear hK K
            (try simp only [Act.put, List.setIfInBounds_toArray, List.set_cons_zero, List.set_cons_succ])
            refine wpAnyZ_one (i := 8) (by kernel_rfl) rfl (fun K hK => ?_)
            refine step_copy_keep (by rfl) _ _ 36 (by rfl) 3 Tryd.underlying36 info_int (X + 1) ⟨W3.heap.size, 0, none⟩ (by rfl) ((OwnsI.laid (w := W3.drew) (by simp) HXZ.out).below ((Below.refl _ _).alloc (Nat.le_refl _) _)) (by have := HXZ.out; simp; omega) pa pn pc x.fields (by rfl) HN2.out ((HN1.out.below HXS.out.bel (by simp [← HXE.out])).below hk2 (Nat.le_refl _)) (by omega) ?_
            intro va5 vn5 vc5 w5 hown5 hb5 _
            have HB5 := Lib.hid (keepB hk2 hb5)
            have HO5 := Lib.hid hown5
            have HC5 := Lib.hid hb5
            clear hown5 hb5
            refine hK.out _ _ (HKS.out _ HB5.out) (fun hHeld => ?_)
            clear hK K
            (try simp only [Act.put, List.setIfInBounds_toArray, List.set_cons_zero, List.set_cons_succ])
            refine wpAnyZ_one (i := 12) (by kernel_rfl) rfl (fun K hK => ?_)
            refine step_copy_keep (by rfl) _ _ 36 (by rfl) 3 Tryd.underlying36 info_int (X + 1) ⟨W3.heap.size + 1, 0, none⟩ (by rfl) (OwnsI.empty_at ((HC5.out.block (W3.heap.size + 1) (by simp)).trans (alloc_at (by simp))) (by have := HXZ.out; omega)) (by have := HXZ.out; have := HB5.out.size; first | omega | (simp; omega)) ma mn mc x.methods (by rfl) HU2.out ((HU1.out.below HXS.out.bel (by simp [← HXE.out])).below HB5.out (Nat.le_refl _)) (by omega) ?_
            intro va6 vn6 vc6 w6 hown6 hb6 _
            have HB6 := Lib.hid (keepB HB5.out hb6)
            have HO6 := Lib.hid hown6
            have HO56 := Lib.hid (HO5.out.below hb6)
            clear hown6 hb6
            refine hK.out _ _ (HKS.out _ HB6.out) (fun hHeld => ?_)
            clear hK K
            (try simp only [Act.put, List.setIfInBounds_toArray, List.set_cons_zero, List.set_cons_succ])
            refine wpAnyZ_take (i := 13) (oi := ⟨some 83, _, _, _, _, _⟩) (v := ?_) rfl (by kernel_rfl) (by kernel_rfl) (by kernel_rfl) (by kernel_rfl) (fun _ _ _ h => h) (Or.inl ⟨by rfl, ?_⟩) (by assumption) ?_
            rotate_left
            · ((intro w hSw; (try dsimp only at hSw); go_simp); try with_reducible rfl)
            (try simp only [Act.put, List.setIfInBounds_toArray, List.set_cons_zero, List.set_cons_succ])
            refine wpAnyZ_one (i := 14) (by kernel_rfl) rfl (fun K hK => ?_)
            rw [if_pos (by rfl)]
            go_simp
            have hka := HB6.out.alloc HB6.out.size (.cells #[.slice va5 vn5 vc5, .slice va6 vn6 vc6] 54)
            refine hK.out _ _ (HKS.out _ hka) (fun hHeld => ?_)
            clear hK K
            (try simp only [Act.put, List.setIfInBounds_toArray, List.set_cons_zero, List.set_cons_succ])
            refine wpAnyZ_one (i := 15) (by kernel_rfl) rfl (fun K hK => ?_)
            have HBW : RowKit.Hid (Below wr.heap.size wr w6) := Lib.hid (keepB HXS.out.bel HB6.out)
            refine step_append_elem2 w6 (by rfl) _ _ 23 (by rfl) 54 Tryd.underlying23 _ 2 48 info_cls rfl (by decide) (by decide) ClassO.holds B2 (.slice va vn vc) (P.classes.take i) (by rfl) (HI.out.2.1.holds ClassO.holds (fun b hb hs => ⟨HBW.out.block b hb, hs⟩)) (Nat.le_trans HZ.out.2 HBW.out.size) _ 1 w6.heap.size (by rfl) rfl rfl (by intro u hu; simp at hu; rcases hu with rfl | rfl <;> rfl) ⟨x.fields, x.methods⟩ wr.heap.size ⟨_, _, rfl, OwnsI.numsO (HO56.out.mono (by have := HXE.out; omega)) (by rw [HPL.out]; omega) HR1.out, OwnsI.numsO (HO6.out.mono (by have := HXE.out; omega)) (by rw [HML.out]; omega) HR2.out⟩ HZ.out.2 HFR.out HTK.out ?_
            intro va7 vn7 vc7 w7 hrow7 hb7 hk7
            have HR7 := Lib.hid hrow7
            have HX7 : RowKit.Hid (w7.heap[X]? = some (.cells #[.slice pa pn pc, .slice ma mn mc] 54 (0, 0))) := Lib.hid ((hk7 X (Nat.lt_of_lt_of_le HXZ.out HB6.out.size) (fun e => by have := HFR.out X e; have := HXE.out; omega)).trans (HXS.out.past HB6.out).e)
            have HS7 := Lib.hid ((HI.out.1.past HBW.out).news hb7 HZ.out.1)
            have HP7 : RowKit.Hid (RowO 52 2 SigO w7 (Amid_ (O + 1) B2) (.slice ua un uc) P.sigs) := Lib.hid ((HI.out.2.2.1.holds SigO.holds (S' := Amid_ (O + 1) B2) (fun b hb hs => ⟨HBW.out.block b hb, hs⟩)).holds SigO.holds (fun b hb hs => ⟨hb7.block b hs.2, hs⟩))
            have HZ7 : RowKit.Hid (B2 ≤ w7.heap.size) := Lib.hid (Nat.le_trans (Nat.le_trans HZ.out.2 HBW.out.size) hb7.size)
            clear hrow7 hb7 hk7 hka
            refine hK.out _ _ ⟨by simp [World.cell?, HX7.out], by simp [World.cell?, HX7.out], HS7.out.ec 1⟩ (fun hHeld => ?_)
            clear hK K
            (try simp only [Act.put, List.setIfInBounds_toArray, List.set_cons_zero, List.set_cons_succ])
            refine wpAnyZ_one (i := 16) (by kernel_rfl) rfl (fun K hK => ?_)
            rw [if_pos (by rfl)]
            go_simp
            refine hK.out _ _ hHeld (fun hHeld => ?_)
            clear hK K
            (try simp only [Act.put, List.setIfInBounds_toArray, List.set_cons_zero, List.set_cons_succ])
            refine wpAnyZ_one (i := 17) (by kernel_rfl) rfl (fun K hK => ?_)
            rw [if_pos (by rfl)]
            go_simp
            refine hK.out _ _ hHeld (fun hHeld => ?_)
            clear hK K
            (try simp only [Act.put, List.setIfInBounds_toArray, List.set_cons_zero, List.set_cons_succ])
            have f7 := HS7.out.ef 1
            have e7 := HS7.out.ec 1
            refine wpAnyZ_last (by kernel_rfl) rfl (by kernel_rfl) (fun K hK => ?_)
            rw [if_pos (by rfl)]
            go_simp
            refine hK.out _ _ ?_
            clear hK K
            (try simp only [Act.put, List.setIfInBounds_toArray, List.set_cons_zero, List.set_cons_succ])
            go_wp2_with fail
            go_roundw
            case rel => exact ⟨i + 1, va7, vn7, vc7, by have := HLT.out; omega, by go_num, (HPC.out _ (HS7.out.set 1 _).bel).2.1, Lib.hid ⟨HS7.out.set 1 _, by rw [List.take_succ_eq_append_getElem HIL.out, HX.out]; exact HR7.out.stored_ ClassO.holds 1 _ HZ.out.1, HP7.out.holds SigO.holds (fun b hb hs => ⟨Below.heap_setCell _ _ _ _ (by have := hs.1; simp only; omega), hs⟩), by simpa [World.setCell] using HZ7.out⟩⟩
            case measure => simp [intOf]; omega
        · rw [if_pos (by rfl)]
          go_simp
          have hk1 : Below W3.heap.size W3 (W3.drew.alloc (.cells #[] 3)) := ((Below.refl _ _).drew).alloc (by simp) _
          refine hK.out _ _ (HKS.out _ hk1) (fun hHeld => ?_)
          clear hK K
          (try simp only [Act.put, List.setIfInBounds_toArray, List.set_cons_zero, List.set_cons_succ])
          refine wpAnyZ_one (i := 5) (by kernel_rfl) rfl (fun K hK => ?_)
          rw [if_pos (by rfl)]
          go_simp
          have hk2 : Below W3.heap.size W3 ((W3.drew.alloc (.cells #[] 3)).alloc (.cells #[] 3)) := hk1.alloc (by simp) _
          refine hK.out _ _ (HKS.out _ hk2) (fun hHeld => ?_)
          clear hK K
          (try simp only [Act.put, List.setIfInBounds_toArray, List.set_cons_zero, List.set_cons_succ])
          refine wpAnyZ_one (i := 8) (by kernel_rfl) rfl (fun K hK => ?_)
          refine step_copy_keep (by rfl) _ _ 36 (by rfl) 3 Tryd.underlying36 info_int (X + 1) ⟨W3.heap.size + 1, 0, none⟩ (by rfl) (OwnsI.laid (by simp) (by have := HXZ.out; omega)) (by have := HXZ.out; simp; omega) pa pn pc x.fields (by rfl) HN2.out ((HN1.out.below HXS.out.bel (by simp [← HXE.out])).below hk2 (Nat.le_refl _)) (by omega) ?_
          intro va5 vn5 vc5 w5 hown5 hb5 _
          have HB5 := Lib.hid (keepB hk2 hb5)
          have HO5 := Lib.hid hown5
          have HC5 := Lib.hid hb5
          clear hown5 hb5
          refine hK.out _ _ (HKS.out _ HB5.out) (fun hHeld => ?_)
          clear hK K
          (try simp only [Act.put, List.setIfInBounds_toArray, List.set_cons_zero, List.set_cons_succ])
          refine wpAnyZ_one (i := 12) (by kernel_rfl) rfl (fun K hK => ?_)
          refine step_copy_keep (by rfl) _ _ 36 (by rfl) 3 Tryd.underlying36 info_int (X + 1) ⟨W3.heap.size, 0, none⟩ (by rfl) (OwnsI.empty_at ((HC5.out.block W3.heap.size (by simp; omega)).trans ((heap_alloc_old _ _ (by simp)).trans (alloc_at (by simp)))) HXZ.out) (by have := HXZ.out; have := HB5.out.size; first | omega | (simp; omega)) ma mn mc x.methods (by rfl) HU2.out ((HU1.out.below HXS.out.bel (by simp [← HXE.out])).below HB5.out (Nat.le_refl _)) (by omega) ?_
          intro va6 vn6 vc6 w6 hown6 hb6 _
          have HB6 := Lib.hid (keepB HB5.out hb6)
          have HO6 := Lib.hid hown6
          have HO56 := Lib.hid (HO5.out.below hb6)
          clear hown6 hb6
          refine hK.out _ _ (HKS.out _ HB6.out) (fun hHeld => ?_)
          clear hK K
          (try simp only [Act.put, List.setIfInBounds_toArray, List.set_cons_zero, List.set_cons_succ])
          refine wpAnyZ_take (i := 13) (oi := ⟨some 83, _, _, _, _, _⟩) (v := ?_) rfl (by kernel_rfl) (by kernel_rfl) (by kernel_rfl) (by kernel_rfl) (fun _ _ _ h => h) (Or.inl ⟨by rfl, ?_⟩) (by assumption) ?_
          rotate_left
          · ((intro w hSw; (try dsimp only at hSw); go_simp); try with_reducible rfl)
          (try simp only [Act.put, List.setIfInBounds_toArray, List.set_cons_zero, List.set_cons_succ])
          refine wpAnyZ_one (i := 14) (by kernel_rfl) rfl (fun K hK => ?_)
          rw [if_pos (by rfl)]
          go_simp
          have hka := HB6.out.alloc HB6.out.size (.cells #[.slice va5 vn5 vc5, .slice va6 vn6 vc6] 54)
          refine hK.out _ _ (HKS.out _ hka) (fun hHeld => ?_)
          clear hK K
          (try simp only [Act.put, List.setIfInBounds_toArray, List.set_cons_zero, List.set_cons_succ])
          refine wpAnyZ_one (i := 15) (by kernel_rfl) rfl (fun K hK => ?_)
          have HBW : RowKit.Hid (Below wr.heap.size wr w6) := Lib.hid (keepB HXS.out.bel HB6.out)
          refine step_append_elem2 w6 (by rfl) _ _ 23 (by rfl) 54 Tryd.underlying23 _ 2 48 info_cls rfl (by decide) (by decide) ClassO.holds B2 (.slice va vn vc) (P.classes.take i) (by rfl) (HI.out.2.1.holds ClassO.holds (fun b hb hs => ⟨HBW.out.block b hb, hs⟩)) (Nat.le_trans HZ.out.2 HBW.out.size) _ 1 w6.heap.size (by rfl) rfl rfl (by intro u hu; simp at hu; rcases hu with rfl | rfl <;> rfl) ⟨x.fields, x.methods⟩ wr.heap.size ⟨_, _, rfl, OwnsI.numsO (HO56.out.mono (by have := HXE.out; omega)) (by rw [HPL.out]; omega) HR1.out, OwnsI.numsO (HO6.out.mono (by have := HXE.out; omega)) (by rw [HML.out]; omega) HR2.out⟩ HZ.out.2 HFR.out HTK.out ?_
          intro va7 vn7 vc7 w7 hrow7 hb7 hk7
          have HR7 := Lib.hid hrow7
          have HX7 : RowKit.Hid (w7.heap[X]? = some (.cells #[.slice pa pn pc, .slice ma mn mc] 54 (0, 0))) := Lib.hid ((hk7 X (Nat.lt_of_lt_of_le HXZ.out HB6.out.size) (fun e => by have := HFR.out X e; have := HXE.out; omega)).trans (HXS.out.past HB6.out).e)
          have HS7 := Lib.hid ((HI.out.1.past HBW.out).news hb7 HZ.out.1)
          have HP7 : RowKit.Hid (RowO 52 2 SigO w7 (Amid_ (O + 1) B2) (.slice ua un uc) P.sigs) := Lib.hid ((HI.out.2.2.1.holds SigO.holds (S' := Amid_ (O + 1) B2) (fun b hb hs => ⟨HBW.out.block b hb, hs⟩)).holds SigO.holds (fun b hb hs => ⟨hb7.block b hs.2, hs⟩))
          have HZ7 : RowKit.Hid (B2 ≤ w7.heap.size) := Lib.hid (Nat.le_trans (Nat.le_trans HZ.out.2 HBW.out.size) hb7.size)
          clear hrow7 hb7 hk7 hka
          refine hK.out _ _ ⟨by simp [World.cell?, HX7.out], by simp [World.cell?, HX7.out], HS7.out.ec 1⟩ (fun hHeld => ?_)
          clear hK K
          (try simp only [Act.put, List.setIfInBounds_toArray, List.set_cons_zero, List.set_cons_succ])
          refine wpAnyZ_one (i := 16) (by kernel_rfl) rfl (fun K hK => ?_)
          rw [if_pos (by rfl)]
          go_simp
          refine hK.out _ _ hHeld (fun hHeld => ?_)
          clear hK K
          (try simp only [Act.put, List.setIfInBounds_toArray, List.set_cons_zero, List.set_cons_succ])
          refine wpAnyZ_one (i := 17) (by kernel_rfl) rfl (fun K hK => ?_)
          rw [if_pos (by rfl)]
          go_simp
          refine hK.out _ _ hHeld (fun hHeld => ?_)
          clear hK K
          (try simp only [Act.put, List.setIfInBounds_toArray, List.set_cons_zero, List.set_cons_succ])
          have f7 := HS7.out.ef 1
          have e7 := HS7.out.ec 1
          refine wpAnyZ_last (by kernel_rfl) rfl (by kernel_rfl) (fun K hK => ?_)
          rw [if_pos (by rfl)]
          go_simp
          refine hK.out _ _ ?_
          clear hK K
          (try simp only [Act.put, List.setIfInBounds_toArray, List.set_cons_zero, List.set_cons_succ])
          go_wp2_with fail
          go_roundw
          case rel => exact ⟨i + 1, va7, vn7, vc7, by have := HLT.out; omega, by go_num, (HPC.out _ (HS7.out.set 1 _).bel).2.1, Lib.hid ⟨HS7.out.set 1 _, by rw [List.take_succ_eq_append_getElem HIL.out, HX.out]; exact HR7.out.stored_ ClassO.holds 1 _ HZ.out.1, HP7.out.holds SigO.holds (fun b hb hs => ⟨Below.heap_setCell _ _ _ _ (by have := hs.1; simp only; omega), hs⟩), by simpa [World.setCell] using HZ7.out⟩⟩
          case measure => simp [intOf]; omega
      obtain ⟨W2, rfl⟩ : ∃ v, v = wr := ⟨_, rfl⟩
      obtain ⟨xa, rfl⟩ : ∃ v, v = va := ⟨_, rfl⟩
      obtain ⟨xn, rfl⟩ : ∃ v, v = vn := ⟨_, rfl⟩
      obtain ⟨xc, rfl⟩ : ∃ v, v = vc := ⟨_, rfl⟩
      have HOS2 := Lib.hid HI.out.1
      obtain ⟨B3, hB3⟩ : ∃ B, B = W2.heap.size := ⟨_, rfl⟩
      have HPs2 : RowKit.Hid (RowO 52 2 SigO W2 (Amid_ (O + 1) B3) (.slice ua un uc) P.sigs) := Lib.hid (HI.out.2.2.1.holds SigO.holds (fun b hb hs => ⟨rfl, hs.1, by rw [hB3]; exact hb⟩))
      have HPc : RowKit.Hid (RowO 54 2 ClassO W2 (Amid_ (O + 1) B3) (.slice xa xn xc) P.classes) := Lib.hid (by have h := HI.out.2.1; rw [List.take_of_length_le (by rw [HLc.out]; omega)] at h; exact h.holds ClassO.holds (fun b hb hs => ⟨rfl, Nat.le_trans HB2.out.1 hs, by rw [hB3]; exact hb⟩))
      have HB3 : RowKit.Hid (O + 1 ≤ B3 ∧ B3 ≤ W2.heap.size) := Lib.hid ⟨by rw [hB3]; exact HI.out.1.elt, by omega⟩
      clear HI hB3 hi HPs
      obtain ⟨_, _, hpz⟩ := HPC.out _ HOS2.out.bel
      go_wp2_with fail
      clear hpy
      go_loopw [7] (fun iv wr => ∃ (i : Nat) (va : Option Addr) (vn vc : Nat), i ≤ fn ∧ iv = .int .i64 (i : Int) ∧ wr.cell? ⟨g, off + 2, none⟩ = some (.slice fa fn fc) ∧ RowKit.Hid (OSt w 26 O #[.slice ua un uc, .slice xa xn xc, .slice va vn vc] wr ∧ RowO 47 2 FuncO wr (From B3) (.slice va vn vc) ((P.funcs.take i).map plainFunc) ∧ RowO 52 2 SigO wr (Amid_ (O + 1) B3) (.slice ua un uc) P.sigs ∧ RowO 54 2 ClassO wr (Amid_ (O + 1) B3) (.slice xa xn xc) P.classes ∧ B3 ≤ wr.heap.size)) (fun iv _ => fn - (intOf iv).toNat)
      case atStart => exact ⟨0, none, 0, 0, Nat.zero_le _, rfl, hpz, Lib.hid ⟨HOS2.out, RowO.none _ _, HPs2.out, HPc.out, HB3.out.2⟩⟩
      case round =>
        obtain ⟨i, va, vn, vc, hi, rfl, hpz, HI⟩ := hrel
        obtain ⟨wi, rfl⟩ : ∃ v, v = wr := ⟨_, rfl⟩
        by_cases hlt : i < fn
        · have HLT := Lib.hid hlt
          have HIL : RowKit.Hid (i < P.funcs.length) := Lib.hid (by rw [HLf.out]; exact hlt)
          obtain ⟨h, oo, rfl, hh, hcs⟩ := rowV_at HRf.out (by omega)
          obtain ⟨cs, hc8, hcell, hq⟩ := hcs i HIL.out
          obtain ⟨x, hx⟩ : ∃ x, x = P.funcs[i]'HIL.out := ⟨_, rfl⟩
          rw [← hx] at hq
          have HX : RowKit.Hid (P.funcs[i]'HIL.out = x) := Lib.hid hx.symm
          have HSF : RowKit.Hid (SmFunc x) := Lib.hid (by rw [hx]; exact HM4.out _ (List.getElem_mem HIL.out))
          obtain ⟨bv, rfl, hrt, hbv⟩ := hq
          have hbv' := hbv
          obtain ⟨ba, bn, bc, rfl, hbl, _, hbm, _⟩ := hbv'
          have HRB := Lib.hid hbv
          have HBL := Lib.hid hbl
          have HRT := Lib.hid hrt
          have HZ : RowKit.Hid (O + 1 ≤ B3 ∧ B3 ≤ wi.heap.size) := Lib.hid ⟨HB3.out.1, HI.out.2.2.2.2⟩
          have HWB := Lib.hid HI.out.1.bel
          have HFR : RowKit.Hid (∀ b, (Value.slice va vn vc).ownBlock = some b → b < wi.heap.size) := Lib.hid fun b hb => (HI.out.2.1.own hb).2
          have HTK : RowKit.Hid (((P.funcs.take i).map plainFunc).length ≤ 100000) := Lib.hid (by rw [List.length_map, List.length_take]; have := HM3.out; omega)
          have HFC : RowKit.Hid (∀ u, Below w.heap.size w u → u.cell? ⟨g, off + 2, none⟩ = some (.slice (some ⟨h, oo, none⟩) fn fc) ∧ u.cell? ⟨h, oo + i * 2, none⟩ = some (.int .i64 x.ret) ∧ u.cell? ⟨h, oo + i * 2 + 1, none⟩ = some (.slice ba bn bc)) := Lib.hid fun u hb => ⟨(HPC.out u hb).2.2, (hb.cell (p := ⟨h, oo + i * 2 + 0, none⟩) hh).trans (hcell 0 (by simp)), (hb.cell (p := ⟨h, oo + i * 2 + 1, none⟩) hh).trans (hcell 1 (by simp))⟩
          obtain ⟨_, d0, d1⟩ := HFC.out wi HWB.out
          obtain ⟨F, hF⟩ : ∃ F, F = wi.heap.size := ⟨_, rfl⟩
          have HFS : RowKit.Hid (OSt wi 47 F #[.int .i64 x.ret, .slice none 0 0] (wi.alloc (.cells #[.int .i64 x.ret, .slice none 0 0] 47))) := Lib.hid ⟨by rw [hF]; exact heap_alloc_new wi _, (Below.refl _ _).alloc (Nat.le_refl _) _, by omega⟩
          have HFE : RowKit.Hid (F = wi.heap.size) := Lib.hid hF
          clear hcell hcs hx hc8 hbv hbl hrt hi
          go_upto_region 17 with fail
          rw [← hF]
          generalize hW3 : wi.alloc (.cells #[.int .i64 x.ret, .slice none 0 0] 47) = W3 at HFS ⊢
          clear hW3 hF d0 d1
          obtain ⟨hqz, _, hqb⟩ := HFC.out W3 (keepB HWB.out HFS.out.bel)
          go_wp2_with fail
          clear hpz
          go_loopw [9] (fun jv wk => ∃ (k : Nat) (ya : Option Addr) (yn yc : Nat), k ≤ bn ∧ jv = .int .i64 (k : Int) ∧ wk.cell? ⟨g, off + 2, none⟩ = some (.slice (some ⟨h, oo, none⟩) fn fc) ∧ wk.cell? ⟨h, oo + i * 2 + 1, none⟩ = some (.slice ba bn bc) ∧ RowKit.Hid (OSt wi 47 F #[.int .i64 x.ret, .slice ya yn yc] wk ∧ RowO 59 8 BlockO wk (From (F + 1)) (.slice ya yn yc) ((x.blocks.take k).map plainBlock))) (fun jv _ => bn - (intOf jv).toNat)
          case atStart => exact ⟨0, none, 0, 0, Nat.zero_le _, rfl, hqz, hqb, Lib.hid ⟨HFS.out, RowO.none _ _⟩⟩
          case round =>
            obtain ⟨k, ya, yn, yc, hk, rfl, hqz, hqb, HK⟩ := hrel
            obtain ⟨wk, rfl⟩ : ∃ v, v = wr := ⟨_, rfl⟩
            by_cases hlk : k < bn
            · have HLK := Lib.hid hlk
              have HKL : RowKit.Hid (k < x.blocks.length) := Lib.hid (by rw [HBL.out]; exact hlk)
              obtain ⟨hb, ob, rfl, hbb, hbs⟩ := rowV_at HRB.out (by omega)
              obtain ⟨cs, hc8, hcell, hq⟩ := hbs k HKL.out
              obtain ⟨y, hy⟩ : ∃ y, y = x.blocks[k]'HKL.out := ⟨_, rfl⟩
              rw [← hy] at hq
              have HY : RowKit.Hid (x.blocks[k]'HKL.out = y) := Lib.hid hy.symm
              have HSB : RowKit.Hid (y.ops.length ≤ 100000) := Lib.hid (by rw [hy]; exact HSF.out.2 _ (List.getElem_mem HKL.out))
              obtain ⟨pv, ov, es, rfl, ⟨pa, pn, pc, rfl, hn1, hn2, hm1, hr1⟩, hov, hes⟩ := hq
              have hov' := hov
              obtain ⟨oa, on, oc, rfl, hol, _, hom, _⟩ := hov'
              have hes' := hes
              obtain ⟨l1, m1, rfl, _, _, _, _, ⟨la, ln, lc, rfl, _⟩, ⟨ma, mn, mc, rfl, _⟩⟩ := hes'
              have HN2 := Lib.hid hn2
              have HR1 := Lib.hid hr1
              have HPL : RowKit.Hid (y.params.length = pn) := Lib.hid hn1.1
              have HRO := Lib.hid hov
              have HOL := Lib.hid hol
              have HKB := Lib.hid (keepB HWB.out HK.out.1.bel)
              have HN1 := Lib.hid (NumsAt.below hn1 HKB.out (Nat.le_refl _))
              have HEQ := Lib.hid (EndQ.lasts _ _ _ _ HKB.out hes)
              have d0 := (HKB.out.cell (p := ⟨hb, ob + k * 8 + 0, none⟩) hbb).trans (hcell 0 (by simp))
              have d1 := (HKB.out.cell (p := ⟨hb, ob + k * 8 + 1, none⟩) hbb).trans (hcell 1 (by simp))
              have d2 := (HKB.out.cell (p := ⟨hb, ob + k * 8 + 2, none⟩) hbb).trans (hcell 2 (by simp))
              have d3 := (HKB.out.cell (p := ⟨hb, ob + k * 8 + 3, none⟩) hbb).trans (hcell 3 (by simp))
              have d4 := (HKB.out.cell (p := ⟨hb, ob + k * 8 + 4, none⟩) hbb).trans (hcell 4 (by simp))
              have d5 := (HKB.out.cell (p := ⟨hb, ob + k * 8 + 5, none⟩) hbb).trans (hcell 5 (by simp))
              have d6 := (HKB.out.cell (p := ⟨hb, ob + k * 8 + 6, none⟩) hbb).trans (hcell 6 (by simp))
              have d7 := (HKB.out.cell (p := ⟨hb, ob + k * 8 + 7, none⟩) hbb).trans (hcell 7 (by simp))
              simp only [Nat.add_zero, List.getElem_cons_zero, List.getElem_cons_succ] at d0 d1 d2 d3 d4 d5 d6 d7
              have HFK : RowKit.Hid (F < wk.heap.size) := Lib.hid HK.out.1.elt
              obtain ⟨X, hX⟩ : ∃ X, X = wk.heap.size := ⟨_, rfl⟩
              have HXS : RowKit.Hid (OSt wk 59 X #[.slice pa pn pc, .slice oa on oc, .int .i64 y.fin.K, .int .i64 y.fin.A, .int .i64 y.fin.To, .int .i64 y.fin.Else, .slice la ln lc, .slice ma mn mc] (wk.alloc (.cells #[.slice pa pn pc, .slice oa on oc, .int .i64 y.fin.K, .int .i64 y.fin.A, .int .i64 y.fin.To, .int .i64 y.fin.Else, .slice la ln lc, .slice ma mn mc] 59))) := Lib.hid ⟨by rw [hX]; exact heap_alloc_new wk _, (Below.refl _ _).alloc (Nat.le_refl _) _, by omega⟩
              have HXE : RowKit.Hid (X = wk.heap.size) := Lib.hid hX
              have HXZ : RowKit.Hid ((wk.alloc (.cells #[.slice pa pn pc, .slice oa on oc, .int .i64 y.fin.K, .int .i64 y.fin.A, .int .i64 y.fin.To, .int .i64 y.fin.Else, .slice la ln lc, .slice ma mn mc] 59)).heap.size = X + 1) := Lib.hid (by rw [hX]; simp)
              clear hcell hbs hy hc8 hn1 hn2 hr1 hov hol hes hk
              go_upto_region 21 with fail
              rw [← hX]
              generalize hW5 : wk.alloc (.cells #[.slice pa pn pc, .slice oa on oc, .int .i64 y.fin.K, .int .i64 y.fin.A, .int .i64 y.fin.To, .int .i64 y.fin.Else, .slice la ln lc, .slice ma mn mc] 59) = W5 at HXS HXZ ⊢
              clear hW5 hX d0 d1 d2 d3 d4 d5 d6 d7
              clear hqz hqb
              go_cut [11] (fun yv wc => RowKit.Hid (∃ (Y : Nat) (qa : Option Addr) (qn qc : Nat) (k0 ka kt ke : Int) (ra : Option Addr) (rn rc : Nat) (ta : Option Addr) (tn tc : Nat), yv = .pointer (some ⟨Y, 0, none⟩) ∧ OSt W5 59 Y #[.slice qa qn qc, .slice none 0 0, .int .i64 k0, .int .i64 ka, .int .i64 kt, .int .i64 ke, .slice ra rn rc, .slice ta tn tc] wc ∧ NumsO wc (fun b => X < b ∧ b ≠ Y) (.slice qa qn qc) y.params ∧ EndO wc (fun b => X < b ∧ b ≠ Y) [.int .i64 k0, .int .i64 ka, .int .i64 kt, .int .i64 ke, .slice ra rn rc, .slice ta tn tc] (plainEnd y.fin)))
              case first =>
                have HKS : RowKit.Hid (∀ u, Below W5.heap.size W5 u → (fun u => u.cell? ⟨X, 0, none⟩ = some (.slice pa pn pc) ∧ u.cell? ⟨X, 2, none⟩ = some (.int .i64 y.fin.K) ∧ u.cell? ⟨X, 3, none⟩ = some (.int .i64 y.fin.A) ∧ u.cell? ⟨X, 4, none⟩ = some (.int .i64 y.fin.To) ∧ u.cell? ⟨X, 5, none⟩ = some (.int .i64 y.fin.Else) ∧ u.cell? ⟨X, 6, none⟩ = some (.slice la ln lc) ∧ u.cell? ⟨X, 7, none⟩ = some (.slice ma mn mc)) u) := Lib.hid fun u hb => ⟨(HXS.out.past hb).ec 0, (HXS.out.past hb).ec 2, (HXS.out.past hb).ec 3, (HXS.out.past hb).ec 4, (HXS.out.past hb).ec 5, (HXS.out.past hb).ec 6, (HXS.out.past hb).ec 7⟩
                refine wp_region_Z (S := (fun u => u.cell? ⟨X, 0, none⟩ = some (.slice pa pn pc) ∧ u.cell? ⟨X, 2, none⟩ = some (.int .i64 y.fin.K) ∧ u.cell? ⟨X, 3, none⟩ = some (.int .i64 y.fin.A) ∧ u.cell? ⟨X, 4, none⟩ = some (.int .i64 y.fin.To) ∧ u.cell? ⟨X, 5, none⟩ = some (.int .i64 y.fin.Else) ∧ u.cell? ⟨X, 6, none⟩ = some (.slice la ln lc) ∧ u.cell? ⟨X, 7, none⟩ = some (.slice ma mn mc))) 9 (by kernel_rfl) (HKS.out _ (Below.refl _ _).drew) (fun hHeld => ?_)
                refine wpAnyZ_take (i := 1) (oi := ⟨some 131, _, _, _, _, _⟩) (v := ?_) rfl (by kernel_rfl) (by kernel_rfl) (by kernel_rfl) (by kernel_rfl) (fun _ _ _ h => h) (Or.inl ⟨by rfl, ?_⟩) (by assumption) ?_
                rotate_left
                · ((intro w hSw; (try dsimp only at hSw); go_simp); try with_reducible rfl)
                (try simp only [Act.put, List.setIfInBounds_toArray, List.set_cons_zero, List.set_cons_succ])
                refine wpAnyZ_take (i := 2) (oi := ⟨some 132, _, _, _, _, _⟩) (v := ?_) rfl (by kernel_rfl) (by kernel_rfl) (by kernel_rfl) (by kernel_rfl) (fun _ _ _ h => h) (Or.inl ⟨by rfl, ?_⟩) (by assumption) ?_
                rotate_left
                · ((intro w hSw; (try dsimp only at hSw); go_simp); try with_reducible rfl)
                (try simp only [Act.put, List.setIfInBounds_toArray, List.set_cons_zero, List.set_cons_succ])
                refine wpAnyZ_take (i := 4) (oi := ⟨some 134, _, _, _, _, _⟩) (v := ?_) rfl (by kernel_rfl) (by kernel_rfl) (by kernel_rfl) (by kernel_rfl) (fun _ _ _ h => h) (Or.inl ⟨by rfl, ?_⟩) (by assumption) ?_
                rotate_left
                · ((intro w hSw; (try dsimp only at hSw); go_simp); try with_reducible rfl)
                (try simp only [Act.put, List.setIfInBounds_toArray, List.set_cons_zero, List.set_cons_succ])
                refine wpAnyZ_take (i := 5) (oi := ⟨some 135, _, _, _, _, _⟩) (v := ?_) rfl (by kernel_rfl) (by kernel_rfl) (by kernel_rfl) (by kernel_rfl) (fun _ _ _ h => h) (Or.inl ⟨by rfl, ?_⟩) (by assumption) ?_
                rotate_left
                · ((intro w hSw; (try dsimp only at hSw); go_simp); try with_reducible rfl)
                (try simp only [Act.put, List.setIfInBounds_toArray, List.set_cons_zero, List.set_cons_succ])
                have hk0 := (Below.refl W5.heap.size W5).drew
                refine wpAnyZ_two (i := 0) (j := 8) (by kernel_rfl) rfl rfl (fun K hK => ?_) (fun K hK => ?_)
                · rw [if_pos (by rfl)]
                  go_simp
                  have hks : Below W5.heap.size W5 (W5.drew.alloc (.cells #[] 3)) := hk0.alloc hk0.size _
                  refine hK.out _ _ (HKS.out _ hks) (fun hHeld => ?_)
                  clear hK K
                  (try simp only [Act.put, List.setIfInBounds_toArray, List.set_cons_zero, List.set_cons_succ])
                  refine wpAnyZ_two (i := 3) (j := 8) (by kernel_rfl) rfl rfl (fun K hK => ?_) (fun K hK => ?_)
                  · refine step_copy_keep (by rfl) _ _ 36 (by rfl) 3 Tryd.underlying36 info_int (X + 1) ⟨W5.heap.size, 0, none⟩ (by rfl) (OwnsI.laid (by simp) (by have := HXZ.out; omega)) (by have := HXZ.out; simp; (try omega)) pa pn pc y.params (by rfl) HN2.out ((HN1.out.below HXS.out.bel (by simp [← HXE.out])).below hks (Nat.le_refl _)) (by omega) ?_
                    intro qa qn qc w6 hown6 hb6 hq6
                    have HB6 := Lib.hid (keepB hks hb6)
                    have HO6 := Lib.hid hown6
                    have HA6 := Lib.hid hb6
                    have HQ6 := Lib.hid hq6
                    clear hown6 hb6 hq6
                    refine hK.out _ _ (HKS.out _ HB6.out) (fun hHeld => ?_)
                    clear hK K
                    (try simp only [Act.put, List.setIfInBounds_toArray, List.set_cons_zero, List.set_cons_succ])
                    refine wpAnyZ_two (i := 6) (j := 8) (by kernel_rfl) rfl rfl (fun K hK => ?_) (fun K hK => ?_)
                    · rw [if_pos (by rfl)]
                      go_simp
                      have HEX := Lib.hid (EndQ.lasts _ _ _ _ (keepB HXS.out.bel HB6.out) HEQ.out)
                      go_at_call 28
                      (with_reducible refine (ref_end_at y.fin.K y.fin.A y.fin.To y.fin.Else la ln lc ma mn mc y.fin _ HEX.out).mono ?_)
                      rintro e w7 ⟨k0, ka, kt, ke, ra, rn, rc, ta, tn, tc, rfl, he7, hb7⟩
                      have HB7 := Lib.hid (keepB HB6.out hb7)
                      have HE7 := Lib.hid he7
                      have HA7 := Lib.hid hb7
                      clear he7 hb7
                      refine hK.out _ _ (HKS.out _ HB7.out) (fun hHeld => ?_)
                      clear hK K
                      (try simp only [Act.put, List.setIfInBounds_toArray, List.set_cons_zero, List.set_cons_succ])
                      refine wpAnyZ_take (i := 7) (oi := ⟨some 137, _, _, _, _, _⟩) (v := ?_) rfl (by kernel_rfl) (by kernel_rfl) (by kernel_rfl) (by kernel_rfl) (fun _ _ _ h => h) (Or.inl ⟨by rfl, ?_⟩) (by assumption) ?_
                      rotate_left
                      · ((intro w hSw; (try dsimp only at hSw); go_simp); try with_reducible rfl)
                      (try simp only [Act.put, List.setIfInBounds_toArray, List.set_cons_zero, List.set_cons_succ])
                      refine wpAnyZ_one (i := 8) (by kernel_rfl) rfl (fun K hK => ?_)
                      rw [if_pos (by rfl)]
                      go_simp
                      have hky : Below W5.heap.size W5 (w7.alloc (.cells #[.slice none 0 0, .slice none 0 0, .int .i64 0, .int .i64 0, .int .i64 0, .int .i64 0, .slice none 0 0, .slice none 0 0] 59)) := HB7.out.alloc HB7.out.size _
                      have HYM : RowKit.Hid ((w7.alloc (.cells #[.slice none 0 0, .slice none 0 0, .int .i64 0, .int .i64 0, .int .i64 0, .int .i64 0, .slice none 0 0, .slice none 0 0] 59)).heap[w7.heap.size]? = some (.cells #[.slice none 0 0, .slice none 0 0, .int .i64 0, .int .i64 0, .int .i64 0, .int .i64 0, .slice none 0 0, .slice none 0 0] 59 (0, 0))) := Lib.hid (alloc_at (by simp))
                      refine hK.out _ _ (HKS.out _ hky) (fun hHeld => ?_)
                      clear hK K
                      (try simp only [Act.put, List.setIfInBounds_toArray, List.set_cons_zero, List.set_cons_succ])
                      have HAV : RowKit.Hid (Below w7.heap.size w7 (w7.alloc (.cells #[.slice none 0 0, .slice none 0 0, .int .i64 0, .int .i64 0, .int .i64 0, .int .i64 0, .slice none 0 0, .slice none 0 0] 59))) := Lib.hid ((Below.refl _ _).alloc (Nat.le_refl _) _)
                      generalize hv : w7.alloc (.cells #[.slice none 0 0, .slice none 0 0, .int .i64 0, .int .i64 0, .int .i64 0, .int .i64 0, .slice none 0 0, .slice none 0 0] 59) = v at HYM hky HAV hHeld ⊢
                      clear hv
                      have HSV : RowKit.Hid (OSt W5 59 (w7.heap.size) #[.slice none 0 0, .slice none 0 0, .int .i64 0, .int .i64 0, .int .i64 0, .int .i64 0, .slice none 0 0, .slice none 0 0] _) := Lib.hid ⟨HYM.out, hky, by (have := HXZ.out); (have := HB6.out.size); (try have := HB7.out.size); omega⟩
                      have HNV : RowKit.Hid (NumsO _ (fun b => X < b ∧ b ≠ w7.heap.size) (.slice qa qn qc) y.params) := Lib.hid ⟨(((HO6.out.below HA7.out).below HAV.out)).mono (Nat.zero_le _), fun b hb => by have h := HO6.out.lt b hb; have h2 := HA7.out.size; have := HXZ.out; exact ⟨by omega, by omega⟩, by rw [HPL.out]; omega, HR1.out⟩
                      have HEV : RowKit.Hid (EndO (v) (fun b => X < b ∧ b ≠ w7.heap.size) [.int .i64 k0, .int .i64 ka, .int .i64 kt, .int .i64 ke, .slice ra rn rc, .slice ta tn tc] (plainEnd y.fin)) := Lib.hid (EndO.holds _ _ _ _ _ _ (fun b hb hs => ⟨HAV.out.block b hb, by have hs : w6.heap.size ≤ b := hs; have := HB6.out.size; have := HXZ.out; exact ⟨by omega, by omega⟩⟩) HE7.out)
                      have f0 := HSV.out.ef
                      have e0 := HSV.out.ec
                      refine wpAnyZ_last (by kernel_rfl) rfl (by kernel_rfl) (fun K hK => ?_)
                      rw [if_pos (by rfl)]
                      go_simp
                      refine hK.out _ _ ?_
                      clear hK K
                      (try simp only [Act.put, List.setIfInBounds_toArray, List.set_cons_zero, List.set_cons_succ])
                      go_wp2_with fail
                      go_meet
                      exact Lib.hid ⟨_, qa, qn, qc, k0, ka, kt, ke, ra, rn, rc, ta, tn, tc, rfl, block_made HSV.out HNV.out HEV.out _ _ _ _ _ _ _ _⟩
                    · rw [if_pos (by rfl)]
                      go_simp
                      have hky : Below W5.heap.size W5 (w6.alloc (.cells #[.slice none 0 0, .slice none 0 0, .int .i64 0, .int .i64 0, .int .i64 0, .int .i64 0, .slice none 0 0, .slice none 0 0] 59)) := HB6.out.alloc HB6.out.size _
                      have HYM : RowKit.Hid ((w6.alloc (.cells #[.slice none 0 0, .slice none 0 0, .int .i64 0, .int .i64 0, .int .i64 0, .int .i64 0, .slice none 0 0, .slice none 0 0] 59)).heap[w6.heap.size]? = some (.cells #[.slice none 0 0, .slice none 0 0, .int .i64 0, .int .i64 0, .int .i64 0, .int .i64 0, .slice none 0 0, .slice none 0 0] 59 (0, 0))) := Lib.hid (alloc_at (by simp))
                      refine hK.out _ _ (HKS.out _ hky) (fun hHeld => ?_)
                      clear hK K
                      (try simp only [Act.put, List.setIfInBounds_toArray, List.set_cons_zero, List.set_cons_succ])
                      refine wpAnyZ_one (i := 6) (by kernel_rfl) rfl (fun K hK => ?_)
                      rw [if_pos (by rfl)]
                      go_simp
                      have HEX := Lib.hid (EndQ.lasts _ _ _ _ (keepB HXS.out.bel hky) HEQ.out)
                      go_at_call 28
                      (with_reducible refine (ref_end_at y.fin.K y.fin.A y.fin.To y.fin.Else la ln lc ma mn mc y.fin _ HEX.out).mono ?_)
                      rintro e w7 ⟨k0, ka, kt, ke, ra, rn, rc, ta, tn, tc, rfl, he7, hb7⟩
                      have HB7 := Lib.hid (keepB hky hb7)
                      have HE7 := Lib.hid he7
                      have HA7 := Lib.hid hb7
                      clear he7 hb7
                      refine hK.out _ _ (HKS.out _ HB7.out) (fun hHeld => ?_)
                      clear hK K
                      (try simp only [Act.put, List.setIfInBounds_toArray, List.set_cons_zero, List.set_cons_succ])
                      refine wpAnyZ_take (i := 7) (oi := ⟨some 137, _, _, _, _, _⟩) (v := ?_) rfl (by kernel_rfl) (by kernel_rfl) (by kernel_rfl) (by kernel_rfl) (fun _ _ _ h => h) (Or.inl ⟨by rfl, ?_⟩) (by assumption) ?_
                      rotate_left
                      · ((intro w hSw; (try dsimp only at hSw); go_simp); try with_reducible rfl)
                      (try simp only [Act.put, List.setIfInBounds_toArray, List.set_cons_zero, List.set_cons_succ])
                      have HSV : RowKit.Hid (OSt W5 59 (w6.heap.size) #[.slice none 0 0, .slice none 0 0, .int .i64 0, .int .i64 0, .int .i64 0, .int .i64 0, .slice none 0 0, .slice none 0 0] _) := Lib.hid ⟨(HA7.out.block _ (by simp)).trans HYM.out, HB7.out, by (have := HXZ.out); (have := HB6.out.size); (try have := HB7.out.size); omega⟩
                      have HNV : RowKit.Hid (NumsO _ (fun b => X < b ∧ b ≠ w6.heap.size) (.slice qa qn qc) y.params) := Lib.hid ⟨(((HO6.out.below ((Below.refl _ _).alloc (Nat.le_refl _) (.cells #[.slice none 0 0, .slice none 0 0, .int .i64 0, .int .i64 0, .int .i64 0, .int .i64 0, .slice none 0 0, .slice none 0 0] 59))).below HA7.out)).mono (Nat.zero_le _), fun b hb => by have h := HO6.out.lt b hb; have := HXZ.out; exact ⟨by omega, by omega⟩, by rw [HPL.out]; omega, HR1.out⟩
                      have HEV : RowKit.Hid (EndO (w7) (fun b => X < b ∧ b ≠ w6.heap.size) [.int .i64 k0, .int .i64 ka, .int .i64 kt, .int .i64 ke, .slice ra rn rc, .slice ta tn tc] (plainEnd y.fin)) := Lib.hid (EndO.holds _ _ _ _ _ _ (fun b hb hs => ⟨rfl, by have hs : (w6.alloc (.cells #[.slice none 0 0, .slice none 0 0, .int .i64 0, .int .i64 0, .int .i64 0, .int .i64 0, .slice none 0 0, .slice none 0 0] 59)).heap.size ≤ b := hs; simp at hs; have := HB6.out.size; have := HXZ.out; exact ⟨by omega, by omega⟩⟩) HE7.out)
                      have f0 := HSV.out.ef
                      have e0 := HSV.out.ec
                      refine wpAnyZ_last (by kernel_rfl) rfl (by kernel_rfl) (fun K hK => ?_)
                      rw [if_pos (by rfl)]
                      go_simp
                      refine hK.out _ _ ?_
                      clear hK K
                      (try simp only [Act.put, List.setIfInBounds_toArray, List.set_cons_zero, List.set_cons_succ])
                      go_wp2_with fail
                      go_meet
                      exact Lib.hid ⟨_, qa, qn, qc, k0, ka, kt, ke, ra, rn, rc, ta, tn, tc, rfl, block_made HSV.out HNV.out HEV.out _ _ _ _ _ _ _ _⟩
                  · rw [if_pos (by rfl)]
                    go_simp
                    have hky : Below W5.heap.size W5 ((W5.drew.alloc (.cells #[] 3)).alloc (.cells #[.slice none 0 0, .slice none 0 0, .int .i64 0, .int .i64 0, .int .i64 0, .int .i64 0, .slice none 0 0, .slice none 0 0] 59)) := hks.alloc hks.size _
                    have HYM : RowKit.Hid (((W5.drew.alloc (.cells #[] 3)).alloc (.cells #[.slice none 0 0, .slice none 0 0, .int .i64 0, .int .i64 0, .int .i64 0, .int .i64 0, .slice none 0 0, .slice none 0 0] 59)).heap[W5.heap.size + 1]? = some (.cells #[.slice none 0 0, .slice none 0 0, .int .i64 0, .int .i64 0, .int .i64 0, .int .i64 0, .slice none 0 0, .slice none 0 0] 59 (0, 0))) := Lib.hid (alloc_at (by simp))
                    refine hK.out _ _ (HKS.out _ hky) (fun hHeld => ?_)
                    clear hK K
                    (try simp only [Act.put, List.setIfInBounds_toArray, List.set_cons_zero, List.set_cons_succ])
                    refine wpAnyZ_one (i := 3) (by kernel_rfl) rfl (fun K hK => ?_)
                    refine step_copy_keep (by rfl) _ _ 36 (by rfl) 3 Tryd.underlying36 info_int (X + 1) ⟨W5.heap.size, 0, none⟩ (by rfl) (OwnsI.empty_at ((heap_alloc_old _ _ (by simp)).trans (alloc_at (by simp))) (by have := HXZ.out; omega)) (by have := HXZ.out; simp; (try omega)) pa pn pc y.params (by rfl) HN2.out ((HN1.out.below HXS.out.bel (by simp [← HXE.out])).below hky (Nat.le_refl _)) (by omega) ?_
                    intro qa qn qc w6 hown6 hb6 hq6
                    have HB6 := Lib.hid (keepB hky hb6)
                    have HO6 := Lib.hid hown6
                    have HA6 := Lib.hid hb6
                    have HQ6 := Lib.hid hq6
                    clear hown6 hb6 hq6
                    refine hK.out _ _ (HKS.out _ HB6.out) (fun hHeld => ?_)
                    clear hK K
                    (try simp only [Act.put, List.setIfInBounds_toArray, List.set_cons_zero, List.set_cons_succ])
                    refine wpAnyZ_one (i := 6) (by kernel_rfl) rfl (fun K hK => ?_)
                    rw [if_pos (by rfl)]
                    go_simp
                    have HEX := Lib.hid (EndQ.lasts _ _ _ _ (keepB HXS.out.bel HB6.out) HEQ.out)
                    go_at_call 28
                    (with_reducible refine (ref_end_at y.fin.K y.fin.A y.fin.To y.fin.Else la ln lc ma mn mc y.fin _ HEX.out).mono ?_)
                    rintro e w7 ⟨k0, ka, kt, ke, ra, rn, rc, ta, tn, tc, rfl, he7, hb7⟩
                    have HB7 := Lib.hid (keepB HB6.out hb7)
                    have HE7 := Lib.hid he7
                    have HA7 := Lib.hid hb7
                    clear he7 hb7
                    refine hK.out _ _ (HKS.out _ HB7.out) (fun hHeld => ?_)
                    clear hK K
                    (try simp only [Act.put, List.setIfInBounds_toArray, List.set_cons_zero, List.set_cons_succ])
                    refine wpAnyZ_take (i := 7) (oi := ⟨some 137, _, _, _, _, _⟩) (v := ?_) rfl (by kernel_rfl) (by kernel_rfl) (by kernel_rfl) (by kernel_rfl) (fun _ _ _ h => h) (Or.inl ⟨by rfl, ?_⟩) (by assumption) ?_
                    rotate_left
                    · ((intro w hSw; (try dsimp only at hSw); go_simp); try with_reducible rfl)
                    (try simp only [Act.put, List.setIfInBounds_toArray, List.set_cons_zero, List.set_cons_succ])
                    have HSV : RowKit.Hid (OSt W5 59 (W5.heap.size + 1) #[.slice none 0 0, .slice none 0 0, .int .i64 0, .int .i64 0, .int .i64 0, .int .i64 0, .slice none 0 0, .slice none 0 0] _) := Lib.hid ⟨(HA7.out.block _ (by have := HA6.out.size; simp at this; omega)).trans ((HA6.out.block _ (by simp)).trans HYM.out), HB7.out, by (have := HXZ.out); (have := HB6.out.size); (try have := HB7.out.size); omega⟩
                    have HNV : RowKit.Hid (NumsO _ (fun b => X < b ∧ b ≠ W5.heap.size + 1) (.slice qa qn qc) y.params) := Lib.hid ⟨((HO6.out.below HA7.out)).mono (Nat.zero_le _), fun b hb => by have h := HQ6.out b hb; have h2 := HO6.out.lt b hb; simp at h; have := HXZ.out; exact ⟨by omega, by omega⟩, by rw [HPL.out]; omega, HR1.out⟩
                    have HEV : RowKit.Hid (EndO (w7) (fun b => X < b ∧ b ≠ W5.heap.size + 1) [.int .i64 k0, .int .i64 ka, .int .i64 kt, .int .i64 ke, .slice ra rn rc, .slice ta tn tc] (plainEnd y.fin)) := Lib.hid (EndO.holds _ _ _ _ _ _ (fun b hb hs => ⟨rfl, by have hs : w6.heap.size ≤ b := hs; have h2 := HA6.out.size; simp at h2; have := HXZ.out; exact ⟨by omega, by omega⟩⟩) HE7.out)
                    have f0 := HSV.out.ef
                    have e0 := HSV.out.ec
                    refine wpAnyZ_last (by kernel_rfl) rfl (by kernel_rfl) (fun K hK => ?_)
                    rw [if_pos (by rfl)]
                    go_simp
                    refine hK.out _ _ ?_
                    clear hK K
                    (try simp only [Act.put, List.setIfInBounds_toArray, List.set_cons_zero, List.set_cons_succ])
                    go_wp2_with fail
                    go_meet
                    exact Lib.hid ⟨_, qa, qn, qc, k0, ka, kt, ke, ra, rn, rc, ta, tn, tc, rfl, block_made HSV.out HNV.out HEV.out _ _ _ _ _ _ _ _⟩
                · rw [if_pos (by rfl)]
                  go_simp
                  have hky : Below W5.heap.size W5 (W5.drew.alloc (.cells #[.slice none 0 0, .slice none 0 0, .int .i64 0, .int .i64 0, .int .i64 0, .int .i64 0, .slice none 0 0, .slice none 0 0] 59)) := hk0.alloc hk0.size _
                  have HYM : RowKit.Hid ((W5.drew.alloc (.cells #[.slice none 0 0, .slice none 0 0, .int .i64 0, .int .i64 0, .int .i64 0, .int .i64 0, .slice none 0 0, .slice none 0 0] 59)).heap[W5.heap.size]? = some (.cells #[.slice none 0 0, .slice none 0 0, .int .i64 0, .int .i64 0, .int .i64 0, .int .i64 0, .slice none 0 0, .slice none 0 0] 59 (0, 0))) := Lib.hid (alloc_at (by simp))
                  refine hK.out _ _ (HKS.out _ hky) (fun hHeld => ?_)
                  clear hK K
                  (try simp only [Act.put, List.setIfInBounds_toArray, List.set_cons_zero, List.set_cons_succ])
                  refine wpAnyZ_one (i := 0) (by kernel_rfl) rfl (fun K hK => ?_)
                  rw [if_pos (by rfl)]
                  go_simp
                  have hks : Below W5.heap.size W5 ((W5.drew.alloc (.cells #[.slice none 0 0, .slice none 0 0, .int .i64 0, .int .i64 0, .int .i64 0, .int .i64 0, .slice none 0 0, .slice none 0 0] 59)).alloc (.cells #[] 3)) := hky.alloc hky.size _
                  refine hK.out _ _ (HKS.out _ hks) (fun hHeld => ?_)
                  clear hK K
                  (try simp only [Act.put, List.setIfInBounds_toArray, List.set_cons_zero, List.set_cons_succ])
                  refine wpAnyZ_one (i := 3) (by kernel_rfl) rfl (fun K hK => ?_)
                  refine step_copy_keep (by rfl) _ _ 36 (by rfl) 3 Tryd.underlying36 info_int (X + 2) ⟨W5.heap.size + 1, 0, none⟩ (by rfl) (OwnsI.laid (by simp) (by have := HXZ.out; omega)) (by have := HXZ.out; simp; (try omega)) pa pn pc y.params (by rfl) HN2.out ((HN1.out.below HXS.out.bel (by simp [← HXE.out])).below hks (Nat.le_refl _)) (by omega) ?_
                  intro qa qn qc w6 hown6 hb6 hq6
                  have HB6 := Lib.hid (keepB hks hb6)
                  have HO6 := Lib.hid hown6
                  have HA6 := Lib.hid hb6
                  have HQ6 := Lib.hid hq6
                  clear hown6 hb6 hq6
                  refine hK.out _ _ (HKS.out _ HB6.out) (fun hHeld => ?_)
                  clear hK K
                  (try simp only [Act.put, List.setIfInBounds_toArray, List.set_cons_zero, List.set_cons_succ])
                  refine wpAnyZ_one (i := 6) (by kernel_rfl) rfl (fun K hK => ?_)
                  rw [if_pos (by rfl)]
                  go_simp
                  have HEX := Lib.hid (EndQ.lasts _ _ _ _ (keepB HXS.out.bel HB6.out) HEQ.out)
                  go_at_call 28
                  (with_reducible refine (ref_end_at y.fin.K y.fin.A y.fin.To y.fin.Else la ln lc ma mn mc y.fin _ HEX.out).mono ?_)
                  rintro e w7 ⟨k0, ka, kt, ke, ra, rn, rc, ta, tn, tc, rfl, he7, hb7⟩
                  have HB7 := Lib.hid (keepB HB6.out hb7)
                  have HE7 := Lib.hid he7
                  have HA7 := Lib.hid hb7
                  clear he7 hb7
                  refine hK.out _ _ (HKS.out _ HB7.out) (fun hHeld => ?_)
                  clear hK K
                  (try simp only [Act.put, List.setIfInBounds_toArray, List.set_cons_zero, List.set_cons_succ])
                  refine wpAnyZ_take (i := 7) (oi := ⟨some 137, _, _, _, _, _⟩) (v := ?_) rfl (by kernel_rfl) (by kernel_rfl) (by kernel_rfl) (by kernel_rfl) (fun _ _ _ h => h) (Or.inl ⟨by rfl, ?_⟩) (by assumption) ?_
                  rotate_left
                  · ((intro w hSw; (try dsimp only at hSw); go_simp); try with_reducible rfl)
                  (try simp only [Act.put, List.setIfInBounds_toArray, List.set_cons_zero, List.set_cons_succ])
                  have HSV : RowKit.Hid (OSt W5 59 (W5.heap.size) #[.slice none 0 0, .slice none 0 0, .int .i64 0, .int .i64 0, .int .i64 0, .int .i64 0, .slice none 0 0, .slice none 0 0] _) := Lib.hid ⟨(HA7.out.block _ (by have := HA6.out.size; simp at this; omega)).trans ((HA6.out.block _ (by simp; omega)).trans ((heap_alloc_old _ _ (by simp)).trans HYM.out)), HB7.out, by (have := HXZ.out); (have := HB6.out.size); (try have := HB7.out.size); omega⟩
                  have HNV : RowKit.Hid (NumsO _ (fun b => X < b ∧ b ≠ W5.heap.size) (.slice qa qn qc) y.params) := Lib.hid ⟨((HO6.out.below HA7.out)).mono (Nat.zero_le _), fun b hb => by have h2 := HO6.out.lt b hb; have := HXZ.out; exact ⟨by omega, by omega⟩, by rw [HPL.out]; omega, HR1.out⟩
                  have HEV : RowKit.Hid (EndO (w7) (fun b => X < b ∧ b ≠ W5.heap.size) [.int .i64 k0, .int .i64 ka, .int .i64 kt, .int .i64 ke, .slice ra rn rc, .slice ta tn tc] (plainEnd y.fin)) := Lib.hid (EndO.holds _ _ _ _ _ _ (fun b hb hs => ⟨rfl, by have hs : w6.heap.size ≤ b := hs; have h2 := HA6.out.size; simp at h2; have := HXZ.out; exact ⟨by omega, by omega⟩⟩) HE7.out)
                  have f0 := HSV.out.ef
                  have e0 := HSV.out.ec
                  refine wpAnyZ_last (by kernel_rfl) rfl (by kernel_rfl) (fun K hK => ?_)
                  rw [if_pos (by rfl)]
                  go_simp
                  refine hK.out _ _ ?_
                  clear hK K
                  (try simp only [Act.put, List.setIfInBounds_toArray, List.set_cons_zero, List.set_cons_succ])
                  go_wp2_with fail
                  go_meet
                  exact Lib.hid ⟨_, qa, qn, qc, k0, ka, kt, ke, ra, rn, rc, ta, tn, tc, rfl, block_made HSV.out HNV.out HEV.out _ _ _ _ _ _ _ _⟩
              case rest =>
                obtain ⟨Y, qa, qn, qc, k0, ka, kt, ke, ra, rn, rc, ta, tn, tc, rfl, hs, hn, he⟩ := hcut.out
                have HYS := Lib.hid hs
                have HQN := Lib.hid hn
                have HEN := Lib.hid he
                have HXC := Lib.hid (HXS.out.past hs.bel)
                have HWC : RowKit.Hid (Below wk.heap.size wk wc) := Lib.hid (keepB HXS.out.bel hs.bel)
                obtain ⟨Z0, hZ0⟩ : ∃ Z, Z = wc.heap.size := ⟨_, rfl⟩
                have HZ0 : RowKit.Hid (Y < Z0 ∧ X < Y ∧ Z0 ≤ wc.heap.size) := Lib.hid ⟨by rw [hZ0]; exact hs.elt, by have := hs.hO; have := HXZ.out; omega, by omega⟩
                have HZE : RowKit.Hid (Z0 = wc.heap.size) := Lib.hid hZ0
                have hpo : wc.cell? ⟨X, 1, none⟩ = some (.slice oa on oc) := HXC.out.ec 1
                clear hcut hs hn he hZ0
                go_wp2_with fail
                go_loopw [12] (fun lv wl => ∃ (j : Nat) (za : Option Addr) (zn zc : Nat), j ≤ on ∧ lv = .int .i64 (j : Int) ∧ wl.cell? ⟨X, 1, none⟩ = some (.slice oa on oc) ∧ RowKit.Hid (OSt W5 59 Y #[.slice qa qn qc, .slice za zn zc, .int .i64 k0, .int .i64 ka, .int .i64 kt, .int .i64 ke, .slice ra rn rc, .slice ta tn tc] wl ∧ Off (fun k => k = Y) wc wl ∧ RowO 38 8 OpO wl (From Z0) (.slice za zn zc) ((y.ops.take j).map plainOp))) (fun lv _ => on - (intOf lv).toNat)
                case atStart => exact ⟨0, none, 0, 0, Nat.zero_le _, rfl, hpo, Lib.hid ⟨HYS.out, Off.refl _ _, RowO.none _ _⟩⟩
                case round =>
                  obtain ⟨j, za, zn, zc, hj, rfl, hpo, HJ⟩ := hrel
                  obtain ⟨wl, rfl⟩ : ∃ v, v = wr := ⟨_, rfl⟩
                  by_cases hlj : j < on
                  · have HLJ := Lib.hid hlj
                    have HJL : RowKit.Hid (j < y.ops.length) := Lib.hid (by rw [HOL.out]; exact hlj)
                    obtain ⟨ho, oo2, rfl, hoo, hos⟩ := rowV_at HRO.out (by omega)
                    obtain ⟨cs, hc8, hcell, hq⟩ := hos j HJL.out
                    obtain ⟨t, ht⟩ : ∃ t, t = y.ops[j]'HJL.out := ⟨_, rfl⟩
                    rw [← ht] at hq
                    have HT : RowKit.Hid (y.ops[j]'HJL.out = t) := Lib.hid ht.symm
                    obtain ⟨ea, en, ec, rfl⟩ := OpQ.form hq
                    have HWL : RowKit.Hid (Below wk.heap.size wk wl) := Lib.hid (HWC.out.trans (HJ.out.2.1.below HWC.out.size (fun i hi => by have := HZ0.out; have := HXE.out; omega)))
                    have HWW : RowKit.Hid (Below w.heap.size w wl) := Lib.hid (keepB HKB.out HWL.out)
                    have HQ := Lib.hid (OpQ.lasts _ _ _ _ (HWW.out.drew) hq)
                    have HZL : RowKit.Hid (Z0 ≤ wl.heap.size) := Lib.hid (Nat.le_trans HZ0.out.2.2 HJ.out.2.1.size)
                    have HXL : RowKit.Hid (wl.cell? ⟨X, 1, none⟩ = some (.slice (some ⟨ho, oo2, none⟩) on oc)) := Lib.hid hpo
                    have HKS : RowKit.Hid (∀ u, Below Z0 wl u → (fun u => u.cell? ⟨X, 1, none⟩ = some (.slice (some ⟨ho, oo2, none⟩) on oc) ∧ u.cell? ⟨ho, oo2 + j * 8, none⟩ = some (.int .i64 t.K) ∧ u.cell? ⟨ho, oo2 + j * 8 + 1, none⟩ = some (.int .i64 t.A) ∧ u.cell? ⟨ho, oo2 + j * 8 + 2, none⟩ = some (.int .i64 t.B) ∧ u.cell? ⟨ho, oo2 + j * 8 + 3, none⟩ = some (.int .i64 t.C) ∧ u.cell? ⟨ho, oo2 + j * 8 + 4, none⟩ = some (.int .i64 t.N) ∧ u.cell? ⟨ho, oo2 + j * 8 + 5, none⟩ = some (.string t.S) ∧ u.cell? ⟨ho, oo2 + j * 8 + 6, none⟩ = some (.slice ea en ec) ∧ u.cell? ⟨ho, oo2 + j * 8 + 7, none⟩ = some (.bool t.T) ∧ u.cell? ⟨Y, 1, none⟩ = some (.slice za zn zc)) u) := Lib.hid fun u hb => by
                      have hbw : Below w.heap.size w u := HWW.out.trans (hb.mono (by have := HKB.out.size; have := HZ0.out; have := HXE.out; omega))
                      exact ⟨(hb.cell (p := ⟨X, 1, none⟩) (by have := HZ0.out; simp only; omega)).trans HXL.out, (hbw.cell (p := ⟨ho, oo2 + j * 8 + 0, none⟩) hoo).trans (hcell 0 (by simp)), (hbw.cell (p := ⟨ho, oo2 + j * 8 + 1, none⟩) hoo).trans (hcell 1 (by simp)), (hbw.cell (p := ⟨ho, oo2 + j * 8 + 2, none⟩) hoo).trans (hcell 2 (by simp)), (hbw.cell (p := ⟨ho, oo2 + j * 8 + 3, none⟩) hoo).trans (hcell 3 (by simp)), (hbw.cell (p := ⟨ho, oo2 + j * 8 + 4, none⟩) hoo).trans (hcell 4 (by simp)), (hbw.cell (p := ⟨ho, oo2 + j * 8 + 5, none⟩) hoo).trans (hcell 5 (by simp)), (hbw.cell (p := ⟨ho, oo2 + j * 8 + 6, none⟩) hoo).trans (hcell 6 (by simp)), (hbw.cell (p := ⟨ho, oo2 + j * 8 + 7, none⟩) hoo).trans (hcell 7 (by simp)), (hb.cell (p := ⟨Y, 1, none⟩) HZ0.out.1).trans (HJ.out.1.ec 1)⟩
                    have HFR2 : RowKit.Hid (∀ b, (Value.slice za zn zc).ownBlock = some b → b < wl.heap.size) := Lib.hid fun b hb => (HJ.out.2.2.own hb).2
                    have HTK2 : RowKit.Hid (((y.ops.take j).map plainOp).length ≤ 100000) := Lib.hid (by rw [List.length_map, List.length_take]; have := HSB.out; omega)
                    clear hcell hos ht hc8 hq hj
                    go_wp2_with fail
                    refine wp_region_Z (S := (fun u => u.cell? ⟨X, 1, none⟩ = some (.slice (some ⟨ho, oo2, none⟩) on oc) ∧ u.cell? ⟨ho, oo2 + j * 8, none⟩ = some (.int .i64 t.K) ∧ u.cell? ⟨ho, oo2 + j * 8 + 1, none⟩ = some (.int .i64 t.A) ∧ u.cell? ⟨ho, oo2 + j * 8 + 2, none⟩ = some (.int .i64 t.B) ∧ u.cell? ⟨ho, oo2 + j * 8 + 3, none⟩ = some (.int .i64 t.C) ∧ u.cell? ⟨ho, oo2 + j * 8 + 4, none⟩ = some (.int .i64 t.N) ∧ u.cell? ⟨ho, oo2 + j * 8 + 5, none⟩ = some (.string t.S) ∧ u.cell? ⟨ho, oo2 + j * 8 + 6, none⟩ = some (.slice ea en ec) ∧ u.cell? ⟨ho, oo2 + j * 8 + 7, none⟩ = some (.bool t.T) ∧ u.cell? ⟨Y, 1, none⟩ = some (.slice za zn zc))) 11 (by kernel_rfl) (HKS.out _ (Below.refl _ _).drew) (fun hHeld => ?_)
                    refine wpAnyZ_take (i := 0) (oi := ⟨some 145, _, _, _, _, _⟩) (v := ?_) rfl (by kernel_rfl) (by kernel_rfl) (by kernel_rfl) (by kernel_rfl) (fun _ _ _ h => h) (Or.inl ⟨by rfl, ?_⟩) (by assumption) ?_
                    rotate_left
                    · ((intro w hSw; (try dsimp only at hSw); go_simp); try with_reducible rfl)
                    (try simp only [Act.put, List.setIfInBounds_toArray, List.set_cons_zero, List.set_cons_succ])
                    refine wpAnyZ_take (i := 1) (oi := ⟨some 146, _, _, _, _, _⟩) (v := ?_) rfl (by kernel_rfl) (by kernel_rfl) (by kernel_rfl) (by kernel_rfl) (fun _ _ _ h => h) (Or.inl ⟨by rfl, ?_⟩) (by assumption) ?_
                    rotate_left
                    · ((intro w hSw; (try dsimp only at hSw); go_simp); try with_reducible rfl)
                    (try simp only [Act.put, List.setIfInBounds_toArray, List.set_cons_zero, List.set_cons_succ])
                    refine wpAnyZ_take (i := 2) (oi := ⟨some 147, _, _, _, _, _⟩) (v := ?_) rfl (by kernel_rfl) (by kernel_rfl) (by kernel_rfl) (by kernel_rfl) (fun _ _ _ h => h) (Or.inl ⟨by rfl, ?_⟩) (by assumption) ?_
                    rotate_left
                    · ((intro w hSw; (try dsimp only at hSw); go_simp); try with_reducible rfl)
                    (try simp only [Act.put, List.setIfInBounds_toArray, List.set_cons_zero, List.set_cons_succ])
                    refine wpAnyZ_take (i := 3) (oi := ⟨some 148, _, _, _, _, _⟩) (v := ?_) rfl (by kernel_rfl) (by kernel_rfl) (by kernel_rfl) (by kernel_rfl) (fun _ _ _ h => h) (Or.inl ⟨by rfl, ?_⟩) (by assumption) ?_
                    rotate_left
                    · ((intro w hSw; (try dsimp only at hSw); go_simp); try with_reducible rfl)
                    (try simp only [Act.put, List.setIfInBounds_toArray, List.set_cons_zero, List.set_cons_succ])
                    refine wpAnyZ_take (i := 4) (oi := ⟨some 149, _, _, _, _, _⟩) (v := ?_) rfl (by kernel_rfl) (by kernel_rfl) (by kernel_rfl) (by kernel_rfl) (fun _ _ _ h => h) (Or.inl ⟨by rfl, ?_⟩) (by assumption) ?_
                    rotate_left
                    · ((intro w hSw; (try dsimp only at hSw); go_simp); try with_reducible rfl)
                    (try simp only [Act.put, List.setIfInBounds_toArray, List.set_cons_zero, List.set_cons_succ])
                    refine wpAnyZ_take (i := 5) (oi := ⟨some 150, _, _, _, _, _⟩) (v := ?_) rfl (by kernel_rfl) (by kernel_rfl) (by kernel_rfl) (by kernel_rfl) (fun _ _ _ h => h) (Or.inl ⟨by rfl, ?_⟩) (by assumption) ?_
                    rotate_left
                    · ((intro w hSw; (try dsimp only at hSw); go_simp); try with_reducible rfl)
                    (try simp only [Act.put, List.setIfInBounds_toArray, List.set_cons_zero, List.set_cons_succ])
                    refine wpAnyZ_take (i := 6) (oi := ⟨some 151, _, _, _, _, _⟩) (v := ?_) rfl (by kernel_rfl) (by kernel_rfl) (by kernel_rfl) (by kernel_rfl) (fun _ _ _ h => h) (Or.inl ⟨by rfl, ?_⟩) (by assumption) ?_
                    rotate_left
                    · ((intro w hSw; (try dsimp only at hSw); go_simp); try with_reducible rfl)
                    (try simp only [Act.put, List.setIfInBounds_toArray, List.set_cons_zero, List.set_cons_succ])
                    refine wpAnyZ_one (i := 7) (by kernel_rfl) rfl (fun K hK => ?_)
                    rw [if_pos (by rfl)]
                    go_simp
                    go_at_call 29
                    (with_reducible refine (ref_op_at t.K t.A t.B t.C t.N t.S ea en ec t.T t _ HQ.out).mono ?_)
                    rintro e w6 ⟨f1, f2, f3, f4, f5, f6, ga, gn, gc, f8, rfl, hq6, hb6⟩
                    have HB6 : RowKit.Hid (Below wl.heap.size wl w6) := Lib.hid (keepB (Below.refl _ _).drew hb6)
                    have HO6 := Lib.hid hq6
                    clear hq6 hb6
                    refine hK.out _ _ (HKS.out _ (HB6.out.mono HZL.out)) (fun hHeld => ?_)
                    clear hK K
                    (try simp only [Act.put, List.setIfInBounds_toArray, List.set_cons_zero, List.set_cons_succ])
                    refine wpAnyZ_one (i := 8) (by kernel_rfl) rfl (fun K hK => ?_)
                    rw [if_pos (by rfl)]
                    go_simp
                    have hka := HB6.out.alloc HB6.out.size (.cells #[.int .i64 f1, .int .i64 f2, .int .i64 f3, .int .i64 f4, .int .i64 f5, .string f6, .slice ga gn gc, .bool f8] 38)
                    refine hK.out _ _ (HKS.out _ (hka.mono HZL.out)) (fun hHeld => ?_)
                    clear hK K
                    (try simp only [Act.put, List.setIfInBounds_toArray, List.set_cons_zero, List.set_cons_succ])
                    refine wpAnyZ_one (i := 9) (by kernel_rfl) rfl (fun K hK => ?_)
                    refine step_append_elem2 w6 (by rfl) _ _ 55 (by rfl) 38 Tryd.underlying55 _ 8 88 info_op rfl (by decide) (by decide) OpO.holds Z0 (.slice za zn zc) ((y.ops.take j).map plainOp) (by rfl) (HJ.out.2.2.holds OpO.holds (fun b hb hs => ⟨HB6.out.block b hb, hs⟩)) (Nat.le_trans HZL.out HB6.out.size) _ 1 w6.heap.size (by rfl) rfl rfl (by intro u hu; simp at hu; rcases hu with rfl | rfl | rfl | rfl | rfl | rfl | rfl | rfl <;> rfl) (plainOp t) wl.heap.size HO6.out HZL.out HFR2.out HTK2.out ?_
                    intro za7 zn7 zc7 w7 hrow7 hb7 _
                    have HR7 := Lib.hid hrow7
                    have HB7 : RowKit.Hid (Below Z0 wl w7) := Lib.hid ((HB6.out.mono HZL.out).trans hb7)
                    clear hrow7 hb7 hka
                    refine hK.out _ _ (HKS.out _ HB7.out) (fun hHeld => ?_)
                    clear hK K
                    (try simp only [Act.put, List.setIfInBounds_toArray, List.set_cons_zero, List.set_cons_succ])
                    refine wpAnyZ_one (i := 10) (by kernel_rfl) rfl (fun K hK => ?_)
                    rw [if_pos (by rfl)]
                    go_simp
                    refine hK.out _ _ hHeld (fun hHeld => ?_)
                    clear hK K
                    (try simp only [Act.put, List.setIfInBounds_toArray, List.set_cons_zero, List.set_cons_succ])
                    have HS7 := Lib.hid (HJ.out.1.news HB7.out HZ0.out.1)
                    have f7 := HS7.out.ef 1
                    have e7 := HS7.out.ec 1
                    refine wpAnyZ_last (by kernel_rfl) rfl (by kernel_rfl) (fun K hK => ?_)
                    rw [if_pos (by rfl)]
                    go_simp
                    refine hK.out _ _ ?_
                    clear hK K
                    (try simp only [Act.put, List.setIfInBounds_toArray, List.set_cons_zero, List.set_cons_succ])
                    go_wp2_with fail
                    go_roundw
                    case rel => exact ⟨j + 1, za7, zn7, zc7, by have := HLJ.out; omega, by go_num, (Below.cell_setCell_ (by have := HZ0.out; simp only; omega)).trans ((HB7.out.cell (p := ⟨X, 1, none⟩) (by have := HZ0.out; simp only; omega)).trans HXL.out), Lib.hid ⟨HS7.out.set 1 _, (HJ.out.2.1.trans_new (Y := fun i => Z0 ≤ i) (Off.of_below HB7.out (fun i hi _ => hi)) (fun i hi => .inr (by have := HZE.out; omega))).setCell (.inl rfl) _, by rw [List.take_succ_eq_append_getElem HJL.out, HT.out, List.map_append]; exact HR7.out.stored_ OpO.holds 1 _ HZ0.out.1⟩⟩
                    case measure => simp [intOf]; omega
                  have HWL : RowKit.Hid (Below wk.heap.size wk wl) := Lib.hid (HWC.out.trans (HJ.out.2.1.below HWC.out.size (fun i hi => by have := HZ0.out; have := HXE.out; omega)))
                  have HRW : RowKit.Hid (RowO 38 8 OpO wl (From Z0) (.slice za zn zc) (y.ops.map plainOp)) := Lib.hid (by have h := HJ.out.2.2; rw [List.take_of_length_le (by rw [HOL.out]; omega)] at h; exact h)
                  have HBO : RowKit.Hid (BlockO wl (From wk.heap.size) [.slice qa qn qc, .slice za zn zc, .int .i64 k0, .int .i64 ka, .int .i64 kt, .int .i64 ke, .slice ra rn rc, .slice ta tn tc] (plainBlock y)) := Lib.hid ⟨_, _, _, rfl, HQN.out.holds (fun b hb hs => ⟨HJ.out.2.1.block b hb hs.2, by have := hs.1; have := HXE.out; show wk.heap.size ≤ b; omega⟩), HRW.out.wider OpO.holds (fun b _ hs => by have : Z0 ≤ b := hs; have := HZ0.out; have := HXE.out; show wk.heap.size ≤ b; omega), EndO.holds _ _ _ _ _ _ (fun b hb hs => ⟨HJ.out.2.1.block b hb hs.2, by have := hs.1; have := HXE.out; show wk.heap.size ≤ b; omega⟩) HEN.out⟩
                  have HFL := Lib.hid (HK.out.1.past HWL.out)
                  have HROW : RowKit.Hid (RowO 59 8 BlockO wl (From (F + 1)) (.slice ya yn yc) ((x.blocks.take k).map plainBlock)) := Lib.hid (HK.out.2.holds BlockO.holds (fun b hb hs => ⟨HWL.out.block b hb, hs⟩))
                  have HFRK : RowKit.Hid (∀ b, (Value.slice ya yn yc).ownBlock = some b → b < wk.heap.size) := Lib.hid fun b hb => (HK.out.2.own hb).2
                  have HTKK : RowKit.Hid (((x.blocks.take k).map plainBlock).length ≤ 100000) := Lib.hid (by rw [List.length_map, List.length_take]; have := HSF.out.1; omega)
                  have HWF : RowKit.Hid (F + 1 ≤ wl.heap.size) := Lib.hid HFL.out.elt
                  have x1 := HFL.out.ec 1
                  have f1 := HFL.out.ef 1
                  have hyc := HJ.out.1.ec
                  clear hj
                  go_wp2_with (at_builtin; refine wpList_append_elem wl rfl _ _ 45 rfl 59 Tryd.underlying45 _ 8 128 info_block rfl (by decide) (by decide) BlockO.holds (F + 1) (.slice ya yn yc) ((x.blocks.take k).map plainBlock) rfl HROW.out HWF.out _ 1 wl.heap.size rfl rfl rfl (by intro u hu; simp at hu; rcases hu with rfl | rfl | rfl | rfl | rfl | rfl | rfl | rfl <;> rfl) (plainBlock y) wk.heap.size HBO.out HFK.out HFRK.out HTKK.out ?_; intro ya9 yn9 yc9 w9 hrow9 hb9; have HR9 := Lib.hid hrow9; have HF9 := Lib.hid (HFL.out.news hb9 (Nat.lt_succ_self F)); have x9 := HF9.out.ec 1; have f9 := HF9.out.ef 1; clear hrow9 hb9)
                  go_roundw
                  case rel => exact ⟨k + 1, ya9, yn9, yc9, by have := HLK.out; omega, by go_num, (HFC.out _ (keepB HWB.out (HF9.out.set 1 _).bel)).1, (HFC.out _ (keepB HWB.out (HF9.out.set 1 _).bel)).2.2, Lib.hid ⟨HF9.out.set 1 _, by rw [List.take_succ_eq_append_getElem HKL.out, HY.out, List.map_append]; exact HR9.out.stored_ BlockO.holds 1 _ (Nat.lt_succ_self F)⟩⟩
                  case measure => simp [intOf]; omega
            have HFO : RowKit.Hid (FuncO wk.drew (From wi.heap.size) [.int .i64 x.ret, .slice ya yn yc] (plainFunc x)) := Lib.hid ⟨_, rfl, HRT.out, by have h := HK.out.2; rw [List.take_of_length_le (by rw [HBL.out]; omega)] at h; exact h.holds BlockO.holds (fun b hb hs => ⟨rfl, by have : F + 1 ≤ b := hs; have := HFE.out; show wi.heap.size ≤ b; omega⟩)⟩
            have HWK : RowKit.Hid (Below wi.heap.size wi wk) := Lib.hid HK.out.1.bel
            have HFK : RowKit.Hid (F < wk.heap.size) := Lib.hid HK.out.1.elt
            have HKS : RowKit.Hid (∀ u, Below wk.heap.size wk u → (fun u => u.cell? ⟨F, 0, none⟩ = some (.int .i64 x.ret) ∧ u.cell? ⟨F, 1, none⟩ = some (.slice ya yn yc) ∧ u.cell? ⟨O, 2, none⟩ = some (.slice va vn vc)) u) := Lib.hid fun u hb => ⟨(HK.out.1.past hb).ec 0, (HK.out.1.past hb).ec 1, ((keepB HWK.out hb).cell (p := ⟨O, 2, none⟩) HI.out.1.elt).trans (HI.out.1.ec 2)⟩
            clear hk
            go_wp2_with fail
            clear hqz hqb
            refine wp_region_Z (S := (fun u => u.cell? ⟨F, 0, none⟩ = some (.int .i64 x.ret) ∧ u.cell? ⟨F, 1, none⟩ = some (.slice ya yn yc) ∧ u.cell? ⟨O, 2, none⟩ = some (.slice va vn vc))) 10 (by kernel_rfl) (HKS.out _ (Below.refl _ _).drew) (fun hHeld => ?_)
            refine wpAnyZ_take (i := 0) (oi := ⟨some 162, _, _, _, _, _⟩) (v := ?_) rfl (by kernel_rfl) (by kernel_rfl) (by kernel_rfl) (by kernel_rfl) (fun _ _ _ h => h) (Or.inl ⟨by rfl, ?_⟩) (by assumption) ?_
            rotate_left
            · ((intro w hSw; (try dsimp only at hSw); go_simp); try with_reducible rfl)
            (try simp only [Act.put, List.setIfInBounds_toArray, List.set_cons_zero, List.set_cons_succ])
            refine wpAnyZ_take (i := 1) (oi := ⟨some 163, _, _, _, _, _⟩) (v := ?_) rfl (by kernel_rfl) (by kernel_rfl) (by kernel_rfl) (by kernel_rfl) (fun _ _ _ h => h) (Or.inl ⟨by rfl, ?_⟩) (by assumption) ?_
            rotate_left
            · ((intro w hSw; (try dsimp only at hSw); go_simp); try with_reducible rfl)
            (try simp only [Act.put, List.setIfInBounds_toArray, List.set_cons_zero, List.set_cons_succ])
            refine wpAnyZ_take (i := 2) (oi := ⟨some 164, _, _, _, _, _⟩) (v := ?_) rfl (by kernel_rfl) (by kernel_rfl) (by kernel_rfl) (by kernel_rfl) (fun _ _ _ h => h) (Or.inl ⟨by rfl, ?_⟩) (by assumption) ?_
            rotate_left
            · ((intro w hSw; (try dsimp only at hSw); go_simp); try with_reducible rfl)
            (try simp only [Act.put, List.setIfInBounds_toArray, List.set_cons_zero, List.set_cons_succ])
            refine wpAnyZ_take (i := 3) (oi := ⟨some 165, _, _, _, _, _⟩) (v := ?_) rfl (by kernel_rfl) (by kernel_rfl) (by kernel_rfl) (by kernel_rfl) (fun _ _ _ h => h) (Or.inl ⟨by rfl, ?_⟩) (by assumption) ?_
            rotate_left
            · ((intro w hSw; (try dsimp only at hSw); go_simp); try with_reducible rfl)
            (try simp only [Act.put, List.setIfInBounds_toArray, List.set_cons_zero, List.set_cons_succ])
            refine wpAnyZ_take (i := 4) (oi := ⟨some 166, _, _, _, _, _⟩) (v := ?_) rfl (by kernel_rfl) (by kernel_rfl) (by kernel_rfl) (by kernel_rfl) (fun _ _ _ h => h) (Or.inl ⟨by rfl, ?_⟩) (by assumption) ?_
            rotate_left
            · ((intro w hSw; (try dsimp only at hSw); go_simp); try with_reducible rfl)
            (try simp only [Act.put, List.setIfInBounds_toArray, List.set_cons_zero, List.set_cons_succ])
            refine wpAnyZ_take (i := 5) (oi := ⟨some 167, _, _, _, _, _⟩) (v := ?_) rfl (by kernel_rfl) (by kernel_rfl) (by kernel_rfl) (by kernel_rfl) (fun _ _ _ h => h) (Or.inl ⟨by rfl, ?_⟩) (by assumption) ?_
            rotate_left
            · ((intro w hSw; (try dsimp only at hSw); go_simp); try with_reducible rfl)
            (try simp only [Act.put, List.setIfInBounds_toArray, List.set_cons_zero, List.set_cons_succ])
            refine wpAnyZ_one (i := 6) (by kernel_rfl) rfl (fun K hK => ?_)
            rw [if_pos (by rfl)]
            go_simp
            have hka : Below wk.heap.size wk (wk.drew.alloc (.cells #[.int .i64 x.ret, .slice ya yn yc] 47)) := ((Below.refl _ _).drew).alloc (by simp) _
            refine hK.out _ _ (HKS.out _ hka) (fun hHeld => ?_)
            clear hK K
            (try simp only [Act.put, List.setIfInBounds_toArray, List.set_cons_zero, List.set_cons_succ])
            refine wpAnyZ_one (i := 7) (by kernel_rfl) rfl (fun K hK => ?_)
            refine step_append_elem2 wk.drew (by rfl) _ _ 24 (by rfl) 47 Tryd.underlying24 _ 2 32 info_func rfl (by decide) (by decide) FuncO.holds B3 (.slice va vn vc) ((P.funcs.take i).map plainFunc) (by rfl) (HI.out.2.1.holds FuncO.holds (fun b hb hs => ⟨HWK.out.block b hb, hs⟩)) (Nat.le_trans HZ.out.2 HWK.out.size) _ 1 wk.heap.size (by rfl) rfl rfl (by intro u hu; simp at hu; rcases hu with rfl | rfl <;> rfl) (plainFunc x) wi.heap.size HFO.out HZ.out.2 HFR.out HTK.out ?_
            intro va8 vn8 vc8 w8 hrow8 hb8 hk8
            replace hb8 : Below B3 wk w8 := (Below.refl _ _).drew.trans hb8
            have HR8 := Lib.hid hrow8
            have HX8 : RowKit.Hid (w8.heap[F]? = some (.cells #[.int .i64 x.ret, .slice ya yn yc] 47 (0, 0))) := Lib.hid ((hk8 F HFK.out (fun e => by have := HFR.out F e; have := HFE.out; omega)).trans HK.out.1.e)
            have HS8 := Lib.hid ((HI.out.1.past HWK.out).news hb8 HZ.out.1)
            have HPS8 : RowKit.Hid (RowO 52 2 SigO w8 (Amid_ (O + 1) B3) (.slice ua un uc) P.sigs) := Lib.hid ((HI.out.2.2.1.holds SigO.holds (S' := Amid_ (O + 1) B3) (fun b hb hs => ⟨HWK.out.block b hb, hs⟩)).holds SigO.holds (fun b hb hs => ⟨hb8.block b hs.2, hs⟩))
            have HPC8 : RowKit.Hid (RowO 54 2 ClassO w8 (Amid_ (O + 1) B3) (.slice xa xn xc) P.classes) := Lib.hid ((HI.out.2.2.2.1.holds ClassO.holds (S' := Amid_ (O + 1) B3) (fun b hb hs => ⟨HWK.out.block b hb, hs⟩)).holds ClassO.holds (fun b hb hs => ⟨hb8.block b hs.2, hs⟩))
            have HZ8 : RowKit.Hid (B3 ≤ w8.heap.size) := Lib.hid (Nat.le_trans (Nat.le_trans HZ.out.2 HWK.out.size) hb8.size)
            clear hrow8 hb8 hk8 hka
            refine hK.out _ _ ⟨by simp [World.cell?, HX8.out], by simp [World.cell?, HX8.out], HS8.out.ec 2⟩ (fun hHeld => ?_)
            clear hK K
            (try simp only [Act.put, List.setIfInBounds_toArray, List.set_cons_zero, List.set_cons_succ])
            refine wpAnyZ_one (i := 8) (by kernel_rfl) rfl (fun K hK => ?_)
            rw [if_pos (by rfl)]
            go_simp
            refine hK.out _ _ hHeld (fun hHeld => ?_)
            clear hK K
            (try simp only [Act.put, List.setIfInBounds_toArray, List.set_cons_zero, List.set_cons_succ])
            refine wpAnyZ_one (i := 9) (by kernel_rfl) rfl (fun K hK => ?_)
            rw [if_pos (by rfl)]
            go_simp
            refine hK.out _ _ hHeld (fun hHeld => ?_)
            clear hK K
            (try simp only [Act.put, List.setIfInBounds_toArray, List.set_cons_zero, List.set_cons_succ])
            have f8 := HS8.out.ef 2
            have e8 := HS8.out.ec 2
            refine wpAnyZ_last (by kernel_rfl) rfl (by kernel_rfl) (fun K hK => ?_)
            rw [if_pos (by rfl)]
            go_simp
            refine hK.out _ _ ?_
            clear hK K
            (try simp only [Act.put, List.setIfInBounds_toArray, List.set_cons_zero, List.set_cons_succ])
            go_wp2_with fail
            go_roundw
            case rel => exact ⟨i + 1, va8, vn8, vc8, by have := HLT.out; omega, by go_num, (HPC.out _ (HS8.out.set 2 _).bel).2.2, Lib.hid ⟨HS8.out.set 2 _, by rw [List.take_succ_eq_append_getElem HIL.out, HX.out, List.map_append]; exact HR8.out.stored_ FuncO.holds 2 _ HZ.out.1, HPS8.out.holds SigO.holds (fun b hb hs => ⟨Below.heap_setCell _ _ _ _ (by have := hs.1; simp only; omega), hs⟩), HPC8.out.holds ClassO.holds (fun b hb hs => ⟨Below.heap_setCell _ _ _ _ (by have := hs.1; simp only; omega), hs⟩), by simpa [World.setCell] using HZ8.out⟩⟩
            case measure => simp [intOf]; omega
        have HRW : RowKit.Hid (RowO 47 2 FuncO wi (From B3) (.slice va vn vc) (P.funcs.map plainFunc)) := Lib.hid (by have h := HI.out.2.1; rw [List.take_of_length_le (by rw [HLf.out]; omega)] at h; exact h)
        clear hi
        go_wp2_with fail
        go_ret
        refine ⟨O, _, _, _, rfl, by have := HO.out; omega, ⟨_, _, HI.out.1.e, fun j hj => by match j, hj with | 0, _ => rfl | 1, _ => rfl | 2, _ => rfl⟩, ⟨_, _, _, rfl, HI.out.2.2.1.wider SigO.holds (fun b _ hs => by have := hs.1; have := HO.out; exact ⟨by omega, by omega⟩), HI.out.2.2.2.1.wider ClassO.holds (fun b _ hs => by have := hs.1; have := HO.out; exact ⟨by omega, by omega⟩), HRW.out.wider FuncO.holds (fun b _ hs => by have : B3 ≤ b := hs; have := HB3.out; have := HO.out; exact ⟨by omega, by omega⟩)⟩, HI.out.1.bel⟩
end Go.Proofs.YtfnkmigcklmghaaDoor
