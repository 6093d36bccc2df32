/- Layer 6: a function's text: the document's Func, walked (mk_rf.py). -/
import Derived.Test.YtccajbgdlicbnaaDoorQT8
import Derived.Deep.RegionHeld3
namespace Go.Proofs.YtccajbgdlicbnaaDoor
open Go.RowKit (wrap64 intOf Below)
set_option linter.unusedVariables false
set_option linter.unusedSimpArgs false

theorem says_list0 {W : World} {a : Option Addr} {n c : Nat} {Z : List Int} (hat : NumsAt W a n Z) (hn : n ≤ 1048576) (hr : ∀ z ∈ Z, InR z) : Says W 18 #[.slice a n c, .int .i64 0] (mk (listText typeText Z)) :=
  fun u hb => list_types a n c Z u (hat.below hb (Nat.le_refl _)) hn hr
theorem says_rtype {W : World} {z : Int} (h : InR z) : Says W 19 #[.int .i64 z] (mk (typeText z)) := fun u hb => type_ref z u h.lo h.hi
theorem says_rop {W : World} {o : OpD} {la : Option Addr} {ln lc : Nat} (h : OpQ W [.int .i64 o.K, .int .i64 o.A, .int .i64 o.B, .int .i64 o.C, .int .i64 o.N, .string o.S, .slice la ln lc, .bool o.T] o) (hf : FitOp o) :
    Says W 24 #[.agg #[.int .i64 o.K, .int .i64 o.A, .int .i64 o.B, .int .i64 o.C, .int .i64 o.N, .string o.S, .slice la ln lc, .bool o.T]] (mk (opT o)) := fun u hb => by
  obtain ⟨l, he, hK, hA, hB, hC, hN, hS, a, n, c, hl, hat, _, _, hr⟩ := OpQ.lasts _ _ _ _ hb h
  simp only [List.cons.injEq, true_and, and_true] at he
  subst he
  cases hl
  exact ref6_any o.K o.A o.B o.C o.N o.S la ln lc o.L o.T u hA hB hC hN hf.1 hat (by rw [← hat.1]; exact hf.2) hr
theorem says_rend {W : World} {la ma : Option Addr} {ln lc mn mc : Nat} {y : EndD} (h : EndQ W [.int .i64 y.K, .int .i64 y.A, .int .i64 y.To, .int .i64 y.Else, .slice la ln lc, .slice ma mn mc] y) (hn1 : ln ≤ 1048576) (hn2 : mn ≤ 1048576) :
    Says W 25 #[.agg #[.int .i64 y.K, .int .i64 y.A, .int .i64 y.To, .int .i64 y.Else, .slice la ln lc, .slice ma mn mc]] (mk (endText y)) :=
  fun u hb => rend_any la ma ln lc mn mc y u (EndQ.lasts _ _ _ _ hb h) hn1 hn2
theorem listT_types_txt {L : List Int} (h2 : L.length ≤ 1048576) (hr : ∀ z ∈ L, InR z) : Txt (mk (listText typeText L)) (listText typeText L) 100000000 := ⟨rfl, texts_len type_len h2 hr⟩
theorem head_split (k : Nat) (y : BlockD) : headText k y = Lib.itoa (k : Int) ++ [40] ++ listText typeText y.params ++ [41, 10] := by simp [headText, listT]
theorem step_split (n : Nat) (o : OpD) : stepLine n o = [32, 32, 118] ++ Lib.itoa (n : Int) ++ [32, 61, 32] ++ opT o ++ [10] := by simp [stepLine, valueText]

set_option maxRecDepth 100000 in
set_option maxHeartbeats 8000000 in
theorem func_ref (ba : Option Addr) (bn bc : Nat) (x : FuncD) (w : World) (h : FuncQ w [.int .i64 x.ret, .slice ba bn bc] x) (hfit : FitFunc x) :
    Calls Tryd.prog 10 #[.agg #[.int .i64 x.ret, .slice ba bn bc]] w fun e w' => e = .returned (.string (mk (funcText x))) ∧ Below w.heap.size w w' := by
  obtain ⟨bv, he, hret, hbv⟩ := h
  cases he
  have hblen := (rowV_len_ hbv).1
  have hbn := (rowV_len_ hbv).2
  obtain ⟨X, hX⟩ : ∃ X, X = w.heap.size := ⟨_, rfl⟩
  obtain ⟨W1, hW1⟩ : ∃ W1, W1 = w.alloc (.cells #[.int .i64 x.ret, .slice ba bn bc] 34) := ⟨_, rfl⟩
  have hbx : W1.heap[X]? = some (.cells #[.int .i64 x.ret, .slice ba bn bc] 34 (0, 0)) := by rw [hW1, hX]; exact heap_alloc_new w _
  have HB1 : RowKit.Hid (Below w.heap.size w W1) := Lib.hid (by rw [hW1]; exact (Below.refl _ _).alloc (Nat.le_refl _) _)
  have HBX : RowKit.Hid (∀ u, Below W1.heap.size W1 u → Below w.heap.size w u ∧ (∀ j, u.cell? ⟨X, j, none⟩ = (#[.int .i64 x.ret, .slice ba bn bc] : Array Value)[j]?)) := Lib.hid fun u hb =>
    ⟨keepS HB1.out hb, fun j => by
      have : u.heap[X]? = _ := (hb.block X (Array.getElem?_eq_some_iff.1 hbx).1).trans hbx
      simp [World.cell?, this]⟩
  have HO := Lib.hid hbv
  have HOL := Lib.hid hblen
  have HFIT := Lib.hid hfit
  have hmany : bn ≤ 1000000000 := by have := hfit.many; omega
  have X1 := Lib.hid (type_txt hret)
  have C1 := Lib.hid (says_rtype (W := w) hret)
  obtain ⟨t1, h1⟩ : ∃ t, t = mk (typeText x.ret) := ⟨_, rfl⟩
  rw [← h1] at X1 C1
  have z1 := X1.out.size
  have x0 := (HBX.out W1 (Below.refl _ _)).2 0
  clear hbv hblen hfit hbx h1 hret
  go_enter Tryd.func10, Tryd.ntmps10
  go_upto_region 1 with fail
  rw [← hX, ← hW1]
  clear hW1 hX
  go_wp2_with fail
  refine (C1.out.go HB1.out).mono ?_
  rintro e w1 ⟨rfl, hb1⟩
  have HC1 : RowKit.Hid (Below W1.heap.size W1 w1) := Lib.hid hb1
  have HS0 : RowKit.Hid (mkB [102, 117, 110, 99, 32] ++ t1 ++ mkB [10] = mk (funcHead x ++ blocksText 0 0 (x.blocks.take 0))) := Lib.hid (by have := (((Txt.lit [102, 117, 110, 99, 32]).app X1.out).app (Txt.lit [10])).is; rw [this]; simp [funcHead, blocksText]; rfl)
  clear hb1 x0
  have x1 := (HBX.out w1 HC1.out).2 1
  go_wp2_with fail
  go_loopw [3, 4, 5] (fun sv nv iv wr => ∃ k : Nat, k ≤ bn ∧ iv = .int .i64 (k : Int) ∧ nv = .int .i64 ((valsN (x.blocks.take k) : Nat) : Int) ∧ sv = .string (mk (funcHead x ++ blocksText 0 0 (x.blocks.take k))) ∧ RowKit.Hid (Below W1.heap.size W1 wr)) (fun _ _ iv _ => bn - (intOf iv).toNat)
  case atStart => exact ⟨0, Nat.zero_le _, rfl, by simp [valsN], congrArg Value.string HS0.out, HC1⟩
  case round =>
    obtain ⟨k, hk, rfl, rfl, rfl, HI⟩ := hrel
    obtain ⟨wo, hwo⟩ : ∃ u, u = wr := ⟨_, rfl⟩
    rw [← hwo] at HI ⊢
    clear hwo
    clear x1 z1
    have x1 := (HBX.out wo HI.out).2 1
    have HPRE : RowKit.Hid (∀ q, (funcHead x ++ blocksText 0 0 (x.blocks.take q)).length ≤ 1000000000000) := Lib.hid fun q => by
      have h1 := HFIT.out.len
      have h2 := blocksText_take 0 0 x.blocks q
      unfold funcText at h1
      simp only [List.length_append] at h1 ⊢
      omega
    by_cases hlt : k < bn
    · have HLT := Lib.hid hlt
      have HKL : RowKit.Hid (k < x.blocks.length) := Lib.hid (by rw [HOL.out]; exact hlt)
      obtain ⟨h, oo, rfl, hh, hcs⟩ := rowV_at_ HO.out (by omega)
      obtain ⟨cs, hc8, hcell, hq⟩ := hcs k HKL.out
      obtain ⟨y, hye⟩ : ∃ y, y = x.blocks[k]'HKL.out := ⟨_, rfl⟩
      rw [← hye] at hq
      have HYE : RowKit.Hid (x.blocks[k]'HKL.out = y) := Lib.hid hye.symm
      have hfy : FitBlock y := by rw [hye]; exact HFIT.out.blocks _ (List.getElem_mem HKL.out)
      obtain ⟨pv, ov, es, rfl, ⟨pa, pn, pc, rfl, hpat, _, _, hpr⟩, hov, hend⟩ := hq
      have hend' := hend
      obtain ⟨l1, m1, rfl, _, _, _, _, ⟨la, ln, lc, rfl, hlat, _⟩, ⟨ma, mn, mc, rfl, hmat, _⟩⟩ := hend'
      have hov' := hov
      obtain ⟨oa, on, oc, rfl, hol, _, hom, _⟩ := hov'
      have hbw := (HBX.out wo HI.out).1
      have hpl : y.params.length = pn := hpat.1
      have hpn : pn ≤ 1048576 := by rw [← hpl]; exact hfy.ps
      have hln : ln ≤ 1048576 := by rw [← hlat.1]; exact hfy.ls
      have hmn : mn ≤ 1048576 := by rw [← hmat.1]; exact hfy.ms
      have HOPS := Lib.hid hfy.ops
      have HOV := Lib.hid hov
      have HOLN := Lib.hid hol
      have HPL := Lib.hid hpl
      have d0 := (hbw.cell (p := ⟨h, oo + k * 8 + 0, none⟩) hh).trans (hcell 0 (by simp))
      have d1 := (hbw.cell (p := ⟨h, oo + k * 8 + 1, none⟩) hh).trans (hcell 1 (by simp))
      have d2 := (hbw.cell (p := ⟨h, oo + k * 8 + 2, none⟩) hh).trans (hcell 2 (by simp))
      have d3 := (hbw.cell (p := ⟨h, oo + k * 8 + 3, none⟩) hh).trans (hcell 3 (by simp))
      have d4 := (hbw.cell (p := ⟨h, oo + k * 8 + 4, none⟩) hh).trans (hcell 4 (by simp))
      have d5 := (hbw.cell (p := ⟨h, oo + k * 8 + 5, none⟩) hh).trans (hcell 5 (by simp))
      have d6 := (hbw.cell (p := ⟨h, oo + k * 8 + 6, none⟩) hh).trans (hcell 6 (by simp))
      have d7 := (hbw.cell (p := ⟨h, oo + k * 8 + 7, none⟩) hh).trans (hcell 7 (by simp))
      simp only [Nat.add_zero, List.getElem_cons_zero, List.getElem_cons_succ] at d0 d1 d2 d3 d4 d5 d6 d7
      have HVT : RowKit.Hid (valsN (x.blocks.take (k + 1)) = valsN (x.blocks.take k) + (pn + on)) := Lib.hid (by rw [List.take_succ_eq_append_getElem HKL.out, HYE.out, valsN_snoc, hpl, hol])
      have hv1 : valsN (x.blocks.take k) + (pn + on) ≤ 1000000000 := by rw [← HVT.out]; exact Nat.le_trans (valsN_take _ _) HFIT.out.vals
      have HTK : RowKit.Hid (blocksText 0 0 (x.blocks.take (k + 1)) = blocksText 0 0 (x.blocks.take k) ++ blockText k (valsN (x.blocks.take k)) y) := Lib.hid (by rw [List.take_succ_eq_append_getElem HKL.out, HYE.out, blocksText_snoc, List.length_take, Nat.min_eq_left (Nat.le_of_lt HKL.out), Nat.zero_add, Nat.zero_add])
      obtain ⟨V, hV⟩ : ∃ V, V = valsN (x.blocks.take k) := ⟨_, rfl⟩
      rw [← hV] at hv1 HVT HTK ⊢
      obtain ⟨PR, hPR⟩ : ∃ PR, PR = funcHead x ++ blocksText 0 0 (x.blocks.take k) := ⟨_, rfl⟩
      have HPR := Lib.hid hPR
      have HIN : RowKit.Hid (∀ q, (PR ++ headText k y ++ stepsText (V + pn) (y.ops.take q)).length + 6 + (endText y.fin).length ≤ 1000000000100) := Lib.hid fun q => by
        have h1 := HPRE.out (k + 1)
        have h2 := stepsText_take (V + pn) y.ops q
        rw [HTK.out, ← List.append_assoc, ← HPR.out] at h1
        unfold blockText at h1
        rw [HPL.out] at h1
        simp only [List.length_append, List.length_cons, List.length_nil] at h1 ⊢
        omega
      have HSV : RowKit.Hid (Txt (mk PR) PR 1000000000000) := Lib.hid ⟨rfl, by rw [hPR]; exact HPRE.out k⟩
      rw [← hPR]
      obtain ⟨a0, ha0⟩ : ∃ a, a = mk PR := ⟨_, rfl⟩
      rw [← ha0] at HSV ⊢
      have za := HSV.out.size
      have hkr : InR (k : Int) := ⟨by omega, by omega⟩
      have XK := Lib.hid (itoa_txt hkr)
      have CK := Lib.hid (says_num (W := wo) hkr)
      obtain ⟨s1, hs1⟩ : ∃ s, s = mkB (Lib.itoa (k : Int)) := ⟨_, rfl⟩
      rw [← hs1] at XK CK
      have zk := XK.out.size
      have XP := Lib.hid (listT_types_txt hfy.ps hpr)
      have CP := Lib.hid (Says.since (says_list0 (c := pc) hpat hpn hpr) hbw)
      obtain ⟨s2, hs2⟩ : ∃ s, s = mk (listText typeText y.params) := ⟨_, rfl⟩
      rw [← hs2] at XP CP
      have zp := XP.out.size
      have CE := Lib.hid (Says.since (says_rend hend hln hmn) hbw)
      have XE : RowKit.Hid (Txt (mk (endText y.fin)) (endText y.fin) 1000000000100) := Lib.hid ⟨rfl, by have := HIN.out 0; omega⟩
      obtain ⟨s5, hs5⟩ : ∃ s, s = mk (endText y.fin) := ⟨_, rfl⟩
      rw [← hs5] at XE CE
      obtain ⟨Z, hZ⟩ : ∃ Z, Z = wo.heap.size := ⟨_, rfl⟩
      have HZB : RowKit.Hid ((wo.alloc (.cells #[.slice pa pn pc, .slice oa on oc, .int .i64 y.fin.K, .int .i64 y.fin.A, .int .i64 y.fin.To, .int .i64 y.fin.Else, .slice la ln lc, .slice ma mn mc] 48)).heap[Z]? = some (.cells #[.slice pa pn pc, .slice oa on oc, .int .i64 y.fin.K, .int .i64 y.fin.A, .int .i64 y.fin.To, .int .i64 y.fin.Else, .slice la ln lc, .slice ma mn mc] 48 (0, 0))) := Lib.hid (by rw [hZ]; exact heap_alloc_new wo _)
      have HBW : RowKit.Hid (Below wo.heap.size wo (wo.alloc (.cells #[.slice pa pn pc, .slice oa on oc, .int .i64 y.fin.K, .int .i64 y.fin.A, .int .i64 y.fin.To, .int .i64 y.fin.Else, .slice la ln lc, .slice ma mn mc] 48))) := Lib.hid ((Below.refl _ _).alloc (Nat.le_refl _) _)
      clear hcell hcs hye hc8 hpat hpr hov hend hlat hmat hol hfy hbw hV hPR ha0 hs1 hs2 hs5 hpl hkr
      go_upto_region 6 with fail
      rw [← hZ]
      generalize hW6 : wo.alloc (.cells #[.slice pa pn pc, .slice oa on oc, .int .i64 y.fin.K, .int .i64 y.fin.A, .int .i64 y.fin.To, .int .i64 y.fin.Else, .slice la ln lc, .slice ma mn mc] 48) = W6 at HZB HBW ⊢
      clear hW6 hZ d0 d1 d2 d3 d4 d5 d6 d7 x1
      have HBZ : RowKit.Hid (∀ u, Below W6.heap.size W6 u → ∀ j, u.cell? ⟨Z, j, none⟩ = (#[.slice pa pn pc, .slice oa on oc, .int .i64 y.fin.K, .int .i64 y.fin.A, .int .i64 y.fin.To, .int .i64 y.fin.Else, .slice la ln lc, .slice ma mn mc] : Array Value)[j]?) := Lib.hid fun u hb j => by
        have : u.heap[Z]? = _ := (hb.block Z (Array.getElem?_eq_some_iff.1 HZB.out).1).trans HZB.out
        simp [World.cell?, this]
      have HKS : RowKit.Hid (∀ u, Below W6.heap.size W6 u → (fun u => u.cell? ⟨Z, 0, none⟩ = some (.slice pa pn pc)) u) := Lib.hid fun u hb => HBZ.out u hb 0
      have hk0 : Below W6.heap.size W6 W6.drew := (Below.refl _ _).drew
      have hj0 := keepS HBW.out hk0
      refine wp_region_held_drew (S := (fun u => u.cell? ⟨Z, 0, none⟩ = some (.slice pa pn pc))) (by kernel_rfl) (HKS.out _ hk0) (fun hHeld => ?_)
      refine wpAnyH_take (i := 0) (oi := ⟨some 25, _, _, _, _, _⟩) (v := ?_) rfl (by kernel_rfl) (by kernel_rfl) (by kernel_rfl) (fun _ _ _ h => h) (Or.inl ⟨by rfl, ?_⟩) (by assumption) ?_
      rotate_left
      · ((intro w hSw; (try dsimp only at hSw); go_simp); try with_reducible rfl)
      (try simp only [Act.put, List.setIfInBounds_toArray, List.set_cons_zero, List.set_cons_succ])
      refine wpAnyH_take (i := 1) (oi := ⟨some 26, _, _, _, _, _⟩) (v := ?_) rfl (by kernel_rfl) (by kernel_rfl) (by kernel_rfl) (fun _ _ _ h => h) (Or.inl ⟨by rfl, ?_⟩) (by assumption) ?_
      rotate_left
      · ((intro w hSw; (try dsimp only at hSw); go_simp); try with_reducible rfl)
      (try simp only [Act.put, List.setIfInBounds_toArray, List.set_cons_zero, List.set_cons_succ])
      refine wpAnyH_take (i := 5) (oi := ⟨some 30, _, _, _, _, _⟩) (v := ?_) rfl (by kernel_rfl) (by kernel_rfl) (by kernel_rfl) (fun _ _ _ h => h) (Or.inl ⟨by rfl, ?_⟩) (by assumption) ?_
      rotate_left
      · ((intro w hSw; (try dsimp only at hSw); go_simp); try with_reducible rfl)
      (try simp only [Act.put, List.setIfInBounds_toArray, List.set_cons_zero, List.set_cons_succ])
      refine wpAnyH_take (i := 6) (oi := ⟨some 31, _, _, _, _, _⟩) (v := ?_) rfl (by kernel_rfl) (by kernel_rfl) (by kernel_rfl) (fun _ _ _ h => h) (Or.inl ⟨by rfl, ?_⟩) (by assumption) ?_
      rotate_left
      · ((intro w hSw; (try dsimp only at hSw); go_simp); try with_reducible rfl)
      (try simp only [Act.put, List.setIfInBounds_toArray, List.set_cons_zero, List.set_cons_succ])
      refine wpAnyH_ready (rs := [2]) (by kernel_rfl) (by simp) (AllReadyH.cons rfl (fun K hK => ?_) AllReadyH.nil)
      rw [if_pos (by rfl)]
      go_simp
      go_at_call 23
      (with_reducible refine (CK.out.go hj0).mono ?_)
      rintro e w7 ⟨rfl, hb7⟩
      have hk7 := keepS hk0 hb7
      have hj7 := keepS hj0 hb7
      clear hb7
      refine hK.out _ _ (HKS.out _ hk7) (fun hHeld => ?_)
      clear hK K
      (try simp only [Act.put, List.setIfInBounds_toArray, List.set_cons_zero, List.set_cons_succ])
      refine wpAnyH_take (i := 3) (oi := ⟨some 28, _, _, _, _, _⟩) (v := ?_) rfl (by kernel_rfl) (by kernel_rfl) (by kernel_rfl) (fun _ _ _ h => h) (Or.inl ⟨by rfl, ?_⟩) (by assumption) ?_
      rotate_left
      · ((intro w hSw; (try dsimp only at hSw); go_simp; rw [if_neg (by omega)]); try with_reducible rfl)
      (try simp only [Act.put, List.setIfInBounds_toArray, List.set_cons_zero, List.set_cons_succ])
      refine wpAnyH_take (i := 4) (oi := ⟨some 29, _, _, _, _, _⟩) (v := ?_) rfl (by kernel_rfl) (by kernel_rfl) (by kernel_rfl) (fun _ _ _ h => h) (Or.inl ⟨by rfl, ?_⟩) (by assumption) ?_
      rotate_left
      · ((intro w hSw; (try dsimp only at hSw); go_simp; rw [if_neg (by omega)]); try with_reducible rfl)
      (try simp only [Act.put, List.setIfInBounds_toArray, List.set_cons_zero, List.set_cons_succ])
      refine wpAnyH_ready (rs := [7]) (by kernel_rfl) (by simp) (AllReadyH.cons rfl (fun K hK => ?_) AllReadyH.nil)
      rw [if_pos (by rfl)]
      go_simp
      go_at_call 18
      (with_reducible refine (CP.out.go hj7).mono ?_)
      rintro e w8 ⟨rfl, hb8⟩
      have hk8 := keepS hk7 hb8
      have HK8 := Lib.hid hk8
      clear hb8
      refine hK.out _ _ (HKS.out _ hk8) (fun hHeld => ?_)
      clear hK K
      (try simp only [Act.put, List.setIfInBounds_toArray, List.set_cons_zero, List.set_cons_succ])
      refine wpAnyH_take (i := 8) (oi := ⟨some 33, _, _, _, _, _⟩) (v := ?_) rfl (by kernel_rfl) (by kernel_rfl) (by kernel_rfl) (fun _ _ _ h => h) (Or.inl ⟨by rfl, ?_⟩) (by assumption) ?_
      rotate_left
      · ((intro w hSw; (try dsimp only at hSw); go_simp; rw [if_neg (by omega)]); try with_reducible rfl)
      (try simp only [Act.put, List.setIfInBounds_toArray, List.set_cons_zero, List.set_cons_succ])
      refine wpAnyH_take (i := 9) (oi := ⟨some 34, _, _, _, _, _⟩) (v := ?_) rfl (by kernel_rfl) (by kernel_rfl) (by kernel_rfl) (fun _ _ _ h => h) (Or.inl ⟨by rfl, ?_⟩) (by assumption) ?_
      rotate_left
      · ((intro w hSw; (try dsimp only at hSw); go_simp; rw [if_neg (by omega)]); try with_reducible rfl)
      (try simp only [Act.put, List.setIfInBounds_toArray, List.set_cons_zero, List.set_cons_succ])
      refine wpAnyH_take (i := 10) (oi := ⟨some 3, _, _, _, _, _⟩) (v := ?_) rfl (by kernel_rfl) (by kernel_rfl) (by kernel_rfl) (fun _ _ _ h => h) (Or.inl ⟨by rfl, ?_⟩) (by assumption) ?_
      rotate_left
      · ((intro w hSw; (try dsimp only at hSw); go_simp); try with_reducible rfl)
      (try simp only [Act.put, List.setIfInBounds_toArray, List.set_cons_zero, List.set_cons_succ])
      refine wpAnyH_done (by kernel_rfl) ?_ _
      have HS1 : RowKit.Hid (a0 ++ s1 ++ mkB [40] ++ s2 ++ mkB [41, 10] = mk (PR ++ headText k y ++ stepsText (V + pn) (y.ops.take 0))) := Lib.hid (by have := ((((HSV.out.app XK.out).app (Txt.lit [40])).app XP.out).app (Txt.lit [41, 10])).is; rw [this, head_split]; simp [stepsText]; rfl)
      clear hk0 hj0 hk7 hj7 hk8 za zk zp
      have x0 := HBZ.out w8 HK8.out 0
      have x1 := HBZ.out w8 HK8.out 1
      go_wp2_with fail
      go_loopw [3, 4, 7] (fun sv nv iv wq => ∃ q : Nat, q ≤ on ∧ iv = .int .i64 (q : Int) ∧ nv = .int .i64 ((V + pn + q : Nat) : Int) ∧ sv = .string (mk (PR ++ headText k y ++ stepsText (V + pn) (y.ops.take q))) ∧ RowKit.Hid (Below W6.heap.size W6 wq)) (fun _ _ iv _ => on - (intOf iv).toNat)
      case atStart => exact ⟨0, Nat.zero_le _, rfl, by go_num, congrArg Value.string HS1.out, HK8⟩
      case round =>
        obtain ⟨q, hqn, rfl, rfl, rfl, HJ⟩ := hrel
        obtain ⟨wq, hwq⟩ : ∃ u, u = wr := ⟨_, rfl⟩
        rw [← hwq] at HJ ⊢
        clear hwq
        clear x0 x1
        have x1 := HBZ.out wq HJ.out 1
        have XA : RowKit.Hid (Txt (mk (PR ++ headText k y ++ stepsText (V + pn) (y.ops.take q))) (PR ++ headText k y ++ stepsText (V + pn) (y.ops.take q)) 1000000000100) := Lib.hid ⟨rfl, by have := HIN.out q; omega⟩
        obtain ⟨a1, ha1⟩ : ∃ a, a = mk (PR ++ headText k y ++ stepsText (V + pn) (y.ops.take q)) := ⟨_, rfl⟩
        rw [← ha1] at XA ⊢
        have za := XA.out.size
        clear ha1
        by_cases hq : q < on
        · have HLQ := Lib.hid hq
          have HQL : RowKit.Hid (q < y.ops.length) := Lib.hid (by rw [HOLN.out]; exact hq)
          obtain ⟨h2, o2, rfl, hh2, hcs2⟩ := rowV_at_ HOV.out (by omega)
          obtain ⟨cs2, hc82, hcell2, hq2⟩ := hcs2 q HQL.out
          obtain ⟨t, hte⟩ : ∃ t, t = y.ops[q]'HQL.out := ⟨_, rfl⟩
          rw [← hte] at hq2
          have HTE : RowKit.Hid (y.ops[q]'HQL.out = t) := Lib.hid hte.symm
          have hft : FitOp t := by rw [hte]; exact HOPS.out _ (List.getElem_mem HQL.out)
          obtain ⟨ea, en, ec, rfl⟩ := opQ_form hq2
          have hbj : Below w.heap.size w wq := keepS (HBX.out wo HI.out).1 (keepS HBW.out HJ.out)
          have HKT : RowKit.Hid (∀ u, Below wq.heap.size wq u → (fun u => u.cell? ⟨Z, 1, none⟩ = some (.slice (some ⟨h2, o2, none⟩) on oc) ∧ u.cell? ⟨h2, o2 + q * 8, none⟩ = some (.int .i64 t.K) ∧ u.cell? ⟨h2, o2 + q * 8 + 1, none⟩ = some (.int .i64 t.A) ∧ u.cell? ⟨h2, o2 + q * 8 + 2, none⟩ = some (.int .i64 t.B) ∧ u.cell? ⟨h2, o2 + q * 8 + 3, none⟩ = some (.int .i64 t.C) ∧ u.cell? ⟨h2, o2 + q * 8 + 4, none⟩ = some (.int .i64 t.N) ∧ u.cell? ⟨h2, o2 + q * 8 + 5, none⟩ = some (.string t.S) ∧ u.cell? ⟨h2, o2 + q * 8 + 6, none⟩ = some (.slice ea en ec) ∧ u.cell? ⟨h2, o2 + q * 8 + 7, none⟩ = some (.bool t.T)) u) := Lib.hid fun u hb => ⟨HBZ.out u (keepS HJ.out hb) 1, ((keepS hbj hb).cell (p := ⟨h2, o2 + q * 8 + 0, none⟩) hh2).trans (hcell2 0 (by simp)), ((keepS hbj hb).cell (p := ⟨h2, o2 + q * 8 + 1, none⟩) hh2).trans (hcell2 1 (by simp)), ((keepS hbj hb).cell (p := ⟨h2, o2 + q * 8 + 2, none⟩) hh2).trans (hcell2 2 (by simp)), ((keepS hbj hb).cell (p := ⟨h2, o2 + q * 8 + 3, none⟩) hh2).trans (hcell2 3 (by simp)), ((keepS hbj hb).cell (p := ⟨h2, o2 + q * 8 + 4, none⟩) hh2).trans (hcell2 4 (by simp)), ((keepS hbj hb).cell (p := ⟨h2, o2 + q * 8 + 5, none⟩) hh2).trans (hcell2 5 (by simp)), ((keepS hbj hb).cell (p := ⟨h2, o2 + q * 8 + 6, none⟩) hh2).trans (hcell2 6 (by simp)), ((keepS hbj hb).cell (p := ⟨h2, o2 + q * 8 + 7, none⟩) hh2).trans (hcell2 7 (by simp))⟩
          have hnr : InR ((V + pn + q : Nat) : Int) := ⟨by omega, by omega⟩
          have XN := Lib.hid (itoa_txt hnr)
          have CN := Lib.hid (says_num (W := wq) hnr)
          obtain ⟨s3, hs3⟩ : ∃ s, s = mkB (Lib.itoa ((V + pn + q : Nat) : Int)) := ⟨_, rfl⟩
          rw [← hs3] at XN CN
          rw [show ((V + pn + q : Nat) : Int) = (V : Int) + (pn : Int) + (q : Int) by omega] at CN
          have zn := XN.out.size
          have CO := Lib.hid (Says.since (says_rop hq2 hft) hbj)
          have HTQ : RowKit.Hid (stepsText (V + pn) (y.ops.take (q + 1)) = stepsText (V + pn) (y.ops.take q) ++ stepLine (V + pn + q) t) := Lib.hid (by rw [List.take_succ_eq_append_getElem HQL.out, HTE.out, stepsText_snoc, List.length_take, Nat.min_eq_left (Nat.le_of_lt HQL.out)])
          have XO : RowKit.Hid (Txt (mk (opT t)) (opT t) 1000000000100) := Lib.hid ⟨rfl, by have h1 := HIN.out (q + 1); rw [HTQ.out] at h1; unfold stepLine at h1; simp only [List.length_append] at h1; omega⟩
          obtain ⟨s4, hs4⟩ : ∃ s, s = mk (opT t) := ⟨_, rfl⟩
          rw [← hs4] at XO CO
          have zo := XO.out.size
          clear hcs2 hc82 hcell2 hq2 hte hft hbj hnr hs3 hs4 hh2
          go_upto_region 11 with fail
          have hk0 : Below wq.heap.size wq wq.drew := (Below.refl _ _).drew
          refine wp_region_held_drew (S := (fun u => u.cell? ⟨Z, 1, none⟩ = some (.slice (some ⟨h2, o2, none⟩) on oc) ∧ u.cell? ⟨h2, o2 + q * 8, none⟩ = some (.int .i64 t.K) ∧ u.cell? ⟨h2, o2 + q * 8 + 1, none⟩ = some (.int .i64 t.A) ∧ u.cell? ⟨h2, o2 + q * 8 + 2, none⟩ = some (.int .i64 t.B) ∧ u.cell? ⟨h2, o2 + q * 8 + 3, none⟩ = some (.int .i64 t.C) ∧ u.cell? ⟨h2, o2 + q * 8 + 4, none⟩ = some (.int .i64 t.N) ∧ u.cell? ⟨h2, o2 + q * 8 + 5, none⟩ = some (.string t.S) ∧ u.cell? ⟨h2, o2 + q * 8 + 6, none⟩ = some (.slice ea en ec) ∧ u.cell? ⟨h2, o2 + q * 8 + 7, none⟩ = some (.bool t.T))) (by kernel_rfl) (HKT.out _ hk0) (fun hHeld => ?_)
          refine wpAnyH_take (i := 0) (oi := ⟨some 47, _, _, _, _, _⟩) (v := ?_) rfl (by kernel_rfl) (by kernel_rfl) (by kernel_rfl) (fun _ _ _ h => h) (Or.inl ⟨by rfl, ?_⟩) (by assumption) ?_
          rotate_left
          · ((intro w hSw; (try dsimp only at hSw); go_simp); try with_reducible rfl)
          (try simp only [Act.put, List.setIfInBounds_toArray, List.set_cons_zero, List.set_cons_succ])
          refine wpAnyH_take (i := 1) (oi := ⟨some 48, _, _, _, _, _⟩) (v := ?_) rfl (by kernel_rfl) (by kernel_rfl) (by kernel_rfl) (fun _ _ _ h => h) (Or.inl ⟨by rfl, ?_⟩) (by assumption) ?_
          rotate_left
          · ((intro w hSw; (try dsimp only at hSw); go_simp; rw [if_neg (by omega)]); try with_reducible rfl)
          (try simp only [Act.put, List.setIfInBounds_toArray, List.set_cons_zero, List.set_cons_succ])
          refine wpAnyH_take (i := 2) (oi := ⟨some 49, _, _, _, _, _⟩) (v := ?_) rfl (by kernel_rfl) (by kernel_rfl) (by kernel_rfl) (fun _ _ _ h => h) (Or.inl ⟨by rfl, ?_⟩) (by assumption) ?_
          rotate_left
          · ((intro w hSw; (try dsimp only at hSw); go_simp); try with_reducible rfl)
          (try simp only [Act.put, List.setIfInBounds_toArray, List.set_cons_zero, List.set_cons_succ])
          refine wpAnyH_take (i := 6) (oi := ⟨some 53, _, _, _, _, _⟩) (v := ?_) rfl (by kernel_rfl) (by kernel_rfl) (by kernel_rfl) (fun _ _ _ h => h) (Or.inl ⟨by rfl, ?_⟩) (by assumption) ?_
          rotate_left
          · ((intro w hSw; (try dsimp only at hSw); go_simp); try with_reducible rfl)
          (try simp only [Act.put, List.setIfInBounds_toArray, List.set_cons_zero, List.set_cons_succ])
          refine wpAnyH_take (i := 7) (oi := ⟨some 54, _, _, _, _, _⟩) (v := ?_) rfl (by kernel_rfl) (by kernel_rfl) (by kernel_rfl) (fun _ _ _ h => h) (Or.inl ⟨by rfl, ?_⟩) (by assumption) ?_
          rotate_left
          · ((intro w hSw; (try dsimp only at hSw); go_simp); try with_reducible rfl)
          (try simp only [Act.put, List.setIfInBounds_toArray, List.set_cons_zero, List.set_cons_succ])
          refine wpAnyH_take (i := 8) (oi := ⟨some 55, _, _, _, _, _⟩) (v := ?_) rfl (by kernel_rfl) (by kernel_rfl) (by kernel_rfl) (fun _ _ _ h => h) (Or.inl ⟨by rfl, ?_⟩) (by assumption) ?_
          rotate_left
          · ((intro w hSw; (try dsimp only at hSw); go_simp); try with_reducible rfl)
          (try simp only [Act.put, List.setIfInBounds_toArray, List.set_cons_zero, List.set_cons_succ])
          refine wpAnyH_take (i := 9) (oi := ⟨some 56, _, _, _, _, _⟩) (v := ?_) rfl (by kernel_rfl) (by kernel_rfl) (by kernel_rfl) (fun _ _ _ h => h) (Or.inl ⟨by rfl, ?_⟩) (by assumption) ?_
          rotate_left
          · ((intro w hSw; (try dsimp only at hSw); go_simp); try with_reducible rfl)
          (try simp only [Act.put, List.setIfInBounds_toArray, List.set_cons_zero, List.set_cons_succ])
          refine wpAnyH_take (i := 10) (oi := ⟨some 57, _, _, _, _, _⟩) (v := ?_) rfl (by kernel_rfl) (by kernel_rfl) (by kernel_rfl) (fun _ _ _ h => h) (Or.inl ⟨by rfl, ?_⟩) (by assumption) ?_
          rotate_left
          · ((intro w hSw; (try dsimp only at hSw); go_simp); try with_reducible rfl)
          (try simp only [Act.put, List.setIfInBounds_toArray, List.set_cons_zero, List.set_cons_succ])
          refine wpAnyH_ready (rs := [3]) (by kernel_rfl) (by simp) (AllReadyH.cons rfl (fun K hK => ?_) AllReadyH.nil)
          rw [if_pos (by rfl)]
          go_simp
          go_at_call 23
          (with_reducible refine (CN.out.go hk0).mono ?_)
          rintro e w9 ⟨rfl, hb9⟩
          have hk9 := keepS hk0 hb9
          clear hb9
          refine hK.out _ _ (HKT.out _ hk9) (fun hHeld => ?_)
          clear hK K
          (try simp only [Act.put, List.setIfInBounds_toArray, List.set_cons_zero, List.set_cons_succ])
          refine wpAnyH_take (i := 4) (oi := ⟨some 51, _, _, _, _, _⟩) (v := ?_) rfl (by kernel_rfl) (by kernel_rfl) (by kernel_rfl) (fun _ _ _ h => h) (Or.inl ⟨by rfl, ?_⟩) (by assumption) ?_
          rotate_left
          · ((intro w hSw; (try dsimp only at hSw); go_simp; rw [if_neg (by omega)]); try with_reducible rfl)
          (try simp only [Act.put, List.setIfInBounds_toArray, List.set_cons_zero, List.set_cons_succ])
          refine wpAnyH_take (i := 5) (oi := ⟨some 52, _, _, _, _, _⟩) (v := ?_) rfl (by kernel_rfl) (by kernel_rfl) (by kernel_rfl) (fun _ _ _ h => h) (Or.inl ⟨by rfl, ?_⟩) (by assumption) ?_
          rotate_left
          · ((intro w hSw; (try dsimp only at hSw); go_simp; rw [if_neg (by omega)]); try with_reducible rfl)
          (try simp only [Act.put, List.setIfInBounds_toArray, List.set_cons_zero, List.set_cons_succ])
          refine wpAnyH_ready (rs := [11]) (by kernel_rfl) (by simp) (AllReadyH.cons rfl (fun K hK => ?_) AllReadyH.nil)
          rw [if_pos (by rfl)]
          go_simp
          go_at_call 24
          (with_reducible refine (CO.out.go hk9).mono ?_)
          rintro e wa ⟨rfl, hba⟩
          have hka := keepS hk9 hba
          have HKA := Lib.hid (keepS HJ.out hka)
          clear hba
          refine hK.out _ _ (HKT.out _ hka) (fun hHeld => ?_)
          clear hK K
          (try simp only [Act.put, List.setIfInBounds_toArray, List.set_cons_zero, List.set_cons_succ])
          refine wpAnyH_take (i := 12) (oi := ⟨some 59, _, _, _, _, _⟩) (v := ?_) rfl (by kernel_rfl) (by kernel_rfl) (by kernel_rfl) (fun _ _ _ h => h) (Or.inl ⟨by rfl, ?_⟩) (by assumption) ?_
          rotate_left
          · ((intro w hSw; (try dsimp only at hSw); go_simp; rw [if_neg (by omega)]); try with_reducible rfl)
          (try simp only [Act.put, List.setIfInBounds_toArray, List.set_cons_zero, List.set_cons_succ])
          refine wpAnyH_take (i := 13) (oi := ⟨some 60, _, _, _, _, _⟩) (v := ?_) rfl (by kernel_rfl) (by kernel_rfl) (by kernel_rfl) (fun _ _ _ h => h) (Or.inl ⟨by rfl, ?_⟩) (by assumption) ?_
          rotate_left
          · ((intro w hSw; (try dsimp only at hSw); go_simp; rw [if_neg (by omega)]); try with_reducible rfl)
          (try simp only [Act.put, List.setIfInBounds_toArray, List.set_cons_zero, List.set_cons_succ])
          refine wpAnyH_take (i := 14) (oi := ⟨some 3, _, _, _, _, _⟩) (v := ?_) rfl (by kernel_rfl) (by kernel_rfl) (by kernel_rfl) (fun _ _ _ h => h) (Or.inl ⟨by rfl, ?_⟩) (by assumption) ?_
          rotate_left
          · ((intro w hSw; (try dsimp only at hSw); go_simp); try with_reducible rfl)
          (try simp only [Act.put, List.setIfInBounds_toArray, List.set_cons_zero, List.set_cons_succ])
          refine wpAnyH_done (by kernel_rfl) ?_ _
          have HS2 : RowKit.Hid (a1 ++ mkB [32, 32, 118] ++ s3 ++ mkB [32, 61, 32] ++ s4 ++ mkB [10] = mk (PR ++ headText k y ++ stepsText (V + pn) (y.ops.take (q + 1)))) := Lib.hid (by have := (((((XA.out.app (Txt.lit [32, 32, 118])).app XN.out).app (Txt.lit [32, 61, 32])).app XO.out).app (Txt.lit [10])).is; rw [this, HTQ.out, step_split]; simp; rfl)
          clear hk0 hk9 hka za zn zo x1
          go_wp2_with fail
          go_roundw
          case rel => exact ⟨q + 1, by have := HLQ.out; omega, by go_num, by go_num, congrArg Value.string HS2.out, HKA⟩
          case measure => simp [intOf]; omega
        · have hcl := HBZ.out wq HJ.out
          have c2 := hcl 2
          have c3 := hcl 3
          have c4 := hcl 4
          have c5 := hcl 5
          have c6 := hcl 6
          have c7 := hcl 7
          have ze := XE.out.size
          have HJW := Lib.hid (keepS HBW.out HJ.out)
          clear hcl
          go_wp2_with fail
          refine (CE.out.go HJW.out).mono ?_
          rintro e wb ⟨rfl, hbb⟩
          have HKB := Lib.hid (HI.out.trans ((keepS HJW.out hbb).mono HI.out.size))
          have HS3 : RowKit.Hid (a1 ++ mkB [32, 32] ++ s5 ++ mkB [10] = mk (funcHead x ++ blocksText 0 0 (x.blocks.take (k + 1)))) := Lib.hid (by have := (((XA.out.app (Txt.lit [32, 32])).app XE.out).app (Txt.lit [10])).is; rw [this, HTK.out, ← List.append_assoc, ← HPR.out]; rw [List.take_of_length_le (by rw [HOLN.out]; omega)]; unfold blockText; rw [HPL.out]; simp; rfl)
          clear hbb c2 c3 c4 c5 c6 c7 x1
          go_wp2_with fail
          go_roundw
          case rel => exact ⟨k + 1, by have := HLT.out; omega, by go_num, by rw [HVT.out]; go_num, congrArg Value.string HS3.out, HKB⟩
          case measure => simp [intOf]; omega
    · have HFULL : RowKit.Hid (funcHead x ++ blocksText 0 0 (x.blocks.take k) = funcText x) := Lib.hid (by rw [List.take_of_length_le (by rw [HOL.out]; omega)]; rfl)
      have HD := Lib.hid (HBX.out wo HI.out).1
      rw [HFULL.out]
      go_wp2_with fail
      go_ret
      exact ⟨rfl, HD.out⟩
end Go.Proofs.YtccajbgdlicbnaaDoor
