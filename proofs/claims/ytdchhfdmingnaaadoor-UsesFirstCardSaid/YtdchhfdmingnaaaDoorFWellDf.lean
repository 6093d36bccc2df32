/- Layer 9: the document's fun: whether a function is well made (mk_dfun.py). -/
import Derived.Test.YtdchhfdmingnaaaDoorFCfgX
import Derived.Test.YtdchhfdmingnaaaDoorFT1
import Derived.Test.YtdchhfdmingnaaaDoorFT3
import Derived.Test.YtdchhfdmingnaaaDoorFWellDe
import Derived.Test.YtdchhfdmingnaaaDoorFWellTd

namespace Go.Proofs.YtdchhfdmingnaaaDoor
open Go.RowKit (wrap64 intOf Below)
set_option linter.unusedVariables false
set_option linter.unusedSimpArgs false
theorem dusesL_len (K A B C : Int) (L : List Int) : (usesL K A B C L).length ≤ 3 + L.length := by
  unfold usesL
  have h1 := oneL_len (hasB K 65) A
  have h2 := oneL_len (hasB K 66) B
  have h3 := oneL_len (hasB K 67) C
  have h4 : (pickL (hasB K 76) L).length ≤ L.length := by unfold pickL; split <;> simp
  simp only [List.length_append]
  omega
theorem opD_at {W : World} {oa : Option Addr} {on oc : Nat} {xs : List OpD} (h : RowV OpQ 8 W (.slice oa on oc) xs) {k : Nat} (hk : k < on) : ∃ (hx : k < xs.length) (g off : Nat) (la : Option Addr) (ln lc : Nat), oa = some ⟨g, off, none⟩ ∧ g < W.heap.size ∧
    (∀ j, j < 8 → W.cell? ⟨g, off + k * 8 + j, none⟩ = (#[.int .i64 xs[k].K, .int .i64 xs[k].A, .int .i64 xs[k].B, .int .i64 xs[k].C, .int .i64 xs[k].N, .string xs[k].S, .slice la ln lc, .bool xs[k].T] : Array Value)[j]?) ∧ NumsV W (.slice la ln lc) xs[k].L ∧ InR xs[k].N := by
  obtain ⟨a', n', c', e, hl, _, _, hrow⟩ := h
  cases e
  obtain ⟨g, off, rfl, hg, hcs⟩ := hrow (by omega)
  have hx : k < xs.length := by omega
  obtain ⟨cs, h8, hc, l, rfl, _, _, _, _, hN, _, hnv⟩ := hcs k hx
  have hnv2 := hnv
  obtain ⟨la, ln, lc, rfl, _⟩ := hnv
  refine ⟨hx, g, off, la, ln, lc, rfl, hg, fun j hj => ?_, hnv2, hN⟩
  have hj' : j = 0 ∨ j = 1 ∨ j = 2 ∨ j = 3 ∨ j = 4 ∨ j = 5 ∨ j = 6 ∨ j = 7 := by omega
  rcases hj' with rfl | rfl | rfl | rfl | rfl | rfl | rfl | rfl <;> exact hc _ (by simp)
set_option maxRecDepth 100000 in
set_option maxHeartbeats 8000000 in
theorem dfun_any (g : Nat) {sa : Option Addr} {sn sc : Nat} {ca : Option Addr} {cn cc : Nat} {qa : Option Addr} {qn qc : Nat} {P : ProgD} (a : Option Addr) (n c : Nat) (f : FuncD) (w : World) (hP : ProgAt w g sa sn sc ca cn cc qa qn qc P) (hf : FuncQ w [.int .i64 f.ret, .slice a n c] f) (hn : n ≤ 100000) (hv : valuesN f ≤ 1099511627776) :
    Calls Tryd.prog 34 #[.pointer (some ⟨g, 0, none⟩), .agg #[.int .i64 f.ret, .slice a n c]] w fun e w' => e = .returned (.bool (funD P f)) ∧ Below w.heap.size w w' := by
  obtain ⟨W1, hW1⟩ : ∃ U, w.alloc (.cells #[.int .i64 f.ret, .slice a n c] 30) = U := ⟨_, rfl⟩
  have hb1 : Below w.heap.size w W1 := by rw [← hW1]; exact (Below.refl _ w).alloc (Nat.le_refl _) _
  have d0 : W1.cell? ⟨w.heap.size, 0, none⟩ = some (.int .i64 f.ret) := by rw [← hW1]; exact World.cell?_alloc_mark _ _ _ _ _
  have d1 : W1.cell? ⟨w.heap.size, 1, none⟩ = some (.slice a n c) := by rw [← hW1]; exact World.cell?_alloc_mark _ _ _ _ _
  have hs1 : w.heap.size < W1.heap.size := by rw [← hW1]; simp
  have HB := Lib.hid hb1
  have HP := Lib.hid (hP.since hb1)
  have HF : RowKit.Hid (FuncQ W1 [.int .i64 f.ret, .slice a n c] f) := Lib.hid (FuncQ.lasts _ _ _ _ hb1 hf)
  have hret : InR f.ret := by obtain ⟨_, he, h, _⟩ := hf; exact h
  have HRW : RowKit.Hid (RowV BlockQ 8 W1 (.slice a n c) f.blocks) := Lib.hid (by
    obtain ⟨bv, he, _, hr⟩ := HF.out
    simp only [List.cons.injEq, and_true] at he
    obtain ⟨_, rfl⟩ := he
    exact hr)
  have HN : RowKit.Hid (n = f.blocks.length) := Lib.hid (by obtain ⟨_, _, _, e, h, _⟩ := HRW.out; cases e; exact h.symm)
  have HCL : RowKit.Hid (P.classes.length ≤ 140737488355328) := Lib.hid (by have := hP.c.len; omega)
  have HTR : RowKit.Hid (∀ z ∈ typesL P f, InR z) := Lib.hid (typesK_r hP.r HCL.out HRW.out.parR _)
  have HTLN : RowKit.Hid ((typesL P f).length = valuesN f) := Lib.hid (typesL_len P f)
  have HVN := Lib.hid hv
  obtain ⟨rt, hrt⟩ : ∃ t, t = f.ret := ⟨_, rfl⟩
  have HFC : RowKit.Hid (∀ U, Below W1.heap.size W1 U → U.cell? ⟨w.heap.size, 0, none⟩ = some (.int .i64 rt) ∧ U.cell? ⟨w.heap.size, 1, none⟩ = some (.slice a n c)) := Lib.hid fun U hU => ⟨by rw [hrt]; exact (hU.cell (p := ⟨w.heap.size, 0, none⟩) hs1).trans d0, (hU.cell (p := ⟨w.heap.size, 1, none⟩) hs1).trans d1⟩
  have CTD : RowKit.Hid (∀ U, Below W1.heap.size W1 U → Calls Tryd.prog 32 #[.pointer (some ⟨g, 0, none⟩), .int .i64 rt] U fun e w' => e = .returned (.bool (toldB P f.ret)) ∧ U = w') := Lib.hid fun U hU => by rw [hrt]; exact dtold_any g f.ret U (HP.out.since hU) hret
  have CO : RowKit.Hid (∀ U, Below W1.heap.size W1 U → Calls Tryd.prog 53 #[.agg #[.int .i64 rt, .slice a n c]] U fun e w' => ∃ va vn vc, e = .returned (.slice va vn vc) ∧ OwnsI w' U.heap.size 3 (.slice va vn vc) (orderL f) ∧ Below U.heap.size U w') := Lib.hid fun U hU => reforder_any rt a n c f U (HRW.out.since BlockQ.lasts hU) (by omega)
  have CTY : RowKit.Hid (∀ U, Below W1.heap.size W1 U → Calls Tryd.prog 54 #[.pointer (some ⟨g, 0, none⟩), .agg #[.int .i64 rt, .slice a n c]] U fun e w' => ∃ va vn vc, e = .returned (.slice va vn vc) ∧ OwnsI w' U.heap.size 3 (.slice va vn vc) (typesL P f) ∧ Below U.heap.size U w') := Lib.hid fun U hU => by rw [hrt]; exact reftypes_any g f.ret a n c f U (HP.out.since hU) (FuncQ.lasts _ _ _ _ hU HF.out) hn hv
  have HFD : RowKit.Hid (funD P f = (decide (f.blocks.length ≠ 0) && toldB P f.ret && decide ((orderL f).length = f.blocks.length) && allK (blockD P f (typesL P f)) f.blocks.length)) := Lib.hid rfl
  have HRT : RowKit.Hid (rt = f.ret) := Lib.hid hrt
  rw [← hrt] at d0 hW1 ⊢
  clear hP hf hb1 hs1 hv hret hrt
  go_enter Tryd.func34, Tryd.ntmps34
  go_upto_region 1 with fail
  try rw [hW1]
  clear hW1
  by_cases hn0 : n = 0
  · have HR : RowKit.Hid (funD P f = false) := Lib.hid (by rw [HFD.out, decide_eq_false (show ¬ f.blocks.length ≠ 0 by have := HN.out; omega)]; rfl)
    have hnz : ((n : Int) == 0) = true := by rw [hn0]; rfl
    subst hn0
    go_quiet (fail)
    go_wp2_with fail
    go_ret
    exact ⟨by rw [HR.out]; rfl, belowD_drewN _ HB.out⟩
  · have hnz : ((n : Int) == 0) = false := by rw [beq_eq_false_iff_ne]; omega
    have HN0 : RowKit.Hid (decide (f.blocks.length ≠ 0) = true) := Lib.hid (decide_eq_true (by have := HN.out; omega))
    cases ht : toldB P f.ret with
    | false =>
      have HR : RowKit.Hid (funD P f = false) := Lib.hid (by rw [HFD.out, ht]; simp)
      rw [ht] at CTD
      have CTQ : RowKit.Hid (∀ d, Calls Tryd.prog 32 #[.pointer (some ⟨g, 0, none⟩), .int .i64 rt] (W1.drewN d) fun e w' => e = .returned (.bool false) ∧ ∃ m, w' = (W1.drewN d).drewN m) := Lib.hid fun d => (CTD.out _ (belowD_drewN d (Below.refl _ _))).mono (by rintro e w' ⟨rfl, rfl⟩; exact ⟨rfl, 0, rfl⟩)
      clear ht hn0
      go_quiet (((go_at_call 32; first | exact quietD_more (CTQ.out _) | exact Calls.quiet_of (CTQ.out _))))
      go_wp2_with fail
      go_ret
      exact ⟨by rw [HR.out]; rfl, belowD_drewN _ HB.out⟩
    | true =>
      have HTD := Lib.hid ht
      rw [ht] at CTD
      obtain ⟨ol, hol⟩ : ∃ l, l = (orderL f).length := ⟨_, rfl⟩
      have HOL := Lib.hid hol
      clear ht hn0 hol
      by_cases hon : ol = n
      rotate_left
      · have hne : ((ol : Int) != (n : Int)) = true := by rw [bne_iff_ne]; omega
        have HR : RowKit.Hid (funD P f = false) := Lib.hid (by rw [HFD.out, decide_eq_false (show ¬ (orderL f).length = f.blocks.length by have := HN.out; have := HOL.out; omega)]; simp)
        clear hon d0 d1
        refine wp_region_T (S := (fun u : World => u.cell? ⟨w.heap.size, 0, none⟩ = some (.int .i64 rt) ∧ u.cell? ⟨w.heap.size, 1, none⟩ = some (.slice a n c))) 20 (by kernel_rfl) (HFC.out _ (Below.refl _ W1).drew) (fun hHeld => ?_)
        refine wpAnyT_takeW (i := 0) (oi := ⟨some 13, _, _, _, _, _⟩) (v := ?_) rfl (by kernel_rfl) (by kernel_rfl) (by kernel_rfl) (fun _ _ _ h => h) (Or.inl ⟨by rfl, ?_⟩) ?_
        rotate_left
        · ((intro w _; go_simp); try with_reducible rfl)
        (try simp only [Act.put, List.setIfInBounds_toArray, List.set_cons_zero, List.set_cons_succ])
        refine wpAnyT_take (i := 1) (oi := ⟨some 14, _, _, _, _, _⟩) (v := ?_) 8 rfl (by kernel_rfl) (by kernel_rfl) (by kernel_rfl) (by kernel_rfl) (by kernel_rfl) (fun _ _ _ h => h) (Or.inl ⟨by rfl, ?_⟩) (by assumption) ?_
        rotate_left
        · ((intro w hSw; (try dsimp only at hSw); go_simp); try with_reducible rfl)
        (try simp only [Act.put, List.setIfInBounds_toArray, List.set_cons_zero, List.set_cons_succ])
        refine wpAnyT_takeW (i := 2) (oi := ⟨some 15, _, _, _, _, _⟩) (v := ?_) rfl (by kernel_rfl) (by kernel_rfl) (by kernel_rfl) (fun _ _ _ h => h) (Or.inl ⟨by rfl, ?_⟩) ?_
        rotate_left
        · ((intro w _; go_simp); try with_reducible rfl)
        (try simp only [Act.put, List.setIfInBounds_toArray, List.set_cons_zero, List.set_cons_succ])
        refine wpAnyT_takeW (i := 3) (oi := ⟨some 16, _, _, _, _, _⟩) (v := ?_) rfl (by kernel_rfl) (by kernel_rfl) (by kernel_rfl) (fun _ _ _ h => h) (Or.inl ⟨by rfl, ?_⟩) ?_
        rotate_left
        · ((intro w _; go_simp); try with_reducible rfl)
        (try simp only [Act.put, List.setIfInBounds_toArray, List.set_cons_zero, List.set_cons_succ])
        refine wpAnyT_takeW (i := 4) (oi := ⟨some 17, _, _, _, _, _⟩) (v := ?_) rfl (by kernel_rfl) (by kernel_rfl) (by kernel_rfl) (fun _ _ _ h => h) (Or.inl ⟨by rfl, ?_⟩) ?_
        rotate_left
        · ((intro w _; go_simp); try with_reducible rfl)
        (try simp only [Act.put, List.setIfInBounds_toArray, List.set_cons_zero, List.set_cons_succ])
        refine wpAnyT_takeW (i := 5) (oi := ⟨some 18, _, _, _, _, _⟩) (v := ?_) rfl (by kernel_rfl) (by kernel_rfl) (by kernel_rfl) (fun _ _ _ h => h) (Or.inl ⟨by rfl, ?_⟩) ?_
        rotate_left
        · ((intro w _; go_simp); try with_reducible rfl)
        (try simp only [Act.put, List.setIfInBounds_toArray, List.set_cons_zero, List.set_cons_succ])
        refine wpAnyT_takeW (i := 6) (oi := ⟨some 19, _, _, _, _, _⟩) (v := ?_) rfl (by kernel_rfl) (by kernel_rfl) (by kernel_rfl) (fun _ _ _ h => h) (Or.inl ⟨by rfl, ?_⟩) ?_
        rotate_left
        · ((intro w _; go_simp); try with_reducible rfl)
        (try simp only [Act.put, List.setIfInBounds_toArray, List.set_cons_zero, List.set_cons_succ])
        refine wpAnyT_take (i := 7) (oi := ⟨some 20, _, _, _, _, _⟩) (v := ?_) 8 rfl (by kernel_rfl) (by kernel_rfl) (by kernel_rfl) (by kernel_rfl) (by kernel_rfl) (fun _ _ _ h => h) (Or.inl ⟨by rfl, ?_⟩) (by assumption) ?_
        rotate_left
        · ((intro w hSw; (try dsimp only at hSw); go_simp); try with_reducible rfl)
        (try simp only [Act.put, List.setIfInBounds_toArray, List.set_cons_zero, List.set_cons_succ])
        refine wpAnyT_one (i := 8) (by kernel_rfl) rfl (fun K hK => ?_)
        rw [if_pos (by rfl)]
        go_simp
        (with_reducible refine (CTD.out _ (Below.refl _ W1).drew).mono ?_)
        rintro e w2 ⟨rfl, rfl⟩
        refine hK.out _ _ (HFC.out _ (Below.refl _ W1).drew) (fun hHeld => ?_)
        clear hK K
        (try simp only [Act.put, List.setIfInBounds_toArray, List.set_cons_zero, List.set_cons_succ])
        refine wpAnyT_takeW (i := 9) (oi := ⟨some 22, _, _, _, _, _⟩) (v := ?_) rfl (by kernel_rfl) (by kernel_rfl) (by kernel_rfl) (fun _ _ _ h => h) (Or.inl ⟨by rfl, ?_⟩) ?_
        rotate_left
        · ((intro w _; go_simp); try with_reducible rfl)
        (try simp only [Act.put, List.setIfInBounds_toArray, List.set_cons_zero, List.set_cons_succ])
        refine wpAnyT_takeW (i := 10) (oi := ⟨some 23, _, _, _, _, _⟩) (v := ?_) rfl (by kernel_rfl) (by kernel_rfl) (by kernel_rfl) (fun _ _ _ h => h) (Or.inl ⟨by rfl, ?_⟩) ?_
        rotate_left
        · ((intro w _; go_simp); try with_reducible rfl)
        (try simp only [Act.put, List.setIfInBounds_toArray, List.set_cons_zero, List.set_cons_succ])
        refine wpAnyT_takeW (i := 11) (oi := ⟨some 24, _, _, _, _, _⟩) (v := ?_) rfl (by kernel_rfl) (by kernel_rfl) (by kernel_rfl) (fun _ _ _ h => h) (Or.inl ⟨by rfl, ?_⟩) ?_
        rotate_left
        · ((intro w _; go_simp); try with_reducible rfl)
        (try simp only [Act.put, List.setIfInBounds_toArray, List.set_cons_zero, List.set_cons_succ])
        refine wpAnyT_take (i := 12) (oi := ⟨some 25, _, _, _, _, _⟩) (v := ?_) 8 rfl (by kernel_rfl) (by kernel_rfl) (by kernel_rfl) (by kernel_rfl) (by kernel_rfl) (fun _ _ _ h => h) (Or.inl ⟨by rfl, ?_⟩) (by assumption) ?_
        rotate_left
        · ((intro w hSw; (try dsimp only at hSw); go_simp); try with_reducible rfl)
        (try simp only [Act.put, List.setIfInBounds_toArray, List.set_cons_zero, List.set_cons_succ])
        refine wpAnyT_takeW (i := 15) (oi := ⟨some 28, _, _, _, _, _⟩) (v := ?_) rfl (by kernel_rfl) (by kernel_rfl) (by kernel_rfl) (fun _ _ _ h => h) (Or.inl ⟨by rfl, ?_⟩) ?_
        rotate_left
        · ((intro w _; go_simp); try with_reducible rfl)
        (try simp only [Act.put, List.setIfInBounds_toArray, List.set_cons_zero, List.set_cons_succ])
        refine wpAnyT_take (i := 16) (oi := ⟨some 29, _, _, _, _, _⟩) (v := ?_) 8 rfl (by kernel_rfl) (by kernel_rfl) (by kernel_rfl) (by kernel_rfl) (by kernel_rfl) (fun _ _ _ h => h) (Or.inl ⟨by rfl, ?_⟩) (by assumption) ?_
        rotate_left
        · ((intro w hSw; (try dsimp only at hSw); go_simp); try with_reducible rfl)
        (try simp only [Act.put, List.setIfInBounds_toArray, List.set_cons_zero, List.set_cons_succ])
        refine wpAnyT_takeW (i := 17) (oi := ⟨some 30, _, _, _, _, _⟩) (v := ?_) rfl (by kernel_rfl) (by kernel_rfl) (by kernel_rfl) (fun _ _ _ h => h) (Or.inl ⟨by rfl, ?_⟩) ?_
        rotate_left
        · ((intro w _; go_simp); try with_reducible rfl)
        (try simp only [Act.put, List.setIfInBounds_toArray, List.set_cons_zero, List.set_cons_succ])
        refine wpAnyT_one (i := 13) (by kernel_rfl) rfl (fun K hK => ?_)
        rw [if_pos (by rfl)]
        go_simp
        (with_reducible refine (CO.out _ (Below.refl _ W1).drew).mono ?_)
        rintro e w3 ⟨va, vn, vc, rfl, ho, hb⟩
        have HB3 : RowKit.Hid (Below W1.heap.size W1 w3) := Lib.hid (((Below.refl _ W1).drew).trans hb)
        obtain rfl : vn = ol := by rw [HOL.out]; exact ho.read.1.symm
        clear ho hb
        refine hK.out _ _ (HFC.out _ HB3.out) (fun hHeld => ?_)
        clear hK K
        (try simp only [Act.put, List.setIfInBounds_toArray, List.set_cons_zero, List.set_cons_succ])
        refine wpAnyT_takeW (i := 14) (oi := ⟨some 27, _, _, _, _, _⟩) (v := ?_) rfl (by kernel_rfl) (by kernel_rfl) (by kernel_rfl) (fun _ _ _ h => h) (Or.inl ⟨by rfl, ?_⟩) ?_
        rotate_left
        · ((intro w _; go_simp); try with_reducible rfl)
        (try simp only [Act.put, List.setIfInBounds_toArray, List.set_cons_zero, List.set_cons_succ])
        refine wpAnyT_takeW (i := 18) (oi := ⟨some 31, _, _, _, _, _⟩) (v := ?_) rfl (by kernel_rfl) (by kernel_rfl) (by kernel_rfl) (fun _ _ _ h => h) (Or.inl ⟨by rfl, ?_⟩) ?_
        rotate_left
        · ((intro w _; go_simp); try with_reducible rfl)
        (try simp only [Act.put, List.setIfInBounds_toArray, List.set_cons_zero, List.set_cons_succ])
        refine wpAnyT_takeW (i := 19) (oi := ⟨some 32, _, _, _, _, _⟩) (v := ?_) rfl (by kernel_rfl) (by kernel_rfl) (by kernel_rfl) (fun _ _ _ h => h) (Or.inl ⟨by rfl, ?_⟩) ?_
        rotate_left
        · ((intro w _; go_simp); try with_reducible rfl)
        (try simp only [Act.put, List.setIfInBounds_toArray, List.set_cons_zero, List.set_cons_succ])
        refine wpAnyT_done (by kernel_rfl) ?_
        go_wp2_with fail
        go_ret
        exact ⟨by rw [HR.out]; rfl, HB.out.trans (HB3.out.mono HB.out.size)⟩
      · have hne : ((ol : Int) != (n : Int)) = false := by rw [hon]; simp
        have HFD2 : RowKit.Hid (funD P f = allK (blockD P f (typesL P f)) n) := Lib.hid (by rw [HFD.out, HN0.out, HTD.out, decide_eq_true (show (orderL f).length = f.blocks.length by have := HN.out; have := HOL.out; omega), ← HN.out]; rfl)
        clear hon d0 d1
        refine wp_region_T (S := (fun u : World => u.cell? ⟨w.heap.size, 0, none⟩ = some (.int .i64 rt) ∧ u.cell? ⟨w.heap.size, 1, none⟩ = some (.slice a n c))) 20 (by kernel_rfl) (HFC.out _ (Below.refl _ W1).drew) (fun hHeld => ?_)
        refine wpAnyT_takeW (i := 0) (oi := ⟨some 13, _, _, _, _, _⟩) (v := ?_) rfl (by kernel_rfl) (by kernel_rfl) (by kernel_rfl) (fun _ _ _ h => h) (Or.inl ⟨by rfl, ?_⟩) ?_
        rotate_left
        · ((intro w _; go_simp); try with_reducible rfl)
        (try simp only [Act.put, List.setIfInBounds_toArray, List.set_cons_zero, List.set_cons_succ])
        refine wpAnyT_take (i := 1) (oi := ⟨some 14, _, _, _, _, _⟩) (v := ?_) 8 rfl (by kernel_rfl) (by kernel_rfl) (by kernel_rfl) (by kernel_rfl) (by kernel_rfl) (fun _ _ _ h => h) (Or.inl ⟨by rfl, ?_⟩) (by assumption) ?_
        rotate_left
        · ((intro w hSw; (try dsimp only at hSw); go_simp); try with_reducible rfl)
        (try simp only [Act.put, List.setIfInBounds_toArray, List.set_cons_zero, List.set_cons_succ])
        refine wpAnyT_takeW (i := 2) (oi := ⟨some 15, _, _, _, _, _⟩) (v := ?_) rfl (by kernel_rfl) (by kernel_rfl) (by kernel_rfl) (fun _ _ _ h => h) (Or.inl ⟨by rfl, ?_⟩) ?_
        rotate_left
        · ((intro w _; go_simp); try with_reducible rfl)
        (try simp only [Act.put, List.setIfInBounds_toArray, List.set_cons_zero, List.set_cons_succ])
        refine wpAnyT_takeW (i := 3) (oi := ⟨some 16, _, _, _, _, _⟩) (v := ?_) rfl (by kernel_rfl) (by kernel_rfl) (by kernel_rfl) (fun _ _ _ h => h) (Or.inl ⟨by rfl, ?_⟩) ?_
        rotate_left
        · ((intro w _; go_simp); try with_reducible rfl)
        (try simp only [Act.put, List.setIfInBounds_toArray, List.set_cons_zero, List.set_cons_succ])
        refine wpAnyT_takeW (i := 4) (oi := ⟨some 17, _, _, _, _, _⟩) (v := ?_) rfl (by kernel_rfl) (by kernel_rfl) (by kernel_rfl) (fun _ _ _ h => h) (Or.inl ⟨by rfl, ?_⟩) ?_
        rotate_left
        · ((intro w _; go_simp); try with_reducible rfl)
        (try simp only [Act.put, List.setIfInBounds_toArray, List.set_cons_zero, List.set_cons_succ])
        refine wpAnyT_takeW (i := 5) (oi := ⟨some 18, _, _, _, _, _⟩) (v := ?_) rfl (by kernel_rfl) (by kernel_rfl) (by kernel_rfl) (fun _ _ _ h => h) (Or.inl ⟨by rfl, ?_⟩) ?_
        rotate_left
        · ((intro w _; go_simp); try with_reducible rfl)
        (try simp only [Act.put, List.setIfInBounds_toArray, List.set_cons_zero, List.set_cons_succ])
        refine wpAnyT_takeW (i := 6) (oi := ⟨some 19, _, _, _, _, _⟩) (v := ?_) rfl (by kernel_rfl) (by kernel_rfl) (by kernel_rfl) (fun _ _ _ h => h) (Or.inl ⟨by rfl, ?_⟩) ?_
        rotate_left
        · ((intro w _; go_simp); try with_reducible rfl)
        (try simp only [Act.put, List.setIfInBounds_toArray, List.set_cons_zero, List.set_cons_succ])
        refine wpAnyT_take (i := 7) (oi := ⟨some 20, _, _, _, _, _⟩) (v := ?_) 8 rfl (by kernel_rfl) (by kernel_rfl) (by kernel_rfl) (by kernel_rfl) (by kernel_rfl) (fun _ _ _ h => h) (Or.inl ⟨by rfl, ?_⟩) (by assumption) ?_
        rotate_left
        · ((intro w hSw; (try dsimp only at hSw); go_simp); try with_reducible rfl)
        (try simp only [Act.put, List.setIfInBounds_toArray, List.set_cons_zero, List.set_cons_succ])
        refine wpAnyT_one (i := 8) (by kernel_rfl) rfl (fun K hK => ?_)
        rw [if_pos (by rfl)]
        go_simp
        (with_reducible refine (CTD.out _ (Below.refl _ W1).drew).mono ?_)
        rintro e w2 ⟨rfl, rfl⟩
        refine hK.out _ _ (HFC.out _ (Below.refl _ W1).drew) (fun hHeld => ?_)
        clear hK K
        (try simp only [Act.put, List.setIfInBounds_toArray, List.set_cons_zero, List.set_cons_succ])
        refine wpAnyT_takeW (i := 9) (oi := ⟨some 22, _, _, _, _, _⟩) (v := ?_) rfl (by kernel_rfl) (by kernel_rfl) (by kernel_rfl) (fun _ _ _ h => h) (Or.inl ⟨by rfl, ?_⟩) ?_
        rotate_left
        · ((intro w _; go_simp); try with_reducible rfl)
        (try simp only [Act.put, List.setIfInBounds_toArray, List.set_cons_zero, List.set_cons_succ])
        refine wpAnyT_takeW (i := 10) (oi := ⟨some 23, _, _, _, _, _⟩) (v := ?_) rfl (by kernel_rfl) (by kernel_rfl) (by kernel_rfl) (fun _ _ _ h => h) (Or.inl ⟨by rfl, ?_⟩) ?_
        rotate_left
        · ((intro w _; go_simp); try with_reducible rfl)
        (try simp only [Act.put, List.setIfInBounds_toArray, List.set_cons_zero, List.set_cons_succ])
        refine wpAnyT_takeW (i := 11) (oi := ⟨some 24, _, _, _, _, _⟩) (v := ?_) rfl (by kernel_rfl) (by kernel_rfl) (by kernel_rfl) (fun _ _ _ h => h) (Or.inl ⟨by rfl, ?_⟩) ?_
        rotate_left
        · ((intro w _; go_simp); try with_reducible rfl)
        (try simp only [Act.put, List.setIfInBounds_toArray, List.set_cons_zero, List.set_cons_succ])
        refine wpAnyT_take (i := 12) (oi := ⟨some 25, _, _, _, _, _⟩) (v := ?_) 8 rfl (by kernel_rfl) (by kernel_rfl) (by kernel_rfl) (by kernel_rfl) (by kernel_rfl) (fun _ _ _ h => h) (Or.inl ⟨by rfl, ?_⟩) (by assumption) ?_
        rotate_left
        · ((intro w hSw; (try dsimp only at hSw); go_simp); try with_reducible rfl)
        (try simp only [Act.put, List.setIfInBounds_toArray, List.set_cons_zero, List.set_cons_succ])
        refine wpAnyT_takeW (i := 15) (oi := ⟨some 28, _, _, _, _, _⟩) (v := ?_) rfl (by kernel_rfl) (by kernel_rfl) (by kernel_rfl) (fun _ _ _ h => h) (Or.inl ⟨by rfl, ?_⟩) ?_
        rotate_left
        · ((intro w _; go_simp); try with_reducible rfl)
        (try simp only [Act.put, List.setIfInBounds_toArray, List.set_cons_zero, List.set_cons_succ])
        refine wpAnyT_take (i := 16) (oi := ⟨some 29, _, _, _, _, _⟩) (v := ?_) 8 rfl (by kernel_rfl) (by kernel_rfl) (by kernel_rfl) (by kernel_rfl) (by kernel_rfl) (fun _ _ _ h => h) (Or.inl ⟨by rfl, ?_⟩) (by assumption) ?_
        rotate_left
        · ((intro w hSw; (try dsimp only at hSw); go_simp); try with_reducible rfl)
        (try simp only [Act.put, List.setIfInBounds_toArray, List.set_cons_zero, List.set_cons_succ])
        refine wpAnyT_takeW (i := 17) (oi := ⟨some 30, _, _, _, _, _⟩) (v := ?_) rfl (by kernel_rfl) (by kernel_rfl) (by kernel_rfl) (fun _ _ _ h => h) (Or.inl ⟨by rfl, ?_⟩) ?_
        rotate_left
        · ((intro w _; go_simp); try with_reducible rfl)
        (try simp only [Act.put, List.setIfInBounds_toArray, List.set_cons_zero, List.set_cons_succ])
        refine wpAnyT_one (i := 13) (by kernel_rfl) rfl (fun K hK => ?_)
        rw [if_pos (by rfl)]
        go_simp
        (with_reducible refine (CO.out _ (Below.refl _ W1).drew).mono ?_)
        rintro e w3 ⟨va, vn, vc, rfl, ho, hb⟩
        have HB3 : RowKit.Hid (Below W1.heap.size W1 w3) := Lib.hid (((Below.refl _ W1).drew).trans hb)
        obtain rfl : vn = ol := by rw [HOL.out]; exact ho.read.1.symm
        clear ho hb
        refine hK.out _ _ (HFC.out _ HB3.out) (fun hHeld => ?_)
        clear hK K
        (try simp only [Act.put, List.setIfInBounds_toArray, List.set_cons_zero, List.set_cons_succ])
        refine wpAnyT_takeW (i := 14) (oi := ⟨some 27, _, _, _, _, _⟩) (v := ?_) rfl (by kernel_rfl) (by kernel_rfl) (by kernel_rfl) (fun _ _ _ h => h) (Or.inl ⟨by rfl, ?_⟩) ?_
        rotate_left
        · ((intro w _; go_simp); try with_reducible rfl)
        (try simp only [Act.put, List.setIfInBounds_toArray, List.set_cons_zero, List.set_cons_succ])
        refine wpAnyT_takeW (i := 18) (oi := ⟨some 31, _, _, _, _, _⟩) (v := ?_) rfl (by kernel_rfl) (by kernel_rfl) (by kernel_rfl) (fun _ _ _ h => h) (Or.inl ⟨by rfl, ?_⟩) ?_
        rotate_left
        · ((intro w _; go_simp); try with_reducible rfl)
        (try simp only [Act.put, List.setIfInBounds_toArray, List.set_cons_zero, List.set_cons_succ])
        refine wpAnyT_takeW (i := 19) (oi := ⟨some 32, _, _, _, _, _⟩) (v := ?_) rfl (by kernel_rfl) (by kernel_rfl) (by kernel_rfl) (fun _ _ _ h => h) (Or.inl ⟨by rfl, ?_⟩) ?_
        rotate_left
        · ((intro w _; go_simp); try with_reducible rfl)
        (try simp only [Act.put, List.setIfInBounds_toArray, List.set_cons_zero, List.set_cons_succ])
        refine wpAnyT_done (by kernel_rfl) ?_
        clear CO CTD HFD HN0 hne hnz
        obtain ⟨f0, f1⟩ := HFC.out _ HB3.out
        go_upto_region 3 with fail
        clear f0 f1
        refine wp_region_T (S := (fun u : World => u.cell? ⟨w.heap.size, 0, none⟩ = some (.int .i64 rt) ∧ u.cell? ⟨w.heap.size, 1, none⟩ = some (.slice a n c))) 8 (by kernel_rfl) (HFC.out _ (HB3.out.drew)) (fun hHeld => ?_)
        refine wpAnyT_takeW (i := 0) (oi := ⟨some 33, _, _, _, _, _⟩) (v := ?_) rfl (by kernel_rfl) (by kernel_rfl) (by kernel_rfl) (fun _ _ _ h => h) (Or.inl ⟨by rfl, ?_⟩) ?_
        rotate_left
        · ((intro w _; go_simp); try with_reducible rfl)
        (try simp only [Act.put, List.setIfInBounds_toArray, List.set_cons_zero, List.set_cons_succ])
        refine wpAnyT_take (i := 1) (oi := ⟨some 34, _, _, _, _, _⟩) (v := ?_) 8 rfl (by kernel_rfl) (by kernel_rfl) (by kernel_rfl) (by kernel_rfl) (by kernel_rfl) (fun _ _ _ h => h) (Or.inl ⟨by rfl, ?_⟩) (by assumption) ?_
        rotate_left
        · ((intro w hSw; (try dsimp only at hSw); go_simp); try with_reducible rfl)
        (try simp only [Act.put, List.setIfInBounds_toArray, List.set_cons_zero, List.set_cons_succ])
        refine wpAnyT_takeW (i := 2) (oi := ⟨some 35, _, _, _, _, _⟩) (v := ?_) rfl (by kernel_rfl) (by kernel_rfl) (by kernel_rfl) (fun _ _ _ h => h) (Or.inl ⟨by rfl, ?_⟩) ?_
        rotate_left
        · ((intro w _; go_simp); try with_reducible rfl)
        (try simp only [Act.put, List.setIfInBounds_toArray, List.set_cons_zero, List.set_cons_succ])
        refine wpAnyT_take (i := 3) (oi := ⟨some 36, _, _, _, _, _⟩) (v := ?_) 8 rfl (by kernel_rfl) (by kernel_rfl) (by kernel_rfl) (by kernel_rfl) (by kernel_rfl) (fun _ _ _ h => h) (Or.inl ⟨by rfl, ?_⟩) (by assumption) ?_
        rotate_left
        · ((intro w hSw; (try dsimp only at hSw); go_simp); try with_reducible rfl)
        (try simp only [Act.put, List.setIfInBounds_toArray, List.set_cons_zero, List.set_cons_succ])
        refine wpAnyT_one (i := 4) (by kernel_rfl) rfl (fun K hK => ?_)
        rw [if_pos (by rfl)]
        go_simp
        (with_reducible refine (CTY.out _ (HB3.out.drew)).mono ?_)
        rintro e w4 ⟨ta, tn, tc, rfl, ho, hb⟩
        have HB4 : RowKit.Hid (Below W1.heap.size W1 w4) := Lib.hid ((HB3.out.drew).trans (hb.mono (HB3.out.drew).size))
        have HT4 := Lib.hid ho
        clear ho hb
        refine hK.out _ _ (HFC.out _ HB4.out) (fun hHeld => ?_)
        clear hK K
        (try simp only [Act.put, List.setIfInBounds_toArray, List.set_cons_zero, List.set_cons_succ])
        refine wpAnyT_takeW (i := 5) (oi := ⟨some 38, _, _, _, _, _⟩) (v := ?_) rfl (by kernel_rfl) (by kernel_rfl) (by kernel_rfl) (fun _ _ _ h => h) (Or.inl ⟨by rfl, ?_⟩) ?_
        rotate_left
        · ((intro w _; go_simp); try with_reducible rfl)
        (try simp only [Act.put, List.setIfInBounds_toArray, List.set_cons_zero, List.set_cons_succ])
        refine wpAnyT_one (i := 6) (by kernel_rfl) rfl (fun K hK => ?_)
        rw [if_pos (by rfl)]
        go_simp
        refine hK.out _ _ (HFC.out _ (HB4.out.alloc HB4.out.size _)) (fun hHeld => ?_)
        clear hK K
        (try simp only [Act.put, List.setIfInBounds_toArray, List.set_cons_zero, List.set_cons_succ])
        refine wpAnyT_takeW (i := 7) (oi := ⟨some 5, _, _, _, _, _⟩) (v := ?_) rfl (by kernel_rfl) (by kernel_rfl) (by kernel_rfl) (fun _ _ _ h => h) (Or.inl ⟨by rfl, ?_⟩) ?_
        rotate_left
        · ((intro w _; go_simp); try with_reducible rfl)
        (try simp only [Act.put, List.setIfInBounds_toArray, List.set_cons_zero, List.set_cons_succ])
        refine wpAnyT_done (by kernel_rfl) ?_
        have HCA : RowKit.Hid (CAt (w4.alloc (.cells #[.pointer (some ⟨g, 0, none⟩), .int .i64 rt, .slice a n c, .slice ta tn tc] 98)) w4.heap.size g sa sn sc ca cn cc qa qn qc P a n c f ta tn tc (typesL P f)) := Lib.hid (by
          have hc : ∀ j, (w4.alloc (.cells #[.pointer (some ⟨g, 0, none⟩), .int .i64 rt, .slice a n c, .slice ta tn tc] 98)).cell? ⟨w4.heap.size, j, none⟩ = (#[.pointer (some ⟨g, 0, none⟩), .int .i64 rt, .slice a n c, .slice ta tn tc] : Array Value)[j]? := fun j => World.cell?_alloc_mark _ _ _ _ _
          have hb5 : Below w4.heap.size w4 (w4.alloc (.cells #[.pointer (some ⟨g, 0, none⟩), .int .i64 rt, .slice a n c, .slice ta tn tc] 98)) := (Below.refl _ _).alloc (Nat.le_refl _) _
          have hbw := HB4.out.trans (hb5.mono HB4.out.size)
          have c1' := hc 1
          rw [HRT.out] at c1'
          exact ⟨hc 0, by rw [HRT.out] at hc ⊢; exact hc 1, hc 2, hc 3, by simp, HP.out.since hbw, FuncQ.lasts _ _ _ _ hbw HF.out, HT4.out.read.since hb5, by rw [← HT4.out.read.1]; exact HTLN.out, HTR.out, hn, HVN.out⟩)
        have HB5 : RowKit.Hid (Below W1.heap.size W1 (w4.alloc (.cells #[.pointer (some ⟨g, 0, none⟩), .int .i64 rt, .slice a n c, .slice ta tn tc] 98))) := Lib.hid (HB4.out.alloc HB4.out.size _)
        have htn8 : tn ≤ 1099511627776 := by have h1 := HT4.out.read.1; have h2 := HTLN.out; have h3 := HVN.out; omega
        generalize typesL P f = T at *
        obtain ⟨q, hq⟩ : ∃ q, q = w4.heap.size := ⟨_, rfl⟩
        rw [← hq] at HCA ⊢
        generalize w4.alloc (.cells #[.pointer (some ⟨g, 0, none⟩), .int .i64 rt, .slice a n c, .slice ta tn tc] 98) = w5 at *
        clear hq HT4 HB4 HB3 CTY HTR HTLN HVN
        have CA : RowKit.Hid (∀ U (L : List Int) (la : Option Addr) (ln lc : Nat), Below w5.heap.size w5 U → NumsV W1 (.slice la ln lc) L → Calls Tryd.prog 31 #[.pointer (some ⟨g, 0, none⟩), .slice la ln lc] U fun e w' => e = .returned (.bool (knownB P L)) ∧ U = w') := Lib.hid fun U L la ln lc hU hL => by
          obtain ⟨_, _, _, e, h1, _, h8, hr⟩ := hL.since (HB5.out.trans (hU.mono HB5.out.size))
          cases e
          exact dall_any g la ln lc L U (HP.out.since (HB5.out.trans (hU.mono HB5.out.size))) h1 hr (by omega)
        have CE : RowKit.Hid (∀ U (i : Nat), Below w5.heap.size w5 U → i < n → Calls Tryd.prog 55 #[.pointer (some ⟨q, 0, none⟩), .int .i64 (i : Int)] U fun e w' => e = .returned (.bool (endD f T i)) ∧ Below U.heap.size U w') := Lib.hid fun U i hU hi => dend_any i hi U (HCA.out.since hU)
        have CVL : RowKit.Hid (∀ U (i k : Nat) (v : Int), Below w5.heap.size w5 U → Calls Tryd.prog 57 #[.pointer (some ⟨q, 0, none⟩), .int .i64 (i : Int), .int .i64 (k : Int), .int .i64 v] U (NumPost (valD f T i k v) U)) := Lib.hid fun U i k v hU => dvalue_any i k v U (HCA.out.since hU)
        go_wp2_with fail
        go_loopw [6] (fun v6 wr => ∃ i : Nat, i ≤ n ∧ v6 = .int .i64 (i : Int) ∧ RowKit.Hid (Below w5.heap.size w5 wr ∧ allK (blockD P f T) i = true)) (fun v6 _ => n - (intOf v6).toNat)
        case atStart => exact ⟨0, Nat.zero_le _, rfl, Lib.hid ⟨Below.refl _ _, rfl⟩⟩
        case round =>
          as_aux_lemma =>
            obtain ⟨i, hi, rfl, HI⟩ := hrel
            obtain ⟨wo, hwo⟩ : ∃ u, u = wr := ⟨_, rfl⟩
            rw [← hwo] at HI ⊢
            clear hwo
            have HWO : RowKit.Hid (Below W1.heap.size W1 wo) := Lib.hid (HB5.out.trans (HI.out.1.mono HB5.out.size))
            obtain ⟨f0, f1⟩ := HFC.out wo HWO.out
            by_cases hlt : i < n
            · have hltz : (i : Int) < (n : Int) := by omega
              have hi0 : (0 : Int) ≤ (i : Int) := by omega
              obtain ⟨hxl, gb, ob, pa, pn, pc, oa, on, oc, la, ln, lc, ma, mn, mc, rfl, hgb, hblk, hpv, hov, hon, -, -⟩ := blkD HRW.out hlt
              have hcw : ∀ j, j < 8 → wo.cell? ⟨gb, ob + i * 8 + j, none⟩ = _ := fun j hj => (HWO.out.cell (p := ⟨gb, ob + i * 8 + j, none⟩) hgb).trans (hblk j hj)
              have HPV := Lib.hid hpv
              have HOV := Lib.hid hov
              have HXL := Lib.hid hxl
              have HIL := Lib.hid hlt
              have HON := Lib.hid hon
              have hon8 : on ≤ 140737488351232 := by obtain ⟨_, _, _, e2, _, _, h8, _⟩ := hov; cases e2; exact h8
              have HBD : RowKit.Hid (blockD P f T i = (knownB P (parL f i) && endD f T i && allK (stepD P f T i) on)) := Lib.hid (by rw [hon]; rfl)
              generalize (theEnd f i).K = EK at *
              generalize (theEnd f i).A = EA at *
              generalize (theEnd f i).To = ET at *
              generalize (theEnd f i).Else = EE at *
              have b0 : wo.cell? ⟨gb, ob + i * 8, none⟩ = some (.slice pa pn pc) := hcw 0 (by omega)
              have b1 : wo.cell? ⟨gb, ob + i * 8 + 1, none⟩ = some (.slice oa on oc) := hcw 1 (by omega)
              have b2 : wo.cell? ⟨gb, ob + i * 8 + 2, none⟩ = some (.int .i64 EK) := hcw 2 (by omega)
              have b3 : wo.cell? ⟨gb, ob + i * 8 + 3, none⟩ = some (.int .i64 EA) := hcw 3 (by omega)
              have b4 : wo.cell? ⟨gb, ob + i * 8 + 4, none⟩ = some (.int .i64 ET) := hcw 4 (by omega)
              have b5 : wo.cell? ⟨gb, ob + i * 8 + 5, none⟩ = some (.int .i64 EE) := hcw 5 (by omega)
              have b6 : wo.cell? ⟨gb, ob + i * 8 + 6, none⟩ = some (.slice la ln lc) := hcw 6 (by omega)
              have b7 : wo.cell? ⟨gb, ob + i * 8 + 7, none⟩ = some (.slice ma mn mc) := hcw 7 (by omega)
              clear hcw hblk hpv hov hon hgb
              go_upto_region 8 with fail
              clear b0 b1 b2 b3 b4 b5 b6 b7 f0 f1
              obtain ⟨W2, hW2⟩ : ∃ u, u = wo.alloc (.cells #[.slice pa pn pc, .slice oa on oc, .int .i64 EK, .int .i64 EA, .int .i64 ET, .int .i64 EE, .slice la ln lc, .slice ma mn mc] 57) := ⟨_, rfl⟩
              rw [← hW2]
              have hb2 : Below wo.heap.size wo W2 := by rw [hW2]; exact (Below.refl _ wo).alloc (Nat.le_refl _) _
              have hs2 : wo.heap.size < W2.heap.size := by rw [hW2]; simp
              have hc2 : ∀ j, W2.cell? ⟨wo.heap.size, j, none⟩ = (#[.slice pa pn pc, .slice oa on oc, .int .i64 EK, .int .i64 EA, .int .i64 ET, .int .i64 EE, .slice la ln lc, .slice ma mn mc] : Array Value)[j]? := fun j => by rw [hW2]; exact World.cell?_alloc_mark _ _ _ _ _
              have HBX : RowKit.Hid (∀ U, Below W2.heap.size W2 U → U.cell? ⟨wo.heap.size, 0, none⟩ = some (.slice pa pn pc) ∧ U.cell? ⟨wo.heap.size, 1, none⟩ = some (.slice oa on oc)) := Lib.hid fun U hU => ⟨(hU.cell (p := ⟨wo.heap.size, 0, none⟩) hs2).trans (hc2 0), (hU.cell (p := ⟨wo.heap.size, 1, none⟩) hs2).trans (hc2 1)⟩
              have HW2 : RowKit.Hid (∀ U, Below W2.heap.size W2 U → Below w5.heap.size w5 U) := Lib.hid fun U hU => (HI.out.1.trans (hb2.mono HI.out.1.size)).trans (hU.mono (Nat.le_trans HI.out.1.size hb2.size))
              have HW1 : RowKit.Hid (∀ U, Below W2.heap.size W2 U → Below W1.heap.size W1 U) := Lib.hid fun U hU => HB5.out.trans ((HW2.out U hU).mono HB5.out.size)
              have HWW : RowKit.Hid (∀ U, Below W2.heap.size W2 U → Below w.heap.size w U) := Lib.hid fun U hU => HB.out.trans ((HW1.out U hU).mono HB.out.size)
              clear hW2 hb2 hs2 hc2
              have CA1 := Lib.hid (CA.out W2 (parL f i) pa pn pc (HW2.out _ (Below.refl _ _)) HPV.out)
              obtain ⟨b0, b1⟩ := HBX.out W2 (Below.refl _ _)
              cases hk1 : knownB P (parL f i) with
              | false =>
                have HR : RowKit.Hid (funD P f = false) := Lib.hid (by rw [HFD2.out]; exact allK_no HIL.out (by rw [HBD.out, hk1]; rfl))
                rw [hk1] at CA1
                clear hk1
                go_wp2_with (go_at_call 31; (with_reducible refine CA1.out.mono ?_); rintro e w7 ⟨rfl, rfl⟩)
                go_ret
                exact ⟨by rw [HR.out]; rfl, HWW.out _ (Below.refl _ _)⟩
              | true =>
                have HK1 := Lib.hid hk1
                rw [hk1] at CA1
                clear hk1
                have CE1 := Lib.hid (CE.out W2 i (HW2.out _ (Below.refl _ _)) hlt)
                cases hk2 : endD f T i with
                | false =>
                  have HR : RowKit.Hid (funD P f = false) := Lib.hid (by rw [HFD2.out]; exact allK_no HIL.out (by rw [HBD.out, hk2]; simp))
                  rw [hk2] at CE1
                  clear hk2
                  go_wp2_with (first
                    | (go_at_call 31; (with_reducible refine CA1.out.mono ?_); rintro e w7 ⟨rfl, rfl⟩)
                    | (go_at_call 55; (with_reducible refine CE1.out.mono ?_); rintro e w8 ⟨rfl, hb⟩; have HB8 := Lib.hid hb; clear hb))
                  go_ret
                  exact ⟨by rw [HR.out]; rfl, HWW.out _ HB8.out⟩
                | true =>
                  have HBD2 : RowKit.Hid (blockD P f T i = allK (stepD P f T i) on) := Lib.hid (by rw [HBD.out, HK1.out, hk2]; rfl)
                  rw [hk2] at CE1
                  clear hk2
                  go_upto_region 10 with (first
                    | (go_at_call 31; (with_reducible refine CA1.out.mono ?_); rintro e w7 ⟨rfl, rfl⟩)
                    | (go_at_call 55; (with_reducible refine CE1.out.mono ?_); rintro e w8 ⟨rfl, hb⟩; have HB8 := Lib.hid hb; clear hb))
                  clear b0 b1 CA1 CE1
                  go_wp2_with fail
                  go_loopw [8] (fun v8 wr => ∃ k : Nat, k ≤ on ∧ v8 = .int .i64 (k : Int) ∧ RowKit.Hid (Below W2.heap.size W2 wr ∧ allK (stepD P f T i) k = true)) (fun v8 _ => on - (intOf v8).toNat)
                  case atStart => exact ⟨0, Nat.zero_le _, rfl, Lib.hid ⟨HB8.out, rfl⟩⟩
                  case round =>
                    as_aux_lemma =>
                      obtain ⟨k, hk, rfl, HK⟩ := hrel
                      obtain ⟨wi, hwi⟩ : ∃ u, u = wr := ⟨_, rfl⟩
                      rw [← hwi] at HK ⊢
                      clear hwi
                      obtain ⟨b0, b1⟩ := HBX.out wi HK.out.1
                      by_cases hlk : k < on
                      · have hlkz : (k : Int) < (on : Int) := by omega
                        have hk0 : (0 : Int) ≤ (k : Int) := by omega
                        obtain ⟨hx, go, oo, ka, kn, kc, rfl, hgo, hoc, hka, hNr⟩ := opD_at HOV.out hlk
                        obtain ⟨X, hX⟩ : ∃ X, X = (f.blocks[i]'HXL.out).ops[k]'hx := ⟨_, rfl⟩
                        have hXe : opAt f i k = X := (opAt_at HXL.out hx).trans hX.symm
                        have HSD : RowKit.Hid (stepD P f T i k = ((resO P X T).2 && allK (fun j => valD f T i k (nth (usesO X) j) != -1) (usesO X).length)) := Lib.hid (by unfold stepD; rw [hXe])
                        rw [← hX] at hoc hka hNr
                        have HKA := Lib.hid hka
                        obtain ⟨_, _, _, hke, hk1, hkn, hk8, _⟩ := hka
                        cases hke
                        have HKL := Lib.hid hlk
                        have HNR := Lib.hid hNr
                        have HKN := Lib.hid hkn
                        have hkn8 : kn ≤ 17592186044000 := by omega
                        have HKT := Lib.hid hk1
                        clear hX hXe hx hk1 hkn hk8 hNr
                        obtain ⟨XK, XA, XB, XC, XN, XS, XL, XT⟩ := X
                        simp only at hoc HKA HNR HKT
                        have HSS : RowKit.Hid (∀ U, Below W2.heap.size W2 U → (U.cell? ⟨wo.heap.size, 1, none⟩ = some (.slice (some ⟨go, oo, none⟩) on oc) ∧ U.cell? ⟨q, 3, none⟩ = some (.slice ta tn tc)) ∧ (U.cell? ⟨go, oo + k * 8, none⟩ = some (.int .i64 XK) ∧ U.cell? ⟨go, oo + k * 8 + 1, none⟩ = some (.int .i64 XA) ∧ U.cell? ⟨go, oo + k * 8 + 2, none⟩ = some (.int .i64 XB) ∧ U.cell? ⟨go, oo + k * 8 + 3, none⟩ = some (.int .i64 XC) ∧ U.cell? ⟨go, oo + k * 8 + 4, none⟩ = some (.int .i64 XN) ∧ U.cell? ⟨go, oo + k * 8 + 5, none⟩ = some (.string XS) ∧ U.cell? ⟨go, oo + k * 8 + 6, none⟩ = some (.slice ka kn kc) ∧ U.cell? ⟨go, oo + k * 8 + 7, none⟩ = some (.bool XT))) := Lib.hid fun U hU => by
                          have hcc : ∀ j, j < 8 → U.cell? ⟨go, oo + k * 8 + j, none⟩ = _ := fun j hj => ((HW1.out U hU).cell (p := ⟨go, oo + k * 8 + j, none⟩) hgo).trans (hoc j hj)
                          exact ⟨⟨(HBX.out U hU).2, (HCA.out.since (HW2.out U hU)).c3⟩, hcc 0 (by omega), hcc 1 (by omega), hcc 2 (by omega), hcc 3 (by omega), hcc 4 (by omega), hcc 5 (by omega), hcc 6 (by omega), hcc 7 (by omega)⟩
                        have CRS : RowKit.Hid (∀ U, Below W2.heap.size W2 U → Calls Tryd.prog 56 #[.pointer (some ⟨g, 0, none⟩), .agg #[.int .i64 XK, .int .i64 XA, .int .i64 XB, .int .i64 XC, .int .i64 XN, .string XS, .slice ka kn kc, .bool XT], .slice ta tn tc] U (ResPost (resO P ⟨XK, XA, XB, XC, XN, XS, XL, XT⟩ T) U)) := Lib.hid fun U hU => rresult_any g XK XA XB XC XN XS ka kn kc XT XL ta tn tc T U (HP.out.since (HW1.out U hU)) (HKT.out.since (HW1.out U hU)) HKN.out hkn8 (HCA.out.since (HW2.out U hU)).typ (by omega) HCA.out.rng HNR.out
                        have CU : RowKit.Hid (∀ U, Below W2.heap.size W2 U → Calls Tryd.prog 40 #[.agg #[.int .i64 XK, .int .i64 XA, .int .i64 XB, .int .i64 XC, .int .i64 XN, .string XS, .slice ka kn kc, .bool XT]] U fun e w' => ∃ va vn vc, e = .returned (.slice va vn vc) ∧ OwnsI w' U.heap.size 3 (.slice va vn vc) (usesO ⟨XK, XA, XB, XC, XN, XS, XL, XT⟩) ∧ Below U.heap.size U w') := Lib.hid fun U hU => uses_any XK XA XB XC XN XS ka kn kc XT XL U (HKT.out.since (HW1.out U hU)) HKN.out hkn8
                        have HUL : RowKit.Hid ((usesO ⟨XK, XA, XB, XC, XN, XS, XL, XT⟩).length ≤ 140737488355328) := Lib.hid (by
                          have h1 : (usesL XK XA XB XC XL).length ≤ 3 + XL.length := dusesL_len XK XA XB XC XL
                          have h2 : XL.length = kn := HKT.out.1
                          show (usesL XK XA XB XC XL).length ≤ _
                          omega)
                        obtain ⟨⟨r1, rb⟩, hrr⟩ : ∃ r, r = resO P ⟨XK, XA, XB, XC, XN, XS, XL, XT⟩ T := ⟨_, rfl⟩
                        rw [← hrr] at CRS HSD
                        generalize usesO ⟨XK, XA, XB, XC, XN, XS, XL, XT⟩ = US at *
                        clear hoc hgo hrr b0
                        go_upto_region 13 with fail
                        clear b1
                        refine wp_region_T (S := (fun u : World => (u.cell? ⟨wo.heap.size, 1, none⟩ = some (.slice (some ⟨go, oo, none⟩) on oc) ∧ u.cell? ⟨q, 3, none⟩ = some (.slice ta tn tc)) ∧ (u.cell? ⟨go, oo + k * 8, none⟩ = some (.int .i64 XK) ∧ u.cell? ⟨go, oo + k * 8 + 1, none⟩ = some (.int .i64 XA) ∧ u.cell? ⟨go, oo + k * 8 + 2, none⟩ = some (.int .i64 XB) ∧ u.cell? ⟨go, oo + k * 8 + 3, none⟩ = some (.int .i64 XC) ∧ u.cell? ⟨go, oo + k * 8 + 4, none⟩ = some (.int .i64 XN) ∧ u.cell? ⟨go, oo + k * 8 + 5, none⟩ = some (.string XS) ∧ u.cell? ⟨go, oo + k * 8 + 6, none⟩ = some (.slice ka kn kc) ∧ u.cell? ⟨go, oo + k * 8 + 7, none⟩ = some (.bool XT)))) 16 (by kernel_rfl) (HSS.out _ (HK.out.1.drew)) (fun hHeld => ?_)
                        refine wpAnyT_takeW (i := 0) (oi := ⟨some 71, _, _, _, _, _⟩) (v := ?_) rfl (by kernel_rfl) (by kernel_rfl) (by kernel_rfl) (fun _ _ _ h => h) (Or.inl ⟨by rfl, ?_⟩) ?_
                        rotate_left
                        · ((intro w _; go_simp); try with_reducible rfl)
                        (try simp only [Act.put, List.setIfInBounds_toArray, List.set_cons_zero, List.set_cons_succ])
                        refine wpAnyT_takeW (i := 1) (oi := ⟨some 72, _, _, _, _, _⟩) (v := ?_) rfl (by kernel_rfl) (by kernel_rfl) (by kernel_rfl) (fun _ _ _ h => h) (Or.inl ⟨by rfl, ?_⟩) ?_
                        rotate_left
                        · ((intro w _; go_simp); try with_reducible rfl)
                        (try simp only [Act.put, List.setIfInBounds_toArray, List.set_cons_zero, List.set_cons_succ])
                        refine wpAnyT_take (i := 2) (oi := ⟨some 73, _, _, _, _, _⟩) (v := ?_) 8 rfl (by kernel_rfl) (by kernel_rfl) (by kernel_rfl) (by kernel_rfl) (by kernel_rfl) (fun _ _ _ h => h) (Or.inl ⟨by rfl, ?_⟩) (by assumption) ?_
                        rotate_left
                        · ((intro w hSw; (try dsimp only at hSw); go_simp); try with_reducible rfl)
                        (try simp only [Act.put, List.setIfInBounds_toArray, List.set_cons_zero, List.set_cons_succ])
                        refine wpAnyT_takeW (i := 3) (oi := ⟨some 74, _, _, _, _, _⟩) (v := ?_) rfl (by kernel_rfl) (by kernel_rfl) (by kernel_rfl) (fun _ _ _ h => h) (Or.inl ⟨by rfl, ?_⟩) ?_
                        rotate_left
                        · ((intro w _; go_simp); try with_reducible rfl)
                        (try simp only [Act.put, List.setIfInBounds_toArray, List.set_cons_zero, List.set_cons_succ])
                        refine wpAnyT_takeW (i := 4) (oi := ⟨some 75, _, _, _, _, _⟩) (v := ?_) rfl (by kernel_rfl) (by kernel_rfl) (by kernel_rfl) (fun _ _ _ h => h) (Or.inl ⟨by rfl, ?_⟩) ?_
                        rotate_left
                        · ((intro w _; go_simp); try with_reducible rfl)
                        (try simp only [Act.put, List.setIfInBounds_toArray, List.set_cons_zero, List.set_cons_succ])
                        refine wpAnyT_take (i := 5) (oi := ⟨some 76, _, _, _, _, _⟩) (v := ?_) 8 rfl (by kernel_rfl) (by kernel_rfl) (by kernel_rfl) (by kernel_rfl) (by kernel_rfl) (fun _ _ _ h => h) (Or.inl ⟨by rfl, ?_⟩) (by assumption) ?_
                        rotate_left
                        · ((intro w hSw; (try dsimp only at hSw); go_simp); try with_reducible rfl)
                        (try simp only [Act.put, List.setIfInBounds_toArray, List.set_cons_zero, List.set_cons_succ])
                        refine wpAnyT_takeW (i := 6) (oi := ⟨some 77, _, _, _, _, _⟩) (v := ?_) rfl (by kernel_rfl) (by kernel_rfl) (by kernel_rfl) (fun _ _ _ h => h) (Or.inl ⟨by rfl, ?_⟩) ?_
                        rotate_left
                        · ((intro w _; go_simp); try with_reducible rfl)
                        (try simp only [Act.put, List.setIfInBounds_toArray, List.set_cons_zero, List.set_cons_succ])
                        refine wpAnyT_takeW (i := 7) (oi := ⟨some 78, _, _, _, _, _⟩) (v := ?_) rfl (by kernel_rfl) (by kernel_rfl) (by kernel_rfl) (fun _ _ _ h => h) (Or.inl ⟨by rfl, ?_⟩) ?_
                        rotate_left
                        · ((intro w _; go_simp); try with_reducible rfl)
                        (try simp only [Act.put, List.setIfInBounds_toArray, List.set_cons_zero, List.set_cons_succ])
                        refine wpAnyT_takeW (i := 8) (oi := ⟨some 79, _, _, _, _, _⟩) (v := ?_) rfl (by kernel_rfl) (by kernel_rfl) (by kernel_rfl) (fun _ _ _ h => h) (Or.inl ⟨by rfl, ?_⟩) ?_
                        rotate_left
                        · ((intro w _; go_simp); try with_reducible rfl)
                        (try simp only [Act.put, List.setIfInBounds_toArray, List.set_cons_zero, List.set_cons_succ])
                        refine wpAnyT_take (i := 9) (oi := ⟨some 80, _, _, _, _, _⟩) (v := ?_) 8 rfl (by kernel_rfl) (by kernel_rfl) (by kernel_rfl) (by kernel_rfl) (by kernel_rfl) (fun _ _ _ h => h) (Or.inl ⟨by rfl, ?_⟩) (by assumption) ?_
                        rotate_left
                        · ((intro w hSw; (try dsimp only at hSw); go_simp); try with_reducible rfl)
                        (try simp only [Act.put, List.setIfInBounds_toArray, List.set_cons_zero, List.set_cons_succ])
                        refine wpAnyT_one (i := 10) (by kernel_rfl) rfl (fun K hK => ?_)
                        rw [if_pos (by rfl)]
                        go_simp
                        (with_reducible refine (CRS.out _ (HK.out.1.drew)).mono ?_)
                        rintro e w9 ⟨rfl, hb⟩
                        have HB9 : RowKit.Hid (Below W2.heap.size W2 w9) := Lib.hid ((HK.out.1.drew).trans (hb.mono (HK.out.1.drew).size))
                        clear hb
                        refine hK.out _ _ (HSS.out _ HB9.out) (fun hHeld => ?_)
                        clear hK K
                        (try simp only [Act.put, List.setIfInBounds_toArray, List.set_cons_zero, List.set_cons_succ])
                        refine wpAnyT_takeW (i := 11) (oi := ⟨some 70, _, _, _, _, _⟩) (v := ?_) rfl (by kernel_rfl) (by kernel_rfl) (by kernel_rfl) (fun _ _ _ h => h) (Or.inl ⟨by rfl, ?_⟩) ?_
                        rotate_left
                        · ((intro w _; go_simp); try with_reducible rfl)
                        (try simp only [Act.put, List.setIfInBounds_toArray, List.set_cons_zero, List.set_cons_succ])
                        refine wpAnyT_takeW (i := 12) (oi := ⟨some 82, _, _, _, _, _⟩) (v := ?_) rfl (by kernel_rfl) (by kernel_rfl) (by kernel_rfl) (fun _ _ _ h => h) (Or.inl ⟨by rfl, ?_⟩) ?_
                        rotate_left
                        · ((intro w _; go_simp); try with_reducible rfl)
                        (try simp only [Act.put, List.setIfInBounds_toArray, List.set_cons_zero, List.set_cons_succ])
                        refine wpAnyT_takeW (i := 13) (oi := ⟨some 83, _, _, _, _, _⟩) (v := ?_) rfl (by kernel_rfl) (by kernel_rfl) (by kernel_rfl) (fun _ _ _ h => h) (Or.inl ⟨by rfl, ?_⟩) ?_
                        rotate_left
                        · ((intro w _; go_simp); try with_reducible rfl)
                        (try simp only [Act.put, List.setIfInBounds_toArray, List.set_cons_zero, List.set_cons_succ])
                        refine wpAnyT_takeW (i := 14) (oi := ⟨some 9, _, _, _, _, _⟩) (v := ?_) rfl (by kernel_rfl) (by kernel_rfl) (by kernel_rfl) (fun _ _ _ h => h) (Or.inl ⟨by rfl, ?_⟩) ?_
                        rotate_left
                        · ((intro w _; go_simp); try with_reducible rfl)
                        (try simp only [Act.put, List.setIfInBounds_toArray, List.set_cons_zero, List.set_cons_succ])
                        refine wpAnyT_takeW (i := 15) (oi := ⟨some 10, _, _, _, _, _⟩) (v := ?_) rfl (by kernel_rfl) (by kernel_rfl) (by kernel_rfl) (fun _ _ _ h => h) (Or.inl ⟨by rfl, ?_⟩) ?_
                        rotate_left
                        · ((intro w _; go_simp); try with_reducible rfl)
                        (try simp only [Act.put, List.setIfInBounds_toArray, List.set_cons_zero, List.set_cons_succ])
                        refine wpAnyT_done (by kernel_rfl) ?_
                        cases rb with
                        | false =>
                          have HR : RowKit.Hid (funD P f = false) := Lib.hid (by rw [HFD2.out]; refine allK_no HIL.out ?_; rw [HBD2.out]; refine allK_no HKL.out ?_; rw [HSD.out]; rfl)
                          go_wp2_with fail
                          go_ret
                          exact ⟨by rw [HR.out]; rfl, HWW.out _ HB9.out⟩
                        | true =>
                          have HSD2 : RowKit.Hid (stepD P f T i k = allK (fun j => valD f T i k (nth US j) != -1) US.length) := Lib.hid (by rw [HSD.out]; rfl)
                          obtain ⟨⟨b1, -⟩, o0, o1, o2, o3, o4, o5, o6, o7⟩ := HSS.out w9 HB9.out
                          go_upto_region 17 with (go_at_call 40; (with_reducible refine (CU.out _ HB9.out).mono ?_); rintro e w10 ⟨ua, un, uc, rfl, ho, hb⟩; have HU := Lib.hid ho; have HB10 : RowKit.Hid (Below W2.heap.size W2 w10) := Lib.hid (HB9.out.trans (hb.mono HB9.out.size)); clear ho hb)
                          clear b1 o0 o1 o2 o3 o4 o5 o6 o7
                          have hul : US.length = un := HU.out.read.1
                          have hub : un ≤ 140737488355328 := by rw [← hul]; exact HUL.out
                          have HULN := Lib.hid hul
                          clear hul
                          go_wp2_with fail
                          go_loopw [12] (fun v12 wr => ∃ j : Nat, j ≤ un ∧ v12 = .int .i64 (j : Int) ∧ RowKit.Hid (Below w10.heap.size w10 wr ∧ allK (fun j => valD f T i k (nth US j) != -1) j = true)) (fun v12 _ => un - (intOf v12).toNat)
                          case atStart => exact ⟨0, Nat.zero_le _, rfl, Lib.hid ⟨Below.refl _ _, rfl⟩⟩
                          case round =>
                            as_aux_lemma =>
                              obtain ⟨j, hj, rfl, HJ⟩ := hrel
                              obtain ⟨wz, hwz⟩ : ∃ u, u = wr := ⟨_, rfl⟩
                              rw [← hwz] at HJ ⊢
                              clear hwz
                              have HWZ : RowKit.Hid (Below W2.heap.size W2 wz) := Lib.hid (HB10.out.trans (HJ.out.1.mono HB10.out.size))
                              by_cases hju : j < un
                              · have hjz : (j : Int) < (un : Int) := by omega
                                have hj0 : (0 : Int) ≤ (j : Int) := by omega
                                have hjl : j < US.length := by rw [HULN.out]; exact hju
                                obtain ⟨gu, ou, rfl, hgu, hcu⟩ := HU.out.read.2 (by omega)
                                have u0 : wz.cell? ⟨gu, ou + j, none⟩ = some (.int .i64 (nth US j)) := by rw [HJ.out.1.cell (p := ⟨gu, ou + j, none⟩) hgu, hcu j hjl, nth_is hjl]; rfl
                                have CV := Lib.hid (CVL.out wz i k (nth US j) (HW2.out _ HWZ.out))
                                obtain ⟨vv, hvv⟩ : ∃ v, v = valD f T i k (nth US j) := ⟨_, rfl⟩
                                rw [← hvv] at CV
                                have HVV := Lib.hid hvv
                                have HJU := Lib.hid hju
                                clear hcu hgu hjl hvv
                                by_cases hv1 : vv = -1
                                · have hvb : (vv == -1) = true := by rw [hv1]; rfl
                                  have HR : RowKit.Hid (funD P f = false) := Lib.hid (by rw [HFD2.out]; refine allK_no HIL.out ?_; rw [HBD2.out]; refine allK_no HKL.out ?_; rw [HSD2.out]; refine allK_no (by rw [HULN.out]; exact HJU.out) (i := j) ?_; rw [← HVV.out, hv1]; rfl)
                                  clear hv1
                                  go_wp2_with (go_at_call 57; (with_reducible refine CV.out.mono ?_); rintro e w11 ⟨rfl, hb⟩; have HB11 := Lib.hid hb; clear hb)
                                  go_ret
                                  exact ⟨by rw [HR.out]; rfl, HWW.out _ (HWZ.out.trans (HB11.out.mono HWZ.out.size))⟩
                                · have hvb : (vv == -1) = false := by simpa using hv1
                                  have HOK : RowKit.Hid ((valD f T i k (nth US j) != -1) = true) := Lib.hid (by rw [← HVV.out]; simpa using hv1)
                                  clear hv1
                                  go_wp2_with (go_at_call 57; (with_reducible refine CV.out.mono ?_); rintro e w11 ⟨rfl, hb⟩; have HB11 := Lib.hid hb; clear hb)
                                  go_roundw
                                  case rel => exact ⟨j + 1, HJU.out, by go_num, Lib.hid ⟨HJ.out.1.trans (HB11.out.mono HJ.out.1.size), allK_more HJ.out.2 HOK.out⟩⟩
                                  case measure => have := HJU.out; simp [intOf]; omega
                              · obtain rfl : j = un := by omega
                                have hge : ¬ ((j : Int) < (j : Int)) := by omega
                                have HOK : RowKit.Hid (stepD P f T i k = true) := Lib.hid (by rw [HSD2.out, HULN.out]; exact HJ.out.2)
                                go_wp2_with fail
                                go_roundw
                                case rel => exact ⟨k + 1, HKL.out, by go_num, Lib.hid ⟨HWZ.out, allK_more HK.out.2 HOK.out⟩⟩
                                case measure => have := HKL.out; simp [intOf]; omega
                      · obtain rfl : k = on := by omega
                        have hge : ¬ ((k : Int) < (k : Int)) := by omega
                        have HOK : RowKit.Hid (blockD P f T i = true) := Lib.hid (by rw [HBD2.out]; exact HK.out.2)
                        go_wp2_with fail
                        go_roundw
                        case rel => exact ⟨i + 1, HIL.out, by go_num, Lib.hid ⟨HW2.out _ HK.out.1, allK_more HI.out.2 HOK.out⟩⟩
                        case measure => have := HIL.out; simp [intOf]; omega
            · obtain rfl : i = n := by omega
              have hge : ¬ ((i : Int) < (i : Int)) := by omega
              have HR : RowKit.Hid (funD P f = true) := Lib.hid (by rw [HFD2.out]; exact HI.out.2)
              go_wp2_with fail
              go_ret
              exact ⟨by rw [HR.out]; rfl, HB.out.trans (HWO.out.mono HB.out.size)⟩
end Go.Proofs.YtdchhfdmingnaaaDoor
