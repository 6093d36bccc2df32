/- Layer 5: the document's Same: whether two programs are one, in what plays a part. -/
import Derived.Test.YtccajbgdlicbnaaDoorQCodeSq
import Derived.BigQuiet
namespace Go.Proofs.YtccajbgdlicbnaaDoor
open Go.RowKit (wrap64 intOf Below)
set_option linter.unusedVariables false
set_option linter.unusedSimpArgs false
attribute [local go_sem ↓] Go.wp_at_zero Go.wp_at_succ

/-- A callee that draws, in the second of two regions. -/
theorem quiet_more {P : Program} {f : FuncId} {args : Array Value} {w : World} {a n : Nat} {v : Value} (h : Calls P f args (w.drewN (a + n)) fun e w' => e = .returned v ∧ ∃ m, w' = (w.drewN (a + n)).drewN m) :
    Calls P f args (w.drewN (a + n)) fun e w'' => e = .returned v ∧ ∃ m, w'' = w.drewN (a + m) :=
  h.mono fun _ _ ⟨he, m, hm⟩ => ⟨he, n + m, by rw [hm, World.drewN_drewN, Nat.add_assoc]⟩
theorem SigQ.form {W : World} {cs : List Value} {y : SigD} (h : SigQ W cs y) : ∃ a n c, cs = [.slice a n c, .int .i64 y.ret] ∧ NumsAt W a n y.params ∧ n ≤ 140737488355328 := by
  obtain ⟨p, rfl, ⟨a, n, c, rfl, h1, _, h3, _⟩, _⟩ := h
  exact ⟨a, n, c, rfl, h1, by omega⟩
theorem ClassQ.form {W : World} {cs : List Value} {y : ClassD} (h : ClassQ W cs y) : ∃ a n c b m d, cs = [.slice a n c, .slice b m d] ∧ NumsAt W a n y.fields ∧ n ≤ 140737488355328 ∧ NumsAt W b m y.methods ∧ m ≤ 140737488355328 := by
  obtain ⟨p, q, rfl, ⟨a, n, c, rfl, h1, _, h3, _⟩, ⟨b, m, d, rfl, k1, _, k3, _⟩⟩ := h
  exact ⟨a, n, c, b, m, d, rfl, h1, by omega, k1, by omega⟩
theorem FuncQ.form {W : World} {cs : List Value} {y : FuncD} (h : FuncQ W cs y) : ∃ a n c, cs = [.int .i64 y.ret, .slice a n c] := by
  obtain ⟨b, rfl, _, a, n, c, rfl, _⟩ := h
  exact ⟨a, n, c, rfl⟩
theorem rowV_len {α : Type} {Q : World → List Value → α → Prop} {k : Nat} {W : World} {a : Option Addr} {n c : Nat} {xs : List α} (h : RowV Q k W (.slice a n c) xs) : xs.length = n ∧ n ≤ 140737488351232 := by
  obtain ⟨_, _, _, e, h1, _, h2, _⟩ := h
  cases e
  exact ⟨h1, h2⟩
theorem take_all_eq {α : Type} {xs ys : List α} {n : Nat} (h : xs.take n = ys.take n) (h1 : xs.length = n) (h2 : ys.length = n) : xs = ys := by
  rw [List.take_of_length_le (by omega), List.take_of_length_le (by omega)] at h
  exact h
theorem take_more {α : Type} {xs ys : List α} {i : Nat} (h1 : i < xs.length) (h2 : i < ys.length) (h : xs.take i = ys.take i) (he : xs[i] = ys[i]) : xs.take (i + 1) = ys.take (i + 1) := by
  rw [List.take_succ_eq_append_getElem h1, List.take_succ_eq_append_getElem h2, h, he]
theorem list_ne {α : Type} {xs ys : List α} {i : Nat} (h1 : i < xs.length) (h2 : i < ys.length) (he : ¬ xs[i] = ys[i]) : ¬ xs = ys := fun h => he (by
  have e1 : xs[i]? = ys[i]? := by rw [h]
  rw [List.getElem?_eq_getElem h1, List.getElem?_eq_getElem h2] at e1
  simpa using e1)

set_option maxRecDepth 100000 in
set_option maxHeartbeats 8000000 in
theorem ref_same (g1 o1 g2 o2 : Nat) (sa1 ca1 fa1 sa2 ca2 fa2 : Option Addr) (sn1 sc1 cn1 cc1 fn1 fc1 sn2 sc2 cn2 cc2 fn2 fc2 : Nat) (P Q : ProgD) (w : World)
    (hg1 : g1 < w.heap.size) (hg2 : g2 < w.heap.size)
    (hp0 : w.cell? ⟨g1, o1, none⟩ = some (.slice sa1 sn1 sc1)) (hp1 : w.cell? ⟨g1, o1 + 1, none⟩ = some (.slice ca1 cn1 cc1)) (hp2 : w.cell? ⟨g1, o1 + 2, none⟩ = some (.slice fa1 fn1 fc1))
    (hq0 : w.cell? ⟨g2, o2, none⟩ = some (.slice sa2 sn2 sc2)) (hq1 : w.cell? ⟨g2, o2 + 1, none⟩ = some (.slice ca2 cn2 cc2)) (hq2 : w.cell? ⟨g2, o2 + 2, none⟩ = some (.slice fa2 fn2 fc2))
    (hP : ProgQ w [.slice sa1 sn1 sc1, .slice ca1 cn1 cc1, .slice fa1 fn1 fc1] P) (hQ : ProgQ w [.slice sa2 sn2 sc2, .slice ca2 cn2 cc2, .slice fa2 fn2 fc2] Q) :
    Calls Tryd.prog 12 #[.pointer (some ⟨g1, o1, none⟩), .pointer (some ⟨g2, o2, none⟩)] w (TruthPost (plainProg P = plainProg Q) w) := by
  obtain ⟨_, _, _, e1, hS1, hC1, hF1⟩ := hP
  obtain ⟨_, _, _, e2, hS2, hC2, hF2⟩ := hQ
  simp only [List.cons.injEq, and_true] at e1 e2
  obtain ⟨rfl, rfl, rfl⟩ := e1
  obtain ⟨rfl, rfl, rfl⟩ := e2
  have HS1 := Lib.hid hS1
  have HS2 := Lib.hid hS2
  have HC1 := Lib.hid hC1
  have HC2 := Lib.hid hC2
  have HF1 := Lib.hid hF1
  have HF2 := Lib.hid hF2
  have LS1 := Lib.hid (rowV_len hS1)
  have LS2 := Lib.hid (rowV_len hS2)
  have LC1 := Lib.hid (rowV_len hC1)
  have LC2 := Lib.hid (rowV_len hC2)
  have LF1 := Lib.hid (rowV_len hF1)
  have LF2 := Lib.hid (rowV_len hF2)
  have hls := (rowV_len hS1).2
  have hlc := (rowV_len hC1).2
  have hlf := (rowV_len hF1).2
  have HG1 := Lib.hid hg1
  have HG2 := Lib.hid hg2
  clear hS1 hS2 hC1 hC2 hF1 hF2
  by_cases h1 : sn1 = sn2
  rotate_left
  · have hne : ((sn1 : Int) != (sn2 : Int)) = true := by rw [bne_iff_ne]; omega
    have HF : RowKit.Hid (¬ plainProg P = plainProg Q) := Lib.hid fun h => h1 (by
      have e := congrArg (fun p => p.sigs.length) h
      simp only [plainProg] at e
      rw [LS1.out.1, LS2.out.1] at e
      exact e)
    clear h1
    go_enter Tryd.func12, Tryd.ntmps12
    go_wp2_with fail
    go_quiet (fail)
    go_wp2_with fail
    go_ret
    exact ⟨false, rfl, ⟨fun h => (by cases h), fun h => absurd h HF.out⟩, below_drewN _ (Below.refl _ _)⟩
  subst h1
  have hne1 : ((sn1 : Int) != (sn1 : Int)) = false := by simp
  by_cases h2 : cn1 = cn2
  rotate_left
  · have hne : ((cn1 : Int) != (cn2 : Int)) = true := by rw [bne_iff_ne]; omega
    have HF : RowKit.Hid (¬ plainProg P = plainProg Q) := Lib.hid fun h => h2 (by
      have e := congrArg (fun p => p.classes.length) h
      simp only [plainProg] at e
      rw [LC1.out.1, LC2.out.1] at e
      exact e)
    clear h2
    go_enter Tryd.func12, Tryd.ntmps12
    go_wp2_with fail
    go_quiet (fail)
    go_wp2_with fail
    go_ret
    exact ⟨false, rfl, ⟨fun h => (by cases h), fun h => absurd h HF.out⟩, below_drewN _ (Below.refl _ _)⟩
  subst h2
  have hne2 : ((cn1 : Int) != (cn1 : Int)) = false := by simp
  by_cases h3 : fn1 = fn2
  rotate_left
  · have hne : ((fn1 : Int) != (fn2 : Int)) = true := by rw [bne_iff_ne]; omega
    have HF : RowKit.Hid (¬ plainProg P = plainProg Q) := Lib.hid fun h => h3 (by
      have e := congrArg (fun p => p.funcs.length) h
      simp only [plainProg, List.length_map] at e
      rw [LF1.out.1, LF2.out.1] at e
      exact e)
    clear h3
    go_enter Tryd.func12, Tryd.ntmps12
    go_wp2_with fail
    go_quiet (fail)
    go_wp2_with fail
    go_ret
    exact ⟨false, rfl, ⟨fun h => (by cases h), fun h => absurd h HF.out⟩, below_drewN _ (Below.refl _ _)⟩
  subst h3
  have hne3 : ((fn1 : Int) != (fn1 : Int)) = false := by simp
  go_enter Tryd.func12, Tryd.ntmps12
  go_wp2_with fail
  go_quiet (fail)
  have HC : RowKit.Hid (∀ (u : World), Below w.heap.size w u → (u.cell? ⟨g1, o1, none⟩ = some (.slice sa1 sn1 sc1) ∧ u.cell? ⟨g1, o1 + 1, none⟩ = some (.slice ca1 cn1 cc1) ∧ u.cell? ⟨g1, o1 + 2, none⟩ = some (.slice fa1 fn1 fc1)) ∧ u.cell? ⟨g2, o2, none⟩ = some (.slice sa2 sn1 sc2) ∧ u.cell? ⟨g2, o2 + 1, none⟩ = some (.slice ca2 cn1 cc2) ∧ u.cell? ⟨g2, o2 + 2, none⟩ = some (.slice fa2 fn1 fc2)) :=
    Lib.hid (fun u hb => ⟨⟨(hb.cell (p := ⟨g1, o1, none⟩) hg1).trans hp0, (hb.cell (p := ⟨g1, o1 + 1, none⟩) hg1).trans hp1, (hb.cell (p := ⟨g1, o1 + 2, none⟩) hg1).trans hp2⟩, (hb.cell (p := ⟨g2, o2, none⟩) hg2).trans hq0, (hb.cell (p := ⟨g2, o2 + 1, none⟩) hg2).trans hq1, (hb.cell (p := ⟨g2, o2 + 2, none⟩) hg2).trans hq2⟩)
  clear hp0 hp1 hp2 hq0 hq1 hq2 hg1 hg2
  go_wp2_with fail
  go_loopw [5] (fun iv wr => ∃ i : Nat, i ≤ sn1 ∧ iv = .int .i64 (i : Int) ∧ RowKit.Hid (P.sigs.take i = Q.sigs.take i ∧ Below w.heap.size w wr)) (fun iv _ => sn1 - (intOf iv).toNat)
  case atStart => exact ⟨0, Nat.zero_le _, rfl, Lib.hid ⟨rfl, below_drewN _ (Below.refl _ _)⟩⟩
  case round =>
    obtain ⟨i, hi, rfl, HI⟩ := hrel
    obtain ⟨⟨hp0, hp1, hp2⟩, hq0, hq1, hq2⟩ := HC.out _ HI.out.2
    by_cases hlt : i < sn1
    · obtain ⟨u1, v1, rfl, hu1, hcs1⟩ := rowV_at (HS1.out.since SigQ.lasts HI.out.2) (by omega)
      obtain ⟨u2, v2, rfl, hu2, hcs2⟩ := rowV_at (HS2.out.since SigQ.lasts HI.out.2) (by omega)
      have hi1 : i < P.sigs.length := by rw [LS1.out.1]; exact hlt
      have hi2 : i < Q.sigs.length := by rw [LS2.out.1]; exact hlt
      obtain ⟨cs1, hc1, hcell1, hx1⟩ := hcs1 i hi1
      obtain ⟨cs2, hc2, hcell2, hx2⟩ := hcs2 i hi2
      obtain ⟨X, hX⟩ : ∃ X, X = P.sigs[i] := ⟨_, rfl⟩
      obtain ⟨Y, hY⟩ : ∃ Y, Y = Q.sigs[i] := ⟨_, rfl⟩
      rw [← hX] at hx1
      rw [← hY] at hx2
      obtain ⟨a1, n1, c1, rfl, hn1, hm1⟩ := hx1.form
      obtain ⟨a2, n2, c2, rfl, hn2, hm2⟩ := hx2.form
      have HX := Lib.hid hX
      have HY := Lib.hid hY
      have HN1 := Lib.hid hn1
      have HN2 := Lib.hid hn2
      have hd0 := hcell1 0 (by simp)
      have hd1 := hcell1 1 (by simp)
      have he0 := hcell2 0 (by simp)
      have he1 := hcell2 1 (by simp)
      simp only [Nat.add_zero, List.getElem_cons_zero, List.getElem_cons_succ] at hd0 hd1 he0 he1
      have HBI := Lib.hid HI.out.2
      have HTI := Lib.hid HI.out.1
      clear hcell1 hcell2 hcs1 hcs2 hx1 hx2 hX hY hc1 hc2 hn1 hn2 HI
      by_cases hr : X.ret = Y.ret
      rotate_left
      · have hne : (X.ret != Y.ret) = true := by rw [bne_iff_ne]; exact hr
        have HF : RowKit.Hid (¬ plainProg P = plainProg Q) := Lib.hid fun h => by
          have e := congrArg ProgD.sigs h
          exact list_ne hi1 hi2 (by rw [← HX.out, ← HY.out]; exact fun h => hr (congrArg SigD.ret h)) e
        clear hr
        go_upto_region 8 with fail
        go_quiet (fail)
        go_wp2_with fail
        go_ret
        exact ⟨false, rfl, ⟨fun h => (by cases h), fun h => absurd h HF.out⟩, below_drewN _ HBI.out⟩
      have hre : (X.ret != Y.ret) = false := by rw [hr]; simp
      by_cases hp : X.params = Y.params
      rotate_left
      · have HSP : RowKit.Hid (sameB X.params Y.params = false) := Lib.hid (decide_eq_false hp)
        have HF : RowKit.Hid (¬ plainProg P = plainProg Q) := Lib.hid fun h => by
          have e := congrArg ProgD.sigs h
          exact list_ne hi1 hi2 (by rw [← HX.out, ← HY.out]; exact fun h => hp (congrArg SigD.params h)) e
        clear hr hp
        go_upto_region 8 with fail
        have CI : RowKit.Hid (∀ d, Calls Tryd.prog 28 #[.slice a1 n1 c1, .slice a2 n2 c2] (wr.drewN d) fun e w' => e = .returned (.bool false) ∧ ∃ m, w' = (wr.drewN d).drewN m) := Lib.hid fun d => (ints_any a1 a2 n1 n2 c1 c2 X.params Y.params _ (HN1.out.drewN d) (HN2.out.drewN d) hm1 hm2).mono (by rintro e w' ⟨rfl, q, rfl⟩; rw [HSP.out]; exact ⟨rfl, q, rfl⟩)
        go_quiet (((go_at_call 28; first | exact quiet_more (CI.out _) | exact Calls.quiet_of (CI.out _))))
        go_wp2_with fail
        go_ret
        exact ⟨false, rfl, ⟨fun h => (by cases h), fun h => absurd h HF.out⟩, below_drewN _ HBI.out⟩
      have HSP : RowKit.Hid (sameB X.params Y.params = true) := Lib.hid (decide_eq_true hp)
      have HT : RowKit.Hid (P.sigs.take (i + 1) = Q.sigs.take (i + 1)) := Lib.hid (take_more hi1 hi2 HTI.out (by
        rw [← HX.out, ← HY.out]
        cases X
        cases Y
        simp only at hr hp
        rw [hr, hp]))
      clear hr hp
      have CI : RowKit.Hid (∀ d, Calls Tryd.prog 28 #[.slice a1 n1 c1, .slice a2 n2 c2] (wr.drewN d) fun e w' => e = .returned (.bool true) ∧ ∃ m, w' = (wr.drewN d).drewN m) := Lib.hid fun d => (ints_any a1 a2 n1 n2 c1 c2 X.params Y.params _ (HN1.out.drewN d) (HN2.out.drewN d) hm1 hm2).mono (by rintro e w' ⟨rfl, q, rfl⟩; rw [HSP.out]; exact ⟨rfl, q, rfl⟩)
      go_upto_region 8 with fail
      go_quiet (((go_at_call 28; first | exact quiet_more (CI.out _) | exact Calls.quiet_of (CI.out _))))
      go_wp2_with fail
      go_roundw
      case rel => exact ⟨i + 1, by omega, by go_num, Lib.hid ⟨HT.out, below_drewN _ HBI.out⟩⟩
      case measure => simp [intOf]; omega
    · obtain rfl : i = sn1 := by omega
      have HES := Lib.hid (take_all_eq HI.out.1 LS1.out.1 LS2.out.1)
      have HB1 := Lib.hid HI.out.2
      clear HI hlt
      go_wp2_with fail
      go_loopw [6] (fun iv wr => ∃ i : Nat, i ≤ cn1 ∧ iv = .int .i64 (i : Int) ∧ RowKit.Hid (P.classes.take i = Q.classes.take i ∧ Below w.heap.size w wr)) (fun iv _ => cn1 - (intOf iv).toNat)
      case atStart => exact ⟨0, Nat.zero_le _, rfl, Lib.hid ⟨rfl, HB1.out⟩⟩
      case round =>
        clear hp0 hp1 hp2 hq0 hq1 hq2 HB1
        obtain ⟨i, hi, rfl, HI⟩ := hrel
        obtain ⟨⟨hp0, hp1, hp2⟩, hq0, hq1, hq2⟩ := HC.out _ HI.out.2
        by_cases hlt : i < cn1
        · obtain ⟨u1, v1, rfl, hu1, hcs1⟩ := rowV_at (HC1.out.since ClassQ.lasts HI.out.2) (by omega)
          obtain ⟨u2, v2, rfl, hu2, hcs2⟩ := rowV_at (HC2.out.since ClassQ.lasts HI.out.2) (by omega)
          have hi1 : i < P.classes.length := by rw [LC1.out.1]; exact hlt
          have hi2 : i < Q.classes.length := by rw [LC2.out.1]; exact hlt
          obtain ⟨cs1, hc1, hcell1, hx1⟩ := hcs1 i hi1
          obtain ⟨cs2, hc2, hcell2, hx2⟩ := hcs2 i hi2
          obtain ⟨X, hX⟩ : ∃ X, X = P.classes[i] := ⟨_, rfl⟩
          obtain ⟨Y, hY⟩ : ∃ Y, Y = Q.classes[i] := ⟨_, rfl⟩
          rw [← hX] at hx1
          rw [← hY] at hx2
          obtain ⟨a1, n1, c1, b1, m1, d1, rfl, hn1, hnl1, hm1, hml1⟩ := hx1.form
          obtain ⟨a2, n2, c2, b2, m2, d2, rfl, hn2, hnl2, hm2, hml2⟩ := hx2.form
          have HX := Lib.hid hX
          have HY := Lib.hid hY
          have HN1 := Lib.hid hn1
          have HN2 := Lib.hid hn2
          have HM1 := Lib.hid hm1
          have HM2 := Lib.hid hm2
          have hd0 := hcell1 0 (by simp)
          have hd1 := hcell1 1 (by simp)
          have he0 := hcell2 0 (by simp)
          have he1 := hcell2 1 (by simp)
          simp only [Nat.add_zero, List.getElem_cons_zero, List.getElem_cons_succ] at hd0 hd1 he0 he1
          have HBI := Lib.hid HI.out.2
          have HTI := Lib.hid HI.out.1
          clear hcell1 hcell2 hcs1 hcs2 hx1 hx2 hX hY hc1 hc2 hn1 hn2 hm1 hm2 HI
          by_cases hp : X.fields = Y.fields
          rotate_left
          · have HSP : RowKit.Hid (sameB X.fields Y.fields = false) := Lib.hid (decide_eq_false hp)
            have HF : RowKit.Hid (¬ plainProg P = plainProg Q) := Lib.hid fun h => by
              have e := congrArg ProgD.classes h
              exact list_ne hi1 hi2 (by rw [← HX.out, ← HY.out]; exact fun h => hp (congrArg ClassD.fields h)) e
            clear hp
            have CI : RowKit.Hid (∀ d, Calls Tryd.prog 28 #[.slice a1 n1 c1, .slice a2 n2 c2] (wr.drewN d) fun e w' => e = .returned (.bool false) ∧ ∃ m, w' = (wr.drewN d).drewN m) := Lib.hid fun d => (ints_any a1 a2 n1 n2 c1 c2 X.fields Y.fields _ (HN1.out.drewN d) (HN2.out.drewN d) hnl1 hnl2).mono (by rintro e w' ⟨rfl, q, rfl⟩; rw [HSP.out]; exact ⟨rfl, q, rfl⟩)
            go_upto_region 13 with fail
            go_quiet (((go_at_call 28; first | exact quiet_more (CI.out _) | exact Calls.quiet_of (CI.out _))))
            go_wp2_with fail
            go_ret
            exact ⟨false, rfl, ⟨fun h => (by cases h), fun h => absurd h HF.out⟩, below_drewN _ HBI.out⟩
          have HSP : RowKit.Hid (sameB X.fields Y.fields = true) := Lib.hid (decide_eq_true hp)
          have CI : RowKit.Hid (∀ d, Calls Tryd.prog 28 #[.slice a1 n1 c1, .slice a2 n2 c2] (wr.drewN d) fun e w' => e = .returned (.bool true) ∧ ∃ m, w' = (wr.drewN d).drewN m) := Lib.hid fun d => (ints_any a1 a2 n1 n2 c1 c2 X.fields Y.fields _ (HN1.out.drewN d) (HN2.out.drewN d) hnl1 hnl2).mono (by rintro e w' ⟨rfl, q, rfl⟩; rw [HSP.out]; exact ⟨rfl, q, rfl⟩)
          by_cases hr : X.methods = Y.methods
          rotate_left
          · have HSQ : RowKit.Hid (sameB X.methods Y.methods = false) := Lib.hid (decide_eq_false hr)
            have HF : RowKit.Hid (¬ plainProg P = plainProg Q) := Lib.hid fun h => by
              have e := congrArg ProgD.classes h
              exact list_ne hi1 hi2 (by rw [← HX.out, ← HY.out]; exact fun h => hr (congrArg ClassD.methods h)) e
            clear hp hr
            have CJ : RowKit.Hid (∀ d, Calls Tryd.prog 28 #[.slice b1 m1 d1, .slice b2 m2 d2] (wr.drewN d) fun e w' => e = .returned (.bool false) ∧ ∃ m, w' = (wr.drewN d).drewN m) := Lib.hid fun d => (ints_any b1 b2 m1 m2 d1 d2 X.methods Y.methods _ (HM1.out.drewN d) (HM2.out.drewN d) hml1 hml2).mono (by rintro e w' ⟨rfl, q, rfl⟩; rw [HSQ.out]; exact ⟨rfl, q, rfl⟩)
            go_upto_region 13 with fail
            go_quiet ((go_at_call 28; first | (with_reducible exact quiet_more (CI.out _)) | (with_reducible exact Calls.quiet_of (CI.out _)) | (with_reducible exact quiet_more (CJ.out _)) | (with_reducible exact Calls.quiet_of (CJ.out _))))
            go_wp2_with fail
            go_ret
            exact ⟨false, rfl, ⟨fun h => (by cases h), fun h => absurd h HF.out⟩, below_drewN _ HBI.out⟩
          have HSQ : RowKit.Hid (sameB X.methods Y.methods = true) := Lib.hid (decide_eq_true hr)
          have HT : RowKit.Hid (P.classes.take (i + 1) = Q.classes.take (i + 1)) := Lib.hid (take_more hi1 hi2 HTI.out (by
            rw [← HX.out, ← HY.out]
            cases X
            cases Y
            simp only at hr hp
            rw [hr, hp]))
          clear hr hp
          have CJ : RowKit.Hid (∀ d, Calls Tryd.prog 28 #[.slice b1 m1 d1, .slice b2 m2 d2] (wr.drewN d) fun e w' => e = .returned (.bool true) ∧ ∃ m, w' = (wr.drewN d).drewN m) := Lib.hid fun d => (ints_any b1 b2 m1 m2 d1 d2 X.methods Y.methods _ (HM1.out.drewN d) (HM2.out.drewN d) hml1 hml2).mono (by rintro e w' ⟨rfl, q, rfl⟩; rw [HSQ.out]; exact ⟨rfl, q, rfl⟩)
          go_upto_region 13 with fail
          go_quiet ((go_at_call 28; first | (with_reducible exact quiet_more (CI.out _)) | (with_reducible exact Calls.quiet_of (CI.out _)) | (with_reducible exact quiet_more (CJ.out _)) | (with_reducible exact Calls.quiet_of (CJ.out _))))
          go_wp2_with fail
          go_roundw
          case rel => exact ⟨i + 1, by omega, by go_num, Lib.hid ⟨HT.out, below_drewN _ HBI.out⟩⟩
          case measure => simp [intOf]; omega
        · obtain rfl : i = cn1 := by omega
          have HEC := Lib.hid (take_all_eq HI.out.1 LC1.out.1 LC2.out.1)
          have HB1 := Lib.hid HI.out.2
          clear HI hlt
          go_wp2_with fail
          go_loopw [7] (fun iv wr => ∃ i : Nat, i ≤ fn1 ∧ iv = .int .i64 (i : Int) ∧ RowKit.Hid ((P.funcs.take i).map plainFunc = (Q.funcs.take i).map plainFunc ∧ Below w.heap.size w wr)) (fun iv _ => fn1 - (intOf iv).toNat)
          case atStart => exact ⟨0, Nat.zero_le _, rfl, Lib.hid ⟨rfl, HB1.out⟩⟩
          case round =>
            clear hp0 hp1 hp2 hq0 hq1 hq2 HB1
            obtain ⟨i, hi, rfl, HI⟩ := hrel
            obtain ⟨⟨hp0, hp1, hp2⟩, hq0, hq1, hq2⟩ := HC.out _ HI.out.2
            by_cases hlt : i < fn1
            · obtain ⟨u1, v1, rfl, hu1, hcs1⟩ := rowV_at (HF1.out.since FuncQ.lasts HI.out.2) (by omega)
              obtain ⟨u2, v2, rfl, hu2, hcs2⟩ := rowV_at (HF2.out.since FuncQ.lasts HI.out.2) (by omega)
              have hi1 : i < P.funcs.length := by rw [LF1.out.1]; exact hlt
              have hi2 : i < Q.funcs.length := by rw [LF2.out.1]; exact hlt
              obtain ⟨cs1, hc1, hcell1, hx1⟩ := hcs1 i hi1
              obtain ⟨cs2, hc2, hcell2, hx2⟩ := hcs2 i hi2
              obtain ⟨X, hX⟩ : ∃ X, X = P.funcs[i] := ⟨_, rfl⟩
              obtain ⟨Y, hY⟩ : ∃ Y, Y = Q.funcs[i] := ⟨_, rfl⟩
              rw [← hX] at hx1
              rw [← hY] at hx2
              obtain ⟨a1, n1, c1, rfl⟩ := hx1.form
              obtain ⟨a2, n2, c2, rfl⟩ := hx2.form
              have HX := Lib.hid hX
              have HY := Lib.hid hY
              have HN1 := Lib.hid (FuncQ.lasts _ _ _ _ ((Below.refl wr.heap.size wr).drew) hx1)
              have HN2 := Lib.hid (FuncQ.lasts _ _ _ _ ((Below.refl wr.heap.size wr).drew) hx2)
              have hd0 := hcell1 0 (by simp)
              have hd1 := hcell1 1 (by simp)
              have he0 := hcell2 0 (by simp)
              have he1 := hcell2 1 (by simp)
              simp only [Nat.add_zero, List.getElem_cons_zero, List.getElem_cons_succ] at hd0 hd1 he0 he1
              have HBI := Lib.hid HI.out.2
              have HTI := Lib.hid HI.out.1
              clear hcell1 hcell2 hcs1 hcs2 hx1 hx2 hX hY hc1 hc2 HI
              go_upto_region 18 with fail
              go_cut [174] (fun tc wd => ∃ b : Bool, tc = .bool (!b) ∧ RowKit.Hid ((b = true ↔ plainFunc X = plainFunc Y) ∧ Below wr.heap.size wr wd))
              case first =>
                go_region_law (rw [if_pos (by rfl)]; go_simp; go_at_call 29; (with_reducible refine (same_func X.ret Y.ret a1 a2 n1 c1 n2 c2 X Y _ HN1.out HN2.out).mono ?_); rintro e w5 ⟨b5, rfl, hbb, hb5⟩)
                all_goals
                  go_wp2_with fail
                  go_meet
                  exact ⟨b5, rfl, Lib.hid ⟨hbb, keepB ((Below.refl wr.heap.size wr).drew) hb5⟩⟩
              case rest =>
                obtain ⟨b5, rfl, HD⟩ := hcut
                clear hd0 hd1 he0 he1 hp0 hp1 hp2 hq0 hq1 hq2
                have HBJ := Lib.hid (keepB HBI.out HD.out.2)
                cases b5
                · have HF : RowKit.Hid (¬ plainProg P = plainProg Q) := Lib.hid fun h => by
                    have e := congrArg ProgD.funcs h
                    have h2 : ¬ plainFunc X = plainFunc Y := fun h => (by have := HD.out.1.2 h; cases this)
                    rw [HX.out, HY.out] at h2
                    exact map_ne plainFunc hi1 hi2 h2 e
                  go_wp2_with fail
                  go_ret
                  exact ⟨false, rfl, ⟨fun h => (by cases h), fun h => absurd h HF.out⟩, HBJ.out⟩
                · have HT : RowKit.Hid ((P.funcs.take (i + 1)).map plainFunc = (Q.funcs.take (i + 1)).map plainFunc) := Lib.hid (take_map plainFunc hi1 hi2 HTI.out (by rw [← HX.out, ← HY.out]; exact HD.out.1.1 rfl))
                  go_wp2_with fail
                  go_roundw
                  case rel => exact ⟨i + 1, by omega, by go_num, Lib.hid ⟨HT.out, HBJ.out⟩⟩
                  case measure => simp [intOf]; omega
            · obtain rfl : i = fn1 := by omega
              have HE : RowKit.Hid (plainProg P = plainProg Q) := Lib.hid (by
                have h := HI.out.1
                rw [List.take_of_length_le (by rw [LF1.out.1]; exact Nat.le_refl _), List.take_of_length_le (by rw [LF2.out.1]; exact Nat.le_refl _)] at h
                unfold plainProg
                rw [HES.out, HEC.out, h])
              have HB1 := Lib.hid HI.out.2
              go_wp2_with fail
              go_ret
              exact ⟨true, rfl, ⟨fun _ => HE.out, fun _ => rfl⟩, HB1.out⟩
end Go.Proofs.YtccajbgdlicbnaaDoor
