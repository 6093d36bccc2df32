/- Layer 5: code's Same: its lists, and what is called for each thing of them (mk_ge.py). -/
import Derived.Test.YtdmlogpaenbblaaDoorQCodeSs
import Derived.Test.YtdmlogpaenbblaaDoorQT6
import Derived.Deep.RegionLaw
import Derived.Deep.RegionHeld3
import Derived.Deep.DeepCutAuto
namespace Go.Proofs.YtdmlogpaenbblaaDoor
open Go.RowKit (wrap64 intOf Below)
set_option linter.unusedVariables false
set_option linter.unusedSimpArgs false
attribute [local go_sem ↓] Go.wp_at_zero Go.wp_at_succ

theorem Below.two {w : World} {a b : Obj} : Below w.heap.size w ((w.alloc a).alloc b) := ((Below.refl _ _).alloc (Nat.le_refl _) _).alloc (by simp) _
theorem FuncQ.rows {W : World} {a : Option Addr} {n c : Nat} {r : Int} {y : FuncD} (h : FuncQ W [.int .i64 r, .slice a n c] y) : RowV BlockQ 8 W (.slice a n c) y.blocks := by
  obtain ⟨b, e, _, h⟩ := h
  simp only [List.cons.injEq, and_true] at e
  obtain ⟨_, rfl⟩ := e
  exact h
set_option maxRecDepth 100000 in
set_option maxHeartbeats 4000000 in
theorem same_sig (a3 a4 : Option Addr) (n3 n4 c3 c4 : Nat) (Z3 Z4 : SigD) (w : World) (hx : SigQ w [.slice a3 n3 c3, .int .i64 Z3.ret] Z3) (hy : SigQ w [.slice a4 n4 c4, .int .i64 Z4.ret] Z4) :
    Calls Tryd.prog 51 #[.agg #[.slice a3 n3 c3, .int .i64 Z3.ret], .agg #[.slice a4 n4 c4, .int .i64 Z4.ret]] w (TruthPost (Z3 = Z4) w) := by
  have hl0 := Laid2B.start w 65 #[.slice a3 n3 c3, .int .i64 Z3.ret] #[.slice a4 n4 c4, .int .i64 Z4.ret]
  have HX := Lib.hid (SigQ.lasts _ _ _ _ hl0.bel hx)
  have HY := Lib.hid (SigQ.lasts _ _ _ _ hl0.bel hy)
  clear hx hy
  go_enter Tryd.func51, Tryd.ntmps51
  go_upto_region 1 with fail
  generalize hW : ((w.alloc (.cells #[.slice a3 n3 c3, .int .i64 Z3.ret] 65)).alloc (.cells #[.slice a4 n4 c4, .int .i64 Z4.ret] 65)) = W at hl0 HX HY ⊢
  clear hW
  have hi0 : W.cell? ⟨w.heap.size, 0, none⟩ = some (.slice a3 n3 c3) := hl0.c0 0
  have hk0 : W.cell? ⟨w.heap.size + 1, 0, none⟩ = some (.slice a4 n4 c4) := hl0.c1 0
  have hi1 : W.cell? ⟨w.heap.size, 1, none⟩ = some (.int .i64 Z3.ret) := hl0.c0 1
  have hk1 : W.cell? ⟨w.heap.size + 1, 1, none⟩ = some (.int .i64 Z4.ret) := hl0.c1 1
  have hz0 : w.heap.size < W.heap.size := by have := hl0.size; omega
  have hz1 : w.heap.size + 1 < W.heap.size := by have := hl0.size; omega
  have HB := Lib.hid hl0.bel
  clear hl0
  obtain ⟨_, _, _, e3, hn3, hm3⟩ := HX.out.form
  obtain ⟨_, _, _, e4, hn4, hm4⟩ := HY.out.form
  simp only [List.cons.injEq, Value.slice.injEq, and_true] at e3 e4
  obtain ⟨rfl, rfl, rfl⟩ := e3
  obtain ⟨rfl, rfl, rfl⟩ := e4
  have HN3 := Lib.hid hn3
  have HN4 := Lib.hid hn4
  clear hn3 hn4 HX HY
  by_cases hp : Z3.params = Z4.params
  rotate_left
  · have HSP : RowKit.Hid (sameB Z3.params Z4.params = false) := Lib.hid (decide_eq_false hp)
    have HF : RowKit.Hid (¬ Z3 = Z4) := Lib.hid fun h => hp (congrArg SigD.params h)
    clear hp
    go_wp2_with fail
    refine (equal_any a3 a4 n3 n4 c3 c4 Z3.params Z4.params _ HN3.out HN4.out hm3 hm4).mono ?_
    rintro e w1 ⟨rfl, d, rfl⟩
    rw [HSP.out]
    go_wp2_with fail
    go_ret
    exact ⟨false, rfl, ⟨fun h => (by cases h), fun h => absurd h HF.out⟩, below_drewN _ HB.out⟩
  have HSP : RowKit.Hid (sameB Z3.params Z4.params = true) := Lib.hid (decide_eq_true hp)
  have HE : RowKit.Hid (Z3 = Z4 ↔ Z3.ret = Z4.ret) := Lib.hid ⟨fun h => congrArg SigD.ret h, fun h => by cases Z3; cases Z4; simp_all⟩
  clear hp
  go_wp2_with fail
  refine (equal_any a3 a4 n3 n4 c3 c4 Z3.params Z4.params _ HN3.out HN4.out hm3 hm4).mono ?_
  rintro e w1 ⟨rfl, d, rfl⟩
  rw [HSP.out]
  by_cases hr : Z3.ret = Z4.ret
  · have hre : (Z3.ret == Z4.ret) = true := by rw [hr]; simp
    have HT := Lib.hid (HE.out.2 hr)
    clear hr
    go_wp2_with fail
    go_ret
    exact ⟨true, rfl, ⟨fun _ => HT.out, fun _ => rfl⟩, below_drewN _ HB.out⟩
  · have hre : (Z3.ret == Z4.ret) = false := by rw [beq_eq_false_iff_ne]; exact hr
    have HF := Lib.hid fun h => hr (HE.out.1 h)
    clear hr
    go_wp2_with fail
    go_ret
    exact ⟨false, rfl, ⟨fun h => (by cases h), fun h => absurd h HF.out⟩, below_drewN _ HB.out⟩
set_option maxRecDepth 100000 in
set_option maxHeartbeats 4000000 in
theorem eqf_sig (a1 a2 : Option Addr) (n1 n2 c1 c2 : Nat) (xs ys : List SigD) (w : World) (h1 : RowV SigQ 2 w (.slice a1 n1 c1) xs) (h2 : RowV SigQ 2 w (.slice a2 n2 c2) ys) :
    Calls Tryd.prog 50 #[.slice a1 n1 c1, .slice a2 n2 c2, .func (.func 51) #[] #[]] w (TruthPost (xs = ys) w) := by
  have LS1 := Lib.hid (rowV_len h1)
  have LS2 := Lib.hid (rowV_len h2)
  have hm1 := (rowV_len h1).2
  have hm2 := (rowV_len h2).2
  have HS1 := Lib.hid h1
  have HS2 := Lib.hid h2
  clear h1 h2
  by_cases hn : n1 = n2
  rotate_left
  · have hne : ((n1 : Int) != (n2 : Int)) = true := by rw [bne_iff_ne]; omega
    have HF : RowKit.Hid (¬ xs = ys) := Lib.hid fun h => hn (by
      have e := congrArg List.length h
      rw [LS1.out.1, LS2.out.1] at e
      exact e)
    clear hn
    go_enter Tryd.func50, Tryd.ntmps50
    go_wp2_with fail
    go_ret
    exact ⟨false, rfl, ⟨fun h => (by cases h), fun h => absurd h HF.out⟩, Below.refl _ _⟩
  subst hn
  have hne1 : ((n1 : Int) != (n1 : Int)) = false := by simp
  go_enter Tryd.func50, Tryd.ntmps50
  go_wp2_with fail
  go_loopw [17] (fun iv wr => ∃ i : Nat, i ≤ n1 ∧ iv = .int .i64 (i : Int) ∧ RowKit.Hid (xs.take i = ys.take i ∧ Below w.heap.size w wr)) (fun iv _ => n1 - (intOf iv).toNat)
  case atStart => exact ⟨0, Nat.zero_le _, rfl, Lib.hid ⟨rfl, Below.refl _ _⟩⟩
  case round =>
    obtain ⟨i, hi, rfl, HI⟩ := hrel
    by_cases hlt : i < n1
    · obtain ⟨u1, v1, rfl, hu1, hcs1⟩ := rowV_at (HS1.out.since SigQ.lasts HI.out.2) (by omega)
      obtain ⟨u2, v2, rfl, hu2, hcs2⟩ := rowV_at (HS2.out.since SigQ.lasts HI.out.2) (by omega)
      have hi1 : i < xs.length := by rw [LS1.out.1]; exact hlt
      have hi2 : i < ys.length := by rw [LS2.out.1]; exact hlt
      obtain ⟨cs1, hc1, hcell1, hx1⟩ := hcs1 i hi1
      obtain ⟨cs2, hc2, hcell2, hx2⟩ := hcs2 i hi2
      obtain ⟨Z3, hX⟩ : ∃ X, X = xs[i] := ⟨_, rfl⟩
      obtain ⟨Z4, hY⟩ : ∃ Y, Y = ys[i] := ⟨_, rfl⟩
      rw [← hX] at hx1
      rw [← hY] at hx2
      obtain ⟨a3, n3, c3, rfl, _, _⟩ := hx1.form
      obtain ⟨a4, n4, c4, rfl, _, _⟩ := hx2.form
      have hd0 := hcell1 0 (by simp)
      have hd1 := hcell1 1 (by simp)
      have he0 := hcell2 0 (by simp)
      have he1 := hcell2 1 (by simp)
      simp only [Nat.add_zero, List.getElem_cons_zero, List.getElem_cons_succ] at hd0 hd1 he0 he1
      have HX2 : RowKit.Hid (SigQ ((wr.alloc (.cells #[.slice a3 n3 c3, .int .i64 Z3.ret] 65)).alloc (.cells #[.slice a4 n4 c4, .int .i64 Z4.ret] 65)) [.slice a3 n3 c3, .int .i64 Z3.ret] Z3) := Lib.hid (SigQ.lasts _ _ _ _ Below.two hx1)
      have HY2 : RowKit.Hid (SigQ ((wr.alloc (.cells #[.slice a3 n3 c3, .int .i64 Z3.ret] 65)).alloc (.cells #[.slice a4 n4 c4, .int .i64 Z4.ret] 65)) [.slice a4 n4 c4, .int .i64 Z4.ret] Z4) := Lib.hid (SigQ.lasts _ _ _ _ Below.two hx2)
      have HBI : RowKit.Hid (Below w.heap.size w ((wr.alloc (.cells #[.slice a3 n3 c3, .int .i64 Z3.ret] 65)).alloc (.cells #[.slice a4 n4 c4, .int .i64 Z4.ret] 65))) := Lib.hid (keepB HI.out.2 Below.two)
      have HNO : RowKit.Hid (¬ Z3 = Z4 → ¬ xs = ys) := Lib.hid fun h => by rw [hX, hY] at h; exact list_ne hi1 hi2 h
      have HYES : RowKit.Hid (Z3 = Z4 → xs.take (i + 1) = ys.take (i + 1)) := Lib.hid fun h => by rw [hX, hY] at h; exact take_more hi1 hi2 HI.out.1 h
      clear hcell1 hcell2 hcs1 hcs2 hx1 hx2 hX hY hc1 hc2 HI
      go_wp2_with fail
      refine (same_sig a3 a4 n3 n4 c3 c4 Z3 Z4 _ HX2.out HY2.out).mono ?_
      rintro e w1 ⟨b, rfl, hb, hbel⟩
      have HB2 := Lib.hid (keepB HBI.out hbel)
      cases b
      · have HF := Lib.hid (HNO.out fun h => (by have := hb.2 h; cases this))
        clear hb hbel
        go_wp2_with fail
        go_ret
        exact ⟨false, rfl, ⟨fun h => (by cases h), fun h => absurd h HF.out⟩, HB2.out⟩
      · have HT := Lib.hid (HYES.out (hb.1 rfl))
        clear hb hbel
        go_wp2_with fail
        go_roundw
        case rel => exact ⟨i + 1, by omega, by go_num, Lib.hid ⟨HT.out, HB2.out⟩⟩
        case measure => simp [intOf]; omega
    · obtain rfl : i = n1 := by omega
      have HES : RowKit.Hid (xs = ys) := Lib.hid (by
        have h := HI.out.1
        rw [List.take_of_length_le (by rw [LS1.out.1]; exact Nat.le_refl _), List.take_of_length_le (by rw [LS2.out.1]; exact Nat.le_refl _)] at h
        exact h)
      have HB1 := Lib.hid HI.out.2
      clear HI hlt
      go_wp2_with fail
      go_ret
      exact ⟨true, rfl, ⟨fun _ => HES.out, fun _ => rfl⟩, HB1.out⟩
set_option maxRecDepth 100000 in
set_option maxHeartbeats 4000000 in
theorem same_class (a3 a4 : Option Addr) (n3 n4 c3 c4 : Nat) (b3 b4 : Option Addr) (m3 m4 d3 d4 : Nat) (Z3 Z4 : ClassD) (w : World) (hx : ClassQ w [.slice a3 n3 c3, .slice b3 m3 d3] Z3) (hy : ClassQ w [.slice a4 n4 c4, .slice b4 m4 d4] Z4) :
    Calls Tryd.prog 53 #[.agg #[.slice a3 n3 c3, .slice b3 m3 d3], .agg #[.slice a4 n4 c4, .slice b4 m4 d4]] w (TruthPost (Z3 = Z4) w) := by
  have hl0 := Laid2B.start w 67 #[.slice a3 n3 c3, .slice b3 m3 d3] #[.slice a4 n4 c4, .slice b4 m4 d4]
  have HX := Lib.hid (ClassQ.lasts _ _ _ _ hl0.bel hx)
  have HY := Lib.hid (ClassQ.lasts _ _ _ _ hl0.bel hy)
  clear hx hy
  go_enter Tryd.func53, Tryd.ntmps53
  go_upto_region 1 with fail
  generalize hW : ((w.alloc (.cells #[.slice a3 n3 c3, .slice b3 m3 d3] 67)).alloc (.cells #[.slice a4 n4 c4, .slice b4 m4 d4] 67)) = W at hl0 HX HY ⊢
  clear hW
  have hi0 : W.cell? ⟨w.heap.size, 0, none⟩ = some (.slice a3 n3 c3) := hl0.c0 0
  have hk0 : W.cell? ⟨w.heap.size + 1, 0, none⟩ = some (.slice a4 n4 c4) := hl0.c1 0
  have hi1 : W.cell? ⟨w.heap.size, 1, none⟩ = some (.slice b3 m3 d3) := hl0.c0 1
  have hk1 : W.cell? ⟨w.heap.size + 1, 1, none⟩ = some (.slice b4 m4 d4) := hl0.c1 1
  have hz0 : w.heap.size < W.heap.size := by have := hl0.size; omega
  have hz1 : w.heap.size + 1 < W.heap.size := by have := hl0.size; omega
  have HB := Lib.hid hl0.bel
  clear hl0
  obtain ⟨_, _, _, _, _, _, e3, hn3, hm3, hp3, hq3⟩ := HX.out.form
  obtain ⟨_, _, _, _, _, _, e4, hn4, hm4, hp4, hq4⟩ := HY.out.form
  simp only [List.cons.injEq, Value.slice.injEq, and_true] at e3 e4
  obtain ⟨⟨rfl, rfl, rfl⟩, rfl, rfl, rfl⟩ := e3
  obtain ⟨⟨rfl, rfl, rfl⟩, rfl, rfl, rfl⟩ := e4
  have HN3 := Lib.hid hn3
  have HN4 := Lib.hid hn4
  have HP3 := Lib.hid hp3
  have HP4 := Lib.hid hp4
  clear hn3 hn4 hp3 hp4 HX HY
  by_cases hp : Z3.fields = Z4.fields
  rotate_left
  · have HSP : RowKit.Hid (sameB Z3.fields Z4.fields = false) := Lib.hid (decide_eq_false hp)
    have HF : RowKit.Hid (¬ Z3 = Z4) := Lib.hid fun h => hp (congrArg ClassD.fields h)
    clear hp
    go_wp2_with fail
    refine (equal_any a3 a4 n3 n4 c3 c4 Z3.fields Z4.fields _ HN3.out HN4.out hm3 hm4).mono ?_
    rintro e w1 ⟨rfl, d, rfl⟩
    rw [HSP.out]
    go_wp2_with fail
    go_ret
    exact ⟨false, rfl, ⟨fun h => (by cases h), fun h => absurd h HF.out⟩, below_drewN _ HB.out⟩
  have HSP : RowKit.Hid (sameB Z3.fields Z4.fields = true) := Lib.hid (decide_eq_true hp)
  have HE : RowKit.Hid (Z3 = Z4 ↔ Z3.methods = Z4.methods) := Lib.hid ⟨fun h => congrArg ClassD.methods h, fun h => by cases Z3; cases Z4; simp_all⟩
  clear hp
  go_wp2_with fail
  refine (equal_any a3 a4 n3 n4 c3 c4 Z3.fields Z4.fields _ HN3.out HN4.out hm3 hm4).mono ?_
  rintro e w1 ⟨rfl, d, rfl⟩
  rw [HSP.out]
  have HP3' := Lib.hid (HP3.out.drewN d)
  have HP4' := Lib.hid (HP4.out.drewN d)
  go_wp2_with fail
  refine (equal_any b3 b4 m3 m4 d3 d4 Z3.methods Z4.methods _ HP3'.out HP4'.out hq3 hq4).mono ?_
  rintro e w1 ⟨rfl, d1, rfl⟩
  by_cases hr : Z3.methods = Z4.methods
  · have HSQ : RowKit.Hid (sameB Z3.methods Z4.methods = true) := Lib.hid (decide_eq_true hr)
    have HT := Lib.hid (HE.out.2 hr)
    clear hr
    rw [HSQ.out]
    go_wp2_with fail
    go_ret
    exact ⟨true, rfl, ⟨fun _ => HT.out, fun _ => rfl⟩, below_drewN _ HB.out⟩
  · have HSQ : RowKit.Hid (sameB Z3.methods Z4.methods = false) := Lib.hid (decide_eq_false hr)
    have HF := Lib.hid fun h => hr (HE.out.1 h)
    clear hr
    rw [HSQ.out]
    go_wp2_with fail
    go_ret
    exact ⟨false, rfl, ⟨fun h => (by cases h), fun h => absurd h HF.out⟩, below_drewN _ HB.out⟩
set_option maxRecDepth 100000 in
set_option maxHeartbeats 4000000 in
theorem eqf_class (a1 a2 : Option Addr) (n1 n2 c1 c2 : Nat) (xs ys : List ClassD) (w : World) (h1 : RowV ClassQ 2 w (.slice a1 n1 c1) xs) (h2 : RowV ClassQ 2 w (.slice a2 n2 c2) ys) :
    Calls Tryd.prog 52 #[.slice a1 n1 c1, .slice a2 n2 c2, .func (.func 53) #[] #[]] w (TruthPost (xs = ys) w) := by
  have LS1 := Lib.hid (rowV_len h1)
  have LS2 := Lib.hid (rowV_len h2)
  have hm1 := (rowV_len h1).2
  have hm2 := (rowV_len h2).2
  have HS1 := Lib.hid h1
  have HS2 := Lib.hid h2
  clear h1 h2
  by_cases hn : n1 = n2
  rotate_left
  · have hne : ((n1 : Int) != (n2 : Int)) = true := by rw [bne_iff_ne]; omega
    have HF : RowKit.Hid (¬ xs = ys) := Lib.hid fun h => hn (by
      have e := congrArg List.length h
      rw [LS1.out.1, LS2.out.1] at e
      exact e)
    clear hn
    go_enter Tryd.func52, Tryd.ntmps52
    go_wp2_with fail
    go_ret
    exact ⟨false, rfl, ⟨fun h => (by cases h), fun h => absurd h HF.out⟩, Below.refl _ _⟩
  subst hn
  have hne1 : ((n1 : Int) != (n1 : Int)) = false := by simp
  go_enter Tryd.func52, Tryd.ntmps52
  go_wp2_with fail
  go_loopw [17] (fun iv wr => ∃ i : Nat, i ≤ n1 ∧ iv = .int .i64 (i : Int) ∧ RowKit.Hid (xs.take i = ys.take i ∧ Below w.heap.size w wr)) (fun iv _ => n1 - (intOf iv).toNat)
  case atStart => exact ⟨0, Nat.zero_le _, rfl, Lib.hid ⟨rfl, Below.refl _ _⟩⟩
  case round =>
    obtain ⟨i, hi, rfl, HI⟩ := hrel
    by_cases hlt : i < n1
    · obtain ⟨u1, v1, rfl, hu1, hcs1⟩ := rowV_at (HS1.out.since ClassQ.lasts HI.out.2) (by omega)
      obtain ⟨u2, v2, rfl, hu2, hcs2⟩ := rowV_at (HS2.out.since ClassQ.lasts HI.out.2) (by omega)
      have hi1 : i < xs.length := by rw [LS1.out.1]; exact hlt
      have hi2 : i < ys.length := by rw [LS2.out.1]; exact hlt
      obtain ⟨cs1, hc1, hcell1, hx1⟩ := hcs1 i hi1
      obtain ⟨cs2, hc2, hcell2, hx2⟩ := hcs2 i hi2
      obtain ⟨Z3, hX⟩ : ∃ X, X = xs[i] := ⟨_, rfl⟩
      obtain ⟨Z4, hY⟩ : ∃ Y, Y = ys[i] := ⟨_, rfl⟩
      rw [← hX] at hx1
      rw [← hY] at hx2
      obtain ⟨a3, n3, c3, b3, m3, d3, rfl, _, _, _, _⟩ := hx1.form
      obtain ⟨a4, n4, c4, b4, m4, d4, rfl, _, _, _, _⟩ := hx2.form
      have hd0 := hcell1 0 (by simp)
      have hd1 := hcell1 1 (by simp)
      have he0 := hcell2 0 (by simp)
      have he1 := hcell2 1 (by simp)
      simp only [Nat.add_zero, List.getElem_cons_zero, List.getElem_cons_succ] at hd0 hd1 he0 he1
      have HX2 : RowKit.Hid (ClassQ ((wr.alloc (.cells #[.slice a3 n3 c3, .slice b3 m3 d3] 67)).alloc (.cells #[.slice a4 n4 c4, .slice b4 m4 d4] 67)) [.slice a3 n3 c3, .slice b3 m3 d3] Z3) := Lib.hid (ClassQ.lasts _ _ _ _ Below.two hx1)
      have HY2 : RowKit.Hid (ClassQ ((wr.alloc (.cells #[.slice a3 n3 c3, .slice b3 m3 d3] 67)).alloc (.cells #[.slice a4 n4 c4, .slice b4 m4 d4] 67)) [.slice a4 n4 c4, .slice b4 m4 d4] Z4) := Lib.hid (ClassQ.lasts _ _ _ _ Below.two hx2)
      have HBI : RowKit.Hid (Below w.heap.size w ((wr.alloc (.cells #[.slice a3 n3 c3, .slice b3 m3 d3] 67)).alloc (.cells #[.slice a4 n4 c4, .slice b4 m4 d4] 67))) := Lib.hid (keepB HI.out.2 Below.two)
      have HNO : RowKit.Hid (¬ Z3 = Z4 → ¬ xs = ys) := Lib.hid fun h => by rw [hX, hY] at h; exact list_ne hi1 hi2 h
      have HYES : RowKit.Hid (Z3 = Z4 → xs.take (i + 1) = ys.take (i + 1)) := Lib.hid fun h => by rw [hX, hY] at h; exact take_more hi1 hi2 HI.out.1 h
      clear hcell1 hcell2 hcs1 hcs2 hx1 hx2 hX hY hc1 hc2 HI
      go_wp2_with fail
      refine (same_class a3 a4 n3 n4 c3 c4 b3 b4 m3 m4 d3 d4 Z3 Z4 _ HX2.out HY2.out).mono ?_
      rintro e w1 ⟨b, rfl, hb, hbel⟩
      have HB2 := Lib.hid (keepB HBI.out hbel)
      cases b
      · have HF := Lib.hid (HNO.out fun h => (by have := hb.2 h; cases this))
        clear hb hbel
        go_wp2_with fail
        go_ret
        exact ⟨false, rfl, ⟨fun h => (by cases h), fun h => absurd h HF.out⟩, HB2.out⟩
      · have HT := Lib.hid (HYES.out (hb.1 rfl))
        clear hb hbel
        go_wp2_with fail
        go_roundw
        case rel => exact ⟨i + 1, by omega, by go_num, Lib.hid ⟨HT.out, HB2.out⟩⟩
        case measure => simp [intOf]; omega
    · obtain rfl : i = n1 := by omega
      have HES : RowKit.Hid (xs = ys) := Lib.hid (by
        have h := HI.out.1
        rw [List.take_of_length_le (by rw [LS1.out.1]; exact Nat.le_refl _), List.take_of_length_le (by rw [LS2.out.1]; exact Nat.le_refl _)] at h
        exact h)
      have HB1 := Lib.hid HI.out.2
      clear HI hlt
      go_wp2_with fail
      go_ret
      exact ⟨true, rfl, ⟨fun _ => HES.out, fun _ => rfl⟩, HB1.out⟩
set_option maxRecDepth 100000 in
set_option maxHeartbeats 4000000 in
theorem eqf_op (a1 a2 : Option Addr) (n1 n2 c1 c2 : Nat) (xs ys : List OpD) (w : World) (h1 : RowV OpQ 8 w (.slice a1 n1 c1) xs) (h2 : RowV OpQ 8 w (.slice a2 n2 c2) ys) (hft : FT w) :
    Calls Tryd.prog 119 #[.slice a1 n1 c1, .slice a2 n2 c2, .func (.func 120) #[] #[]] w (TruthPost ((xs).map plainOp = (ys).map plainOp) w) := by
  have LS1 := Lib.hid (rowV_len h1)
  have LS2 := Lib.hid (rowV_len h2)
  have hm1 := (rowV_len h1).2
  have hm2 := (rowV_len h2).2
  have HS1 := Lib.hid h1
  have HS2 := Lib.hid h2
  have HFT := Lib.hid hft
  clear h1 h2 hft
  by_cases hn : n1 = n2
  rotate_left
  · have hne : ((n1 : Int) != (n2 : Int)) = true := by rw [bne_iff_ne]; omega
    have HF : RowKit.Hid (¬ (xs).map plainOp = (ys).map plainOp) := Lib.hid fun h => hn (by
      have e := congrArg List.length h
      rw [List.length_map, List.length_map] at e
      rw [LS1.out.1, LS2.out.1] at e
      exact e)
    clear hn
    go_enter Tryd.func119, Tryd.ntmps119
    go_wp2_with fail
    go_ret
    exact ⟨false, rfl, ⟨fun h => (by cases h), fun h => absurd h HF.out⟩, Below.refl _ _⟩
  subst hn
  have hne1 : ((n1 : Int) != (n1 : Int)) = false := by simp
  go_enter Tryd.func119, Tryd.ntmps119
  go_wp2_with fail
  go_loopw [17] (fun iv wr => ∃ i : Nat, i ≤ n1 ∧ iv = .int .i64 (i : Int) ∧ RowKit.Hid ((xs.take i).map plainOp = (ys.take i).map plainOp ∧ Below w.heap.size w wr)) (fun iv _ => n1 - (intOf iv).toNat)
  case atStart => exact ⟨0, Nat.zero_le _, rfl, Lib.hid ⟨rfl, Below.refl _ _⟩⟩
  case round =>
    obtain ⟨i, hi, rfl, HI⟩ := hrel
    by_cases hlt : i < n1
    · obtain ⟨u1, v1, rfl, hu1, hcs1⟩ := rowV_at (HS1.out.since OpQ.lasts HI.out.2) (by omega)
      obtain ⟨u2, v2, rfl, hu2, hcs2⟩ := rowV_at (HS2.out.since OpQ.lasts HI.out.2) (by omega)
      have hi1 : i < xs.length := by rw [LS1.out.1]; exact hlt
      have hi2 : i < ys.length := by rw [LS2.out.1]; exact hlt
      obtain ⟨cs1, hc1, hcell1, hx1⟩ := hcs1 i hi1
      obtain ⟨cs2, hc2, hcell2, hx2⟩ := hcs2 i hi2
      obtain ⟨Z3, hX⟩ : ∃ X, X = xs[i] := ⟨_, rfl⟩
      obtain ⟨Z4, hY⟩ : ∃ Y, Y = ys[i] := ⟨_, rfl⟩
      rw [← hX] at hx1
      rw [← hY] at hx2
      obtain ⟨a3, n3, c3, rfl⟩ := hx1.form
      obtain ⟨a4, n4, c4, rfl⟩ := hx2.form
      have hd0 := hcell1 0 (by simp)
      have hd1 := hcell1 1 (by simp)
      have hd2 := hcell1 2 (by simp)
      have hd3 := hcell1 3 (by simp)
      have hd4 := hcell1 4 (by simp)
      have hd5 := hcell1 5 (by simp)
      have hd6 := hcell1 6 (by simp)
      have hd7 := hcell1 7 (by simp)
      have he0 := hcell2 0 (by simp)
      have he1 := hcell2 1 (by simp)
      have he2 := hcell2 2 (by simp)
      have he3 := hcell2 3 (by simp)
      have he4 := hcell2 4 (by simp)
      have he5 := hcell2 5 (by simp)
      have he6 := hcell2 6 (by simp)
      have he7 := hcell2 7 (by simp)
      simp only [Nat.add_zero, List.getElem_cons_zero, List.getElem_cons_succ] at hd0 hd1 hd2 hd3 hd4 hd5 hd6 hd7 he0 he1 he2 he3 he4 he5 he6 he7
      have HX2 : RowKit.Hid (OpQ ((wr.alloc (.cells #[.int .i64 Z3.K, .int .i64 Z3.A, .int .i64 Z3.B, .int .i64 Z3.C, .int .i64 Z3.N, .string Z3.S, .slice a3 n3 c3, .bool Z3.T] 56)).alloc (.cells #[.int .i64 Z4.K, .int .i64 Z4.A, .int .i64 Z4.B, .int .i64 Z4.C, .int .i64 Z4.N, .string Z4.S, .slice a4 n4 c4, .bool Z4.T] 56)) [.int .i64 Z3.K, .int .i64 Z3.A, .int .i64 Z3.B, .int .i64 Z3.C, .int .i64 Z3.N, .string Z3.S, .slice a3 n3 c3, .bool Z3.T] Z3) := Lib.hid (OpQ.lasts _ _ _ _ Below.two hx1)
      have HY2 : RowKit.Hid (OpQ ((wr.alloc (.cells #[.int .i64 Z3.K, .int .i64 Z3.A, .int .i64 Z3.B, .int .i64 Z3.C, .int .i64 Z3.N, .string Z3.S, .slice a3 n3 c3, .bool Z3.T] 56)).alloc (.cells #[.int .i64 Z4.K, .int .i64 Z4.A, .int .i64 Z4.B, .int .i64 Z4.C, .int .i64 Z4.N, .string Z4.S, .slice a4 n4 c4, .bool Z4.T] 56)) [.int .i64 Z4.K, .int .i64 Z4.A, .int .i64 Z4.B, .int .i64 Z4.C, .int .i64 Z4.N, .string Z4.S, .slice a4 n4 c4, .bool Z4.T] Z4) := Lib.hid (OpQ.lasts _ _ _ _ Below.two hx2)
      have HF2 : RowKit.Hid (FT ((wr.alloc (.cells #[.int .i64 Z3.K, .int .i64 Z3.A, .int .i64 Z3.B, .int .i64 Z3.C, .int .i64 Z3.N, .string Z3.S, .slice a3 n3 c3, .bool Z3.T] 56)).alloc (.cells #[.int .i64 Z4.K, .int .i64 Z4.A, .int .i64 Z4.B, .int .i64 Z4.C, .int .i64 Z4.N, .string Z4.S, .slice a4 n4 c4, .bool Z4.T] 56))) := Lib.hid ((HFT.out.since HI.out.2).since Below.two)
      have HBI : RowKit.Hid (Below w.heap.size w ((wr.alloc (.cells #[.int .i64 Z3.K, .int .i64 Z3.A, .int .i64 Z3.B, .int .i64 Z3.C, .int .i64 Z3.N, .string Z3.S, .slice a3 n3 c3, .bool Z3.T] 56)).alloc (.cells #[.int .i64 Z4.K, .int .i64 Z4.A, .int .i64 Z4.B, .int .i64 Z4.C, .int .i64 Z4.N, .string Z4.S, .slice a4 n4 c4, .bool Z4.T] 56))) := Lib.hid (keepB HI.out.2 Below.two)
      have HNO : RowKit.Hid (¬ plainOp Z3 = plainOp Z4 → ¬ (xs).map plainOp = (ys).map plainOp) := Lib.hid fun h => by rw [hX, hY] at h; exact map_ne plainOp hi1 hi2 h
      have HYES : RowKit.Hid (plainOp Z3 = plainOp Z4 → (xs.take (i + 1)).map plainOp = (ys.take (i + 1)).map plainOp) := Lib.hid fun h => by rw [hX, hY] at h; exact take_map plainOp hi1 hi2 HI.out.1 h
      clear hcell1 hcell2 hcs1 hcs2 hx1 hx2 hX hY hc1 hc2 HI
      go_wp2_with fail
      refine (codeSp_any Z3.K Z3.A Z3.B Z3.C Z3.N Z3.S a3 n3 c3 Z3.T Z4.K Z4.A Z4.B Z4.C Z4.N Z4.S a4 n4 c4 Z4.T Z3 Z4 _ HX2.out HY2.out HF2.out).mono ?_
      rintro e w1 ⟨b, rfl, hb, hbel⟩
      have HB2 := Lib.hid (keepB HBI.out hbel)
      cases b
      · have HF := Lib.hid (HNO.out fun h => (by have := hb.2 h; cases this))
        clear hb hbel
        go_wp2_with fail
        go_ret
        exact ⟨false, rfl, ⟨fun h => (by cases h), fun h => absurd h HF.out⟩, HB2.out⟩
      · have HT := Lib.hid (HYES.out (hb.1 rfl))
        clear hb hbel
        go_wp2_with fail
        go_roundw
        case rel => exact ⟨i + 1, by omega, by go_num, Lib.hid ⟨HT.out, HB2.out⟩⟩
        case measure => simp [intOf]; omega
    · obtain rfl : i = n1 := by omega
      have HES : RowKit.Hid ((xs).map plainOp = (ys).map plainOp) := Lib.hid (by
        have h := HI.out.1
        rw [List.take_of_length_le (by rw [LS1.out.1]; exact Nat.le_refl _), List.take_of_length_le (by rw [LS2.out.1]; exact Nat.le_refl _)] at h
        exact h)
      have HB1 := Lib.hid HI.out.2
      clear HI hlt
      go_wp2_with fail
      go_ret
      exact ⟨true, rfl, ⟨fun _ => HES.out, fun _ => rfl⟩, HB1.out⟩
end Go.Proofs.YtdmlogpaenbblaaDoor

/- Layer 5: code's Same: blocks and functions (mk_ge.py). -/
namespace Go.Proofs.YtdmlogpaenbblaaDoor
open Go.RowKit (wrap64 intOf Below)
set_option linter.unusedVariables false
set_option linter.unusedSimpArgs false
attribute [local go_sem ↓] Go.wp_at_zero Go.wp_at_succ

set_option maxRecDepth 100000 in
set_option maxHeartbeats 4000000 in
theorem same_block (pa3 pa4 : Option Addr) (pn3 pn4 pc3 pc4 : Nat) (oa3 oa4 : Option Addr) (on3 on4 oc3 oc4 : Nat) (la3 la4 : Option Addr) (ln3 ln4 lc3 lc4 : Nat) (ma3 ma4 : Option Addr) (mn3 mn4 mc3 mc4 : Nat) (Z3 Z4 : BlockD) (w : World) (hx : BlockQ w [.slice pa3 pn3 pc3, .slice oa3 on3 oc3, .int .i64 Z3.fin.K, .int .i64 Z3.fin.A, .int .i64 Z3.fin.To, .int .i64 Z3.fin.Else, .slice la3 ln3 lc3, .slice ma3 mn3 mc3] Z3) (hy : BlockQ w [.slice pa4 pn4 pc4, .slice oa4 on4 oc4, .int .i64 Z4.fin.K, .int .i64 Z4.fin.A, .int .i64 Z4.fin.To, .int .i64 Z4.fin.Else, .slice la4 ln4 lc4, .slice ma4 mn4 mc4] Z4) (hft : FT w) :
    Calls Tryd.prog 91 #[.agg #[.slice pa3 pn3 pc3, .slice oa3 on3 oc3, .int .i64 Z3.fin.K, .int .i64 Z3.fin.A, .int .i64 Z3.fin.To, .int .i64 Z3.fin.Else, .slice la3 ln3 lc3, .slice ma3 mn3 mc3], .agg #[.slice pa4 pn4 pc4, .slice oa4 on4 oc4, .int .i64 Z4.fin.K, .int .i64 Z4.fin.A, .int .i64 Z4.fin.To, .int .i64 Z4.fin.Else, .slice la4 ln4 lc4, .slice ma4 mn4 mc4]] w (TruthPost (plainBlock Z3 = plainBlock Z4) w) := by
  have hl0 := Laid2B.start w 50 #[.slice pa3 pn3 pc3, .slice oa3 on3 oc3, .int .i64 Z3.fin.K, .int .i64 Z3.fin.A, .int .i64 Z3.fin.To, .int .i64 Z3.fin.Else, .slice la3 ln3 lc3, .slice ma3 mn3 mc3] #[.slice pa4 pn4 pc4, .slice oa4 on4 oc4, .int .i64 Z4.fin.K, .int .i64 Z4.fin.A, .int .i64 Z4.fin.To, .int .i64 Z4.fin.Else, .slice la4 ln4 lc4, .slice ma4 mn4 mc4]
  have HX := Lib.hid (BlockQ.lasts _ _ _ _ hl0.bel hx)
  have HY := Lib.hid (BlockQ.lasts _ _ _ _ hl0.bel hy)
  have HFT0 := Lib.hid (hft.since hl0.bel)
  clear hx hy hft
  go_enter Tryd.func91, Tryd.ntmps91
  go_upto_region 1 with fail
  generalize hW : ((w.alloc (.cells #[.slice pa3 pn3 pc3, .slice oa3 on3 oc3, .int .i64 Z3.fin.K, .int .i64 Z3.fin.A, .int .i64 Z3.fin.To, .int .i64 Z3.fin.Else, .slice la3 ln3 lc3, .slice ma3 mn3 mc3] 50)).alloc (.cells #[.slice pa4 pn4 pc4, .slice oa4 on4 oc4, .int .i64 Z4.fin.K, .int .i64 Z4.fin.A, .int .i64 Z4.fin.To, .int .i64 Z4.fin.Else, .slice la4 ln4 lc4, .slice ma4 mn4 mc4] 50)) = W at hl0 HX HY HFT0 ⊢
  clear hW
  have hi0 : W.cell? ⟨w.heap.size, 0, none⟩ = some (.slice pa3 pn3 pc3) := hl0.c0 0
  have hk0 : W.cell? ⟨w.heap.size + 1, 0, none⟩ = some (.slice pa4 pn4 pc4) := hl0.c1 0
  have hi1 : W.cell? ⟨w.heap.size, 1, none⟩ = some (.slice oa3 on3 oc3) := hl0.c0 1
  have hk1 : W.cell? ⟨w.heap.size + 1, 1, none⟩ = some (.slice oa4 on4 oc4) := hl0.c1 1
  have hi2 : W.cell? ⟨w.heap.size, 2, none⟩ = some (.int .i64 Z3.fin.K) := hl0.c0 2
  have hk2 : W.cell? ⟨w.heap.size + 1, 2, none⟩ = some (.int .i64 Z4.fin.K) := hl0.c1 2
  have hi3 : W.cell? ⟨w.heap.size, 3, none⟩ = some (.int .i64 Z3.fin.A) := hl0.c0 3
  have hk3 : W.cell? ⟨w.heap.size + 1, 3, none⟩ = some (.int .i64 Z4.fin.A) := hl0.c1 3
  have hi4 : W.cell? ⟨w.heap.size, 4, none⟩ = some (.int .i64 Z3.fin.To) := hl0.c0 4
  have hk4 : W.cell? ⟨w.heap.size + 1, 4, none⟩ = some (.int .i64 Z4.fin.To) := hl0.c1 4
  have hi5 : W.cell? ⟨w.heap.size, 5, none⟩ = some (.int .i64 Z3.fin.Else) := hl0.c0 5
  have hk5 : W.cell? ⟨w.heap.size + 1, 5, none⟩ = some (.int .i64 Z4.fin.Else) := hl0.c1 5
  have hi6 : W.cell? ⟨w.heap.size, 6, none⟩ = some (.slice la3 ln3 lc3) := hl0.c0 6
  have hk6 : W.cell? ⟨w.heap.size + 1, 6, none⟩ = some (.slice la4 ln4 lc4) := hl0.c1 6
  have hi7 : W.cell? ⟨w.heap.size, 7, none⟩ = some (.slice ma3 mn3 mc3) := hl0.c0 7
  have hk7 : W.cell? ⟨w.heap.size + 1, 7, none⟩ = some (.slice ma4 mn4 mc4) := hl0.c1 7
  have hz0 : w.heap.size < W.heap.size := by have := hl0.size; omega
  have hz1 : w.heap.size + 1 < W.heap.size := by have := hl0.size; omega
  have HB := Lib.hid hl0.bel
  clear hl0
  obtain ⟨hn3, hm3⟩ := HX.out.params
  obtain ⟨hn4, hm4⟩ := HY.out.params
  have HN3 := Lib.hid hn3
  have HN4 := Lib.hid hn4
  clear hn3 hn4
  by_cases hp : Z3.params = Z4.params
  rotate_left
  · have HSP : RowKit.Hid (sameB Z3.params Z4.params = false) := Lib.hid (decide_eq_false hp)
    have HF : RowKit.Hid (¬ plainBlock Z3 = plainBlock Z4) := Lib.hid fun h => hp (by have h1 := congrArg BlockD.params h; exact h1)
    clear hp
    go_wp2_with fail
    refine (equal_any pa3 pa4 pn3 pn4 pc3 pc4 Z3.params Z4.params _ HN3.out HN4.out hm3 hm4).mono ?_
    rintro e w1 ⟨rfl, d, rfl⟩
    rw [HSP.out]
    go_wp2_with fail
    go_ret
    exact ⟨false, rfl, ⟨fun h => (by cases h), fun h => absurd h HF.out⟩, below_drewN _ HB.out⟩
  have HSP : RowKit.Hid (sameB Z3.params Z4.params = true) := Lib.hid (decide_eq_true hp)
  have HE : RowKit.Hid (plainBlock Z3 = plainBlock Z4 ↔ Z3.ops.map plainOp = Z4.ops.map plainOp ∧ plainEnd Z3.fin = plainEnd Z4.fin) := Lib.hid ⟨fun h => ⟨congrArg BlockD.ops h, congrArg BlockD.fin h⟩, fun ⟨h1, h2⟩ => by unfold plainBlock; rw [hp, h1, h2]⟩
  clear hp
  go_wp2_with fail
  refine (equal_any pa3 pa4 pn3 pn4 pc3 pc4 Z3.params Z4.params _ HN3.out HN4.out hm3 hm4).mono ?_
  rintro e w1 ⟨rfl, d, rfl⟩
  rw [HSP.out]
  have hbd : Below W.heap.size W (W.drewN d) := below_drewN _ (Below.refl _ _)
  have HO3 := Lib.hid (BlockQ.lasts _ _ _ _ hbd HX.out).ops
  have HO4 := Lib.hid (BlockQ.lasts _ _ _ _ hbd HY.out).ops
  have HF1 := Lib.hid (HFT0.out.since hbd)
  have HB1 := Lib.hid (keepB HB.out hbd)
  clear hbd
  go_wp2_with fail
  refine (eqf_op oa3 oa4 on3 on4 oc3 oc4 Z3.ops Z4.ops _ HO3.out HO4.out HF1.out).mono ?_
  rintro e w2 ⟨b, rfl, hb, hbel⟩
  have hbw : Below W.heap.size W w2 := keepB (below_drewN d (Below.refl _ _)) hbel
  have HB2 := Lib.hid (keepB HB1.out hbel)
  cases b
  · have HF : RowKit.Hid (¬ plainBlock Z3 = plainBlock Z4) := Lib.hid fun h => (by have h1 := hb.2 (HE.out.1 h).1; cases h1)
    clear hb hbel hbw
    go_wp2_with fail
    go_ret
    exact ⟨false, rfl, ⟨fun h => (by cases h), fun h => absurd h HF.out⟩, HB2.out⟩
  have HO := Lib.hid (hb.1 rfl)
  have HE3 := Lib.hid (BlockQ.lasts _ _ _ _ hbw HX.out).fin
  have HE4 := Lib.hid (BlockQ.lasts _ _ _ _ hbw HY.out).fin
  have gi2 : w2.cell? ⟨w.heap.size, 2, none⟩ = some (.int .i64 Z3.fin.K) := (hbw.cell (p := ⟨w.heap.size, 2, none⟩) hz0).trans hi2
  have gk2 : w2.cell? ⟨w.heap.size + 1, 2, none⟩ = some (.int .i64 Z4.fin.K) := (hbw.cell (p := ⟨w.heap.size + 1, 2, none⟩) hz1).trans hk2
  have gi3 : w2.cell? ⟨w.heap.size, 3, none⟩ = some (.int .i64 Z3.fin.A) := (hbw.cell (p := ⟨w.heap.size, 3, none⟩) hz0).trans hi3
  have gk3 : w2.cell? ⟨w.heap.size + 1, 3, none⟩ = some (.int .i64 Z4.fin.A) := (hbw.cell (p := ⟨w.heap.size + 1, 3, none⟩) hz1).trans hk3
  have gi4 : w2.cell? ⟨w.heap.size, 4, none⟩ = some (.int .i64 Z3.fin.To) := (hbw.cell (p := ⟨w.heap.size, 4, none⟩) hz0).trans hi4
  have gk4 : w2.cell? ⟨w.heap.size + 1, 4, none⟩ = some (.int .i64 Z4.fin.To) := (hbw.cell (p := ⟨w.heap.size + 1, 4, none⟩) hz1).trans hk4
  have gi5 : w2.cell? ⟨w.heap.size, 5, none⟩ = some (.int .i64 Z3.fin.Else) := (hbw.cell (p := ⟨w.heap.size, 5, none⟩) hz0).trans hi5
  have gk5 : w2.cell? ⟨w.heap.size + 1, 5, none⟩ = some (.int .i64 Z4.fin.Else) := (hbw.cell (p := ⟨w.heap.size + 1, 5, none⟩) hz1).trans hk5
  have gi6 : w2.cell? ⟨w.heap.size, 6, none⟩ = some (.slice la3 ln3 lc3) := (hbw.cell (p := ⟨w.heap.size, 6, none⟩) hz0).trans hi6
  have gk6 : w2.cell? ⟨w.heap.size + 1, 6, none⟩ = some (.slice la4 ln4 lc4) := (hbw.cell (p := ⟨w.heap.size + 1, 6, none⟩) hz1).trans hk6
  have gi7 : w2.cell? ⟨w.heap.size, 7, none⟩ = some (.slice ma3 mn3 mc3) := (hbw.cell (p := ⟨w.heap.size, 7, none⟩) hz0).trans hi7
  have gk7 : w2.cell? ⟨w.heap.size + 1, 7, none⟩ = some (.slice ma4 mn4 mc4) := (hbw.cell (p := ⟨w.heap.size + 1, 7, none⟩) hz1).trans hk7
  clear hb hbel hbw
  go_wp2_with fail
  refine (codeSg_any Z3.fin.K Z3.fin.A Z3.fin.To Z3.fin.Else la3 ln3 lc3 ma3 mn3 mc3 Z4.fin.K Z4.fin.A Z4.fin.To Z4.fin.Else la4 ln4 lc4 ma4 mn4 mc4 Z3.fin Z4.fin _ HE3.out HE4.out).mono ?_
  rintro e w3 ⟨b, rfl, hb, hbel⟩
  have HB3 := Lib.hid (keepB HB2.out hbel)
  have HBE : RowKit.Hid (b = true ↔ plainBlock Z3 = plainBlock Z4) := Lib.hid ⟨fun h => HE.out.2 ⟨HO.out, hb.1 h⟩, fun h => hb.2 (HE.out.1 h).2⟩
  clear hb hbel
  cases b
  all_goals
    go_wp2_with fail
    go_ret
    exact ⟨_, rfl, (by first | exact HBE.out | simpa using HBE.out), HB3.out⟩
set_option maxRecDepth 100000 in
set_option maxHeartbeats 4000000 in
theorem eqf_block (a1 a2 : Option Addr) (n1 n2 c1 c2 : Nat) (xs ys : List BlockD) (w : World) (h1 : RowV BlockQ 8 w (.slice a1 n1 c1) xs) (h2 : RowV BlockQ 8 w (.slice a2 n2 c2) ys) (hft : FT w) :
    Calls Tryd.prog 90 #[.slice a1 n1 c1, .slice a2 n2 c2, .func (.func 91) #[] #[]] w (TruthPost ((xs).map plainBlock = (ys).map plainBlock) w) := by
  have LS1 := Lib.hid (rowV_len h1)
  have LS2 := Lib.hid (rowV_len h2)
  have hm1 := (rowV_len h1).2
  have hm2 := (rowV_len h2).2
  have HS1 := Lib.hid h1
  have HS2 := Lib.hid h2
  have HFT := Lib.hid hft
  clear h1 h2 hft
  by_cases hn : n1 = n2
  rotate_left
  · have hne : ((n1 : Int) != (n2 : Int)) = true := by rw [bne_iff_ne]; omega
    have HF : RowKit.Hid (¬ (xs).map plainBlock = (ys).map plainBlock) := Lib.hid fun h => hn (by
      have e := congrArg List.length h
      rw [List.length_map, List.length_map] at e
      rw [LS1.out.1, LS2.out.1] at e
      exact e)
    clear hn
    go_enter Tryd.func90, Tryd.ntmps90
    go_wp2_with fail
    go_ret
    exact ⟨false, rfl, ⟨fun h => (by cases h), fun h => absurd h HF.out⟩, Below.refl _ _⟩
  subst hn
  have hne1 : ((n1 : Int) != (n1 : Int)) = false := by simp
  go_enter Tryd.func90, Tryd.ntmps90
  go_wp2_with fail
  go_loopw [17] (fun iv wr => ∃ i : Nat, i ≤ n1 ∧ iv = .int .i64 (i : Int) ∧ RowKit.Hid ((xs.take i).map plainBlock = (ys.take i).map plainBlock ∧ Below w.heap.size w wr)) (fun iv _ => n1 - (intOf iv).toNat)
  case atStart => exact ⟨0, Nat.zero_le _, rfl, Lib.hid ⟨rfl, Below.refl _ _⟩⟩
  case round =>
    obtain ⟨i, hi, rfl, HI⟩ := hrel
    by_cases hlt : i < n1
    · obtain ⟨u1, v1, rfl, hu1, hcs1⟩ := rowV_at (HS1.out.since BlockQ.lasts HI.out.2) (by omega)
      obtain ⟨u2, v2, rfl, hu2, hcs2⟩ := rowV_at (HS2.out.since BlockQ.lasts HI.out.2) (by omega)
      have hi1 : i < xs.length := by rw [LS1.out.1]; exact hlt
      have hi2 : i < ys.length := by rw [LS2.out.1]; exact hlt
      obtain ⟨cs1, hc1, hcell1, hx1⟩ := hcs1 i hi1
      obtain ⟨cs2, hc2, hcell2, hx2⟩ := hcs2 i hi2
      obtain ⟨Z3, hX⟩ : ∃ X, X = xs[i] := ⟨_, rfl⟩
      obtain ⟨Z4, hY⟩ : ∃ Y, Y = ys[i] := ⟨_, rfl⟩
      rw [← hX] at hx1
      rw [← hY] at hx2
      obtain ⟨pa3, pn3, pc3, oa3, on3, oc3, la3, ln3, lc3, ma3, mn3, mc3, rfl, _⟩ := hx1.form
      obtain ⟨pa4, pn4, pc4, oa4, on4, oc4, la4, ln4, lc4, ma4, mn4, mc4, rfl, _⟩ := hx2.form
      have hd0 := hcell1 0 (by simp)
      have hd1 := hcell1 1 (by simp)
      have hd2 := hcell1 2 (by simp)
      have hd3 := hcell1 3 (by simp)
      have hd4 := hcell1 4 (by simp)
      have hd5 := hcell1 5 (by simp)
      have hd6 := hcell1 6 (by simp)
      have hd7 := hcell1 7 (by simp)
      have he0 := hcell2 0 (by simp)
      have he1 := hcell2 1 (by simp)
      have he2 := hcell2 2 (by simp)
      have he3 := hcell2 3 (by simp)
      have he4 := hcell2 4 (by simp)
      have he5 := hcell2 5 (by simp)
      have he6 := hcell2 6 (by simp)
      have he7 := hcell2 7 (by simp)
      simp only [Nat.add_zero, List.getElem_cons_zero, List.getElem_cons_succ] at hd0 hd1 hd2 hd3 hd4 hd5 hd6 hd7 he0 he1 he2 he3 he4 he5 he6 he7
      have HX2 : RowKit.Hid (BlockQ ((wr.alloc (.cells #[.slice pa3 pn3 pc3, .slice oa3 on3 oc3, .int .i64 Z3.fin.K, .int .i64 Z3.fin.A, .int .i64 Z3.fin.To, .int .i64 Z3.fin.Else, .slice la3 ln3 lc3, .slice ma3 mn3 mc3] 50)).alloc (.cells #[.slice pa4 pn4 pc4, .slice oa4 on4 oc4, .int .i64 Z4.fin.K, .int .i64 Z4.fin.A, .int .i64 Z4.fin.To, .int .i64 Z4.fin.Else, .slice la4 ln4 lc4, .slice ma4 mn4 mc4] 50)) [.slice pa3 pn3 pc3, .slice oa3 on3 oc3, .int .i64 Z3.fin.K, .int .i64 Z3.fin.A, .int .i64 Z3.fin.To, .int .i64 Z3.fin.Else, .slice la3 ln3 lc3, .slice ma3 mn3 mc3] Z3) := Lib.hid (BlockQ.lasts _ _ _ _ Below.two hx1)
      have HY2 : RowKit.Hid (BlockQ ((wr.alloc (.cells #[.slice pa3 pn3 pc3, .slice oa3 on3 oc3, .int .i64 Z3.fin.K, .int .i64 Z3.fin.A, .int .i64 Z3.fin.To, .int .i64 Z3.fin.Else, .slice la3 ln3 lc3, .slice ma3 mn3 mc3] 50)).alloc (.cells #[.slice pa4 pn4 pc4, .slice oa4 on4 oc4, .int .i64 Z4.fin.K, .int .i64 Z4.fin.A, .int .i64 Z4.fin.To, .int .i64 Z4.fin.Else, .slice la4 ln4 lc4, .slice ma4 mn4 mc4] 50)) [.slice pa4 pn4 pc4, .slice oa4 on4 oc4, .int .i64 Z4.fin.K, .int .i64 Z4.fin.A, .int .i64 Z4.fin.To, .int .i64 Z4.fin.Else, .slice la4 ln4 lc4, .slice ma4 mn4 mc4] Z4) := Lib.hid (BlockQ.lasts _ _ _ _ Below.two hx2)
      have HF2 : RowKit.Hid (FT ((wr.alloc (.cells #[.slice pa3 pn3 pc3, .slice oa3 on3 oc3, .int .i64 Z3.fin.K, .int .i64 Z3.fin.A, .int .i64 Z3.fin.To, .int .i64 Z3.fin.Else, .slice la3 ln3 lc3, .slice ma3 mn3 mc3] 50)).alloc (.cells #[.slice pa4 pn4 pc4, .slice oa4 on4 oc4, .int .i64 Z4.fin.K, .int .i64 Z4.fin.A, .int .i64 Z4.fin.To, .int .i64 Z4.fin.Else, .slice la4 ln4 lc4, .slice ma4 mn4 mc4] 50))) := Lib.hid ((HFT.out.since HI.out.2).since Below.two)
      have HBI : RowKit.Hid (Below w.heap.size w ((wr.alloc (.cells #[.slice pa3 pn3 pc3, .slice oa3 on3 oc3, .int .i64 Z3.fin.K, .int .i64 Z3.fin.A, .int .i64 Z3.fin.To, .int .i64 Z3.fin.Else, .slice la3 ln3 lc3, .slice ma3 mn3 mc3] 50)).alloc (.cells #[.slice pa4 pn4 pc4, .slice oa4 on4 oc4, .int .i64 Z4.fin.K, .int .i64 Z4.fin.A, .int .i64 Z4.fin.To, .int .i64 Z4.fin.Else, .slice la4 ln4 lc4, .slice ma4 mn4 mc4] 50))) := Lib.hid (keepB HI.out.2 Below.two)
      have HNO : RowKit.Hid (¬ plainBlock Z3 = plainBlock Z4 → ¬ (xs).map plainBlock = (ys).map plainBlock) := Lib.hid fun h => by rw [hX, hY] at h; exact map_ne plainBlock hi1 hi2 h
      have HYES : RowKit.Hid (plainBlock Z3 = plainBlock Z4 → (xs.take (i + 1)).map plainBlock = (ys.take (i + 1)).map plainBlock) := Lib.hid fun h => by rw [hX, hY] at h; exact take_map plainBlock hi1 hi2 HI.out.1 h
      clear hcell1 hcell2 hcs1 hcs2 hx1 hx2 hX hY hc1 hc2 HI
      go_wp2_with fail
      refine (same_block pa3 pa4 pn3 pn4 pc3 pc4 oa3 oa4 on3 on4 oc3 oc4 la3 la4 ln3 ln4 lc3 lc4 ma3 ma4 mn3 mn4 mc3 mc4 Z3 Z4 _ HX2.out HY2.out HF2.out).mono ?_
      rintro e w1 ⟨b, rfl, hb, hbel⟩
      have HB2 := Lib.hid (keepB HBI.out hbel)
      cases b
      · have HF := Lib.hid (HNO.out fun h => (by have := hb.2 h; cases this))
        clear hb hbel
        go_wp2_with fail
        go_ret
        exact ⟨false, rfl, ⟨fun h => (by cases h), fun h => absurd h HF.out⟩, HB2.out⟩
      · have HT := Lib.hid (HYES.out (hb.1 rfl))
        clear hb hbel
        go_wp2_with fail
        go_roundw
        case rel => exact ⟨i + 1, by omega, by go_num, Lib.hid ⟨HT.out, HB2.out⟩⟩
        case measure => simp [intOf]; omega
    · obtain rfl : i = n1 := by omega
      have HES : RowKit.Hid ((xs).map plainBlock = (ys).map plainBlock) := Lib.hid (by
        have h := HI.out.1
        rw [List.take_of_length_le (by rw [LS1.out.1]; exact Nat.le_refl _), List.take_of_length_le (by rw [LS2.out.1]; exact Nat.le_refl _)] at h
        exact h)
      have HB1 := Lib.hid HI.out.2
      clear HI hlt
      go_wp2_with fail
      go_ret
      exact ⟨true, rfl, ⟨fun _ => HES.out, fun _ => rfl⟩, HB1.out⟩
set_option maxRecDepth 100000 in
set_option maxHeartbeats 4000000 in
theorem same_fun (a3 a4 : Option Addr) (n3 n4 c3 c4 : Nat) (Z3 Z4 : FuncD) (w : World) (hx : FuncQ w [.int .i64 Z3.ret, .slice a3 n3 c3] Z3) (hy : FuncQ w [.int .i64 Z4.ret, .slice a4 n4 c4] Z4) (hft : FT w) :
    Calls Tryd.prog 55 #[.agg #[.int .i64 Z3.ret, .slice a3 n3 c3], .agg #[.int .i64 Z4.ret, .slice a4 n4 c4]] w (TruthPost (plainFunc Z3 = plainFunc Z4) w) := by
  have hl0 := Laid2B.start w 44 #[.int .i64 Z3.ret, .slice a3 n3 c3] #[.int .i64 Z4.ret, .slice a4 n4 c4]
  have HX := Lib.hid (FuncQ.lasts _ _ _ _ hl0.bel hx)
  have HY := Lib.hid (FuncQ.lasts _ _ _ _ hl0.bel hy)
  have HFT0 := Lib.hid (hft.since hl0.bel)
  clear hx hy hft
  go_enter Tryd.func55, Tryd.ntmps55
  go_upto_region 1 with fail
  generalize hW : ((w.alloc (.cells #[.int .i64 Z3.ret, .slice a3 n3 c3] 44)).alloc (.cells #[.int .i64 Z4.ret, .slice a4 n4 c4] 44)) = W at hl0 HX HY HFT0 ⊢
  clear hW
  have hi0 : W.cell? ⟨w.heap.size, 0, none⟩ = some (.int .i64 Z3.ret) := hl0.c0 0
  have hk0 : W.cell? ⟨w.heap.size + 1, 0, none⟩ = some (.int .i64 Z4.ret) := hl0.c1 0
  have hi1 : W.cell? ⟨w.heap.size, 1, none⟩ = some (.slice a3 n3 c3) := hl0.c0 1
  have hk1 : W.cell? ⟨w.heap.size + 1, 1, none⟩ = some (.slice a4 n4 c4) := hl0.c1 1
  have hz0 : w.heap.size < W.heap.size := by have := hl0.size; omega
  have hz1 : w.heap.size + 1 < W.heap.size := by have := hl0.size; omega
  have HB := Lib.hid hl0.bel
  clear hl0
  by_cases hr : Z3.ret = Z4.ret
  rotate_left
  · have hre : (Z3.ret == Z4.ret) = false := by rw [beq_eq_false_iff_ne]; exact hr
    have HF : RowKit.Hid (¬ plainFunc Z3 = plainFunc Z4) := Lib.hid fun h => hr (by have h1 := congrArg FuncD.ret h; exact h1)
    clear hr
    go_wp2_with fail
    go_ret
    exact ⟨false, rfl, ⟨fun h => (by cases h), fun h => absurd h HF.out⟩, HB.out⟩
  have hre : (Z3.ret == Z4.ret) = true := by rw [hr]; simp
  have HE : RowKit.Hid (plainFunc Z3 = plainFunc Z4 ↔ Z3.blocks.map plainBlock = Z4.blocks.map plainBlock) := Lib.hid ⟨fun h => congrArg FuncD.blocks h, fun h => by unfold plainFunc; rw [hr, h]⟩
  have HR3 := Lib.hid HX.out.rows
  have HR4 := Lib.hid HY.out.rows
  clear hr HX HY
  go_wp2_with fail
  refine (eqf_block a3 a4 n3 n4 c3 c4 Z3.blocks Z4.blocks _ HR3.out HR4.out HFT0.out).mono ?_
  rintro e w1 ⟨b, rfl, hb, hbel⟩
  have HB2 := Lib.hid (keepB HB.out hbel)
  have HBE := Lib.hid hb
  clear hb hbel
  cases b
  all_goals
    go_wp2_with fail
    go_ret
    exact ⟨_, rfl, (by have h := HBE.out; have h2 := HE.out.symm; first | exact h.trans h2 | (simp only [true_iff, iff_true, false_iff, Bool.false_eq_true, true_iff_false] at h ⊢; exact h2.1 h) | (simp at h ⊢; exact fun hh => h (h2.2 hh))), HB2.out⟩
set_option maxRecDepth 100000 in
set_option maxHeartbeats 4000000 in
theorem eqf_func (a1 a2 : Option Addr) (n1 n2 c1 c2 : Nat) (xs ys : List FuncD) (w : World) (h1 : RowV FuncQ 2 w (.slice a1 n1 c1) xs) (h2 : RowV FuncQ 2 w (.slice a2 n2 c2) ys) (hft : FT w) :
    Calls Tryd.prog 54 #[.slice a1 n1 c1, .slice a2 n2 c2, .func (.func 55) #[] #[]] w (TruthPost ((xs).map plainFunc = (ys).map plainFunc) w) := by
  have LS1 := Lib.hid (rowV_len h1)
  have LS2 := Lib.hid (rowV_len h2)
  have hm1 := (rowV_len h1).2
  have hm2 := (rowV_len h2).2
  have HS1 := Lib.hid h1
  have HS2 := Lib.hid h2
  have HFT := Lib.hid hft
  clear h1 h2 hft
  by_cases hn : n1 = n2
  rotate_left
  · have hne : ((n1 : Int) != (n2 : Int)) = true := by rw [bne_iff_ne]; omega
    have HF : RowKit.Hid (¬ (xs).map plainFunc = (ys).map plainFunc) := Lib.hid fun h => hn (by
      have e := congrArg List.length h
      rw [List.length_map, List.length_map] at e
      rw [LS1.out.1, LS2.out.1] at e
      exact e)
    clear hn
    go_enter Tryd.func54, Tryd.ntmps54
    go_wp2_with fail
    go_ret
    exact ⟨false, rfl, ⟨fun h => (by cases h), fun h => absurd h HF.out⟩, Below.refl _ _⟩
  subst hn
  have hne1 : ((n1 : Int) != (n1 : Int)) = false := by simp
  go_enter Tryd.func54, Tryd.ntmps54
  go_wp2_with fail
  go_loopw [17] (fun iv wr => ∃ i : Nat, i ≤ n1 ∧ iv = .int .i64 (i : Int) ∧ RowKit.Hid ((xs.take i).map plainFunc = (ys.take i).map plainFunc ∧ Below w.heap.size w wr)) (fun iv _ => n1 - (intOf iv).toNat)
  case atStart => exact ⟨0, Nat.zero_le _, rfl, Lib.hid ⟨rfl, Below.refl _ _⟩⟩
  case round =>
    obtain ⟨i, hi, rfl, HI⟩ := hrel
    by_cases hlt : i < n1
    · obtain ⟨u1, v1, rfl, hu1, hcs1⟩ := rowV_at (HS1.out.since FuncQ.lasts HI.out.2) (by omega)
      obtain ⟨u2, v2, rfl, hu2, hcs2⟩ := rowV_at (HS2.out.since FuncQ.lasts HI.out.2) (by omega)
      have hi1 : i < xs.length := by rw [LS1.out.1]; exact hlt
      have hi2 : i < ys.length := by rw [LS2.out.1]; exact hlt
      obtain ⟨cs1, hc1, hcell1, hx1⟩ := hcs1 i hi1
      obtain ⟨cs2, hc2, hcell2, hx2⟩ := hcs2 i hi2
      obtain ⟨Z3, hX⟩ : ∃ X, X = xs[i] := ⟨_, rfl⟩
      obtain ⟨Z4, hY⟩ : ∃ Y, Y = ys[i] := ⟨_, rfl⟩
      rw [← hX] at hx1
      rw [← hY] at hx2
      obtain ⟨a3, n3, c3, rfl⟩ := hx1.form
      obtain ⟨a4, n4, c4, rfl⟩ := hx2.form
      have hd0 := hcell1 0 (by simp)
      have hd1 := hcell1 1 (by simp)
      have he0 := hcell2 0 (by simp)
      have he1 := hcell2 1 (by simp)
      simp only [Nat.add_zero, List.getElem_cons_zero, List.getElem_cons_succ] at hd0 hd1 he0 he1
      have HX2 : RowKit.Hid (FuncQ ((wr.alloc (.cells #[.int .i64 Z3.ret, .slice a3 n3 c3] 44)).alloc (.cells #[.int .i64 Z4.ret, .slice a4 n4 c4] 44)) [.int .i64 Z3.ret, .slice a3 n3 c3] Z3) := Lib.hid (FuncQ.lasts _ _ _ _ Below.two hx1)
      have HY2 : RowKit.Hid (FuncQ ((wr.alloc (.cells #[.int .i64 Z3.ret, .slice a3 n3 c3] 44)).alloc (.cells #[.int .i64 Z4.ret, .slice a4 n4 c4] 44)) [.int .i64 Z4.ret, .slice a4 n4 c4] Z4) := Lib.hid (FuncQ.lasts _ _ _ _ Below.two hx2)
      have HF2 : RowKit.Hid (FT ((wr.alloc (.cells #[.int .i64 Z3.ret, .slice a3 n3 c3] 44)).alloc (.cells #[.int .i64 Z4.ret, .slice a4 n4 c4] 44))) := Lib.hid ((HFT.out.since HI.out.2).since Below.two)
      have HBI : RowKit.Hid (Below w.heap.size w ((wr.alloc (.cells #[.int .i64 Z3.ret, .slice a3 n3 c3] 44)).alloc (.cells #[.int .i64 Z4.ret, .slice a4 n4 c4] 44))) := Lib.hid (keepB HI.out.2 Below.two)
      have HNO : RowKit.Hid (¬ plainFunc Z3 = plainFunc Z4 → ¬ (xs).map plainFunc = (ys).map plainFunc) := Lib.hid fun h => by rw [hX, hY] at h; exact map_ne plainFunc hi1 hi2 h
      have HYES : RowKit.Hid (plainFunc Z3 = plainFunc Z4 → (xs.take (i + 1)).map plainFunc = (ys.take (i + 1)).map plainFunc) := Lib.hid fun h => by rw [hX, hY] at h; exact take_map plainFunc hi1 hi2 HI.out.1 h
      clear hcell1 hcell2 hcs1 hcs2 hx1 hx2 hX hY hc1 hc2 HI
      go_wp2_with fail
      refine (same_fun a3 a4 n3 n4 c3 c4 Z3 Z4 _ HX2.out HY2.out HF2.out).mono ?_
      rintro e w1 ⟨b, rfl, hb, hbel⟩
      have HB2 := Lib.hid (keepB HBI.out hbel)
      cases b
      · have HF := Lib.hid (HNO.out fun h => (by have := hb.2 h; cases this))
        clear hb hbel
        go_wp2_with fail
        go_ret
        exact ⟨false, rfl, ⟨fun h => (by cases h), fun h => absurd h HF.out⟩, HB2.out⟩
      · have HT := Lib.hid (HYES.out (hb.1 rfl))
        clear hb hbel
        go_wp2_with fail
        go_roundw
        case rel => exact ⟨i + 1, by omega, by go_num, Lib.hid ⟨HT.out, HB2.out⟩⟩
        case measure => simp [intOf]; omega
    · obtain rfl : i = n1 := by omega
      have HES : RowKit.Hid ((xs).map plainFunc = (ys).map plainFunc) := Lib.hid (by
        have h := HI.out.1
        rw [List.take_of_length_le (by rw [LS1.out.1]; exact Nat.le_refl _), List.take_of_length_le (by rw [LS2.out.1]; exact Nat.le_refl _)] at h
        exact h)
      have HB1 := Lib.hid HI.out.2
      clear HI hlt
      go_wp2_with fail
      go_ret
      exact ⟨true, rfl, ⟨fun _ => HES.out, fun _ => rfl⟩, HB1.out⟩
end Go.Proofs.YtdmlogpaenbblaaDoor

/- Layer 5: code's Same: whether two programs are one, but for what plays no part. -/
namespace Go.Proofs.YtdmlogpaenbblaaDoor
open Go.RowKit (wrap64 intOf Below)
set_option linter.unusedVariables false
set_option linter.unusedSimpArgs false
attribute [local go_sem ↓] Go.wp_at_zero Go.wp_at_succ

set_option maxRecDepth 100000 in
set_option maxHeartbeats 8000000 in
theorem code_same (g1 o1 g2 o2 : Nat) (sa1 ca1 fa1 sa2 ca2 fa2 : Option Addr) (sn1 sc1 cn1 cc1 fn1 fc1 sn2 sc2 cn2 cc2 fn2 fc2 : Nat) (P Q : ProgD) (w : World)
    (hg1 : g1 < w.heap.size) (hg2 : g2 < w.heap.size)
    (hp0 : w.cell? ⟨g1, o1, none⟩ = some (.slice sa1 sn1 sc1)) (hp1 : w.cell? ⟨g1, o1 + 1, none⟩ = some (.slice ca1 cn1 cc1)) (hp2 : w.cell? ⟨g1, o1 + 2, none⟩ = some (.slice fa1 fn1 fc1))
    (hq0 : w.cell? ⟨g2, o2, none⟩ = some (.slice sa2 sn2 sc2)) (hq1 : w.cell? ⟨g2, o2 + 1, none⟩ = some (.slice ca2 cn2 cc2)) (hq2 : w.cell? ⟨g2, o2 + 2, none⟩ = some (.slice fa2 fn2 fc2))
    (hP : ProgQ w [.slice sa1 sn1 sc1, .slice ca1 cn1 cc1, .slice fa1 fn1 fc1] P) (hQ : ProgQ w [.slice sa2 sn2 sc2, .slice ca2 cn2 cc2, .slice fa2 fn2 fc2] Q) (hft : FT w) :
    Calls Tryd.prog 21 #[.pointer (some ⟨g1, o1, none⟩), .pointer (some ⟨g2, o2, none⟩)] w (TruthPost (plainProg P = plainProg Q) w) := by
  obtain ⟨_, _, _, e1, hS1, hC1, hF1⟩ := hP
  obtain ⟨_, _, _, e2, hS2, hC2, hF2⟩ := hQ
  simp only [List.cons.injEq, and_true] at e1 e2
  obtain ⟨rfl, rfl, rfl⟩ := e1
  obtain ⟨rfl, rfl, rfl⟩ := e2
  have HC : RowKit.Hid (∀ (u : World), Below w.heap.size w u → (u.cell? ⟨g1, o1 + 1, none⟩ = some (.slice ca1 cn1 cc1) ∧ u.cell? ⟨g1, o1 + 2, none⟩ = some (.slice fa1 fn1 fc1)) ∧ u.cell? ⟨g2, o2 + 1, none⟩ = some (.slice ca2 cn2 cc2) ∧ u.cell? ⟨g2, o2 + 2, none⟩ = some (.slice fa2 fn2 fc2)) :=
    Lib.hid (fun u hb => ⟨⟨(hb.cell (p := ⟨g1, o1 + 1, none⟩) hg1).trans hp1, (hb.cell (p := ⟨g1, o1 + 2, none⟩) hg1).trans hp2⟩, (hb.cell (p := ⟨g2, o2 + 1, none⟩) hg2).trans hq1, (hb.cell (p := ⟨g2, o2 + 2, none⟩) hg2).trans hq2⟩)
  have CS : RowKit.Hid (∀ u, Below w.heap.size w u → Calls Tryd.prog 50 #[.slice sa1 sn1 sc1, .slice sa2 sn2 sc2, .func (.func 51) #[] #[]] u (TruthPost (P.sigs = Q.sigs) u)) := Lib.hid fun u hb => eqf_sig sa1 sa2 sn1 sn2 sc1 sc2 P.sigs Q.sigs u (hS1.since SigQ.lasts hb) (hS2.since SigQ.lasts hb)
  have CC : RowKit.Hid (∀ u, Below w.heap.size w u → Calls Tryd.prog 52 #[.slice ca1 cn1 cc1, .slice ca2 cn2 cc2, .func (.func 53) #[] #[]] u (TruthPost (P.classes = Q.classes) u)) := Lib.hid fun u hb => eqf_class ca1 ca2 cn1 cn2 cc1 cc2 P.classes Q.classes u (hC1.since ClassQ.lasts hb) (hC2.since ClassQ.lasts hb)
  have CF : RowKit.Hid (∀ u, Below w.heap.size w u → Calls Tryd.prog 54 #[.slice fa1 fn1 fc1, .slice fa2 fn2 fc2, .func (.func 55) #[] #[]] u (TruthPost (P.funcs.map plainFunc = Q.funcs.map plainFunc) u)) := Lib.hid fun u hb => eqf_func fa1 fa2 fn1 fn2 fc1 fc2 P.funcs Q.funcs u (hF1.since FuncQ.lasts hb) (hF2.since FuncQ.lasts hb) (hft.since hb)
  have HE : RowKit.Hid (plainProg P = plainProg Q ↔ P.sigs = Q.sigs ∧ P.classes = Q.classes ∧ P.funcs.map plainFunc = Q.funcs.map plainFunc) := Lib.hid ⟨fun h => ⟨(by have e := congrArg ProgD.sigs h; exact e), (by have e := congrArg ProgD.classes h; exact e), (by have e := congrArg ProgD.funcs h; exact e)⟩, fun ⟨h1, h2, h3⟩ => by unfold plainProg; rw [h1, h2, h3]⟩
  clear hS1 hS2 hC1 hC2 hF1 hF2 hft
  go_enter Tryd.func21, Tryd.ntmps21
  go_wp2_with fail
  have HCE := HC.out
  have HSS : RowKit.Hid (∀ u, Below w.heap.size w u → (fun u => Below w.heap.size w u ∧ u.cell? ⟨g1, o1, none⟩ = some (.slice sa1 sn1 sc1) ∧ u.cell? ⟨g1, o1 + 1, none⟩ = some (.slice ca1 cn1 cc1) ∧ u.cell? ⟨g1, o1 + 2, none⟩ = some (.slice fa1 fn1 fc1) ∧ u.cell? ⟨g2, o2, none⟩ = some (.slice sa2 sn2 sc2) ∧ u.cell? ⟨g2, o2 + 1, none⟩ = some (.slice ca2 cn2 cc2) ∧ u.cell? ⟨g2, o2 + 2, none⟩ = some (.slice fa2 fn2 fc2)) u) := Lib.hid fun u hb => ⟨hb, (hb.cell (p := ⟨g1, o1, none⟩) hg1).trans hp0, (hb.cell (p := ⟨g1, o1 + 1, none⟩) hg1).trans hp1, (hb.cell (p := ⟨g1, o1 + 2, none⟩) hg1).trans hp2, (hb.cell (p := ⟨g2, o2, none⟩) hg2).trans hq0, (hb.cell (p := ⟨g2, o2 + 1, none⟩) hg2).trans hq1, (hb.cell (p := ⟨g2, o2 + 2, none⟩) hg2).trans hq2⟩
  clear hp0 hp1 hp2 hq0 hq1 hq2
  refine wp_region_held_drew (S := (fun u => Below w.heap.size w u ∧ u.cell? ⟨g1, o1, none⟩ = some (.slice sa1 sn1 sc1) ∧ u.cell? ⟨g1, o1 + 1, none⟩ = some (.slice ca1 cn1 cc1) ∧ u.cell? ⟨g1, o1 + 2, none⟩ = some (.slice fa1 fn1 fc1) ∧ u.cell? ⟨g2, o2, none⟩ = some (.slice sa2 sn2 sc2) ∧ u.cell? ⟨g2, o2 + 1, none⟩ = some (.slice ca2 cn2 cc2) ∧ u.cell? ⟨g2, o2 + 2, none⟩ = some (.slice fa2 fn2 fc2))) (by kernel_rfl) (HSS.out _ (Below.refl _ _).drew) (fun hHeld => ?_)
  refine wpAnyH_take (i := 0) (oi := ⟨some 14, _, _, _, _, _⟩) (v := ?_) rfl (by kernel_rfl) (by kernel_rfl) (by kernel_rfl) (fun _ _ _ h => h) (Or.inl ⟨by rfl, ?_⟩) (by assumption) ?_
  rotate_left
  · ((intro w hSw; (try dsimp only at hSw); go_simp); try with_reducible rfl)
  (try simp only [Act.put, List.setIfInBounds_toArray, List.set_cons_zero, List.set_cons_succ])
  refine wpAnyH_take (i := 1) (oi := ⟨some 15, _, _, _, _, _⟩) (v := ?_) rfl (by kernel_rfl) (by kernel_rfl) (by kernel_rfl) (fun _ _ _ h => h) (Or.inl ⟨by rfl, ?_⟩) (by assumption) ?_
  rotate_left
  · ((intro w hSw; (try dsimp only at hSw); go_simp); try with_reducible rfl)
  (try simp only [Act.put, List.setIfInBounds_toArray, List.set_cons_zero, List.set_cons_succ])
  refine wpAnyH_take (i := 2) (oi := ⟨some 16, _, _, _, _, _⟩) (v := ?_) rfl (by kernel_rfl) (by kernel_rfl) (by kernel_rfl) (fun _ _ _ h => h) (Or.inl ⟨by rfl, ?_⟩) (by assumption) ?_
  rotate_left
  · ((intro w hSw; (try dsimp only at hSw); go_simp); try with_reducible rfl)
  (try simp only [Act.put, List.setIfInBounds_toArray, List.set_cons_zero, List.set_cons_succ])
  refine wpAnyH_take (i := 3) (oi := ⟨some 17, _, _, _, _, _⟩) (v := ?_) rfl (by kernel_rfl) (by kernel_rfl) (by kernel_rfl) (fun _ _ _ h => h) (Or.inl ⟨by rfl, ?_⟩) (by assumption) ?_
  rotate_left
  · ((intro w hSw; (try dsimp only at hSw); go_simp); try with_reducible rfl)
  (try simp only [Act.put, List.setIfInBounds_toArray, List.set_cons_zero, List.set_cons_succ])
  refine wpAnyH_take (i := 4) (oi := ⟨some 18, _, _, _, _, _⟩) (v := ?_) rfl (by kernel_rfl) (by kernel_rfl) (by kernel_rfl) (fun _ _ _ h => h) (Or.inl ⟨by rfl, ?_⟩) (by assumption) ?_
  rotate_left
  · ((intro w hSw; (try dsimp only at hSw); go_simp); try with_reducible rfl)
  (try simp only [Act.put, List.setIfInBounds_toArray, List.set_cons_zero, List.set_cons_succ])
  refine wpAnyH_take (i := 5) (oi := ⟨some 19, _, _, _, _, _⟩) (v := ?_) rfl (by kernel_rfl) (by kernel_rfl) (by kernel_rfl) (fun _ _ _ h => h) (Or.inl ⟨by rfl, ?_⟩) (by assumption) ?_
  rotate_left
  · ((intro w hSw; (try dsimp only at hSw); go_simp); try with_reducible rfl)
  (try simp only [Act.put, List.setIfInBounds_toArray, List.set_cons_zero, List.set_cons_succ])
  refine wpAnyH_take (i := 6) (oi := ⟨some 20, _, _, _, _, _⟩) (v := ?_) rfl (by kernel_rfl) (by kernel_rfl) (by kernel_rfl) (fun _ _ _ h => h) (Or.inl ⟨by rfl, ?_⟩) (by assumption) ?_
  rotate_left
  · ((intro w hSw; (try dsimp only at hSw); go_simp); try with_reducible rfl)
  (try simp only [Act.put, List.setIfInBounds_toArray, List.set_cons_zero, List.set_cons_succ])
  refine wpAnyH_take (i := 7) (oi := ⟨some 21, _, _, _, _, _⟩) (v := ?_) rfl (by kernel_rfl) (by kernel_rfl) (by kernel_rfl) (fun _ _ _ h => h) (Or.inl ⟨by rfl, ?_⟩) (by assumption) ?_
  rotate_left
  · ((intro w hSw; (try dsimp only at hSw); go_simp); try with_reducible rfl)
  (try simp only [Act.put, List.setIfInBounds_toArray, List.set_cons_zero, List.set_cons_succ])
  refine wpAnyH_ready (rs := [8]) (by kernel_rfl) (by simp) (AllReadyH.cons rfl (fun K hK => ?_) AllReadyH.nil)
  rw [if_pos (by rfl)]
  go_simp
  go_at_call 50
  refine (CS.out _ hHeld.1).mono ?_
  rintro e w1 ⟨b1, rfl, hb1, hbel1⟩
  have HX1 := Lib.hid hb1
  have HB1 := Lib.hid (keepB hHeld.1 hbel1)
  clear hb1 hbel1 hHeld
  refine hK.out _ _ (HSS.out _ HB1.out) (fun hHeld => ?_)
  clear hK K
  (try simp only [Act.put, List.setIfInBounds_toArray, List.set_cons_zero, List.set_cons_succ])
  cases b1
  · refine wpAnyH_take (i := 9) (oi := ⟨some 23, _, _, _, _, _⟩) (v := ?_) rfl (by kernel_rfl) (by kernel_rfl) (by kernel_rfl) (fun _ _ _ h => h) (Or.inl ⟨by rfl, ?_⟩) (by assumption) ?_
    rotate_left
    · ((intro w hSw; (try dsimp only at hSw); go_simp); try with_reducible rfl)
    (try simp only [Act.put, List.setIfInBounds_toArray, List.set_cons_zero, List.set_cons_succ])
    refine wpAnyH_take (i := 10) (oi := ⟨some 24, _, _, _, _, _⟩) (v := undef) rfl (by kernel_rfl) (by kernel_rfl) (by kernel_rfl) (fun _ _ _ h => h) (Or.inr ⟨by rfl, rfl⟩) (by assumption) ?_
    (try simp only [Act.put, List.setIfInBounds_toArray, List.set_cons_zero, List.set_cons_succ])
    refine wpAnyH_take (i := 11) (oi := ⟨some 25, _, _, _, _, _⟩) (v := undef) rfl (by kernel_rfl) (by kernel_rfl) (by kernel_rfl) (fun _ _ _ h => h) (Or.inr ⟨by rfl, rfl⟩) (by assumption) ?_
    (try simp only [Act.put, List.setIfInBounds_toArray, List.set_cons_zero, List.set_cons_succ])
    refine wpAnyH_take (i := 12) (oi := ⟨some 26, _, _, _, _, _⟩) (v := undef) rfl (by kernel_rfl) (by kernel_rfl) (by kernel_rfl) (fun _ _ _ h => h) (Or.inr ⟨by rfl, rfl⟩) (by assumption) ?_
    (try simp only [Act.put, List.setIfInBounds_toArray, List.set_cons_zero, List.set_cons_succ])
    refine wpAnyH_take (i := 13) (oi := ⟨some 27, _, _, _, _, _⟩) (v := undef) rfl (by kernel_rfl) (by kernel_rfl) (by kernel_rfl) (fun _ _ _ h => h) (Or.inr ⟨by rfl, rfl⟩) (by assumption) ?_
    (try simp only [Act.put, List.setIfInBounds_toArray, List.set_cons_zero, List.set_cons_succ])
    refine wpAnyH_take (i := 14) (oi := ⟨some 28, _, _, _, _, _⟩) (v := undef) rfl (by kernel_rfl) (by kernel_rfl) (by kernel_rfl) (fun _ _ _ h => h) (Or.inr ⟨by rfl, rfl⟩) (by assumption) ?_
    (try simp only [Act.put, List.setIfInBounds_toArray, List.set_cons_zero, List.set_cons_succ])
    refine wpAnyH_take (i := 15) (oi := ⟨some 29, _, _, _, _, _⟩) (v := undef) rfl (by kernel_rfl) (by kernel_rfl) (by kernel_rfl) (fun _ _ _ h => h) (Or.inr ⟨by rfl, rfl⟩) (by assumption) ?_
    (try simp only [Act.put, List.setIfInBounds_toArray, List.set_cons_zero, List.set_cons_succ])
    refine wpAnyH_take (i := 16) (oi := ⟨some 30, _, _, _, _, _⟩) (v := undef) rfl (by kernel_rfl) (by kernel_rfl) (by kernel_rfl) (fun _ _ _ h => h) (Or.inr ⟨by rfl, rfl⟩) (by assumption) ?_
    (try simp only [Act.put, List.setIfInBounds_toArray, List.set_cons_zero, List.set_cons_succ])
    refine wpAnyH_take (i := 17) (oi := ⟨some 31, _, _, _, _, _⟩) (v := undef) rfl (by kernel_rfl) (by kernel_rfl) (by kernel_rfl) (fun _ _ _ h => h) (Or.inr ⟨by rfl, rfl⟩) (by assumption) ?_
    (try simp only [Act.put, List.setIfInBounds_toArray, List.set_cons_zero, List.set_cons_succ])
    refine wpAnyH_take (i := 18) (oi := ⟨some 32, _, _, _, _, _⟩) (v := undef) rfl (by kernel_rfl) (by kernel_rfl) (by kernel_rfl) (fun _ _ _ h => h) (Or.inr ⟨by rfl, rfl⟩) (by assumption) ?_
    (try simp only [Act.put, List.setIfInBounds_toArray, List.set_cons_zero, List.set_cons_succ])
    refine wpAnyH_take (i := 19) (oi := ⟨some 33, _, _, _, _, _⟩) (v := ?_) rfl (by kernel_rfl) (by kernel_rfl) (by kernel_rfl) (fun _ _ _ h => h) (Or.inl ⟨by rfl, ?_⟩) (by assumption) ?_
    rotate_left
    · ((intro w hSw; (try dsimp only at hSw); go_simp); try with_reducible rfl)
    (try simp only [Act.put, List.setIfInBounds_toArray, List.set_cons_zero, List.set_cons_succ])
    refine wpAnyH_take (i := 20) (oi := ⟨some 34, _, _, _, _, _⟩) (v := ?_) rfl (by kernel_rfl) (by kernel_rfl) (by kernel_rfl) (fun _ _ _ h => h) (Or.inl ⟨by rfl, ?_⟩) (by assumption) ?_
    rotate_left
    · ((intro w hSw; (try dsimp only at hSw); go_simp); try with_reducible rfl)
    (try simp only [Act.put, List.setIfInBounds_toArray, List.set_cons_zero, List.set_cons_succ])
    refine wpAnyH_take (i := 21) (oi := ⟨some 35, _, _, _, _, _⟩) (v := undef) rfl (by kernel_rfl) (by kernel_rfl) (by kernel_rfl) (fun _ _ _ h => h) (Or.inr ⟨by rfl, rfl⟩) (by assumption) ?_
    (try simp only [Act.put, List.setIfInBounds_toArray, List.set_cons_zero, List.set_cons_succ])
    refine wpAnyH_take (i := 22) (oi := ⟨some 36, _, _, _, _, _⟩) (v := undef) rfl (by kernel_rfl) (by kernel_rfl) (by kernel_rfl) (fun _ _ _ h => h) (Or.inr ⟨by rfl, rfl⟩) (by assumption) ?_
    (try simp only [Act.put, List.setIfInBounds_toArray, List.set_cons_zero, List.set_cons_succ])
    refine wpAnyH_take (i := 23) (oi := ⟨some 37, _, _, _, _, _⟩) (v := undef) rfl (by kernel_rfl) (by kernel_rfl) (by kernel_rfl) (fun _ _ _ h => h) (Or.inr ⟨by rfl, rfl⟩) (by assumption) ?_
    (try simp only [Act.put, List.setIfInBounds_toArray, List.set_cons_zero, List.set_cons_succ])
    refine wpAnyH_take (i := 24) (oi := ⟨some 38, _, _, _, _, _⟩) (v := undef) rfl (by kernel_rfl) (by kernel_rfl) (by kernel_rfl) (fun _ _ _ h => h) (Or.inr ⟨by rfl, rfl⟩) (by assumption) ?_
    (try simp only [Act.put, List.setIfInBounds_toArray, List.set_cons_zero, List.set_cons_succ])
    refine wpAnyH_take (i := 25) (oi := ⟨some 39, _, _, _, _, _⟩) (v := undef) rfl (by kernel_rfl) (by kernel_rfl) (by kernel_rfl) (fun _ _ _ h => h) (Or.inr ⟨by rfl, rfl⟩) (by assumption) ?_
    (try simp only [Act.put, List.setIfInBounds_toArray, List.set_cons_zero, List.set_cons_succ])
    refine wpAnyH_take (i := 26) (oi := ⟨some 40, _, _, _, _, _⟩) (v := undef) rfl (by kernel_rfl) (by kernel_rfl) (by kernel_rfl) (fun _ _ _ h => h) (Or.inr ⟨by rfl, rfl⟩) (by assumption) ?_
    (try simp only [Act.put, List.setIfInBounds_toArray, List.set_cons_zero, List.set_cons_succ])
    refine wpAnyH_take (i := 27) (oi := ⟨some 41, _, _, _, _, _⟩) (v := undef) rfl (by kernel_rfl) (by kernel_rfl) (by kernel_rfl) (fun _ _ _ h => h) (Or.inr ⟨by rfl, rfl⟩) (by assumption) ?_
    (try simp only [Act.put, List.setIfInBounds_toArray, List.set_cons_zero, List.set_cons_succ])
    refine wpAnyH_take (i := 28) (oi := ⟨some 42, _, _, _, _, _⟩) (v := undef) rfl (by kernel_rfl) (by kernel_rfl) (by kernel_rfl) (fun _ _ _ h => h) (Or.inr ⟨by rfl, rfl⟩) (by assumption) ?_
    (try simp only [Act.put, List.setIfInBounds_toArray, List.set_cons_zero, List.set_cons_succ])
    refine wpAnyH_take (i := 29) (oi := ⟨some 43, _, _, _, _, _⟩) (v := undef) rfl (by kernel_rfl) (by kernel_rfl) (by kernel_rfl) (fun _ _ _ h => h) (Or.inr ⟨by rfl, rfl⟩) (by assumption) ?_
    (try simp only [Act.put, List.setIfInBounds_toArray, List.set_cons_zero, List.set_cons_succ])
    refine wpAnyH_take (i := 30) (oi := ⟨some 44, _, _, _, _, _⟩) (v := ?_) rfl (by kernel_rfl) (by kernel_rfl) (by kernel_rfl) (fun _ _ _ h => h) (Or.inl ⟨by rfl, ?_⟩) (by assumption) ?_
    rotate_left
    · ((intro w hSw; (try dsimp only at hSw); go_simp); try with_reducible rfl)
    (try simp only [Act.put, List.setIfInBounds_toArray, List.set_cons_zero, List.set_cons_succ])
    refine wpAnyH_take (i := 31) (oi := ⟨some 4, _, _, _, _, _⟩) (v := ?_) rfl (by kernel_rfl) (by kernel_rfl) (by kernel_rfl) (fun _ _ _ h => h) (Or.inl ⟨by rfl, ?_⟩) (by assumption) ?_
    rotate_left
    · ((intro w hSw; (try dsimp only at hSw); go_simp); try with_reducible rfl)
    (try simp only [Act.put, List.setIfInBounds_toArray, List.set_cons_zero, List.set_cons_succ])
    refine wpAnyH_done (by kernel_rfl) ?_ _
    clear hHeld
    go_wp2_with fail
    go_ret
    exact ⟨_, rfl, ⟨fun h => (by cases h), fun h => absurd (HX1.out.2 (HE.out.1 h).1) (by decide)⟩, HB1.out⟩
  refine wpAnyH_take (i := 9) (oi := ⟨some 23, _, _, _, _, _⟩) (v := ?_) rfl (by kernel_rfl) (by kernel_rfl) (by kernel_rfl) (fun _ _ _ h => h) (Or.inl ⟨by rfl, ?_⟩) (by assumption) ?_
  rotate_left
  · ((intro w hSw; (try dsimp only at hSw); go_simp); try with_reducible rfl)
  (try simp only [Act.put, List.setIfInBounds_toArray, List.set_cons_zero, List.set_cons_succ])
  refine wpAnyH_take (i := 10) (oi := ⟨some 24, _, _, _, _, _⟩) (v := ?_) rfl (by kernel_rfl) (by kernel_rfl) (by kernel_rfl) (fun _ _ _ h => h) (Or.inl ⟨by rfl, ?_⟩) (by assumption) ?_
  rotate_left
  · ((intro w hSw; (try dsimp only at hSw); go_simp); try with_reducible rfl)
  (try simp only [Act.put, List.setIfInBounds_toArray, List.set_cons_zero, List.set_cons_succ])
  refine wpAnyH_take (i := 11) (oi := ⟨some 25, _, _, _, _, _⟩) (v := ?_) rfl (by kernel_rfl) (by kernel_rfl) (by kernel_rfl) (fun _ _ _ h => h) (Or.inl ⟨by rfl, ?_⟩) (by assumption) ?_
  rotate_left
  · ((intro w hSw; (try dsimp only at hSw); go_simp); try with_reducible rfl)
  (try simp only [Act.put, List.setIfInBounds_toArray, List.set_cons_zero, List.set_cons_succ])
  refine wpAnyH_take (i := 12) (oi := ⟨some 26, _, _, _, _, _⟩) (v := ?_) rfl (by kernel_rfl) (by kernel_rfl) (by kernel_rfl) (fun _ _ _ h => h) (Or.inl ⟨by rfl, ?_⟩) (by assumption) ?_
  rotate_left
  · ((intro w hSw; (try dsimp only at hSw); go_simp); try with_reducible rfl)
  (try simp only [Act.put, List.setIfInBounds_toArray, List.set_cons_zero, List.set_cons_succ])
  refine wpAnyH_take (i := 13) (oi := ⟨some 27, _, _, _, _, _⟩) (v := ?_) rfl (by kernel_rfl) (by kernel_rfl) (by kernel_rfl) (fun _ _ _ h => h) (Or.inl ⟨by rfl, ?_⟩) (by assumption) ?_
  rotate_left
  · ((intro w hSw; (try dsimp only at hSw); go_simp); try with_reducible rfl)
  (try simp only [Act.put, List.setIfInBounds_toArray, List.set_cons_zero, List.set_cons_succ])
  refine wpAnyH_take (i := 14) (oi := ⟨some 28, _, _, _, _, _⟩) (v := ?_) rfl (by kernel_rfl) (by kernel_rfl) (by kernel_rfl) (fun _ _ _ h => h) (Or.inl ⟨by rfl, ?_⟩) (by assumption) ?_
  rotate_left
  · ((intro w hSw; (try dsimp only at hSw); go_simp); try with_reducible rfl)
  (try simp only [Act.put, List.setIfInBounds_toArray, List.set_cons_zero, List.set_cons_succ])
  refine wpAnyH_take (i := 15) (oi := ⟨some 29, _, _, _, _, _⟩) (v := ?_) rfl (by kernel_rfl) (by kernel_rfl) (by kernel_rfl) (fun _ _ _ h => h) (Or.inl ⟨by rfl, ?_⟩) (by assumption) ?_
  rotate_left
  · ((intro w hSw; (try dsimp only at hSw); go_simp); try with_reducible rfl)
  (try simp only [Act.put, List.setIfInBounds_toArray, List.set_cons_zero, List.set_cons_succ])
  refine wpAnyH_take (i := 16) (oi := ⟨some 30, _, _, _, _, _⟩) (v := ?_) rfl (by kernel_rfl) (by kernel_rfl) (by kernel_rfl) (fun _ _ _ h => h) (Or.inl ⟨by rfl, ?_⟩) (by assumption) ?_
  rotate_left
  · ((intro w hSw; (try dsimp only at hSw); go_simp); try with_reducible rfl)
  (try simp only [Act.put, List.setIfInBounds_toArray, List.set_cons_zero, List.set_cons_succ])
  refine wpAnyH_take (i := 17) (oi := ⟨some 31, _, _, _, _, _⟩) (v := ?_) rfl (by kernel_rfl) (by kernel_rfl) (by kernel_rfl) (fun _ _ _ h => h) (Or.inl ⟨by rfl, ?_⟩) (by assumption) ?_
  rotate_left
  · ((intro w hSw; (try dsimp only at hSw); go_simp); try with_reducible rfl)
  (try simp only [Act.put, List.setIfInBounds_toArray, List.set_cons_zero, List.set_cons_succ])
  refine wpAnyH_ready (rs := [18]) (by kernel_rfl) (by simp) (AllReadyH.cons rfl (fun K hK => ?_) AllReadyH.nil)
  rw [if_pos (by rfl)]
  go_simp
  go_at_call 52
  refine (CC.out _ hHeld.1).mono ?_
  rintro e w2 ⟨b2, rfl, hb2, hbel2⟩
  have HX2 := Lib.hid hb2
  have HB2 := Lib.hid (keepB hHeld.1 hbel2)
  clear hb2 hbel2 hHeld
  refine hK.out _ _ (HSS.out _ HB2.out) (fun hHeld => ?_)
  clear hK K
  (try simp only [Act.put, List.setIfInBounds_toArray, List.set_cons_zero, List.set_cons_succ])
  cases b2
  · refine wpAnyH_take (i := 19) (oi := ⟨some 33, _, _, _, _, _⟩) (v := ?_) rfl (by kernel_rfl) (by kernel_rfl) (by kernel_rfl) (fun _ _ _ h => h) (Or.inl ⟨by rfl, ?_⟩) (by assumption) ?_
    rotate_left
    · ((intro w hSw; (try dsimp only at hSw); go_simp); try with_reducible rfl)
    (try simp only [Act.put, List.setIfInBounds_toArray, List.set_cons_zero, List.set_cons_succ])
    refine wpAnyH_take (i := 20) (oi := ⟨some 34, _, _, _, _, _⟩) (v := ?_) rfl (by kernel_rfl) (by kernel_rfl) (by kernel_rfl) (fun _ _ _ h => h) (Or.inl ⟨by rfl, ?_⟩) (by assumption) ?_
    rotate_left
    · ((intro w hSw; (try dsimp only at hSw); go_simp); try with_reducible rfl)
    (try simp only [Act.put, List.setIfInBounds_toArray, List.set_cons_zero, List.set_cons_succ])
    refine wpAnyH_take (i := 21) (oi := ⟨some 35, _, _, _, _, _⟩) (v := undef) rfl (by kernel_rfl) (by kernel_rfl) (by kernel_rfl) (fun _ _ _ h => h) (Or.inr ⟨by rfl, rfl⟩) (by assumption) ?_
    (try simp only [Act.put, List.setIfInBounds_toArray, List.set_cons_zero, List.set_cons_succ])
    refine wpAnyH_take (i := 22) (oi := ⟨some 36, _, _, _, _, _⟩) (v := undef) rfl (by kernel_rfl) (by kernel_rfl) (by kernel_rfl) (fun _ _ _ h => h) (Or.inr ⟨by rfl, rfl⟩) (by assumption) ?_
    (try simp only [Act.put, List.setIfInBounds_toArray, List.set_cons_zero, List.set_cons_succ])
    refine wpAnyH_take (i := 23) (oi := ⟨some 37, _, _, _, _, _⟩) (v := undef) rfl (by kernel_rfl) (by kernel_rfl) (by kernel_rfl) (fun _ _ _ h => h) (Or.inr ⟨by rfl, rfl⟩) (by assumption) ?_
    (try simp only [Act.put, List.setIfInBounds_toArray, List.set_cons_zero, List.set_cons_succ])
    refine wpAnyH_take (i := 24) (oi := ⟨some 38, _, _, _, _, _⟩) (v := undef) rfl (by kernel_rfl) (by kernel_rfl) (by kernel_rfl) (fun _ _ _ h => h) (Or.inr ⟨by rfl, rfl⟩) (by assumption) ?_
    (try simp only [Act.put, List.setIfInBounds_toArray, List.set_cons_zero, List.set_cons_succ])
    refine wpAnyH_take (i := 25) (oi := ⟨some 39, _, _, _, _, _⟩) (v := undef) rfl (by kernel_rfl) (by kernel_rfl) (by kernel_rfl) (fun _ _ _ h => h) (Or.inr ⟨by rfl, rfl⟩) (by assumption) ?_
    (try simp only [Act.put, List.setIfInBounds_toArray, List.set_cons_zero, List.set_cons_succ])
    refine wpAnyH_take (i := 26) (oi := ⟨some 40, _, _, _, _, _⟩) (v := undef) rfl (by kernel_rfl) (by kernel_rfl) (by kernel_rfl) (fun _ _ _ h => h) (Or.inr ⟨by rfl, rfl⟩) (by assumption) ?_
    (try simp only [Act.put, List.setIfInBounds_toArray, List.set_cons_zero, List.set_cons_succ])
    refine wpAnyH_take (i := 27) (oi := ⟨some 41, _, _, _, _, _⟩) (v := undef) rfl (by kernel_rfl) (by kernel_rfl) (by kernel_rfl) (fun _ _ _ h => h) (Or.inr ⟨by rfl, rfl⟩) (by assumption) ?_
    (try simp only [Act.put, List.setIfInBounds_toArray, List.set_cons_zero, List.set_cons_succ])
    refine wpAnyH_take (i := 28) (oi := ⟨some 42, _, _, _, _, _⟩) (v := undef) rfl (by kernel_rfl) (by kernel_rfl) (by kernel_rfl) (fun _ _ _ h => h) (Or.inr ⟨by rfl, rfl⟩) (by assumption) ?_
    (try simp only [Act.put, List.setIfInBounds_toArray, List.set_cons_zero, List.set_cons_succ])
    refine wpAnyH_take (i := 29) (oi := ⟨some 43, _, _, _, _, _⟩) (v := undef) rfl (by kernel_rfl) (by kernel_rfl) (by kernel_rfl) (fun _ _ _ h => h) (Or.inr ⟨by rfl, rfl⟩) (by assumption) ?_
    (try simp only [Act.put, List.setIfInBounds_toArray, List.set_cons_zero, List.set_cons_succ])
    refine wpAnyH_take (i := 30) (oi := ⟨some 44, _, _, _, _, _⟩) (v := ?_) rfl (by kernel_rfl) (by kernel_rfl) (by kernel_rfl) (fun _ _ _ h => h) (Or.inl ⟨by rfl, ?_⟩) (by assumption) ?_
    rotate_left
    · ((intro w hSw; (try dsimp only at hSw); go_simp); try with_reducible rfl)
    (try simp only [Act.put, List.setIfInBounds_toArray, List.set_cons_zero, List.set_cons_succ])
    refine wpAnyH_take (i := 31) (oi := ⟨some 4, _, _, _, _, _⟩) (v := ?_) rfl (by kernel_rfl) (by kernel_rfl) (by kernel_rfl) (fun _ _ _ h => h) (Or.inl ⟨by rfl, ?_⟩) (by assumption) ?_
    rotate_left
    · ((intro w hSw; (try dsimp only at hSw); go_simp); try with_reducible rfl)
    (try simp only [Act.put, List.setIfInBounds_toArray, List.set_cons_zero, List.set_cons_succ])
    refine wpAnyH_done (by kernel_rfl) ?_ _
    clear hHeld
    go_wp2_with fail
    go_ret
    exact ⟨_, rfl, ⟨fun h => (by cases h), fun h => absurd (HX2.out.2 (HE.out.1 h).2.1) (by decide)⟩, HB2.out⟩
  refine wpAnyH_take (i := 19) (oi := ⟨some 33, _, _, _, _, _⟩) (v := ?_) rfl (by kernel_rfl) (by kernel_rfl) (by kernel_rfl) (fun _ _ _ h => h) (Or.inl ⟨by rfl, ?_⟩) (by assumption) ?_
  rotate_left
  · ((intro w hSw; (try dsimp only at hSw); go_simp); try with_reducible rfl)
  (try simp only [Act.put, List.setIfInBounds_toArray, List.set_cons_zero, List.set_cons_succ])
  refine wpAnyH_take (i := 20) (oi := ⟨some 34, _, _, _, _, _⟩) (v := ?_) rfl (by kernel_rfl) (by kernel_rfl) (by kernel_rfl) (fun _ _ _ h => h) (Or.inl ⟨by rfl, ?_⟩) (by assumption) ?_
  rotate_left
  · ((intro w hSw; (try dsimp only at hSw); go_simp); try with_reducible rfl)
  (try simp only [Act.put, List.setIfInBounds_toArray, List.set_cons_zero, List.set_cons_succ])
  refine wpAnyH_take (i := 21) (oi := ⟨some 35, _, _, _, _, _⟩) (v := ?_) rfl (by kernel_rfl) (by kernel_rfl) (by kernel_rfl) (fun _ _ _ h => h) (Or.inl ⟨by rfl, ?_⟩) (by assumption) ?_
  rotate_left
  · ((intro w hSw; (try dsimp only at hSw); go_simp); try with_reducible rfl)
  (try simp only [Act.put, List.setIfInBounds_toArray, List.set_cons_zero, List.set_cons_succ])
  refine wpAnyH_take (i := 22) (oi := ⟨some 36, _, _, _, _, _⟩) (v := ?_) rfl (by kernel_rfl) (by kernel_rfl) (by kernel_rfl) (fun _ _ _ h => h) (Or.inl ⟨by rfl, ?_⟩) (by assumption) ?_
  rotate_left
  · ((intro w hSw; (try dsimp only at hSw); go_simp); try with_reducible rfl)
  (try simp only [Act.put, List.setIfInBounds_toArray, List.set_cons_zero, List.set_cons_succ])
  refine wpAnyH_take (i := 23) (oi := ⟨some 37, _, _, _, _, _⟩) (v := ?_) rfl (by kernel_rfl) (by kernel_rfl) (by kernel_rfl) (fun _ _ _ h => h) (Or.inl ⟨by rfl, ?_⟩) (by assumption) ?_
  rotate_left
  · ((intro w hSw; (try dsimp only at hSw); go_simp); try with_reducible rfl)
  (try simp only [Act.put, List.setIfInBounds_toArray, List.set_cons_zero, List.set_cons_succ])
  refine wpAnyH_take (i := 24) (oi := ⟨some 38, _, _, _, _, _⟩) (v := ?_) rfl (by kernel_rfl) (by kernel_rfl) (by kernel_rfl) (fun _ _ _ h => h) (Or.inl ⟨by rfl, ?_⟩) (by assumption) ?_
  rotate_left
  · ((intro w hSw; (try dsimp only at hSw); go_simp); try with_reducible rfl)
  (try simp only [Act.put, List.setIfInBounds_toArray, List.set_cons_zero, List.set_cons_succ])
  refine wpAnyH_take (i := 25) (oi := ⟨some 39, _, _, _, _, _⟩) (v := ?_) rfl (by kernel_rfl) (by kernel_rfl) (by kernel_rfl) (fun _ _ _ h => h) (Or.inl ⟨by rfl, ?_⟩) (by assumption) ?_
  rotate_left
  · ((intro w hSw; (try dsimp only at hSw); go_simp); try with_reducible rfl)
  (try simp only [Act.put, List.setIfInBounds_toArray, List.set_cons_zero, List.set_cons_succ])
  refine wpAnyH_take (i := 26) (oi := ⟨some 40, _, _, _, _, _⟩) (v := ?_) rfl (by kernel_rfl) (by kernel_rfl) (by kernel_rfl) (fun _ _ _ h => h) (Or.inl ⟨by rfl, ?_⟩) (by assumption) ?_
  rotate_left
  · ((intro w hSw; (try dsimp only at hSw); go_simp); try with_reducible rfl)
  (try simp only [Act.put, List.setIfInBounds_toArray, List.set_cons_zero, List.set_cons_succ])
  refine wpAnyH_take (i := 27) (oi := ⟨some 41, _, _, _, _, _⟩) (v := ?_) rfl (by kernel_rfl) (by kernel_rfl) (by kernel_rfl) (fun _ _ _ h => h) (Or.inl ⟨by rfl, ?_⟩) (by assumption) ?_
  rotate_left
  · ((intro w hSw; (try dsimp only at hSw); go_simp); try with_reducible rfl)
  (try simp only [Act.put, List.setIfInBounds_toArray, List.set_cons_zero, List.set_cons_succ])
  refine wpAnyH_take (i := 28) (oi := ⟨some 42, _, _, _, _, _⟩) (v := ?_) rfl (by kernel_rfl) (by kernel_rfl) (by kernel_rfl) (fun _ _ _ h => h) (Or.inl ⟨by rfl, ?_⟩) (by assumption) ?_
  rotate_left
  · ((intro w hSw; (try dsimp only at hSw); go_simp); try with_reducible rfl)
  (try simp only [Act.put, List.setIfInBounds_toArray, List.set_cons_zero, List.set_cons_succ])
  refine wpAnyH_ready (rs := [29]) (by kernel_rfl) (by simp) (AllReadyH.cons rfl (fun K hK => ?_) AllReadyH.nil)
  rw [if_pos (by rfl)]
  go_simp
  go_at_call 54
  refine (CF.out _ hHeld.1).mono ?_
  rintro e w3 ⟨b3, rfl, hb3, hbel3⟩
  have HX3 := Lib.hid hb3
  have HB3 := Lib.hid (keepB hHeld.1 hbel3)
  clear hb3 hbel3 hHeld
  refine hK.out _ _ (HSS.out _ HB3.out) (fun hHeld => ?_)
  clear hK K
  (try simp only [Act.put, List.setIfInBounds_toArray, List.set_cons_zero, List.set_cons_succ])
  refine wpAnyH_take (i := 30) (oi := ⟨some 44, _, _, _, _, _⟩) (v := ?_) rfl (by kernel_rfl) (by kernel_rfl) (by kernel_rfl) (fun _ _ _ h => h) (Or.inl ⟨by rfl, ?_⟩) (by assumption) ?_
  rotate_left
  · ((intro w hSw; (try dsimp only at hSw); go_simp); try with_reducible rfl)
  (try simp only [Act.put, List.setIfInBounds_toArray, List.set_cons_zero, List.set_cons_succ])
  refine wpAnyH_take (i := 31) (oi := ⟨some 4, _, _, _, _, _⟩) (v := ?_) rfl (by kernel_rfl) (by kernel_rfl) (by kernel_rfl) (fun _ _ _ h => h) (Or.inl ⟨by rfl, ?_⟩) (by assumption) ?_
  rotate_left
  · ((intro w hSw; (try dsimp only at hSw); go_simp); try with_reducible rfl)
  (try simp only [Act.put, List.setIfInBounds_toArray, List.set_cons_zero, List.set_cons_succ])
  refine wpAnyH_done (by kernel_rfl) ?_ _
  clear hHeld
  go_wp2_with fail
  go_ret
  exact ⟨_, rfl, ⟨fun h => HE.out.2 ⟨HX1.out.1 (by first | rfl | trivial), HX2.out.1 (by first | rfl | trivial), HX3.out.1 h⟩, fun h => HX3.out.2 (HE.out.1 h).2.2⟩, HB3.out⟩
end Go.Proofs.YtdmlogpaenbblaaDoor
