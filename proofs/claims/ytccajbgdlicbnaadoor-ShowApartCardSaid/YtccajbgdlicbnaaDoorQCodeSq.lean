/- Layer 5: the document's SameFunc: whether two functions are one, in what plays a part. -/
import Derived.Test.YtccajbgdlicbnaaDoorQCodeSf
import Derived.Test.YtccajbgdlicbnaaDoorQCodeSo
import Derived.Test.YtccajbgdlicbnaaDoorQT3

namespace Go.Proofs.YtccajbgdlicbnaaDoor
open Go.RowKit (wrap64 intOf Below)
set_option linter.unusedVariables false
set_option linter.unusedSimpArgs false
attribute [local go_sem ↓] Go.wp_at_zero Go.wp_at_succ

theorem rowV_at {α : Type} {Q : World → List Value → α → Prop} {k : Nat} {W : World} {a : Option Addr} {n c : Nat} {xs : List α} (h : RowV Q k W (.slice a n c) xs) (hn : 0 < n) :
    ∃ g off, a = some ⟨g, off, none⟩ ∧ g < W.heap.size ∧ ∀ i (h : i < xs.length), ∃ cs, cs.length = k ∧ (∀ j (hj : j < cs.length), W.cell? ⟨g, off + i * k + j, none⟩ = some cs[j]) ∧ Q W cs xs[i] := by
  obtain ⟨a', n', c', e, _, _, _, h⟩ := h
  cases e
  exact h hn
theorem OpQ.form {W : World} {cs : List Value} {y : OpD} (h : OpQ W cs y) : ∃ a n c, cs = [.int .i64 y.K, .int .i64 y.A, .int .i64 y.B, .int .i64 y.C, .int .i64 y.N, .string y.S, .slice a n c, .bool y.T] := by
  obtain ⟨l, rfl, _, _, _, _, _, _, a, n, c, rfl, _⟩ := h
  exact ⟨a, n, c, rfl⟩
/-- The cells of a block of a program that is read. -/
theorem BlockQ.form {W : World} {cs : List Value} {y : BlockD} (h : BlockQ W cs y) :
    ∃ pa pn pc oa on oc la ln lc ma mn mc, cs = [.slice pa pn pc, .slice oa on oc, .int .i64 y.fin.K, .int .i64 y.fin.A, .int .i64 y.fin.To, .int .i64 y.fin.Else, .slice la ln lc, .slice ma mn mc] ∧ y.ops.length = on := by
  obtain ⟨pv, ov, es, rfl, ⟨pa, pn, pc, rfl, _⟩, ⟨oa, on, oc, rfl, hl, _⟩, l1, m1, rfl, r1, r2, r3, r4, ⟨la, ln', lc, rfl, _⟩, ⟨ma, mn, mc, rfl, _⟩⟩ := h
  exact ⟨_, _, _, _, _, _, _, _, _, _, _, _, rfl, hl⟩
theorem BlockQ.params {W : World} {pa oa la ma : Option Addr} {pn pc on oc ln lc mn mc : Nat} {k x t l : Int} {y : BlockD} (h : BlockQ W [.slice pa pn pc, .slice oa on oc, .int .i64 k, .int .i64 x, .int .i64 t, .int .i64 l, .slice la ln lc, .slice ma mn mc] y) : NumsAt W pa pn y.params ∧ pn ≤ 140737488355328 := by
  obtain ⟨pv, ov, es, he, ⟨_, _, _, hp0, hp1, hp2, hp3, hp4⟩, _⟩ := h
  simp only [List.cons.injEq] at he
  obtain ⟨rfl, _⟩ := he
  cases hp0
  exact ⟨hp1, by omega⟩
theorem BlockQ.ops {W : World} {pa oa la ma : Option Addr} {pn pc on oc ln lc mn mc : Nat} {k x t l : Int} {y : BlockD} (h : BlockQ W [.slice pa pn pc, .slice oa on oc, .int .i64 k, .int .i64 x, .int .i64 t, .int .i64 l, .slice la ln lc, .slice ma mn mc] y) : RowV OpQ 8 W (.slice oa on oc) y.ops := by
  obtain ⟨pv, ov, es, he, _, ho, _⟩ := h
  simp only [List.cons.injEq] at he
  obtain ⟨_, rfl, _⟩ := he
  exact ho
theorem BlockQ.fin {W : World} {pa oa la ma : Option Addr} {pn pc on oc ln lc mn mc : Nat} {k x t l : Int} {y : BlockD} (h : BlockQ W [.slice pa pn pc, .slice oa on oc, .int .i64 k, .int .i64 x, .int .i64 t, .int .i64 l, .slice la ln lc, .slice ma mn mc] y) : EndQ W [.int .i64 k, .int .i64 x, .int .i64 t, .int .i64 l, .slice la ln lc, .slice ma mn mc] y.fin := by
  obtain ⟨pv, ov, es, he, _, _, hf⟩ := h
  simp only [List.cons.injEq] at he
  obtain ⟨_, _, rfl⟩ := he
  exact hf

/-- Two blocks that a round of a loop lays, in whatever order. -/
structure Two (w : World) (t : TypeId) (b b' : Nat) (C C' : Array Value) (u : World) : Prop where
  bel : Below w.heap.size w u
  ne : b ≠ b'
  at0 : u.heap[b]? = some (.cells C t (0, 0))
  at1 : u.heap[b']? = some (.cells C' t (0, 0))
theorem Two.of {w : World} {t : TypeId} {C C' : Array Value} : Two w t w.heap.size (w.heap.size + 1) C C' ((w.alloc (.cells C t)).alloc (.cells C' t)).drew :=
  have h := (Laid2B.start w t C C').drew
  ⟨h.bel, by omega, h.b0, h.b1⟩
theorem Two.swap {w : World} {t : TypeId} {C C' : Array Value} : Two w t (w.heap.size + 1) w.heap.size C C' ((w.alloc (.cells C' t)).alloc (.cells C t)).drew :=
  have h := (Laid2B.start w t C' C).drew
  ⟨h.bel, by omega, h.b1, h.b0⟩
theorem Two.lt {w u : World} {t : TypeId} {b b' : Nat} {C C' : Array Value} (h : Two w t b b' C C' u) : b < u.heap.size ∧ b' < u.heap.size := ⟨(Array.getElem?_eq_some_iff.1 h.at0).1, (Array.getElem?_eq_some_iff.1 h.at1).1⟩
theorem Two.step {w u u' : World} {t : TypeId} {b b' : Nat} {C C' : Array Value} (h : Two w t b b' C C' u) (hb : Below u.heap.size u u') : Two w t b b' C C' u' :=
  ⟨keepB h.bel hb, h.ne, (hb.block b h.lt.1).trans h.at0, (hb.block b' h.lt.2).trans h.at1⟩
theorem Two.c0 {w u : World} {t : TypeId} {b b' : Nat} {C C' : Array Value} (h : Two w t b b' C C' u) (j : Nat) : u.cell? ⟨b, j, none⟩ = C[j]? := by simp [World.cell?, h.at0]
theorem Two.c1 {w u : World} {t : TypeId} {b b' : Nat} {C C' : Array Value} (h : Two w t b b' C C' u) (j : Nat) : u.cell? ⟨b', j, none⟩ = C'[j]? := by simp [World.cell?, h.at1]
theorem take_map {α β : Type} (f : α → β) {xs ys : List α} {i : Nat} (h1 : i < xs.length) (h2 : i < ys.length) (h : (xs.take i).map f = (ys.take i).map f) (he : f xs[i] = f ys[i]) : (xs.take (i + 1)).map f = (ys.take (i + 1)).map f := by
  rw [List.take_succ_eq_append_getElem h1, List.take_succ_eq_append_getElem h2, List.map_append, List.map_append, h]
  simp [he]
theorem map_ne {α β : Type} (f : α → β) {xs ys : List α} {i : Nat} (h1 : i < xs.length) (h2 : i < ys.length) (he : ¬ f xs[i] = f ys[i]) : ¬ xs.map f = ys.map f := fun h => he (by
  have e1 : (xs.map f)[i]? = (ys.map f)[i]? := by rw [h]
  rw [List.getElem?_map, List.getElem?_map, List.getElem?_eq_getElem h1, List.getElem?_eq_getElem h2] at e1
  simpa using e1)
theorem keepB_drewN {B : Nat} {w u : World} (h : Below B w u) (q : Nat) : Below B w (u.drewN q) := below_drewN q h

set_option maxRecDepth 100000 in
set_option maxHeartbeats 8000000 in
theorem same_func (r1 r2 : Int) (ba1 ba2 : Option Addr) (bn1 bc1 bn2 bc2 : Nat) (x y : FuncD) (w : World) (hx : FuncQ w [.int .i64 r1, .slice ba1 bn1 bc1] x) (hy : FuncQ w [.int .i64 r2, .slice ba2 bn2 bc2] y) :
    Calls Tryd.prog 29 #[.agg #[.int .i64 r1, .slice ba1 bn1 bc1], .agg #[.int .i64 r2, .slice ba2 bn2 bc2]] w (TruthPost (plainFunc x = plainFunc y) w) := by
  obtain ⟨b1, he1, hr1, hb1⟩ := hx
  obtain ⟨b2, he2, hr2, hb2⟩ := hy
  simp only [List.cons.injEq, Value.int.injEq, true_and, and_true] at he1 he2
  obtain ⟨rfl, rfl⟩ := he1
  obtain ⟨rfl, rfl⟩ := he2
  have hl1 : x.blocks.length = bn1 := by obtain ⟨_, _, _, e, h, _⟩ := hb1; cases e; exact h
  have hl2 : y.blocks.length = bn2 := by obtain ⟨_, _, _, e, h, _⟩ := hb2; cases e; exact h
  have hm1 : bn1 ≤ 140737488351232 := by obtain ⟨_, _, _, e, _, _, h, _⟩ := hb1; cases e; exact h
  have hl0 := Laid2B.start w 34 #[.int .i64 x.ret, .slice ba1 bn1 bc1] #[.int .i64 y.ret, .slice ba2 bn2 bc2]
  have H1 := Lib.hid (hb1.since BlockQ.lasts hl0.bel)
  have H2 := Lib.hid (hb2.since BlockQ.lasts hl0.bel)
  have HL1 := Lib.hid hl1
  have HL2 := Lib.hid hl2
  have HL0 := Lib.hid hl0
  clear hb1 hb2 hl0 hl1 hl2 hr1 hr2
  by_cases hr : x.ret = y.ret
  rotate_left
  · have hne : (x.ret != y.ret) = true := by rw [bne_iff_ne]; exact hr
    have HF : RowKit.Hid (¬ plainFunc x = plainFunc y) := Lib.hid fun h => hr (by have h1 := congrArg FuncD.ret h; exact h1)
    have HB := Lib.hid HL0.out.bel
    clear hr HL0 H1 H2
    go_enter Tryd.func29, Tryd.ntmps29
    go_wp2_with fail
    go_ret
    exact ⟨false, rfl, ⟨fun h => (by cases h), fun h => absurd h HF.out⟩, HB.out⟩
  have hre : (x.ret != y.ret) = false := by rw [hr]; simp
  by_cases hn : bn1 = bn2
  rotate_left
  · have hne : ((bn1 : Int) != (bn2 : Int)) = true := by rw [bne_iff_ne]; omega
    have HF : RowKit.Hid (¬ plainFunc x = plainFunc y) := Lib.hid fun h => by
      have := congrArg (fun f => f.blocks.length) h
      simp only [plainFunc, List.length_map] at this
      rw [HL1.out, HL2.out] at this
      exact hn this
    have HB := Lib.hid HL0.out.bel
    clear hr hn HL0 H1 H2
    go_enter Tryd.func29, Tryd.ntmps29
    go_wp2_with fail
    go_ret
    exact ⟨false, rfl, ⟨fun h => (by cases h), fun h => absurd h HF.out⟩, HB.out⟩
  subst hn
  have HR := Lib.hid hr
  clear hr
  go_enter Tryd.func29, Tryd.ntmps29
  go_wp2_with fail
  generalize hW : ((w.alloc (.cells #[.int .i64 x.ret, .slice ba1 bn1 bc1] 34)).alloc (.cells #[.int .i64 y.ret, .slice ba2 bn1 bc2] 34)) = W at HL0 H1 H2 ⊢
  clear hW
  go_loopw [5] (fun iv wr => ∃ i : Nat, i ≤ bn1 ∧ iv = .int .i64 (i : Int) ∧ RowKit.Hid ((x.blocks.take i).map plainBlock = (y.blocks.take i).map plainBlock ∧ Below W.heap.size W wr)) (fun iv _ => bn1 - (intOf iv).toNat)
  case atStart => exact ⟨0, Nat.zero_le _, rfl, Lib.hid ⟨rfl, Below.refl _ _⟩⟩
  case round =>
    obtain ⟨i, hi, rfl, HI⟩ := hrel
    have hlr := HL0.out.step HI.out.2 HL0.out.size
    have hq1 : wr.cell? ⟨w.heap.size, 1, none⟩ = some (.slice ba1 bn1 bc1) := hlr.c0 1
    have hq2 : wr.cell? ⟨w.heap.size + 1, 1, none⟩ = some (.slice ba2 bn1 bc2) := hlr.c1 1
    have HLR := Lib.hid hlr
    clear hlr
    by_cases hlt : i < bn1
    rotate_left
    · obtain rfl : i = bn1 := by omega
      have HE : RowKit.Hid (plainFunc x = plainFunc y) := Lib.hid (by
        have h1 := HI.out.1
        rw [List.take_of_length_le (by rw [HL1.out]; exact Nat.le_refl _), List.take_of_length_le (by rw [HL2.out]; exact Nat.le_refl _)] at h1
        unfold plainFunc
        rw [HR.out, h1])
      have HB := Lib.hid HLR.out.bel
      go_wp2_with fail
      go_ret
      exact ⟨true, rfl, ⟨fun _ => HE.out, fun _ => rfl⟩, HB.out⟩
    obtain ⟨g1, o1, rfl, hg1, hcs1⟩ := rowV_at (H1.out.since BlockQ.lasts HI.out.2) (by omega)
    obtain ⟨g2, o2, rfl, hg2, hcs2⟩ := rowV_at (H2.out.since BlockQ.lasts HI.out.2) (by omega)
    have hi1 : i < x.blocks.length := by rw [HL1.out]; exact hlt
    have hi2 : i < y.blocks.length := by rw [HL2.out]; exact hlt
    obtain ⟨cs1, hc81, hcell1, hbq1⟩ := hcs1 i hi1
    obtain ⟨cs2, hc82, hcell2, hbq2⟩ := hcs2 i hi2
    obtain ⟨X, hX⟩ : ∃ X, X = x.blocks[i] := ⟨_, rfl⟩
    obtain ⟨Y, hY⟩ : ∃ Y, Y = y.blocks[i] := ⟨_, rfl⟩
    rw [← hX] at hbq1
    rw [← hY] at hbq2
    obtain ⟨pa1, pn1, pc1, oa1, on1, oc1, la1, ln1, lc1, ma1, mn1, mc1, rfl, hon1⟩ := hbq1.form
    obtain ⟨pa2, pn2, pc2, oa2, on2, oc2, la2, ln2, lc2, ma2, mn2, mc2, rfl, hon2⟩ := hbq2.form
    have HX := Lib.hid hX
    have HY := Lib.hid hY
    have HB1 := Lib.hid hbq1
    have HB2 := Lib.hid hbq2
    have HON1 := Lib.hid hon1
    have HON2 := Lib.hid hon2
    have hz := HLR.out.size
    have hz0 : w.heap.size < wr.heap.size := by omega
    have hz1 : w.heap.size + 1 < wr.heap.size := by omega
    have hd0 := hcell1 0 (by simp)
    have hd1 := hcell1 1 (by simp)
    have hd2 := hcell1 2 (by simp)
    have hd3 := hcell1 3 (by simp)
    have hd4 := hcell1 4 (by simp)
    have hd5 := hcell1 5 (by simp)
    have hd6 := hcell1 6 (by simp)
    have hd7 := hcell1 7 (by simp)
    have he0 := hcell2 0 (by simp)
    have he1 := hcell2 1 (by simp)
    have he2 := hcell2 2 (by simp)
    have he3 := hcell2 3 (by simp)
    have he4 := hcell2 4 (by simp)
    have he5 := hcell2 5 (by simp)
    have he6 := hcell2 6 (by simp)
    have he7 := hcell2 7 (by simp)
    simp only [Nat.add_zero, List.getElem_cons_zero, List.getElem_cons_succ] at hd0 hd1 hd2 hd3 hd4 hd5 hd6 hd7 he0 he1 he2 he3 he4 he5 he6 he7
    clear hcell1 hcell2 hcs1 hcs2 hbq1 hbq2 hX hY hon1 hon2 hc81 hc82
    go_upto_region 6 with fail
    go_cut [6, 7] (fun x6 x7 wc => ∃ b6 b7 : Nat, x6 = .pointer (some ⟨b6, 0, none⟩) ∧ x7 = .pointer (some ⟨b7, 0, none⟩) ∧ RowKit.Hid (Two wr 48 b6 b7 #[.slice pa1 pn1 pc1, .slice oa1 on1 oc1, .int .i64 X.fin.K, .int .i64 X.fin.A, .int .i64 X.fin.To, .int .i64 X.fin.Else, .slice la1 ln1 lc1, .slice ma1 mn1 mc1] #[.slice pa2 pn2 pc2, .slice oa2 on2 oc2, .int .i64 Y.fin.K, .int .i64 Y.fin.A, .int .i64 Y.fin.To, .int .i64 Y.fin.Else, .slice la2 ln2 lc2, .slice ma2 mn2 mc2] wc))
    case first =>
      go_region
      all_goals
        go_wp2_with fail
        go_meet
        first | exact ⟨_, _, rfl, rfl, Lib.hid Two.of⟩ | exact ⟨_, _, rfl, rfl, Lib.hid Two.swap⟩
    case rest =>
      obtain ⟨b6, b7, rfl, rfl, HT⟩ := hcut
      clear hd0 hd1 hd2 hd3 hd4 hd5 hd6 hd7 he0 he1 he2 he3 he4 he5 he6 he7
      have ht := HT.out
      have hd0 : wc.cell? ⟨b6, 0, none⟩ = some (.slice pa1 pn1 pc1) := ht.c0 0
      have he0 : wc.cell? ⟨b7, 0, none⟩ = some (.slice pa2 pn2 pc2) := ht.c1 0
      have hd1 : wc.cell? ⟨b6, 1, none⟩ = some (.slice oa1 on1 oc1) := ht.c0 1
      have he1 : wc.cell? ⟨b7, 1, none⟩ = some (.slice oa2 on2 oc2) := ht.c1 1
      have hd2 : wc.cell? ⟨b6, 2, none⟩ = some (.int .i64 X.fin.K) := ht.c0 2
      have he2 : wc.cell? ⟨b7, 2, none⟩ = some (.int .i64 Y.fin.K) := ht.c1 2
      have hd3 : wc.cell? ⟨b6, 3, none⟩ = some (.int .i64 X.fin.A) := ht.c0 3
      have he3 : wc.cell? ⟨b7, 3, none⟩ = some (.int .i64 Y.fin.A) := ht.c1 3
      have hd4 : wc.cell? ⟨b6, 4, none⟩ = some (.int .i64 X.fin.To) := ht.c0 4
      have he4 : wc.cell? ⟨b7, 4, none⟩ = some (.int .i64 Y.fin.To) := ht.c1 4
      have hd5 : wc.cell? ⟨b6, 5, none⟩ = some (.int .i64 X.fin.Else) := ht.c0 5
      have he5 : wc.cell? ⟨b7, 5, none⟩ = some (.int .i64 Y.fin.Else) := ht.c1 5
      have hd6 : wc.cell? ⟨b6, 6, none⟩ = some (.slice la1 ln1 lc1) := ht.c0 6
      have he6 : wc.cell? ⟨b7, 6, none⟩ = some (.slice la2 ln2 lc2) := ht.c1 6
      have hd7 : wc.cell? ⟨b6, 7, none⟩ = some (.slice ma1 mn1 mc1) := ht.c0 7
      have he7 : wc.cell? ⟨b7, 7, none⟩ = some (.slice ma2 mn2 mc2) := ht.c1 7
      have HP1 := Lib.hid ((BlockQ.lasts _ _ _ _ ht.bel HB1.out).params)
      have HP2 := Lib.hid ((BlockQ.lasts _ _ _ _ ht.bel HB2.out).params)
      have HBW := Lib.hid (keepB HLR.out.bel ht.bel)
      have HE1 : RowKit.Hid (∀ q, EndQ (wc.drewN q) [.int .i64 X.fin.K, .int .i64 X.fin.A, .int .i64 X.fin.To, .int .i64 X.fin.Else, .slice la1 ln1 lc1, .slice ma1 mn1 mc1] X.fin) := Lib.hid fun q => EndQ.lasts _ _ _ _ (below_drewN q (Below.refl wc.heap.size wc)) (BlockQ.lasts _ _ _ _ ht.bel HB1.out).fin
      have HE2 : RowKit.Hid (∀ q, EndQ (wc.drewN q) [.int .i64 Y.fin.K, .int .i64 Y.fin.A, .int .i64 Y.fin.To, .int .i64 Y.fin.Else, .slice la2 ln2 lc2, .slice ma2 mn2 mc2] Y.fin) := Lib.hid fun q => EndQ.lasts _ _ _ _ (below_drewN q (Below.refl wc.heap.size wc)) (BlockQ.lasts _ _ _ _ ht.bel HB2.out).fin
      have HO1 := Lib.hid ((BlockQ.lasts _ _ _ _ ht.bel HB1.out).ops)
      have HO2 := Lib.hid ((BlockQ.lasts _ _ _ _ ht.bel HB2.out).ops)
      have HNE : RowKit.Hid (¬ plainBlock X = plainBlock Y → ¬ plainFunc x = plainFunc y) := Lib.hid fun h e => by
        rw [HX.out, HY.out] at h
        exact map_ne plainBlock hi1 hi2 h (by have h1 := congrArg FuncD.blocks e; exact h1)
      clear ht
      by_cases hp : X.params = Y.params
      rotate_left
      · have HSP : RowKit.Hid (sameB X.params Y.params = false) := Lib.hid (decide_eq_false hp)
        have HF := Lib.hid (HNE.out (fun h => hp (by have h1 := congrArg BlockD.params h; exact h1)))
        clear hp
        go_wp2_with ((go_at_call 28; (with_reducible refine (ints_any pa1 pa2 pn1 pn2 pc1 pc2 X.params Y.params _ HP1.out.1 HP2.out.1 HP1.out.2 HP2.out.2).mono ?_); rintro e u1 ⟨rfl, q1, rfl⟩; rw [HSP.out]))
        go_ret
        exact ⟨false, rfl, ⟨fun h => (by cases h), fun h => absurd h HF.out⟩, below_drewN _ HBW.out⟩
      have HSP : RowKit.Hid (sameB X.params Y.params = true) := Lib.hid (decide_eq_true hp)
      have HPP := Lib.hid hp
      clear hp
      by_cases ho : on1 = on2
      rotate_left
      · have hne : ((on1 : Int) != (on2 : Int)) = true := by rw [bne_iff_ne]; omega
        have HF := Lib.hid (HNE.out (fun h => ho (by
          have h1 := congrArg (fun b => b.ops.length) h
          simp only [plainBlock, List.length_map] at h1
          rw [HON1.out, HON2.out] at h1
          exact h1)))
        clear ho
        go_wp2_with ((go_at_call 28; (with_reducible refine (ints_any pa1 pa2 pn1 pn2 pc1 pc2 X.params Y.params _ HP1.out.1 HP2.out.1 HP1.out.2 HP2.out.2).mono ?_); rintro e u1 ⟨rfl, q1, rfl⟩; rw [HSP.out]))
        go_ret
        exact ⟨false, rfl, ⟨fun h => (by cases h), fun h => absurd h HF.out⟩, below_drewN _ HBW.out⟩
      subst ho
      by_cases hf : plainEnd X.fin = plainEnd Y.fin
      rotate_left
      · have HSE := Lib.hid hf
        have HF := Lib.hid (HNE.out (fun h => hf (by have h1 := congrArg BlockD.fin h; exact h1)))
        clear hf
        go_wp2_with (first | (go_at_call 28; (with_reducible refine (ints_any pa1 pa2 pn1 pn2 pc1 pc2 X.params Y.params _ HP1.out.1 HP2.out.1 HP1.out.2 HP2.out.2).mono ?_); rintro e u1 ⟨rfl, q1, rfl⟩; rw [HSP.out]) | (go_at_call 50; (with_reducible refine (codeSf_any X.fin.K X.fin.A X.fin.To X.fin.Else la1 ln1 lc1 ma1 mn1 mc1 Y.fin.K Y.fin.A Y.fin.To Y.fin.Else la2 ln2 lc2 ma2 mn2 mc2 X.fin Y.fin _ (HE1.out q1) (HE2.out q1)).mono ?_); rintro e u2 ⟨b, rfl, hbe, hb2⟩; obtain rfl : b = false := by first | exact hbe.2 HSE.out | exact Bool.eq_false_iff.2 (fun h => HSE.out (hbe.1 h))))
        go_ret
        exact ⟨false, rfl, ⟨fun h => (by cases h), fun h => absurd h HF.out⟩, keepB (below_drewN _ HBW.out) hb2⟩
      have HSE := Lib.hid hf
      clear hf
      go_wp2_with (first | (go_at_call 28; (with_reducible refine (ints_any pa1 pa2 pn1 pn2 pc1 pc2 X.params Y.params _ HP1.out.1 HP2.out.1 HP1.out.2 HP2.out.2).mono ?_); rintro e u1 ⟨rfl, q1, rfl⟩; rw [HSP.out]) | (go_at_call 50; (with_reducible refine (codeSf_any X.fin.K X.fin.A X.fin.To X.fin.Else la1 ln1 lc1 ma1 mn1 mc1 Y.fin.K Y.fin.A Y.fin.To Y.fin.Else la2 ln2 lc2 ma2 mn2 mc2 X.fin Y.fin _ (HE1.out q1) (HE2.out q1)).mono ?_); rintro e u2 ⟨b, rfl, hbe, hb2⟩; obtain rfl : b = true := by first | exact hbe.2 HSE.out | exact Bool.eq_false_iff.2 (fun h => HSE.out (hbe.1 h))))
      have hbu := keepB (below_drewN q1 (Below.refl wc.heap.size wc)) hb2
      have HT2 := Lib.hid (HT.out.step hbu)
      have HO3 := Lib.hid (HO1.out.since OpQ.lasts hbu)
      have HO4 := Lib.hid (HO2.out.since OpQ.lasts hbu)
      have HBU := Lib.hid (keepB HBW.out hbu)
      clear hb2 hbu hbe hd0 hd1 hd2 hd3 hd4 hd5 hd6 hd7 he0 he1 he2 he3 he4 he5 he6 he7 HSP HE1 HE2 HP1 HP2 HT HO1 HO2 HBW
      have hom : on1 ≤ 140737488351232 := by obtain ⟨_, _, _, e, _, _, h, _⟩ := HO3.out; cases e; exact h
      go_loopw [8] (fun kv wk => ∃ k : Nat, k ≤ on1 ∧ kv = .int .i64 (k : Int) ∧ RowKit.Hid ((X.ops.take k).map plainOp = (Y.ops.take k).map plainOp ∧ Below u2.heap.size u2 wk)) (fun kv _ => on1 - (intOf kv).toNat)
      case atStart => exact ⟨0, Nat.zero_le _, rfl, Lib.hid ⟨rfl, Below.refl _ _⟩⟩
      case round =>
        obtain ⟨k, hk, rfl, HK⟩ := hrel
        have hT := HT2.out.step HK.out.2
        have hp6 : wr.cell? ⟨b6, 1, none⟩ = some (.slice oa1 on1 oc1) := hT.c0 1
        have hp7 : wr.cell? ⟨b7, 1, none⟩ = some (.slice oa2 on1 oc2) := hT.c1 1
        have HBK := Lib.hid (keepB HBU.out HK.out.2)
        clear hT
        by_cases hlk : k < on1
        · obtain ⟨g3, o3, rfl, hg3, hcs3⟩ := rowV_at (HO3.out.since OpQ.lasts HK.out.2) (by omega)
          obtain ⟨g4, o4, rfl, hg4, hcs4⟩ := rowV_at (HO4.out.since OpQ.lasts HK.out.2) (by omega)
          have hk1 : k < X.ops.length := by rw [HON1.out]; exact hlk
          have hk2 : k < Y.ops.length := by rw [HON2.out]; exact hlk
          obtain ⟨cs3, hc83, hcell3, hoq3⟩ := hcs3 k hk1
          obtain ⟨cs4, hc84, hcell4, hoq4⟩ := hcs4 k hk2
          obtain ⟨P, hP⟩ : ∃ P, P = X.ops[k] := ⟨_, rfl⟩
          obtain ⟨Q, hQ⟩ : ∃ Q, Q = Y.ops[k] := ⟨_, rfl⟩
          rw [← hP] at hoq3
          rw [← hQ] at hoq4
          obtain ⟨lPa, lPn, lPc, rfl⟩ := hoq3.form
          obtain ⟨lQa, lQn, lQc, rfl⟩ := hoq4.form
          have HP := Lib.hid hP
          have HQ := Lib.hid hQ
          have hm0 := hcell3 0 (by simp)
          have hn0 := hcell4 0 (by simp)
          have hm1 := hcell3 1 (by simp)
          have hn1 := hcell4 1 (by simp)
          have hm2 := hcell3 2 (by simp)
          have hn2 := hcell4 2 (by simp)
          have hm3 := hcell3 3 (by simp)
          have hn3 := hcell4 3 (by simp)
          have hm4 := hcell3 4 (by simp)
          have hn4 := hcell4 4 (by simp)
          have hm5 := hcell3 5 (by simp)
          have hn5 := hcell4 5 (by simp)
          have hm6 := hcell3 6 (by simp)
          have hn6 := hcell4 6 (by simp)
          have hm7 := hcell3 7 (by simp)
          have hn7 := hcell4 7 (by simp)
          simp only [Nat.add_zero, List.getElem_cons_zero, List.getElem_cons_succ] at hm0 hm1 hm2 hm3 hm4 hm5 hm6 hm7 hn0 hn1 hn2 hn3 hn4 hn5 hn6 hn7
          have HOA := Lib.hid (OpQ.lasts _ _ _ _ ((Below.refl wr.heap.size wr).drew) hoq3)
          have HOB := Lib.hid (OpQ.lasts _ _ _ _ ((Below.refl wr.heap.size wr).drew) hoq4)
          clear hcell3 hcell4 hcs3 hcs4 hoq3 hoq4 hP hQ hc83 hc84
          go_upto_region 12 with fail
          go_cut [81] (fun tc wd => ∃ b : Bool, tc = .bool (!b) ∧ RowKit.Hid ((b = true ↔ plainOp P = plainOp Q) ∧ Below wr.heap.size wr wd))
          case first =>
            go_region_law (rw [if_pos (by rfl)]; go_simp; go_at_call 51; (with_reducible refine (codeSo_any P.K P.A P.B P.C P.N P.S lPa lPn lPc P.T Q.K Q.A Q.B Q.C Q.N Q.S lQa lQn lQc Q.T P Q _ HOA.out HOB.out).mono ?_); rintro e w5 ⟨b5, rfl, hbb, hb5⟩)
            all_goals
              go_wp2_with fail
              go_meet
              exact ⟨b5, rfl, Lib.hid ⟨hbb, keepB ((Below.refl wr.heap.size wr).drew) hb5⟩⟩
          case rest =>
            obtain ⟨b5, rfl, HD⟩ := hcut
            clear hm0 hm1 hm2 hm3 hm4 hm5 hm6 hm7 hn0 hn1 hn2 hn3 hn4 hn5 hn6 hn7 hp6 hp7
            cases b5
            · have HF := Lib.hid (HNE.out (fun h => by
                have h1 := congrArg BlockD.ops h
                have h2 : ¬ plainOp P = plainOp Q := fun h => (by have := HD.out.1.2 h; cases this)
                rw [HP.out, HQ.out] at h2
                exact map_ne plainOp hk1 hk2 h2 h1))
              go_wp2_with fail
              go_ret
              exact ⟨false, rfl, ⟨fun h => (by cases h), fun h => absurd h HF.out⟩, keepB HBK.out HD.out.2⟩
            · have HT5 : RowKit.Hid ((X.ops.take (k + 1)).map plainOp = (Y.ops.take (k + 1)).map plainOp) := Lib.hid (by
                have h2 := HD.out.1.1 rfl
                rw [HP.out, HQ.out] at h2
                exact take_map plainOp hk1 hk2 HK.out.1 h2)
              go_wp2_with fail
              go_roundw
              case rel => exact ⟨k + 1, by omega, by go_num, Lib.hid ⟨HT5.out, keepB HK.out.2 HD.out.2⟩⟩
              case measure => simp [intOf]; omega
        · obtain rfl : k = on1 := by omega
          have HT6 : RowKit.Hid ((x.blocks.take (i + 1)).map plainBlock = (y.blocks.take (i + 1)).map plainBlock) := Lib.hid (by
            have h1 := HK.out.1
            rw [List.take_of_length_le (by rw [HON1.out]; exact Nat.le_refl _), List.take_of_length_le (by rw [HON2.out]; exact Nat.le_refl _)] at h1
            refine take_map plainBlock hi1 hi2 HI.out.1 ?_
            rw [← HX.out, ← HY.out]
            unfold plainBlock
            rw [HPP.out, h1, HSE.out])
          go_wp2_with fail
          go_roundw
          case rel => exact ⟨i + 1, by omega, by go_num, Lib.hid ⟨HT6.out, keepB (keepB HI.out.2 HT2.out.bel) HK.out.2⟩⟩
          case measure => simp [intOf]; omega
end Go.Proofs.YtccajbgdlicbnaaDoor
