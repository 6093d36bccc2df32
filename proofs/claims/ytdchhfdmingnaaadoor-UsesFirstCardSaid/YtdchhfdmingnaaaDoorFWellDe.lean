/- Layer 9: the document's end: whether a block's end is well made (mk_dend.py). -/
import Derived.Test.YtdchhfdmingnaaaDoorFT1
import Derived.Test.YtdchhfdmingnaaaDoorFT3
import Derived.Test.YtdchhfdmingnaaaDoorFWellDb
import Derived.Deep.DeepCutAuto
namespace Go.Proofs.YtdchhfdmingnaaaDoor
open Go.RowKit (wrap64 intOf Below)
set_option linter.unusedVariables false
set_option linter.unusedSimpArgs false
theorem blkD {W : World} {a : Option Addr} {n c : Nat} {f : FuncD} (h : RowV BlockQ 8 W (.slice a n c) f.blocks) {p : Nat} (hp : p < n) : ∃ (hx : p < f.blocks.length) (g off : Nat) (pa : Option Addr) (pn pc : Nat) (oa : Option Addr) (on oc : Nat) (la : Option Addr) (ln lc : Nat) (ma : Option Addr) (mn mc : Nat), a = some ⟨g, off, none⟩ ∧ g < W.heap.size ∧
    (∀ j, j < 8 → W.cell? ⟨g, off + p * 8 + j, none⟩ = (#[.slice pa pn pc, .slice oa on oc, .int .i64 (theEnd f p).K, .int .i64 (theEnd f p).A, .int .i64 (theEnd f p).To, .int .i64 (theEnd f p).Else, .slice la ln lc, .slice ma mn mc] : Array Value)[j]?) ∧
    NumsV W (.slice pa pn pc) (parL f p) ∧ RowV OpQ 8 W (.slice oa on oc) f.blocks[p].ops ∧ on = opsN f p ∧ NumsV W (.slice la ln lc) (theEnd f p).L ∧ NumsV W (.slice ma mn mc) (theEnd f p).M := by
  obtain ⟨a', n', c', e, hl, _, _, hrow⟩ := h
  cases e
  obtain ⟨g, off, rfl, hg, hcs⟩ := hrow (by omega)
  have hx : p < f.blocks.length := by omega
  obtain ⟨cs, h8, hc, pv, ov, es, rfl, hpv, hov, l, m, rfl, _, _, _, _, hL, hM⟩ := hcs p hx
  have hpv2 := hpv
  have hov2 := hov
  have hL2 := hL
  have hM2 := hM
  obtain ⟨pa, pn, pc, rfl, _⟩ := hpv
  obtain ⟨oa, on, oc, rfl, hol, _⟩ := hov
  obtain ⟨la, ln, lc, rfl, _⟩ := hL
  obtain ⟨ma, mn, mc, rfl, _⟩ := hM
  rw [theEnd_at hx, opsN_at hx, parL_at hx]
  refine ⟨hx, g, off, pa, pn, pc, oa, on, oc, la, ln, lc, ma, mn, mc, rfl, hg, fun j hj => ?_, hpv2, hov2, hol.symm, hL2, hM2⟩
  have hj' : j = 0 ∨ j = 1 ∨ j = 2 ∨ j = 3 ∨ j = 4 ∨ j = 5 ∨ j = 6 ∨ j = 7 := by omega
  rcases hj' with rfl | rfl | rfl | rfl | rfl | rfl | rfl | rfl <;> exact hc _ (by simp)
theorem tgVD_at {W : World} {e : EndD} {la : Option Addr} {ln lc : Nat} {ma : Option Addr} {mn mc : Nat} (hL : NumsV W (.slice la ln lc) e.L) (hM : NumsV W (.slice ma mn mc) e.M) :
    (tgV e.K e.To e.Else la ln lc ma mn mc).length = (tgts e).length ∧ ∀ i (h : i < (tgV e.K e.To e.Else la ln lc ma mn mc).length) (h' : i < (tgts e).length),
      (tgV e.K e.To e.Else la ln lc ma mn mc)[i].1 = (tgts e)[i].1 ∧ NumsV W (.slice (tgV e.K e.To e.Else la ln lc ma mn mc)[i].2.1 (tgV e.K e.To e.Else la ln lc ma mn mc)[i].2.2.1 (tgV e.K e.To e.Else la ln lc ma mn mc)[i].2.2.2) (tgts e)[i].2 := by
  have key : ∀ (l : List TgV) (t : List (Int × List Int)), (l = [(e.To, la, ln, lc)] ∧ t = [(e.To, e.L)]) ∨ (l = [(e.To, la, ln, lc), (e.Else, ma, mn, mc)] ∧ t = [(e.To, e.L), (e.Else, e.M)]) ∨ (l = [] ∧ t = []) →
      l.length = t.length ∧ ∀ i (h : i < l.length) (h' : i < t.length), l[i].1 = t[i].1 ∧ NumsV W (.slice l[i].2.1 l[i].2.2.1 l[i].2.2.2) t[i].2 := by
    rintro l t (⟨rfl, rfl⟩ | ⟨rfl, rfl⟩ | ⟨rfl, rfl⟩)
    · refine ⟨rfl, fun i h h' => ?_⟩
      match i, h with
      | 0, _ => exact ⟨rfl, hL⟩
    · refine ⟨rfl, fun i h h' => ?_⟩
      match i, h with
      | 0, _ => exact ⟨rfl, hL⟩
      | 1, _ => exact ⟨rfl, hM⟩
    · exact ⟨rfl, fun i h => absurd h (by simp)⟩
  refine key _ _ ?_
  unfold tgV tgts
  by_cases h0 : e.K = 0
  · exact .inl (by simp [h0])
  · by_cases h1 : e.K = 1
    · exact .inr (.inl (by simp [h1]))
    · exact .inr (.inr (by simp [h0, h1]))
theorem tgts_twoD (e : EndD) : (tgts e).length ≤ 2 := by
  unfold tgts
  repeat' split
  all_goals simp
theorem tgAtD_at {e : EndD} {i : Nat} (h : i < (tgts e).length) : tgAt e i = (tgts e)[i] := by unfold tgAt; rw [List.getElem?_eq_getElem h]
noncomputable def finX (f : FuncD) (T : List Int) (x : Nat) : Bool := (if (theEnd f x).K = 1 then valD f T x (opsN f x) (theEnd f x).A == 1 else true) && (if (theEnd f x).K = 3 then valD f T x (opsN f x) (theEnd f x).A == 0 else true)
noncomputable def finY (f : FuncD) (T : List Int) (x : Nat) : Bool := if (theEnd f x).K = 2 then (if f.ret = -1 then (theEnd f x).A == 0 else valD f T x (opsN f x) (theEnd f x).A == f.ret) else true
set_option maxRecDepth 100000 in
set_option maxHeartbeats 8000000 in
theorem dend_any {q g : Nat} {sa : Option Addr} {sn sc : Nat} {ca : Option Addr} {cn cc : Nat} {qa : Option Addr} {qn qc : Nat} {P : ProgD} {a : Option Addr} {n c : Nat} {f : FuncD} {ta : Option Addr} {tn tc : Nat} {T : List Int} (x : Nat) (hxn : x < n) (w : World) (h : CAt w q g sa sn sc ca cn cc qa qn qc P a n c f ta tn tc T) :
    Calls Tryd.prog 55 #[.pointer (some ⟨q, 0, none⟩), .int .i64 (x : Int)] w fun e w' => e = .returned (.bool (endD f T x)) ∧ Below w.heap.size w w' := by
  have HH : RowKit.Hid (∀ U, Below w.heap.size w U → CAt U q g sa sn sc ca cn cc qa qn qc P a n c f ta tn tc T) := Lib.hid fun U hU => h.since hU
  have HV : RowKit.Hid (∀ U (k : Nat) (v : Int), Below w.heap.size w U → Calls Tryd.prog 57 #[.pointer (some ⟨q, 0, none⟩), .int .i64 (x : Int), .int .i64 (k : Int), .int .i64 v] U (NumPost (valD f T x k v) U)) := Lib.hid fun U k v hU => dvalue_any x k v U (h.since hU)
  have HRW : RowKit.Hid (RowV BlockQ 8 w (.slice a n c) f.blocks) := Lib.hid (by
    obtain ⟨bv, he, _, hr⟩ := h.fun'
    simp only [List.cons.injEq, and_true] at he
    obtain ⟨_, rfl⟩ := he
    exact hr)
  have HN : RowKit.Hid (n = f.blocks.length) := Lib.hid (by obtain ⟨_, _, _, e, h, _⟩ := HRW.out; cases e; exact h.symm)
  have HC : RowKit.Hid (∀ U, Below w.heap.size w U → U.cell? ⟨q, 1, none⟩ = some (.int .i64 f.ret) ∧ U.cell? ⟨q, 2, none⟩ = some (.slice a n c)) := Lib.hid fun U hU => ⟨(h.since hU).c1, (h.since hU).c2⟩
  have hn5 : n ≤ 100000 := h.small
  clear h
  obtain ⟨hxl, gb, ob, pa, pn, pc, oa, on, oc, la, ln, lc, ma, mn, mc, rfl, hgb, hblk, _, hov, hon, hL, hM⟩ := blkD HRW.out hxn
  have HTG : RowKit.Hid ((tgV (theEnd f x).K (theEnd f x).To (theEnd f x).Else la ln lc ma mn mc).length = (tgts (theEnd f x)).length ∧ ∀ i (h : i < (tgV (theEnd f x).K (theEnd f x).To (theEnd f x).Else la ln lc ma mn mc).length) (h' : i < (tgts (theEnd f x)).length), (tgV (theEnd f x).K (theEnd f x).To (theEnd f x).Else la ln lc ma mn mc)[i].1 = (tgts (theEnd f x))[i].1 ∧ NumsV w (.slice (tgV (theEnd f x).K (theEnd f x).To (theEnd f x).Else la ln lc ma mn mc)[i].2.1 (tgV (theEnd f x).K (theEnd f x).To (theEnd f x).Else la ln lc ma mn mc)[i].2.2.1 (tgV (theEnd f x).K (theEnd f x).To (theEnd f x).Else la ln lc ma mn mc)[i].2.2.2) (tgts (theEnd f x))[i].2) := Lib.hid (tgVD_at hL hM)
  have HT2 := Lib.hid (tgts_twoD (theEnd f x))
  have CT : RowKit.Hid (∀ u, Calls Tryd.prog 41 #[.agg #[.int .i64 (theEnd f x).K, .int .i64 (theEnd f x).A, .int .i64 (theEnd f x).To, .int .i64 (theEnd f x).Else, .slice la ln lc, .slice ma mn mc]] u fun e w' => ∃ va vn vc, e = .returned (.slice va vn vc) ∧ OwnsT w' u.heap.size (.slice va vn vc) (tgV (theEnd f x).K (theEnd f x).To (theEnd f x).Else la ln lc ma mn mc) ∧ Below u.heap.size u w') := Lib.hid fun u => reftargets_any (theEnd f x).K (theEnd f x).A (theEnd f x).To (theEnd f x).Else la ln lc ma mn mc u
  have HE1 : RowKit.Hid (finX f T x = ((if (theEnd f x).K = 1 then valD f T x on (theEnd f x).A == 1 else true) && (if (theEnd f x).K = 3 then valD f T x on (theEnd f x).A == 0 else true))) := Lib.hid (by rw [hon]; rfl)
  have HE2 : RowKit.Hid (finY f T x = if (theEnd f x).K = 2 then (if f.ret = -1 then (theEnd f x).A == 0 else valD f T x on (theEnd f x).A == f.ret) else true) := Lib.hid (by rw [hon]; rfl)
  have HED : RowKit.Hid (endD f T x = (finX f T x && finY f T x && allK (fun i => targD f T x (tgAt (theEnd f x) i)) (tgts (theEnd f x)).length)) := Lib.hid rfl
  have HTA : RowKit.Hid (∀ i (h : i < (tgts (theEnd f x)).length), tgAt (theEnd f x) i = (tgts (theEnd f x))[i]) := Lib.hid fun i h => tgAtD_at h
  have HON := Lib.hid hon
  have hon8 : on ≤ 140737488351232 := by
    obtain ⟨_, _, _, e2, _, _, h8, _⟩ := hov
    cases e2
    exact h8
  have HB8 : RowKit.Hid (∀ U, Below w.heap.size w U → ∀ j, j < 8 → U.cell? ⟨gb, ob + x * 8 + j, none⟩ = (#[.slice pa pn pc, .slice oa on oc, .int .i64 (theEnd f x).K, .int .i64 (theEnd f x).A, .int .i64 (theEnd f x).To, .int .i64 (theEnd f x).Else, .slice la ln lc, .slice ma mn mc] : Array Value)[j]?) := Lib.hid fun U hU j hj => (hU.cell (p := ⟨gb, ob + x * 8 + j, none⟩) hgb).trans (hblk j hj)
  generalize tgts (theEnd f x) = TS at *
  generalize tgAt (theEnd f x) = TA at *
  generalize (theEnd f x).K = EK at *
  generalize (theEnd f x).A = EA at *
  generalize (theEnd f x).To = ET at *
  generalize (theEnd f x).Else = EE at *
  obtain ⟨rt, hrt⟩ : ∃ t, t = f.ret := ⟨_, rfl⟩
  rw [← hrt] at HE2 HC
  have hxz : (x : Int) < (n : Int) := by omega
  have hx0 : (0 : Int) ≤ (x : Int) := by omega
  have b0 : w.cell? ⟨gb, ob + x * 8, none⟩ = some (.slice pa pn pc) := HB8.out w (Below.refl _ _) 0 (by omega)
  have b1 : w.cell? ⟨gb, ob + x * 8 + 1, none⟩ = some (.slice oa on oc) := HB8.out w (Below.refl _ _) 1 (by omega)
  have b2 : w.cell? ⟨gb, ob + x * 8 + 2, none⟩ = some (.int .i64 EK) := HB8.out w (Below.refl _ _) 2 (by omega)
  have b3 : w.cell? ⟨gb, ob + x * 8 + 3, none⟩ = some (.int .i64 EA) := HB8.out w (Below.refl _ _) 3 (by omega)
  have b4 : w.cell? ⟨gb, ob + x * 8 + 4, none⟩ = some (.int .i64 ET) := HB8.out w (Below.refl _ _) 4 (by omega)
  have b5 : w.cell? ⟨gb, ob + x * 8 + 5, none⟩ = some (.int .i64 EE) := HB8.out w (Below.refl _ _) 5 (by omega)
  have b6 : w.cell? ⟨gb, ob + x * 8 + 6, none⟩ = some (.slice la ln lc) := HB8.out w (Below.refl _ _) 6 (by omega)
  have b7 : w.cell? ⟨gb, ob + x * 8 + 7, none⟩ = some (.slice ma mn mc) := HB8.out w (Below.refl _ _) 7 (by omega)
  obtain ⟨c1, c2⟩ := HC.out w (Below.refl _ _)
  clear hblk hgb hL hM hrt hon hov hxl
  go_enter Tryd.func55, Tryd.ntmps55
  go_upto_region 2 with fail
  obtain ⟨W1, hW1⟩ : ∃ u, u = w.alloc (.cells #[.slice pa pn pc, .slice oa on oc, .int .i64 EK, .int .i64 EA, .int .i64 ET, .int .i64 EE, .slice la ln lc, .slice ma mn mc] 57) := ⟨_, rfl⟩
  rw [← hW1]
  have hb1 : Below w.heap.size w W1 := by rw [hW1]; exact (Below.refl _ w).alloc (Nat.le_refl _) _
  have hs1 : w.heap.size < W1.heap.size := by rw [hW1]; simp
  have hc1 : ∀ j, W1.cell? ⟨w.heap.size, j, none⟩ = (#[.slice pa pn pc, .slice oa on oc, .int .i64 EK, .int .i64 EA, .int .i64 ET, .int .i64 EE, .slice la ln lc, .slice ma mn mc] : Array Value)[j]? := fun j => by rw [hW1]; exact World.cell?_alloc_mark _ _ _ _ _
  have hz1 : ∀ (o : Obj) j, (W1.alloc o).cell? ⟨w.heap.size, j, none⟩ = (#[.slice pa pn pc, .slice oa on oc, .int .i64 EK, .int .i64 EA, .int .i64 ET, .int .i64 EE, .slice la ln lc, .slice ma mn mc] : Array Value)[j]? := fun o j => (((Below.refl _ W1).alloc (Nat.le_refl _) o).cell (p := ⟨w.heap.size, j, none⟩) hs1).trans (hc1 j)
  have y1 : W1.cell? ⟨w.heap.size, 1, none⟩ = some (.slice oa on oc) := hc1 1
  have y2 : W1.cell? ⟨w.heap.size, 2, none⟩ = some (.int .i64 EK) := hc1 2
  have y3 : W1.cell? ⟨w.heap.size, 3, none⟩ = some (.int .i64 EA) := hc1 3
  have y4 : W1.cell? ⟨w.heap.size, 4, none⟩ = some (.int .i64 ET) := hc1 4
  have y5 : W1.cell? ⟨w.heap.size, 5, none⟩ = some (.int .i64 EE) := hc1 5
  have y6 : W1.cell? ⟨w.heap.size, 6, none⟩ = some (.slice la ln lc) := hc1 6
  have y7 : W1.cell? ⟨w.heap.size, 7, none⟩ = some (.slice ma mn mc) := hc1 7
  have z1 : ∀ o : Obj, (W1.alloc o).cell? ⟨w.heap.size, 1, none⟩ = some (.slice oa on oc) := fun o => hz1 o 1
  have z2 : ∀ o : Obj, (W1.alloc o).cell? ⟨w.heap.size, 2, none⟩ = some (.int .i64 EK) := fun o => hz1 o 2
  have z3 : ∀ o : Obj, (W1.alloc o).cell? ⟨w.heap.size, 3, none⟩ = some (.int .i64 EA) := fun o => hz1 o 3
  have z4 : ∀ o : Obj, (W1.alloc o).cell? ⟨w.heap.size, 4, none⟩ = some (.int .i64 ET) := fun o => hz1 o 4
  have z5 : ∀ o : Obj, (W1.alloc o).cell? ⟨w.heap.size, 5, none⟩ = some (.int .i64 EE) := fun o => hz1 o 5
  have z6 : ∀ o : Obj, (W1.alloc o).cell? ⟨w.heap.size, 6, none⟩ = some (.slice la ln lc) := fun o => hz1 o 6
  have z7 : ∀ o : Obj, (W1.alloc o).cell? ⟨w.heap.size, 7, none⟩ = some (.slice ma mn mc) := fun o => hz1 o 7
  have HNE : RowKit.Hid (∀ C : Array Value, Below w.heap.size w ((W1.alloc (.cells C 55)).drew) ∧ W1.heap.size < ((W1.alloc (.cells C 55)).drew).heap.size ∧ ∀ j, ((W1.alloc (.cells C 55)).drew).cell? ⟨W1.heap.size, j, none⟩ = C[j]?) := Lib.hid fun C => ⟨(hb1.alloc hb1.size _).drew, by show W1.heap.size < (W1.alloc (.cells C 55)).heap.size; simp, fun j => World.cell?_alloc_mark _ _ _ _ _⟩
  obtain ⟨p6, hp6⟩ : ∃ p, p = W1.heap.size := ⟨_, rfl⟩
  clear b0 b1 b2 b3 b4 b5 b6 b7 c1 c2 hc1 hz1 hW1 hb1 hs1
  go_cut [6, 7] (fun x6 x7 wc => x6 = .pointer (some ⟨p6, 0, none⟩) ∧ x7 = .int .i64 (on : Int) ∧ RowKit.Hid (Below w.heap.size w wc ∧ p6 < wc.heap.size ∧ ∀ j, wc.cell? ⟨p6, j, none⟩ = (#[.int .i64 EK, .int .i64 EA, .int .i64 ET, .int .i64 EE, .slice la ln lc, .slice ma mn mc] : Array Value)[j]?))
  case first =>
    as_aux_lemma =>
      go_region
      all_goals
        go_wp2_with fail
        go_meet
        exact ⟨by rw [hp6], rfl, Lib.hid (by rw [hp6]; exact HNE.out _)⟩
  case rest =>
    obtain ⟨rfl, rfl, HS⟩ := hcut
    clear y1 y2 y3 y4 y5 y6 y7 z1 z2 z3 z4 z5 z6 z7 HNE hp6
    obtain ⟨wb, hwb⟩ : ∃ v, v = wc := ⟨_, rfl⟩
    rw [← hwb] at HS ⊢
    clear hwb
    have HEC : RowKit.Hid (∀ U, Below wb.heap.size wb U → U.cell? ⟨p6, 0, none⟩ = some (.int .i64 EK) ∧ U.cell? ⟨p6, 1, none⟩ = some (.int .i64 EA) ∧ U.cell? ⟨p6, 2, none⟩ = some (.int .i64 ET) ∧ U.cell? ⟨p6, 3, none⟩ = some (.int .i64 EE) ∧ U.cell? ⟨p6, 4, none⟩ = some (.slice la ln lc) ∧ U.cell? ⟨p6, 5, none⟩ = some (.slice ma mn mc)) := Lib.hid fun U hU => ⟨(hU.cell (p := ⟨p6, 0, none⟩) HS.out.2.1).trans (HS.out.2.2 0), (hU.cell (p := ⟨p6, 1, none⟩) HS.out.2.1).trans (HS.out.2.2 1), (hU.cell (p := ⟨p6, 2, none⟩) HS.out.2.1).trans (HS.out.2.2 2), (hU.cell (p := ⟨p6, 3, none⟩) HS.out.2.1).trans (HS.out.2.2 3), (hU.cell (p := ⟨p6, 4, none⟩) HS.out.2.1).trans (HS.out.2.2 4), (hU.cell (p := ⟨p6, 5, none⟩) HS.out.2.1).trans (HS.out.2.2 5)⟩
    have HBW : RowKit.Hid (∀ U, Below wb.heap.size wb U → Below w.heap.size w U) := Lib.hid fun U hU => HS.out.1.trans (hU.mono HS.out.1.size)
    obtain ⟨y0, y1, -⟩ := HEC.out wb (Below.refl _ _)
    go_upto_region 3 with fail
    go_cut [50] (fun x50 wc => ∃ b : Bool, x50 = .bool b ∧ RowKit.Hid (finX f T x = !b ∧ Below wb.heap.size wb wc))
    case first =>
      as_aux_lemma =>
        by_cases h1 : EK = 1
        · have k1 : (EK == 1) = true := by rw [h1]; rfl
          have k3 : (EK == 3) = false := by rw [h1]; rfl
          have HF : RowKit.Hid (finX f T x = (valD f T x on EA == 1)) := Lib.hid (by rw [HE1.out, if_pos h1, if_neg (by omega), Bool.and_true])
          clear h1
          by_cases hv : valD f T x on EA = 1
          · have HF2 : RowKit.Hid (finX f T x = !false) := Lib.hid (by rw [HF.out, hv]; rfl)
            have CV := Lib.hid (HV.out wb on EA HS.out.1)
            rw [hv] at CV
            clear hv
            go_wp2_with (go_at_call 57; (with_reducible refine CV.out.mono ?_); rintro e w2 ⟨rfl, hb⟩; obtain ⟨y0, y1, -⟩ := HEC.out w2 hb; have HB2 := Lib.hid hb; clear hb)
            go_meet
            exact ⟨_, rfl, Lib.hid ⟨HF2.out, HB2.out⟩⟩
          · have HF2 : RowKit.Hid (finX f T x = !true) := Lib.hid (by rw [HF.out]; simpa using hv)
            have CV := Lib.hid (HV.out wb on EA HS.out.1)
            obtain ⟨vv, hvv⟩ : ∃ v, v = valD f T x on EA := ⟨_, rfl⟩
            rw [← hvv] at CV hv
            have hvb : (vv != 1) = true := by rw [bne_iff_ne]; exact hv
            clear hv hvv
            go_wp2_with (go_at_call 57; (with_reducible refine CV.out.mono ?_); rintro e w2 ⟨rfl, hb⟩; have HB2 := Lib.hid hb; clear hb)
            go_meet
            exact ⟨_, rfl, Lib.hid ⟨HF2.out, HB2.out⟩⟩
        · have k1 : (EK == 1) = false := by simpa using h1
          by_cases h3 : EK = 3
          · have k3 : (EK == 3) = true := by rw [h3]; rfl
            have HF : RowKit.Hid (finX f T x = (valD f T x on EA == 0)) := Lib.hid (by rw [HE1.out, if_neg h1, if_pos h3, Bool.true_and])
            clear h1 h3
            by_cases hv : valD f T x on EA = 0
            · have HF2 : RowKit.Hid (finX f T x = !false) := Lib.hid (by rw [HF.out, hv]; rfl)
              have CV := Lib.hid (HV.out wb on EA HS.out.1)
              rw [hv] at CV
              clear hv
              go_wp2_with (go_at_call 57; (with_reducible refine CV.out.mono ?_); rintro e w2 ⟨rfl, hb⟩; have HB2 := Lib.hid hb; clear hb)
              go_meet
              exact ⟨_, rfl, Lib.hid ⟨HF2.out, HB2.out⟩⟩
            · have HF2 : RowKit.Hid (finX f T x = !true) := Lib.hid (by rw [HF.out]; simpa using hv)
              have CV := Lib.hid (HV.out wb on EA HS.out.1)
              obtain ⟨vv, hvv⟩ : ∃ v, v = valD f T x on EA := ⟨_, rfl⟩
              rw [← hvv] at CV hv
              have hvb : (vv != 0) = true := by rw [bne_iff_ne]; exact hv
              clear hv hvv
              go_wp2_with (go_at_call 57; (with_reducible refine CV.out.mono ?_); rintro e w2 ⟨rfl, hb⟩; have HB2 := Lib.hid hb; clear hb)
              go_meet
              exact ⟨_, rfl, Lib.hid ⟨HF2.out, HB2.out⟩⟩
          · have k3 : (EK == 3) = false := by simpa using h3
            have HF2 : RowKit.Hid (finX f T x = !false) := Lib.hid (by rw [HE1.out, if_neg h1, if_neg h3]; rfl)
            clear h1 h3
            go_wp2_with fail
            go_meet
            exact ⟨_, rfl, Lib.hid ⟨HF2.out, Below.refl _ _⟩⟩
    case rest =>
      obtain ⟨bad1, rfl, HX1⟩ := hcut
      obtain ⟨wd, hwd⟩ : ∃ v, v = wc := ⟨_, rfl⟩
      rw [← hwd] at HX1 ⊢
      clear hwd y0 y1
      cases bad1 with
      | true =>
        have HR : RowKit.Hid (endD f T x = false) := Lib.hid (by rw [HED.out, HX1.out.1]; rfl)
        go_wp2_with fail
        go_ret
        exact ⟨by rw [HR.out]; rfl, HBW.out _ HX1.out.2⟩
      | false =>
        obtain ⟨y0, y1, -⟩ := HEC.out wd HX1.out.2
        obtain ⟨c1, c2⟩ := HC.out wd (HBW.out _ HX1.out.2)
        go_upto_region 5 with fail
        go_cut [88] (fun x88 wc => ∃ b : Bool, x88 = .bool b ∧ RowKit.Hid (finY f T x = !b ∧ Below wd.heap.size wd wc))
        case first =>
          as_aux_lemma =>
            by_cases h2 : EK = 2
            · have k2 : (EK == 2) = true := by rw [h2]; rfl
              by_cases hr : rt = -1
              · have kr : (rt == -1) = true := by rw [hr]; rfl
                have kn : (rt != -1) = false := by rw [hr]; rfl
                have HF : RowKit.Hid (finY f T x = (EA == 0)) := Lib.hid (by rw [HE2.out, if_pos h2, if_pos hr])
                have HQ : RowKit.Hid (∀ d, Below wd.heap.size wd (wd.drewN d)) := Lib.hid fun d => belowD_drewN d (Below.refl _ _)
                clear h2 hr
                by_cases ha : EA = 0
                · have ka : (EA != 0) = false := by rw [ha]; rfl
                  have HF2 : RowKit.Hid (finY f T x = !false) := Lib.hid (by rw [HF.out, ha]; rfl)
                  clear ha
                  go_quiet (fail)
                  go_wp2_with fail
                  go_meet
                  exact ⟨_, rfl, Lib.hid ⟨HF2.out, HQ.out _⟩⟩
                · have ka : (EA != 0) = true := by rw [bne_iff_ne]; exact ha
                  have HF2 : RowKit.Hid (finY f T x = !true) := Lib.hid (by rw [HF.out]; simpa using ha)
                  clear ha
                  go_quiet (fail)
                  go_wp2_with fail
                  go_meet
                  exact ⟨_, rfl, Lib.hid ⟨HF2.out, HQ.out _⟩⟩
              · have kr : (rt == -1) = false := by simpa using hr
                have kn : (rt != -1) = true := by rw [bne_iff_ne]; exact hr
                have CV := Lib.hid (fun U hU => HV.out U on EA (HBW.out _ (HX1.out.2.trans (Below.mono hU HX1.out.2.size))))
                obtain ⟨vv, hvv⟩ : ∃ v, v = valD f T x on EA := ⟨_, rfl⟩
                have HF2 : RowKit.Hid (finY f T x = !(vv != rt)) := Lib.hid (by rw [HE2.out, if_pos h2, if_neg hr, hvv, bne, Bool.not_not])
                rw [← hvv] at CV
                have HSS : RowKit.Hid (∀ U, Below wd.heap.size wd U → (U.cell? ⟨p6, 0, none⟩ = some (.int .i64 EK) ∧ U.cell? ⟨p6, 1, none⟩ = some (.int .i64 EA)) ∧ U.cell? ⟨q, 1, none⟩ = some (.int .i64 rt)) := Lib.hid fun U hU => ⟨⟨(HEC.out U (HX1.out.2.trans (hU.mono HX1.out.2.size))).1, (HEC.out U (HX1.out.2.trans (hU.mono HX1.out.2.size))).2.1⟩, (HC.out U (HBW.out _ (HX1.out.2.trans (hU.mono HX1.out.2.size)))).1⟩
                clear h2 hr hvv y0 y1 c1 c2
                refine wp_region_T (S := (fun u : World => (u.cell? ⟨p6, 0, none⟩ = some (.int .i64 EK) ∧ u.cell? ⟨p6, 1, none⟩ = some (.int .i64 EA)) ∧ u.cell? ⟨q, 1, none⟩ = some (.int .i64 rt))) 38 (by kernel_rfl) (HSS.out _ (Below.refl _ wd).drew) (fun hHeld => ?_)
                refine wpAnyT_takeW (i := 0) (oi := ⟨some 51, _, _, _, _, _⟩) (v := ?_) rfl (by kernel_rfl) (by kernel_rfl) (by kernel_rfl) (fun _ _ _ h => h) (Or.inl ⟨by rfl, ?_⟩) ?_
                rotate_left
                · ((intro w _; go_simp); try with_reducible rfl)
                (try simp only [Act.put, List.setIfInBounds_toArray, List.set_cons_zero, List.set_cons_succ])
                refine wpAnyT_take (i := 1) (oi := ⟨some 52, _, _, _, _, _⟩) (v := ?_) 8 rfl (by kernel_rfl) (by kernel_rfl) (by kernel_rfl) (by kernel_rfl) (by kernel_rfl) (fun _ _ _ h => h) (Or.inl ⟨by rfl, ?_⟩) (by assumption) ?_
                rotate_left
                · ((intro w hSw; (try dsimp only at hSw); go_simp); try with_reducible rfl)
                (try simp only [Act.put, List.setIfInBounds_toArray, List.set_cons_zero, List.set_cons_succ])
                refine wpAnyT_takeW (i := 2) (oi := ⟨some 53, _, _, _, _, _⟩) (v := ?_) rfl (by kernel_rfl) (by kernel_rfl) (by kernel_rfl) (fun _ _ _ h => h) (Or.inl ⟨by rfl, ?_⟩) ?_
                rotate_left
                · ((intro w _; go_simp); try with_reducible rfl)
                (try simp only [Act.put, List.setIfInBounds_toArray, List.set_cons_zero, List.set_cons_succ])
                refine wpAnyT_takeW (i := 3) (oi := ⟨some 54, _, _, _, _, _⟩) (v := ?_) rfl (by kernel_rfl) (by kernel_rfl) (by kernel_rfl) (fun _ _ _ h => h) (Or.inl ⟨by rfl, ?_⟩) ?_
                rotate_left
                · ((intro w _; go_simp); try with_reducible rfl)
                (try simp only [Act.put, List.setIfInBounds_toArray, List.set_cons_zero, List.set_cons_succ])
                refine wpAnyT_takeW (i := 4) (oi := ⟨some 55, _, _, _, _, _⟩) (v := ?_) rfl (by kernel_rfl) (by kernel_rfl) (by kernel_rfl) (fun _ _ _ h => h) (Or.inl ⟨by rfl, ?_⟩) ?_
                rotate_left
                · ((intro w _; go_simp); try with_reducible rfl)
                (try simp only [Act.put, List.setIfInBounds_toArray, List.set_cons_zero, List.set_cons_succ])
                refine wpAnyT_takeW (i := 5) (oi := ⟨some 56, _, _, _, _, _⟩) (v := ?_) rfl (by kernel_rfl) (by kernel_rfl) (by kernel_rfl) (fun _ _ _ h => h) (Or.inl ⟨by rfl, ?_⟩) ?_
                rotate_left
                · ((intro w _; go_simp); try with_reducible rfl)
                (try simp only [Act.put, List.setIfInBounds_toArray, List.set_cons_zero, List.set_cons_succ])
                refine wpAnyT_takeW (i := 6) (oi := ⟨some 57, _, _, _, _, _⟩) (v := ?_) rfl (by kernel_rfl) (by kernel_rfl) (by kernel_rfl) (fun _ _ _ h => h) (Or.inl ⟨by rfl, ?_⟩) ?_
                rotate_left
                · ((intro w _; go_simp); try with_reducible rfl)
                (try simp only [Act.put, List.setIfInBounds_toArray, List.set_cons_zero, List.set_cons_succ])
                refine wpAnyT_takeW (i := 7) (oi := ⟨some 58, _, _, _, _, _⟩) (v := ?_) rfl (by kernel_rfl) (by kernel_rfl) (by kernel_rfl) (fun _ _ _ h => h) (Or.inl ⟨by rfl, ?_⟩) ?_
                rotate_left
                · ((intro w _; go_simp); try with_reducible rfl)
                (try simp only [Act.put, List.setIfInBounds_toArray, List.set_cons_zero, List.set_cons_succ])
                refine wpAnyT_take (i := 8) (oi := ⟨some 59, _, _, _, _, _⟩) (v := ?_) 8 rfl (by kernel_rfl) (by kernel_rfl) (by kernel_rfl) (by kernel_rfl) (by kernel_rfl) (fun _ _ _ h => h) (Or.inl ⟨by rfl, ?_⟩) (by assumption) ?_
                rotate_left
                · ((intro w hSw; (try dsimp only at hSw); go_simp); try with_reducible rfl)
                (try simp only [Act.put, List.setIfInBounds_toArray, List.set_cons_zero, List.set_cons_succ])
                refine wpAnyT_takeW (i := 9) (oi := ⟨some 60, _, _, _, _, _⟩) (v := ?_) rfl (by kernel_rfl) (by kernel_rfl) (by kernel_rfl) (fun _ _ _ h => h) (Or.inl ⟨by rfl, ?_⟩) ?_
                rotate_left
                · ((intro w _; go_simp); try with_reducible rfl)
                (try simp only [Act.put, List.setIfInBounds_toArray, List.set_cons_zero, List.set_cons_succ])
                refine wpAnyT_takeW (i := 10) (oi := ⟨some 61, _, _, _, _, _⟩) (v := ?_) rfl (by kernel_rfl) (by kernel_rfl) (by kernel_rfl) (fun _ _ _ h => h) (Or.inl ⟨by rfl, ?_⟩) ?_
                rotate_left
                · ((intro w _; go_simp); try with_reducible rfl)
                (try simp only [Act.put, List.setIfInBounds_toArray, List.set_cons_zero, List.set_cons_succ])
                refine wpAnyT_takeW (i := 11) (oi := ⟨some 62, _, _, _, _, _⟩) (v := undef) rfl (by kernel_rfl) (by kernel_rfl) (by kernel_rfl) (fun _ _ _ h => h) (Or.inr ⟨by rfl, rfl⟩) ?_
                (try simp only [Act.put, List.setIfInBounds_toArray, List.set_cons_zero, List.set_cons_succ])
                refine wpAnyT_takeW (i := 12) (oi := ⟨some 63, _, _, _, _, _⟩) (v := undef) rfl (by kernel_rfl) (by kernel_rfl) (by kernel_rfl) (fun _ _ _ h => h) (Or.inr ⟨by rfl, rfl⟩) ?_
                (try simp only [Act.put, List.setIfInBounds_toArray, List.set_cons_zero, List.set_cons_succ])
                refine wpAnyT_takeW (i := 13) (oi := ⟨some 64, _, _, _, _, _⟩) (v := undef) rfl (by kernel_rfl) (by kernel_rfl) (by kernel_rfl) (fun _ _ _ h => h) (Or.inr ⟨by rfl, rfl⟩) ?_
                (try simp only [Act.put, List.setIfInBounds_toArray, List.set_cons_zero, List.set_cons_succ])
                refine wpAnyT_takeW (i := 14) (oi := ⟨some 65, _, _, _, _, _⟩) (v := ?_) rfl (by kernel_rfl) (by kernel_rfl) (by kernel_rfl) (fun _ _ _ h => h) (Or.inl ⟨by rfl, ?_⟩) ?_
                rotate_left
                · ((intro w _; go_simp); try with_reducible rfl)
                (try simp only [Act.put, List.setIfInBounds_toArray, List.set_cons_zero, List.set_cons_succ])
                refine wpAnyT_takeW (i := 15) (oi := ⟨some 66, _, _, _, _, _⟩) (v := ?_) rfl (by kernel_rfl) (by kernel_rfl) (by kernel_rfl) (fun _ _ _ h => h) (Or.inl ⟨by rfl, ?_⟩) ?_
                rotate_left
                · ((intro w _; go_simp); try with_reducible rfl)
                (try simp only [Act.put, List.setIfInBounds_toArray, List.set_cons_zero, List.set_cons_succ])
                refine wpAnyT_takeW (i := 16) (oi := ⟨some 67, _, _, _, _, _⟩) (v := ?_) rfl (by kernel_rfl) (by kernel_rfl) (by kernel_rfl) (fun _ _ _ h => h) (Or.inl ⟨by rfl, ?_⟩) ?_
                rotate_left
                · ((intro w _; go_simp); try with_reducible rfl)
                (try simp only [Act.put, List.setIfInBounds_toArray, List.set_cons_zero, List.set_cons_succ])
                refine wpAnyT_takeW (i := 17) (oi := ⟨some 68, _, _, _, _, _⟩) (v := ?_) rfl (by kernel_rfl) (by kernel_rfl) (by kernel_rfl) (fun _ _ _ h => h) (Or.inl ⟨by rfl, ?_⟩) ?_
                rotate_left
                · ((intro w _; go_simp); try with_reducible rfl)
                (try simp only [Act.put, List.setIfInBounds_toArray, List.set_cons_zero, List.set_cons_succ])
                refine wpAnyT_takeW (i := 18) (oi := ⟨some 69, _, _, _, _, _⟩) (v := ?_) rfl (by kernel_rfl) (by kernel_rfl) (by kernel_rfl) (fun _ _ _ h => h) (Or.inl ⟨by rfl, ?_⟩) ?_
                rotate_left
                · ((intro w _; go_simp); try with_reducible rfl)
                (try simp only [Act.put, List.setIfInBounds_toArray, List.set_cons_zero, List.set_cons_succ])
                refine wpAnyT_takeW (i := 19) (oi := ⟨some 70, _, _, _, _, _⟩) (v := ?_) rfl (by kernel_rfl) (by kernel_rfl) (by kernel_rfl) (fun _ _ _ h => h) (Or.inl ⟨by rfl, ?_⟩) ?_
                rotate_left
                · ((intro w _; go_simp); try with_reducible rfl)
                (try simp only [Act.put, List.setIfInBounds_toArray, List.set_cons_zero, List.set_cons_succ])
                refine wpAnyT_take (i := 20) (oi := ⟨some 71, _, _, _, _, _⟩) (v := ?_) 8 rfl (by kernel_rfl) (by kernel_rfl) (by kernel_rfl) (by kernel_rfl) (by kernel_rfl) (fun _ _ _ h => h) (Or.inl ⟨by rfl, ?_⟩) (by assumption) ?_
                rotate_left
                · ((intro w hSw; (try dsimp only at hSw); go_simp); try with_reducible rfl)
                (try simp only [Act.put, List.setIfInBounds_toArray, List.set_cons_zero, List.set_cons_succ])
                refine wpAnyT_takeW (i := 21) (oi := ⟨some 72, _, _, _, _, _⟩) (v := ?_) rfl (by kernel_rfl) (by kernel_rfl) (by kernel_rfl) (fun _ _ _ h => h) (Or.inl ⟨by rfl, ?_⟩) ?_
                rotate_left
                · ((intro w _; go_simp); try with_reducible rfl)
                (try simp only [Act.put, List.setIfInBounds_toArray, List.set_cons_zero, List.set_cons_succ])
                refine wpAnyT_takeW (i := 22) (oi := ⟨some 73, _, _, _, _, _⟩) (v := ?_) rfl (by kernel_rfl) (by kernel_rfl) (by kernel_rfl) (fun _ _ _ h => h) (Or.inl ⟨by rfl, ?_⟩) ?_
                rotate_left
                · ((intro w _; go_simp); try with_reducible rfl)
                (try simp only [Act.put, List.setIfInBounds_toArray, List.set_cons_zero, List.set_cons_succ])
                refine wpAnyT_takeW (i := 23) (oi := ⟨some 74, _, _, _, _, _⟩) (v := ?_) rfl (by kernel_rfl) (by kernel_rfl) (by kernel_rfl) (fun _ _ _ h => h) (Or.inl ⟨by rfl, ?_⟩) ?_
                rotate_left
                · ((intro w _; go_simp); try with_reducible rfl)
                (try simp only [Act.put, List.setIfInBounds_toArray, List.set_cons_zero, List.set_cons_succ])
                refine wpAnyT_takeW (i := 24) (oi := ⟨some 75, _, _, _, _, _⟩) (v := ?_) rfl (by kernel_rfl) (by kernel_rfl) (by kernel_rfl) (fun _ _ _ h => h) (Or.inl ⟨by rfl, ?_⟩) ?_
                rotate_left
                · ((intro w _; go_simp); try with_reducible rfl)
                (try simp only [Act.put, List.setIfInBounds_toArray, List.set_cons_zero, List.set_cons_succ])
                refine wpAnyT_takeW (i := 25) (oi := ⟨some 76, _, _, _, _, _⟩) (v := ?_) rfl (by kernel_rfl) (by kernel_rfl) (by kernel_rfl) (fun _ _ _ h => h) (Or.inl ⟨by rfl, ?_⟩) ?_
                rotate_left
                · ((intro w _; go_simp); try with_reducible rfl)
                (try simp only [Act.put, List.setIfInBounds_toArray, List.set_cons_zero, List.set_cons_succ])
                refine wpAnyT_takeW (i := 26) (oi := ⟨some 77, _, _, _, _, _⟩) (v := ?_) rfl (by kernel_rfl) (by kernel_rfl) (by kernel_rfl) (fun _ _ _ h => h) (Or.inl ⟨by rfl, ?_⟩) ?_
                rotate_left
                · ((intro w _; go_simp); try with_reducible rfl)
                (try simp only [Act.put, List.setIfInBounds_toArray, List.set_cons_zero, List.set_cons_succ])
                refine wpAnyT_take (i := 27) (oi := ⟨some 78, _, _, _, _, _⟩) (v := ?_) 8 rfl (by kernel_rfl) (by kernel_rfl) (by kernel_rfl) (by kernel_rfl) (by kernel_rfl) (fun _ _ _ h => h) (Or.inl ⟨by rfl, ?_⟩) (by assumption) ?_
                rotate_left
                · ((intro w hSw; (try dsimp only at hSw); go_simp); try with_reducible rfl)
                (try simp only [Act.put, List.setIfInBounds_toArray, List.set_cons_zero, List.set_cons_succ])
                refine wpAnyT_takeW (i := 29) (oi := ⟨some 80, _, _, _, _, _⟩) (v := ?_) rfl (by kernel_rfl) (by kernel_rfl) (by kernel_rfl) (fun _ _ _ h => h) (Or.inl ⟨by rfl, ?_⟩) ?_
                rotate_left
                · ((intro w _; go_simp); try with_reducible rfl)
                (try simp only [Act.put, List.setIfInBounds_toArray, List.set_cons_zero, List.set_cons_succ])
                refine wpAnyT_takeW (i := 30) (oi := ⟨some 81, _, _, _, _, _⟩) (v := ?_) rfl (by kernel_rfl) (by kernel_rfl) (by kernel_rfl) (fun _ _ _ h => h) (Or.inl ⟨by rfl, ?_⟩) ?_
                rotate_left
                · ((intro w _; go_simp); try with_reducible rfl)
                (try simp only [Act.put, List.setIfInBounds_toArray, List.set_cons_zero, List.set_cons_succ])
                refine wpAnyT_takeW (i := 31) (oi := ⟨some 82, _, _, _, _, _⟩) (v := ?_) rfl (by kernel_rfl) (by kernel_rfl) (by kernel_rfl) (fun _ _ _ h => h) (Or.inl ⟨by rfl, ?_⟩) ?_
                rotate_left
                · ((intro w _; go_simp); try with_reducible rfl)
                (try simp only [Act.put, List.setIfInBounds_toArray, List.set_cons_zero, List.set_cons_succ])
                refine wpAnyT_takeW (i := 32) (oi := ⟨some 83, _, _, _, _, _⟩) (v := ?_) rfl (by kernel_rfl) (by kernel_rfl) (by kernel_rfl) (fun _ _ _ h => h) (Or.inl ⟨by rfl, ?_⟩) ?_
                rotate_left
                · ((intro w _; go_simp); try with_reducible rfl)
                (try simp only [Act.put, List.setIfInBounds_toArray, List.set_cons_zero, List.set_cons_succ])
                refine wpAnyT_take (i := 33) (oi := ⟨some 84, _, _, _, _, _⟩) (v := ?_) 8 rfl (by kernel_rfl) (by kernel_rfl) (by kernel_rfl) (by kernel_rfl) (by kernel_rfl) (fun _ _ _ h => h) (Or.inl ⟨by rfl, ?_⟩) (by assumption) ?_
                rotate_left
                · ((intro w hSw; (try dsimp only at hSw); go_simp); try with_reducible rfl)
                (try simp only [Act.put, List.setIfInBounds_toArray, List.set_cons_zero, List.set_cons_succ])
                refine wpAnyT_one (i := 28) (by kernel_rfl) rfl (fun K hK => ?_)
                rw [if_pos (by rfl)]
                go_simp
                (with_reducible refine (CV.out _ (Below.refl _ _).drew).mono ?_)
                rintro e w9 ⟨rfl, hb⟩
                have HB9 : RowKit.Hid (Below wd.heap.size wd w9) := Lib.hid (((Below.refl _ wd).drew).trans hb)
                clear hb
                refine hK.out _ _ (HSS.out _ HB9.out) (fun hHeld => ?_)
                clear hK K
                (try simp only [Act.put, List.setIfInBounds_toArray, List.set_cons_zero, List.set_cons_succ])
                refine wpAnyT_takeW (i := 34) (oi := ⟨some 85, _, _, _, _, _⟩) (v := ?_) rfl (by kernel_rfl) (by kernel_rfl) (by kernel_rfl) (fun _ _ _ h => h) (Or.inl ⟨by rfl, ?_⟩) ?_
                rotate_left
                · ((intro w _; go_simp); try with_reducible rfl)
                (try simp only [Act.put, List.setIfInBounds_toArray, List.set_cons_zero, List.set_cons_succ])
                refine wpAnyT_takeW (i := 35) (oi := ⟨some 86, _, _, _, _, _⟩) (v := ?_) rfl (by kernel_rfl) (by kernel_rfl) (by kernel_rfl) (fun _ _ _ h => h) (Or.inl ⟨by rfl, ?_⟩) ?_
                rotate_left
                · ((intro w _; go_simp); try with_reducible rfl)
                (try simp only [Act.put, List.setIfInBounds_toArray, List.set_cons_zero, List.set_cons_succ])
                refine wpAnyT_takeW (i := 36) (oi := ⟨some 87, _, _, _, _, _⟩) (v := ?_) rfl (by kernel_rfl) (by kernel_rfl) (by kernel_rfl) (fun _ _ _ h => h) (Or.inl ⟨by rfl, ?_⟩) ?_
                rotate_left
                · ((intro w _; go_simp); try with_reducible rfl)
                (try simp only [Act.put, List.setIfInBounds_toArray, List.set_cons_zero, List.set_cons_succ])
                refine wpAnyT_takeW (i := 37) (oi := ⟨some 88, _, _, _, _, _⟩) (v := ?_) rfl (by kernel_rfl) (by kernel_rfl) (by kernel_rfl) (fun _ _ _ h => h) (Or.inl ⟨by rfl, ?_⟩) ?_
                rotate_left
                · ((intro w _; go_simp); try with_reducible rfl)
                (try simp only [Act.put, List.setIfInBounds_toArray, List.set_cons_zero, List.set_cons_succ])
                refine wpAnyT_done (by kernel_rfl) ?_
                go_wp2_with fail
                go_meet
                exact ⟨_, rfl, Lib.hid ⟨HF2.out, HB9.out⟩⟩
            · have k2 : (EK == 2) = false := by simpa using h2
              have HF2 : RowKit.Hid (finY f T x = !false) := Lib.hid (by rw [HE2.out, if_neg h2]; rfl)
              have HQ : RowKit.Hid (∀ d, Below wd.heap.size wd (wd.drewN d)) := Lib.hid fun d => belowD_drewN d (Below.refl _ _)
              clear h2
              go_quiet (fail)
              go_wp2_with fail
              go_meet
              exact ⟨_, rfl, Lib.hid ⟨HF2.out, HQ.out _⟩⟩
        case rest =>
          obtain ⟨bad2, rfl, HX2⟩ := hcut
          obtain ⟨we, hwe⟩ : ∃ v, v = wc := ⟨_, rfl⟩
          rw [← hwe] at HX2 ⊢
          clear hwe y0 y1 c1 c2
          have HBE : RowKit.Hid (Below wb.heap.size wb we) := Lib.hid (HX1.out.2.trans (HX2.out.2.mono HX1.out.2.size))
          cases bad2 with
          | true =>
            have HR : RowKit.Hid (endD f T x = false) := Lib.hid (by rw [HED.out, HX2.out.1]; simp)
            go_wp2_with fail
            go_ret
            exact ⟨by rw [HR.out]; rfl, HBW.out _ HBE.out⟩
          | false =>
            have HED2 : RowKit.Hid (endD f T x = allK (fun i => targD f T x (TA i)) TS.length) := Lib.hid (by rw [HED.out, HX1.out.1, HX2.out.1]; rfl)
            obtain ⟨y0, y1, y2, y3, y4, y5⟩ := HEC.out we HBE.out
            clear HX1 HX2 HE1 HE2 HED
            go_upto_region 8 with (go_at_call 41; (with_reducible refine (CT.out _).mono ?_); rintro e w8 ⟨va, vn, vc, rfl, ho, hb⟩; have HO8 := Lib.hid ho; have HB9 := Lib.hid hb; clear ho hb)
            clear y0 y1 y2 y3 y4 y5 CT
            have HW8 : RowKit.Hid (Below w.heap.size w w8) := Lib.hid (HBW.out _ (HBE.out.trans (HB9.out.mono HBE.out.size)))
            generalize tgV EK ET EE la ln lc ma mn mc = TV at *
            have hvn : vn = TV.length := HO8.out.read.1
            have hvb : vn ≤ 2 := by rw [hvn, HTG.out.1]; exact HT2.out
            have HVL : RowKit.Hid (vn = TV.length ∧ TV.length = TS.length) := Lib.hid ⟨hvn, HTG.out.1⟩
            clear hvn
            go_wp2_with fail
            go_loopw [9] (fun v9 wr => ∃ i : Nat, i ≤ vn ∧ v9 = .int .i64 (i : Int) ∧ RowKit.Hid (Below w8.heap.size w8 wr ∧ allK (fun i => targD f T x (TA i)) i = true)) (fun v9 _ => vn - (intOf v9).toNat)
            case atStart => exact ⟨0, Nat.zero_le _, rfl, Lib.hid ⟨Below.refl _ _, rfl⟩⟩
            case round =>
              as_aux_lemma =>
                obtain ⟨i, hi, rfl, HI⟩ := hrel
                obtain ⟨wo, hwo⟩ : ∃ u, u = wr := ⟨_, rfl⟩
                rw [← hwo] at HI ⊢
                clear hwo
                by_cases hlt : i < vn
                · have hltz : (i : Int) < (vn : Int) := by omega
                  have hi0 : (0 : Int) ≤ (i : Int) := by omega
                  have hil : i < TV.length := by have := HVL.out.1; omega
                  have hit : i < TS.length := by have := HVL.out.2; omega
                  obtain ⟨hto, hlv⟩ := HTG.out.2 i hil hit
                  obtain ⟨gt, rfl, hgB, hgl, hcel⟩ := HO8.out.read.2 (by omega)
                  obtain ⟨t0, t1⟩ := hcel i hil
                  have HTT : RowKit.Hid (TA i = TS[i]) := Lib.hid (HTA.out i hit)
                  obtain ⟨Z, hZ⟩ : ∃ Z, Z = TV[i] := ⟨_, rfl⟩
                  rw [← hZ] at hto hlv t0 t1
                  obtain ⟨z1, ka, kn, kc⟩ := Z
                  simp only [] at hto hlv t0 t1
                  obtain ⟨⟨to', L⟩, hTS⟩ : ∃ Y, Y = TS[i] := ⟨_, rfl⟩
                  rw [← hTS] at hto hlv HTT
                  simp only at hto hlv
                  subst hto
                  have HT8 : RowKit.Hid (∀ U, Below w8.heap.size w8 U → U.cell? ⟨gt, i * 2, none⟩ = some (.int .i64 z1) ∧ U.cell? ⟨gt, i * 2 + 1, none⟩ = some (.slice ka kn kc)) := Lib.hid fun U hU => ⟨(hU.cell (p := ⟨gt, i * 2, none⟩) hgl).trans t0, (hU.cell (p := ⟨gt, i * 2 + 1, none⟩) hgl).trans t1⟩
                  obtain ⟨_, _, _, hle, hl1, hl0, hl8, _⟩ := hlv
                  cases hle
                  have HLN := Lib.hid hl1
                  have HLL : RowKit.Hid (L.length = kn) := Lib.hid hl1.1
                  have hkn8 : kn ≤ 17592186043904 := by omega
                  have HQ : RowKit.Hid (∀ d, Below w8.heap.size w8 (wo.drewN d)) := Lib.hid fun d => belowD_drewN d HI.out.1
                  have HIL := Lib.hid hlt
                  have HTD : RowKit.Hid (targD f T x (TA i) = (decide (1 ≤ z1 ∧ z1 < (f.blocks.length : Int)) && decide (L.length = (parL f z1.toNat).length) && allK (fun j => valD f T x on (nth L j) != -1 && valD f T x on (nth L j) == nth (parL f z1.toNat) j) L.length)) := Lib.hid (by rw [HTT.out, HON.out]; rfl)
                  obtain ⟨t0, t1⟩ := HT8.out wo HI.out.1
                  obtain ⟨-, c2⟩ := HC.out wo (HW8.out.trans (HI.out.1.mono HW8.out.size))
                  clear hl1 hl0 hl8 hTS hZ hil hit hcel hgB hgl
                  by_cases hz1 : z1 < 1
                  · have HR : RowKit.Hid (endD f T x = false) := Lib.hid (by rw [HED2.out]; refine allK_no (by have := HVL.out; have := HIL.out; omega) (i := i) ?_; rw [HTD.out, decide_eq_false (by omega)]; rfl)
                    go_upto_region 11 with fail
                    go_quiet (fail)
                    go_wp2_with fail
                    go_ret
                    exact ⟨by rw [HR.out]; rfl, HW8.out.trans ((HQ.out _).mono HW8.out.size)⟩
                  · obtain ⟨p, rfl⟩ : ∃ p : Nat, z1 = (p : Int) := ⟨z1.toNat, by omega⟩
                    have hp1 : ¬ ((p : Int) < 1) := hz1
                    have hp0 : (0 : Int) ≤ (p : Int) := by omega
                    by_cases hpn : p < n
                    rotate_left
                    · have hpz : (n : Int) ≤ (p : Int) := by omega
                      have hpz2 : ¬ ((p : Int) < (n : Int)) := by omega
                      have HR : RowKit.Hid (endD f T x = false) := Lib.hid (by rw [HED2.out]; refine allK_no (by have := HVL.out; have := HIL.out; omega) (i := i) ?_; rw [HTD.out, decide_eq_false (by have := HN.out; omega)]; rfl)
                      go_upto_region 11 with fail
                      go_quiet (fail)
                      go_wp2_with fail
                      go_ret
                      exact ⟨by rw [HR.out]; rfl, HW8.out.trans ((HQ.out _).mono HW8.out.size)⟩
                    · have hpz : (p : Int) < (n : Int) := by omega
                      obtain ⟨hpl, gb2, ob2, ra, rn, rc, _, _, _, _, _, _, _, _, _, he2, hgb2, hblk2, hpv, _⟩ := blkD HRW.out hpn
                      cases he2
                      have hb2 := hblk2 0 (by omega)
                      obtain ⟨_, _, _, hre, hr1, hr0, hr8, _⟩ := hpv
                      cases hre
                      have HPC : RowKit.Hid (∀ U, Below w.heap.size w U → U.cell? ⟨gb, ob + p * 8, none⟩ = some (.slice ra rn rc)) := Lib.hid fun U hU => (hU.cell (p := ⟨gb, ob + p * 8, none⟩) hgb2).trans hb2
                      have HRN := Lib.hid hr1
                      have HRL : RowKit.Hid ((parL f p).length = rn) := Lib.hid hr1.1
                      have hrn8 : rn ≤ 17592186043904 := by omega
                      have q0 := HPC.out wo (HW8.out.trans (HI.out.1.mono HW8.out.size))
                      have HTD2 : RowKit.Hid (targD f T x (TA i) = (decide (L.length = (parL f p).length) && allK (fun j => valD f T x on (nth L j) != -1 && valD f T x on (nth L j) == nth (parL f p) j) L.length)) := Lib.hid (by rw [HTD.out, Int.toNat_natCast, decide_eq_true (show 1 ≤ (p : Int) ∧ (p : Int) < (f.blocks.length : Int) by have := HN.out; omega), Bool.true_and])
                      clear hb2 hblk2 hgb2 hr1 hr0 hr8 hz1
                      by_cases hlen : kn = rn
                      rotate_left
                      · have hne : ((kn : Int) != (rn : Int)) = true := by rw [bne_iff_ne]; omega
                        have HR : RowKit.Hid (endD f T x = false) := Lib.hid (by rw [HED2.out]; refine allK_no (by have := HVL.out; have := HIL.out; omega) (i := i) ?_; rw [HTD2.out, decide_eq_false (by have := HLL.out; have := HRL.out; omega)]; rfl)
                        clear hlen
                        go_upto_region 11 with fail
                        go_quiet (fail)
                        go_wp2_with fail
                        go_ret
                        exact ⟨by rw [HR.out]; rfl, HW8.out.trans ((HQ.out _).mono HW8.out.size)⟩
                      · have hne : ((kn : Int) != (rn : Int)) = false := by rw [hlen]; simp
                        have HTD3 : RowKit.Hid (targD f T x (TA i) = allK (fun j => valD f T x on (nth L j) != -1 && valD f T x on (nth L j) == nth (parL f p) j) kn) := Lib.hid (by rw [HTD2.out, decide_eq_true (show L.length = (parL f p).length by have := HLL.out; have := HRL.out; omega), HLL.out]; rfl)
                        have HLE := Lib.hid hlen
                        clear hlen
                        go_upto_region 11 with fail
                        go_quiet (fail)
                        go_wp2_with fail
                        clear t0 t1 c2 q0
                        go_loopw [10] (fun v10 wr => ∃ j : Nat, j ≤ kn ∧ v10 = .int .i64 (j : Int) ∧ RowKit.Hid (Below w8.heap.size w8 wr ∧ allK (fun j => valD f T x on (nth L j) != -1 && valD f T x on (nth L j) == nth (parL f p) j) j = true)) (fun v10 _ => kn - (intOf v10).toNat)
                        case atStart => exact ⟨0, Nat.zero_le _, rfl, Lib.hid ⟨HQ.out _, rfl⟩⟩
                        case round =>
                          as_aux_lemma =>
                            obtain ⟨j, hj, rfl, HJ⟩ := hrel
                            obtain ⟨wz, hwz⟩ : ∃ u, u = wr := ⟨_, rfl⟩
                            rw [← hwz] at HJ ⊢
                            clear hwz
                            have HJW : RowKit.Hid (Below w.heap.size w wz) := Lib.hid (HW8.out.trans (HJ.out.1.mono HW8.out.size))
                            obtain ⟨t0, t1⟩ := HT8.out wz HJ.out.1
                            by_cases hjk : j < kn
                            · have hjz : (j : Int) < (kn : Int) := by omega
                              have hj0 : (0 : Int) ≤ (j : Int) := by omega
                              have hjr : (j : Int) < (rn : Int) := by have := HLE.out; omega
                              have hjl : j < L.length := by have := HLL.out; omega
                              have hjp : j < (parL f p).length := by have := HRL.out; have := HLE.out; omega
                              obtain ⟨gk, ok, rfl, hgk, hck⟩ := HLN.out.2 (by omega)
                              obtain ⟨gr, orr, rfl, hgr, hcr⟩ := HRN.out.2 (by have := HLE.out; omega)
                              have l0 : wz.cell? ⟨gk, ok + j, none⟩ = some (.int .i64 (nth L j)) := by rw [HJW.out.cell (p := ⟨gk, ok + j, none⟩) hgk, hck j hjl, nth_is hjl]; rfl
                              have HR0 : RowKit.Hid (∀ U, Below w.heap.size w U → U.cell? ⟨gr, orr + j, none⟩ = some (.int .i64 (nth (parL f p) j))) := Lib.hid fun U hU => by rw [hU.cell (p := ⟨gr, orr + j, none⟩) hgr, hcr j hjp, nth_is hjp]; rfl
                              have CV := Lib.hid (HV.out wz on (nth L j) HJW.out)
                              have HJK := Lib.hid hjk
                              obtain ⟨vv, hvv⟩ : ∃ v, v = valD f T x on (nth L j) := ⟨_, rfl⟩
                              rw [← hvv] at CV
                              have HVV := Lib.hid hvv
                              obtain ⟨pr, hpr⟩ : ∃ v, v = nth (parL f p) j := ⟨_, rfl⟩
                              rw [← hpr] at HR0
                              have HPR := Lib.hid hpr
                              clear hck hcr hgk hgr hjl hjp hvv hpr
                              go_upto_region 17 with (go_at_call 57; (with_reducible refine CV.out.mono ?_); rintro e w11 ⟨rfl, hb⟩; have HB11 := Lib.hid hb; clear hb)
                              have HJ11 : RowKit.Hid (Below w8.heap.size w8 w11) := Lib.hid (HJ.out.1.trans (HB11.out.mono HJ.out.1.size))
                              have HQ11 : RowKit.Hid (∀ d, Below w8.heap.size w8 (w11.drewN d)) := Lib.hid fun d => belowD_drewN d HJ11.out
                              have HW11 : RowKit.Hid (Below w.heap.size w w11) := Lib.hid (HW8.out.trans (HJ11.out.mono HW8.out.size))
                              clear t0 t1 l0
                              obtain ⟨t0, t1⟩ := HT8.out w11 HJ11.out
                              obtain ⟨-, c2⟩ := HC.out w11 HW11.out
                              have q0 := HPC.out w11 HW11.out
                              have r0 := HR0.out w11 HW11.out
                              by_cases hv1 : vv = -1
                              · have hvb : (vv == -1) = true := by rw [hv1]; rfl
                                have HR : RowKit.Hid (endD f T x = false) := Lib.hid (by rw [HED2.out]; refine allK_no (by have := HVL.out; have := HIL.out; omega) (i := i) ?_; rw [HTD3.out]; refine allK_no HJK.out ?_; rw [← HVV.out, hv1]; rfl)
                                clear hv1
                                go_quiet (fail)
                                go_wp2_with fail
                                go_ret
                                exact ⟨by rw [HR.out]; rfl, HW8.out.trans ((HQ11.out _).mono HW8.out.size)⟩
                              · have hvb : (vv == -1) = false := by simpa using hv1
                                by_cases hv2 : vv = pr
                                · have hvc : (vv != pr) = false := by rw [hv2]; simp
                                  have HOK : RowKit.Hid ((valD f T x on (nth L j) != -1 && valD f T x on (nth L j) == nth (parL f p) j) = true) := Lib.hid (by rw [← HVV.out, ← HPR.out, hv2, bne, ← hv2, hvb]; simp)
                                  clear hv1 hv2
                                  go_quiet (fail)
                                  go_wp2_with fail
                                  go_roundw
                                  case rel => exact ⟨j + 1, HJK.out, by go_num, Lib.hid ⟨HQ11.out _, allK_more HJ.out.2 HOK.out⟩⟩
                                  case measure => have := HJK.out; simp [intOf]; omega
                                · have hvc : (vv != pr) = true := by rw [bne_iff_ne]; exact hv2
                                  have HR : RowKit.Hid (endD f T x = false) := Lib.hid (by rw [HED2.out]; refine allK_no (by have := HVL.out; have := HIL.out; omega) (i := i) ?_; rw [HTD3.out]; refine allK_no HJK.out ?_; rw [← HVV.out, ← HPR.out, beq_eq_false_iff_ne.2 hv2]; simp)
                                  clear hv1 hv2
                                  go_quiet (fail)
                                  go_wp2_with fail
                                  go_ret
                                  exact ⟨by rw [HR.out]; rfl, HW8.out.trans ((HQ11.out _).mono HW8.out.size)⟩
                            · obtain rfl : j = kn := by omega
                              have hge : ¬ ((j : Int) < (j : Int)) := by omega
                              have HOK : RowKit.Hid (targD f T x (TA i) = true) := Lib.hid (by rw [HTD3.out]; exact HJ.out.2)
                              go_wp2_with fail
                              go_roundw
                              case rel => exact ⟨i + 1, HIL.out, by go_num, Lib.hid ⟨HJ.out.1, allK_more HI.out.2 HOK.out⟩⟩
                              case measure => have := HIL.out; simp [intOf]; omega
                · obtain rfl : i = vn := by omega
                  have hge : ¬ ((i : Int) < (i : Int)) := by omega
                  have HR : RowKit.Hid (endD f T x = true) := Lib.hid (by rw [HED2.out, ← HVL.out.2, ← HVL.out.1]; exact HI.out.2)
                  go_wp2_with fail
                  go_ret
                  exact ⟨by rw [HR.out]; rfl, HW8.out.trans (HI.out.1.mono HW8.out.size)⟩
end Go.Proofs.YtdchhfdmingnaaaDoor
