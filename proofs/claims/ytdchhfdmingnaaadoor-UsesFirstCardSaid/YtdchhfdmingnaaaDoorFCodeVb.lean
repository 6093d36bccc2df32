/- Layer 5: the document's writer (W): an end (mk_vb.py). -/
import Derived.Test.YtdchhfdmingnaaaDoorFCodeSs
import Derived.Test.YtdchhfdmingnaaaDoorFT6

namespace Go.Proofs.YtdchhfdmingnaaaDoor
open Go.RowKit (wrap64 intOf Below)
set_option linter.unusedVariables false
set_option linter.unusedSimpArgs false
attribute [local go_sem ↓] Go.wp_at_zero Go.wp_at_succ
theorem Wrote.dead {a b : Out} {l l1 l2 : List UInt8} {y y1 : Int} (h : Wrote a l y l1 y1) (h1 : y1 ≠ 0) : Wrote (a.and b) l y l2 y1 := by
  refine ⟨h.1, fun hy => ?_⟩
  cases a with
  | ok m => exact absurd ((h.2 hy).1 m rfl).1 h1
  | no e => exact ⟨fun m hm => by simp at hm, fun e' he => by simp only [Out.no_and, Out.no.injEq] at he; subst he; exact (h.2 hy).2 e rfl⟩
theorem Wrote.stays {a : Out} {l l1 : List UInt8} {y y1 : Int} (h : Wrote a l y l1 y1) (hy : y ≠ 0) : y1 = y := h.1 hy
structure VB (w : World) (d : Nat) (T X : Nat) (C : Array Value) (u : World) (va : Option Addr) (vn vc : Nat) (l : List UInt8) (y : Int) : Prop where
  vs : VSt d va vn vc l u y
  off : Off (fun k => k = d) w u
  e : u.heap[X]? = some (.cells C T (0, 0))
  ne : X ≠ d
section
variable {w : World} {d T X : Nat} {C : Array Value} {u u' : World} {va va' : Option Addr} {vn vc vn' vc' : Nat} {l l' : List UInt8} {y y' : Int}
theorem VB.go (h : VB w d T X C u va vn vc l y) (hv : VSt d va' vn' vc' l' u' y') (ho : Off (fun k => k = d) u u') : VB w d T X C u' va' vn' vc' l' y' :=
  ⟨hv, h.off.trans ho, (ho.block X (Array.getElem?_eq_some_iff.1 h.e).1 h.ne).trans h.e, h.ne⟩
theorem VB.ec (h : VB w d T X C u va vn vc l y) (j : Nat) : u.cell? ⟨X, j, none⟩ = C[j]? := by simp [World.cell?, h.e]
end
theorem NumsAt.offd {w u : World} {d : Nat} {a : Option Addr} {n : Nat} {Z : List Int} (h : NumsAt w a n Z) (ho : Off (fun k => k = d) w u) (hd : 0 < n → ∀ ad, a = some ad → ad.block ≠ d) : NumsAt u a n Z := by
  refine ⟨h.1, fun hn => ?_⟩
  obtain ⟨g, off, e, hg, hc⟩ := h.2 hn
  exact ⟨g, off, e, Nat.lt_of_lt_of_le hg ho.size, fun j hj => (ho.cell (p := ⟨g, off + j, none⟩) hg (by have h1 := hd hn _ e; exact h1)).trans (hc j hj)⟩
theorem EndQ.vals {w : World} {k x t l : Int} {p q : Value} {y : EndD} (h : EndQ w [.int .i64 k, .int .i64 x, .int .i64 t, .int .i64 l, p, q] y) : (y.K = k ∧ y.A = x ∧ y.To = t ∧ y.Else = l) ∧ (InR k ∧ InR x ∧ InR t ∧ InR l) ∧ (∀ z ∈ y.L, InR z) ∧ (∀ z ∈ y.M, InR z) := by
  obtain ⟨_, _, he, rk, rx, rt, rl, ⟨_, _, _, _, _, _, _, rL⟩, ⟨_, _, _, _, _, _, _, rM⟩⟩ := h
  simp only [List.cons.injEq, Value.int.injEq, true_and, and_true] at he
  obtain ⟨ek, ex, et, el, _⟩ := he
  rw [ek, ex, et, el]
  exact ⟨⟨rfl, rfl, rfl, rfl⟩, ⟨rk, rx, rt, rl⟩, rL, rM⟩
def Ahead (d : Nat) (a : Option Addr) (n : Nat) : Prop := 0 < n → ∀ ad, a = some ad → ad.block ≠ d
set_option maxRecDepth 100000 in
set_option maxHeartbeats 8000000 in
theorem w_end (d : Nat) (va : Option Addr) (vn vc : Nat) (bs : List UInt8) (z : Int) (k x t l : Int) (a : Option Addr) (n c : Nat) (b : Option Addr) (m e : Nat) (y : EndD) (w : World) (h : VSt d va vn vc bs w z) (hq : EndQ w [.int .i64 k, .int .i64 x, .int .i64 t, .int .i64 l, .slice a n c, .slice b m e] y) (ha : Ahead d a n) (hb : Ahead d b m) (hl : z = 0 → bs.length ≤ 80000000000000) :
    Calls Tryd.prog 66 #[.pointer (some ⟨d, 0, none⟩), .agg #[.int .i64 k, .int .i64 x, .int .i64 t, .int .i64 l, .slice a n c, .slice b m e]] w (VPost d bs z (encEnd y) w) := by
  have hbl : Below w.heap.size w (w.alloc (.cells #[.int .i64 k, .int .i64 x, .int .i64 t, .int .i64 l, .slice a n c, .slice b m e] 55)) := (Below.refl _ _).alloc (Nat.le_refl _) _
  have HB0 : RowKit.Hid (VB w d 55 w.heap.size #[.int .i64 k, .int .i64 x, .int .i64 t, .int .i64 l, .slice a n c, .slice b m e] (w.alloc (.cells #[.int .i64 k, .int .i64 x, .int .i64 t, .int .i64 l, .slice a n c, .slice b m e] 55)) va vn vc bs z) := Lib.hid ⟨h.since hbl, Off.since hbl, heap_alloc_new w _, by have := h.lt; omega⟩
  have HQL := Lib.hid hq.numL
  have HQM := Lib.hid hq.numM
  have HA := Lib.hid ha
  have HB := Lib.hid hb
  have HL := Lib.hid hl
  have hv := hq.vals
  have HK : RowKit.Hid (y.K = k ∧ y.A = x ∧ y.To = t ∧ y.Else = l) := Lib.hid hv.1
  have HR : RowKit.Hid (InR k ∧ InR x ∧ InR t ∧ InR l) := Lib.hid hv.2.1
  have HRL := Lib.hid hv.2.2.1
  have HRM := Lib.hid hv.2.2.2
  have HD : RowKit.Hid (d < w.heap.size) := Lib.hid h.lt
  clear h hq hv hbl ha hb hl
  obtain ⟨X, hX⟩ : ∃ X, X = w.heap.size := ⟨_, rfl⟩
  rcases (show k = 0 ∨ k = 1 ∨ (k = 2 ∨ k = 3) ∨ k < 0 ∨ 3 < k by omega) with hk | hk | hk | hk | hk
  · subst hk
    have HKC : RowKit.Hid (0 = 0) := Lib.hid (by omega)
    go_enter Tryd.func66, Tryd.ntmps66
    go_upto_region 1 with fail
    rw [← hX] at HB0 ⊢
    generalize hW0 : w.alloc (.cells #[.int .i64 0, .int .i64 x, .int .i64 t, .int .i64 l, .slice a n c, .slice b m e] 55) = W0 at HB0 ⊢
    clear hW0 hX
    have c0 := HB0.out.ec 0
    go_wp2_with fail
    refine (w_bad d va vn vc bs z false 4 (by decide) W0 HB0.out.vs).mono ?_
    rintro e1 w1 ⟨ua1, un1, uc1, l1, y1, rfl, hv, ho, hw⟩
    have HB1 := Lib.hid (HB0.out.go hv ho)
    have HW1 : RowKit.Hid (Wrote (chk (inB y.K 4) 4) bs z l1 y1) := Lib.hid (hw.of (by congr 1; unfold inB; rw [HK.out.1]; have := HKC.out; first | (rw [decide_eq_true (by omega)]; rfl) | (rw [decide_eq_false (by omega)]; rfl)))
    clear hv ho hw c0
    have c0 := HB1.out.ec 0
    go_wp2_with fail
    refine (w_num d ua1 un1 uc1 l1 y1 0 HR.out.1 w1 HB1.out.vs (fun h0 => by have := HW1.out.len h0 (Upto.check _ _); have := HL.out (HW1.out.went h0).1; omega)).mono ?_
    rintro e2 w2 ⟨ua2, un2, uc2, l2, y2, rfl, hv, ho, hw⟩
    have HB2 := Lib.hid (HB1.out.go hv ho)
    have HW2 : RowKit.Hid (Wrote (outBelow y.K 4) bs z l2 y2) := Lib.hid ((HW1.out.and hw).of (by unfold outBelow encN; rw [chk_num, HK.out.1]))
    have HU2 : RowKit.Hid (Upto (outBelow y.K 4) 10) := Lib.hid ((Upto.num _).and (Upto.check _ _))
    clear hv ho hw c0
    have c0 := HB2.out.ec 0
    have cc := HB2.out.ec
    go_wp2_with fail
    refine (w_num d ua2 un2 uc2 l2 y2 t HR.out.2.2.1 w2 HB2.out.vs (fun h0 => by have := HW2.out.len h0 HU2.out; have := HL.out (HW2.out.went h0).1; omega)).mono ?_
    rintro e3 w3 ⟨ua3, un3, uc3, l3, y3, rfl, hv, ho, hw⟩
    have HB3 := Lib.hid (HB2.out.go hv ho)
    have HW3 : RowKit.Hid (Wrote ((outBelow y.K 4).and (encN y.To)) bs z l3 y3) := Lib.hid (HW2.out.and (hw.of (by rw [HK.out.2.2.1])))
    have HU3 : RowKit.Hid (Upto ((outBelow y.K 4).and (encN y.To)) 20) := Lib.hid (HU2.out.and (Upto.num _))
    clear hv ho hw cc c0
    have c0 := HB3.out.ec 0
    have cc := HB3.out.ec
    go_wp2_with fail
    refine (w_list d ua3 un3 uc3 l3 y3 a n c y.L 8 (by decide) w3 HB3.out.vs (HQL.out.1.offd HB3.out.off HA.out) HQL.out.2 HRL.out HA.out (fun h0 => by have := HW3.out.len h0 HU3.out; have := HL.out (HW3.out.went h0).1; omega)).mono ?_
    rintro e4 w4 ⟨ua4, un4, uc4, l4, y4, rfl, hv, ho, hw⟩
    have HB4 := Lib.hid (HB3.out.go hv ho)
    have HW4 : RowKit.Hid (Wrote (((outBelow y.K 4).and (encN y.To)).and (encNums 8 y.L)) bs z l4 y4) := Lib.hid (HW3.out.and (hw.of rfl))
    have HU4 : RowKit.Hid (Upto (((outBelow y.K 4).and (encN y.To)).and (encNums 8 y.L)) 110) := Lib.hid (HU3.out.and (Upto.nums _ _))
    clear hv ho hw cc c0
    have c0 := HB4.out.ec 0
    have cc := HB4.out.ec
    go_wp2_with fail
    go_end0
    refine ⟨_, _, _, l4, y4, rfl, HB4.out.vs, HB4.out.off, HW4.out.of ?_⟩
    unfold encEnd encRest; rw [if_pos HK.out.1]; simp only [Out.and_assoc]
  · subst hk
    have HKC : RowKit.Hid (1 = 1) := Lib.hid (by omega)
    go_enter Tryd.func66, Tryd.ntmps66
    go_upto_region 1 with fail
    rw [← hX] at HB0 ⊢
    generalize hW0 : w.alloc (.cells #[.int .i64 1, .int .i64 x, .int .i64 t, .int .i64 l, .slice a n c, .slice b m e] 55) = W0 at HB0 ⊢
    clear hW0 hX
    have c0 := HB0.out.ec 0
    go_wp2_with fail
    refine (w_bad d va vn vc bs z false 4 (by decide) W0 HB0.out.vs).mono ?_
    rintro e1 w1 ⟨ua1, un1, uc1, l1, y1, rfl, hv, ho, hw⟩
    have HB1 := Lib.hid (HB0.out.go hv ho)
    have HW1 : RowKit.Hid (Wrote (chk (inB y.K 4) 4) bs z l1 y1) := Lib.hid (hw.of (by congr 1; unfold inB; rw [HK.out.1]; have := HKC.out; first | (rw [decide_eq_true (by omega)]; rfl) | (rw [decide_eq_false (by omega)]; rfl)))
    clear hv ho hw c0
    have c0 := HB1.out.ec 0
    go_wp2_with fail
    refine (w_num d ua1 un1 uc1 l1 y1 1 HR.out.1 w1 HB1.out.vs (fun h0 => by have := HW1.out.len h0 (Upto.check _ _); have := HL.out (HW1.out.went h0).1; omega)).mono ?_
    rintro e2 w2 ⟨ua2, un2, uc2, l2, y2, rfl, hv, ho, hw⟩
    have HB2 := Lib.hid (HB1.out.go hv ho)
    have HW2 : RowKit.Hid (Wrote (outBelow y.K 4) bs z l2 y2) := Lib.hid ((HW1.out.and hw).of (by unfold outBelow encN; rw [chk_num, HK.out.1]))
    have HU2 : RowKit.Hid (Upto (outBelow y.K 4) 10) := Lib.hid ((Upto.num _).and (Upto.check _ _))
    clear hv ho hw c0
    have c0 := HB2.out.ec 0
    have cc := HB2.out.ec
    go_wp2_with fail
    refine (w_num d ua2 un2 uc2 l2 y2 x HR.out.2.1 w2 HB2.out.vs (fun h0 => by have := HW2.out.len h0 HU2.out; have := HL.out (HW2.out.went h0).1; omega)).mono ?_
    rintro e3 w3 ⟨ua3, un3, uc3, l3, y3, rfl, hv, ho, hw⟩
    have HB3 := Lib.hid (HB2.out.go hv ho)
    have HW3 : RowKit.Hid (Wrote ((outBelow y.K 4).and (encN y.A)) bs z l3 y3) := Lib.hid (HW2.out.and (hw.of (by rw [HK.out.2.1])))
    have HU3 : RowKit.Hid (Upto ((outBelow y.K 4).and (encN y.A)) 20) := Lib.hid (HU2.out.and (Upto.num _))
    clear hv ho hw cc c0
    have c0 := HB3.out.ec 0
    have cc := HB3.out.ec
    go_wp2_with fail
    refine (w_num d ua3 un3 uc3 l3 y3 t HR.out.2.2.1 w3 HB3.out.vs (fun h0 => by have := HW3.out.len h0 HU3.out; have := HL.out (HW3.out.went h0).1; omega)).mono ?_
    rintro e4 w4 ⟨ua4, un4, uc4, l4, y4, rfl, hv, ho, hw⟩
    have HB4 := Lib.hid (HB3.out.go hv ho)
    have HW4 : RowKit.Hid (Wrote (((outBelow y.K 4).and (encN y.A)).and (encN y.To)) bs z l4 y4) := Lib.hid (HW3.out.and (hw.of (by rw [HK.out.2.2.1])))
    have HU4 : RowKit.Hid (Upto (((outBelow y.K 4).and (encN y.A)).and (encN y.To)) 30) := Lib.hid (HU3.out.and (Upto.num _))
    clear hv ho hw cc c0
    have c0 := HB4.out.ec 0
    have cc := HB4.out.ec
    go_wp2_with fail
    refine (w_list d ua4 un4 uc4 l4 y4 a n c y.L 8 (by decide) w4 HB4.out.vs (HQL.out.1.offd HB4.out.off HA.out) HQL.out.2 HRL.out HA.out (fun h0 => by have := HW4.out.len h0 HU4.out; have := HL.out (HW4.out.went h0).1; omega)).mono ?_
    rintro e5 w5 ⟨ua5, un5, uc5, l5, y5, rfl, hv, ho, hw⟩
    have HB5 := Lib.hid (HB4.out.go hv ho)
    have HW5 : RowKit.Hid (Wrote ((((outBelow y.K 4).and (encN y.A)).and (encN y.To)).and (encNums 8 y.L)) bs z l5 y5) := Lib.hid (HW4.out.and (hw.of rfl))
    have HU5 : RowKit.Hid (Upto ((((outBelow y.K 4).and (encN y.A)).and (encN y.To)).and (encNums 8 y.L)) 120) := Lib.hid (HU4.out.and (Upto.nums _ _))
    clear hv ho hw cc c0
    have c0 := HB5.out.ec 0
    have cc := HB5.out.ec
    go_wp2_with fail
    refine (w_num d ua5 un5 uc5 l5 y5 l HR.out.2.2.2 w5 HB5.out.vs (fun h0 => by have := HW5.out.len h0 HU5.out; have := HL.out (HW5.out.went h0).1; omega)).mono ?_
    rintro e6 w6 ⟨ua6, un6, uc6, l6, y6, rfl, hv, ho, hw⟩
    have HB6 := Lib.hid (HB5.out.go hv ho)
    have HW6 : RowKit.Hid (Wrote (((((outBelow y.K 4).and (encN y.A)).and (encN y.To)).and (encNums 8 y.L)).and (encN y.Else)) bs z l6 y6) := Lib.hid (HW5.out.and (hw.of (by rw [HK.out.2.2.2])))
    have HU6 : RowKit.Hid (Upto (((((outBelow y.K 4).and (encN y.A)).and (encN y.To)).and (encNums 8 y.L)).and (encN y.Else)) 130) := Lib.hid (HU5.out.and (Upto.num _))
    clear hv ho hw cc c0
    have c0 := HB6.out.ec 0
    have cc := HB6.out.ec
    go_wp2_with fail
    refine (w_list d ua6 un6 uc6 l6 y6 b m e y.M 8 (by decide) w6 HB6.out.vs (HQM.out.1.offd HB6.out.off HB.out) HQM.out.2 HRM.out HB.out (fun h0 => by have := HW6.out.len h0 HU6.out; have := HL.out (HW6.out.went h0).1; omega)).mono ?_
    rintro e7 w7 ⟨ua7, un7, uc7, l7, y7, rfl, hv, ho, hw⟩
    have HB7 := Lib.hid (HB6.out.go hv ho)
    have HW7 : RowKit.Hid (Wrote ((((((outBelow y.K 4).and (encN y.A)).and (encN y.To)).and (encNums 8 y.L)).and (encN y.Else)).and (encNums 8 y.M)) bs z l7 y7) := Lib.hid (HW6.out.and (hw.of rfl))
    have HU7 : RowKit.Hid (Upto ((((((outBelow y.K 4).and (encN y.A)).and (encN y.To)).and (encNums 8 y.L)).and (encN y.Else)).and (encNums 8 y.M)) 220) := Lib.hid (HU6.out.and (Upto.nums _ _))
    clear hv ho hw cc c0
    have c0 := HB7.out.ec 0
    have cc := HB7.out.ec
    go_wp2_with fail
    go_end0
    refine ⟨_, _, _, l7, y7, rfl, HB7.out.vs, HB7.out.off, HW7.out.of ?_⟩
    unfold encEnd encRest; rw [if_neg (by rw [HK.out.1]; decide), if_pos HK.out.1]; simp only [Out.and_assoc]
  · have g1 : ¬ k < 0 := by omega
    have g2 : ¬ 3 < k := by omega
    have g3 : (k != 0) = true := by rw [bne_iff_ne]; omega
    have g4 : ¬ k < 2 := by omega
    have g5 : (k == 1) = false := by rw [beq_eq_false_iff_ne]; omega
    have HKC : RowKit.Hid (k = 2 ∨ k = 3) := Lib.hid (by omega)
    go_enter Tryd.func66, Tryd.ntmps66
    go_upto_region 1 with fail
    rw [← hX] at HB0 ⊢
    generalize hW0 : w.alloc (.cells #[.int .i64 k, .int .i64 x, .int .i64 t, .int .i64 l, .slice a n c, .slice b m e] 55) = W0 at HB0 ⊢
    clear hW0 hX
    have c0 := HB0.out.ec 0
    go_wp2_with fail
    refine (w_bad d va vn vc bs z false 4 (by decide) W0 HB0.out.vs).mono ?_
    rintro e1 w1 ⟨ua1, un1, uc1, l1, y1, rfl, hv, ho, hw⟩
    have HB1 := Lib.hid (HB0.out.go hv ho)
    have HW1 : RowKit.Hid (Wrote (chk (inB y.K 4) 4) bs z l1 y1) := Lib.hid (hw.of (by congr 1; unfold inB; rw [HK.out.1]; have := HKC.out; first | (rw [decide_eq_true (by omega)]; rfl) | (rw [decide_eq_false (by omega)]; rfl)))
    clear hv ho hw c0
    have c0 := HB1.out.ec 0
    go_wp2_with fail
    refine (w_num d ua1 un1 uc1 l1 y1 k HR.out.1 w1 HB1.out.vs (fun h0 => by have := HW1.out.len h0 (Upto.check _ _); have := HL.out (HW1.out.went h0).1; omega)).mono ?_
    rintro e2 w2 ⟨ua2, un2, uc2, l2, y2, rfl, hv, ho, hw⟩
    have HB2 := Lib.hid (HB1.out.go hv ho)
    have HW2 : RowKit.Hid (Wrote (outBelow y.K 4) bs z l2 y2) := Lib.hid ((HW1.out.and hw).of (by unfold outBelow encN; rw [chk_num, HK.out.1]))
    have HU2 : RowKit.Hid (Upto (outBelow y.K 4) 10) := Lib.hid ((Upto.num _).and (Upto.check _ _))
    clear hv ho hw c0
    have c0 := HB2.out.ec 0
    have cc := HB2.out.ec
    go_wp2_with fail
    refine (w_num d ua2 un2 uc2 l2 y2 x HR.out.2.1 w2 HB2.out.vs (fun h0 => by have := HW2.out.len h0 HU2.out; have := HL.out (HW2.out.went h0).1; omega)).mono ?_
    rintro e3 w3 ⟨ua3, un3, uc3, l3, y3, rfl, hv, ho, hw⟩
    have HB3 := Lib.hid (HB2.out.go hv ho)
    have HW3 : RowKit.Hid (Wrote ((outBelow y.K 4).and (encN y.A)) bs z l3 y3) := Lib.hid (HW2.out.and (hw.of (by rw [HK.out.2.1])))
    have HU3 : RowKit.Hid (Upto ((outBelow y.K 4).and (encN y.A)) 20) := Lib.hid (HU2.out.and (Upto.num _))
    clear hv ho hw cc c0
    have c0 := HB3.out.ec 0
    have cc := HB3.out.ec
    go_wp2_with fail
    go_end0
    refine ⟨_, _, _, l3, y3, rfl, HB3.out.vs, HB3.out.off, HW3.out.of ?_⟩
    unfold encEnd encRest; rw [if_neg (by rw [HK.out.1]; have := HKC.out; omega), if_neg (by rw [HK.out.1]; have := HKC.out; omega)]
  · have g3 : (k != 0) = true := by rw [bne_iff_ne]; omega
    have g4 : k < 2 := by omega
    have g5 : (k == 1) = false := by rw [beq_eq_false_iff_ne]; omega
    have HKC : RowKit.Hid (k < 0) := Lib.hid (by omega)
    go_enter Tryd.func66, Tryd.ntmps66
    go_upto_region 1 with fail
    rw [← hX] at HB0 ⊢
    generalize hW0 : w.alloc (.cells #[.int .i64 k, .int .i64 x, .int .i64 t, .int .i64 l, .slice a n c, .slice b m e] 55) = W0 at HB0 ⊢
    clear hW0 hX
    have c0 := HB0.out.ec 0
    go_wp2_with fail
    refine (w_bad d va vn vc bs z true 4 (by decide) W0 HB0.out.vs).mono ?_
    rintro e1 w1 ⟨ua1, un1, uc1, l1, y1, rfl, hv, ho, hw⟩
    have HB1 := Lib.hid (HB0.out.go hv ho)
    have HW1 : RowKit.Hid (Wrote (chk (inB y.K 4) 4) bs z l1 y1) := Lib.hid (hw.of (by congr 1; unfold inB; rw [HK.out.1]; have := HKC.out; first | (rw [decide_eq_true (by omega)]; rfl) | (rw [decide_eq_false (by omega)]; rfl)))
    clear hv ho hw c0
    have c0 := HB1.out.ec 0
    go_wp2_with fail
    refine (w_num d ua1 un1 uc1 l1 y1 k HR.out.1 w1 HB1.out.vs (fun h0 => by have := HW1.out.len h0 (Upto.check _ _); have := HL.out (HW1.out.went h0).1; omega)).mono ?_
    rintro e2 w2 ⟨ua2, un2, uc2, l2, y2, rfl, hv, ho, hw⟩
    have HB2 := Lib.hid (HB1.out.go hv ho)
    have HW2 : RowKit.Hid (Wrote (outBelow y.K 4) bs z l2 y2) := Lib.hid ((HW1.out.and hw).of (by unfold outBelow encN; rw [chk_num, HK.out.1]))
    have HU2 : RowKit.Hid (Upto (outBelow y.K 4) 10) := Lib.hid ((Upto.num _).and (Upto.check _ _))
    clear hv ho hw c0
    have c0 := HB2.out.ec 0
    have cc := HB2.out.ec
    go_wp2_with fail
    refine (w_num d ua2 un2 uc2 l2 y2 x HR.out.2.1 w2 HB2.out.vs (fun h0 => by have := HW2.out.len h0 HU2.out; have := HL.out (HW2.out.went h0).1; omega)).mono ?_
    rintro e3 w3 ⟨ua3, un3, uc3, l3, y3, rfl, hv, ho, hw⟩
    have HB3 := Lib.hid (HB2.out.go hv ho)
    have HW3 : RowKit.Hid (Wrote ((outBelow y.K 4).and (encN y.A)) bs z l3 y3) := Lib.hid (HW2.out.and (hw.of (by rw [HK.out.2.1])))
    have HU3 : RowKit.Hid (Upto ((outBelow y.K 4).and (encN y.A)) 20) := Lib.hid (HU2.out.and (Upto.num _))
    clear hv ho hw cc c0
    have c0 := HB3.out.ec 0
    have cc := HB3.out.ec
    go_wp2_with fail
    refine (w_num d ua3 un3 uc3 l3 y3 t HR.out.2.2.1 w3 HB3.out.vs (fun h0 => by have := HW3.out.len h0 HU3.out; have := HL.out (HW3.out.went h0).1; omega)).mono ?_
    rintro e4 w4 ⟨ua4, un4, uc4, l4, y4, rfl, hv, ho, hw⟩
    have HB4 := Lib.hid (HB3.out.go hv ho)
    have HW4 : RowKit.Hid (Wrote (((outBelow y.K 4).and (encN y.A)).and (encN y.To)) bs z l4 y4) := Lib.hid (HW3.out.and (hw.of (by rw [HK.out.2.2.1])))
    have HU4 : RowKit.Hid (Upto (((outBelow y.K 4).and (encN y.A)).and (encN y.To)) 30) := Lib.hid (HU3.out.and (Upto.num _))
    clear hv ho hw cc c0
    have c0 := HB4.out.ec 0
    have cc := HB4.out.ec
    go_wp2_with fail
    refine (w_list d ua4 un4 uc4 l4 y4 a n c y.L 8 (by decide) w4 HB4.out.vs (HQL.out.1.offd HB4.out.off HA.out) HQL.out.2 HRL.out HA.out (fun h0 => by have := HW4.out.len h0 HU4.out; have := HL.out (HW4.out.went h0).1; omega)).mono ?_
    rintro e5 w5 ⟨ua5, un5, uc5, l5, y5, rfl, hv, ho, hw⟩
    have HB5 := Lib.hid (HB4.out.go hv ho)
    have HW5 : RowKit.Hid (Wrote ((((outBelow y.K 4).and (encN y.A)).and (encN y.To)).and (encNums 8 y.L)) bs z l5 y5) := Lib.hid (HW4.out.and (hw.of rfl))
    have HU5 : RowKit.Hid (Upto ((((outBelow y.K 4).and (encN y.A)).and (encN y.To)).and (encNums 8 y.L)) 120) := Lib.hid (HU4.out.and (Upto.nums _ _))
    clear hv ho hw cc c0
    have c0 := HB5.out.ec 0
    have cc := HB5.out.ec
    go_wp2_with fail
    go_end0
    have hno : outBelow y.K 4 = .no 4 := outBelow_no (by rw [HK.out.1]; have := HKC.out; omega)
    refine ⟨_, _, _, l5, y5, rfl, HB5.out.vs, HB5.out.off, ?_⟩
    have hf := HW5.out
    rw [show (((outBelow y.K 4).and (encN y.A)).and (encN y.To)).and (encNums 8 y.L) = Out.no 4 by simp [hno]] at hf
    exact hf.of (by unfold encEnd; rw [hno, Out.no_and])
  · have g1 : ¬ k < 0 := by omega
    have g3 : (k != 0) = true := by rw [bne_iff_ne]; omega
    have g4 : ¬ k < 2 := by omega
    have g5 : (k == 1) = false := by rw [beq_eq_false_iff_ne]; omega
    have HKC : RowKit.Hid (3 < k) := Lib.hid (by omega)
    go_enter Tryd.func66, Tryd.ntmps66
    go_upto_region 1 with fail
    rw [← hX] at HB0 ⊢
    generalize hW0 : w.alloc (.cells #[.int .i64 k, .int .i64 x, .int .i64 t, .int .i64 l, .slice a n c, .slice b m e] 55) = W0 at HB0 ⊢
    clear hW0 hX
    have c0 := HB0.out.ec 0
    go_wp2_with fail
    refine (w_bad d va vn vc bs z true 4 (by decide) W0 HB0.out.vs).mono ?_
    rintro e1 w1 ⟨ua1, un1, uc1, l1, y1, rfl, hv, ho, hw⟩
    have HB1 := Lib.hid (HB0.out.go hv ho)
    have HW1 : RowKit.Hid (Wrote (chk (inB y.K 4) 4) bs z l1 y1) := Lib.hid (hw.of (by congr 1; unfold inB; rw [HK.out.1]; have := HKC.out; first | (rw [decide_eq_true (by omega)]; rfl) | (rw [decide_eq_false (by omega)]; rfl)))
    clear hv ho hw c0
    have c0 := HB1.out.ec 0
    go_wp2_with fail
    refine (w_num d ua1 un1 uc1 l1 y1 k HR.out.1 w1 HB1.out.vs (fun h0 => by have := HW1.out.len h0 (Upto.check _ _); have := HL.out (HW1.out.went h0).1; omega)).mono ?_
    rintro e2 w2 ⟨ua2, un2, uc2, l2, y2, rfl, hv, ho, hw⟩
    have HB2 := Lib.hid (HB1.out.go hv ho)
    have HW2 : RowKit.Hid (Wrote (outBelow y.K 4) bs z l2 y2) := Lib.hid ((HW1.out.and hw).of (by unfold outBelow encN; rw [chk_num, HK.out.1]))
    have HU2 : RowKit.Hid (Upto (outBelow y.K 4) 10) := Lib.hid ((Upto.num _).and (Upto.check _ _))
    clear hv ho hw c0
    have c0 := HB2.out.ec 0
    have cc := HB2.out.ec
    go_wp2_with fail
    refine (w_num d ua2 un2 uc2 l2 y2 x HR.out.2.1 w2 HB2.out.vs (fun h0 => by have := HW2.out.len h0 HU2.out; have := HL.out (HW2.out.went h0).1; omega)).mono ?_
    rintro e3 w3 ⟨ua3, un3, uc3, l3, y3, rfl, hv, ho, hw⟩
    have HB3 := Lib.hid (HB2.out.go hv ho)
    have HW3 : RowKit.Hid (Wrote ((outBelow y.K 4).and (encN y.A)) bs z l3 y3) := Lib.hid (HW2.out.and (hw.of (by rw [HK.out.2.1])))
    have HU3 : RowKit.Hid (Upto ((outBelow y.K 4).and (encN y.A)) 20) := Lib.hid (HU2.out.and (Upto.num _))
    clear hv ho hw cc c0
    have c0 := HB3.out.ec 0
    have cc := HB3.out.ec
    go_wp2_with fail
    go_end0
    have hno : outBelow y.K 4 = .no 4 := outBelow_no (by rw [HK.out.1]; have := HKC.out; omega)
    refine ⟨_, _, _, l3, y3, rfl, HB3.out.vs, HB3.out.off, ?_⟩
    have hf := HW3.out
    rw [show (outBelow y.K 4).and (encN y.A) = Out.no 4 by simp [hno]] at hf
    exact hf.of (by unfold encEnd; rw [hno, Out.no_and])
end Go.Proofs.YtdchhfdmingnaaaDoor
