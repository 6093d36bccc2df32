/- Layer 13: the document's At: what a step, or an end, is of. -/
import Derived.Test.YtdchhfdmingnaaaDoorWT1
import Derived.Test.YtdchhfdmingnaaaDoorWUsesC
import Derived.Deep.DeepCutAuto
namespace Go.Proofs.YtdchhfdmingnaaaDoor
open Go.RowKit (wrap64 intOf Below)
set_option linter.unusedVariables false
set_option linter.unusedSimpArgs false
theorem tgV_at {W : World} {e : EndD} {la : Option Addr} {ln lc : Nat} {ma : Option Addr} {mn mc : Nat} (hL : ListAt W la ln lc e.L) (hM : ListAt W ma mn mc e.M) :
    (tgV e.K e.To e.Else la ln lc ma mn mc).length = (tgts e).length ∧ ∀ i (h : i < (tgV e.K e.To e.Else la ln lc ma mn mc).length) (h' : i < (tgts e).length),
      ListAt W (tgV e.K e.To e.Else la ln lc ma mn mc)[i].2.1 (tgV e.K e.To e.Else la ln lc ma mn mc)[i].2.2.1 (tgV e.K e.To e.Else la ln lc ma mn mc)[i].2.2.2 (tgts e)[i].2 := by
  have key : ∀ (l : List TgV) (t : List (Int × List Int)), (l = [(e.To, la, ln, lc)] ∧ t = [(e.To, e.L)]) ∨ (l = [(e.To, la, ln, lc), (e.Else, ma, mn, mc)] ∧ t = [(e.To, e.L), (e.Else, e.M)]) ∨ (l = [] ∧ t = []) →
      l.length = t.length ∧ ∀ i (h : i < l.length) (h' : i < t.length), ListAt W l[i].2.1 l[i].2.2.1 l[i].2.2.2 t[i].2 := by
    rintro l t (⟨rfl, rfl⟩ | ⟨rfl, rfl⟩ | ⟨rfl, rfl⟩)
    · refine ⟨rfl, fun i h h' => ?_⟩
      match i, h with
      | 0, _ => exact hL
    · refine ⟨rfl, fun i h h' => ?_⟩
      match i, h with
      | 0, _ => exact hL
      | 1, _ => exact hM
    · exact ⟨rfl, fun i h => absurd h (by simp)⟩
  refine key _ _ ?_
  unfold tgV tgts
  by_cases h0 : e.K = 0
  · exact .inl (by simp [h0])
  · by_cases h1 : e.K = 1
    · exact .inr (.inl (by simp [h1]))
    · exact .inr (.inr (by simp [h0, h1]))
structure AtSt (w : World) (r : Int) (pe : Nat) (C : Array Value) (v : Value) (Z : List Int) (W : World) : Prop where
  bel : Below w.heap.size w W
  ret : W.cell? ⟨w.heap.size, 0, none⟩ = some (.int .i64 r)
  fin : ∀ j, W.cell? ⟨pe, j, none⟩ = C[j]?
  own : OwnsI W w.heap.size 3 v Z
  ne : v.ownBlock ≠ some pe
  lt : pe < W.heap.size
theorem AtSt.one {w W : World} {r : Int} {C : Array Value} (hb : Below w.heap.size w W) (hr : W.cell? ⟨w.heap.size, 0, none⟩ = some (.int .i64 r)) (hlt : w.heap.size < W.heap.size) :
    AtSt w r (W.heap.size + 1) C (.slice (some ⟨W.heap.size, 0, none⟩) 0 0) [] ((W.alloc (.cells #[] 3)).alloc (.cells C 55)).drew := by
  have h1 : Below W.heap.size W ((W.alloc (.cells #[] 3)).alloc (.cells C 55)) := ((Below.refl _ W).alloc (Nat.le_refl _) _).alloc (by simp) _
  refine ⟨hb.trans ((h1.mono hb.size).drew), (h1.cell (p := ⟨w.heap.size, 0, none⟩) hlt).trans hr, fun j => ?_, ?_, ?_, ?_⟩
  · show ((W.alloc (.cells #[] 3)).alloc (.cells C 55)).cell? ⟨W.heap.size + 1, j, none⟩ = C[j]?
    rw [show W.heap.size + 1 = (W.alloc (.cells #[] 3)).heap.size by simp]
    exact World.cell?_alloc_mark _ _ _ _ _
  · have h2 : OwnsI (W.alloc (.cells #[] 3)) w.heap.size 3 (.slice (some ⟨W.heap.size, 0, none⟩) 0 0) [] := OwnsI.laid rfl hb.size
    exact h2.below ((((Below.refl _ (W.alloc (.cells #[] 3))).alloc (Nat.le_refl _) (.cells C 55))).drew)
  · intro e; simp [Value.ownBlock] at e
  · show W.heap.size + 1 < ((W.alloc (.cells #[] 3)).alloc (.cells C 55)).heap.size
    simp
theorem AtSt.two {w W : World} {r : Int} {C : Array Value} (hb : Below w.heap.size w W) (hr : W.cell? ⟨w.heap.size, 0, none⟩ = some (.int .i64 r)) (hlt : w.heap.size < W.heap.size) :
    AtSt w r W.heap.size C (.slice (some ⟨W.heap.size + 1, 0, none⟩) 0 0) [] ((W.alloc (.cells C 55)).alloc (.cells #[] 3)).drew := by
  have h1 : Below W.heap.size W ((W.alloc (.cells C 55)).alloc (.cells #[] 3)) := ((Below.refl _ W).alloc (Nat.le_refl _) _).alloc (by simp) _
  refine ⟨hb.trans ((h1.mono hb.size).drew), (h1.cell (p := ⟨w.heap.size, 0, none⟩) hlt).trans hr, fun j => ?_, ?_, ?_, ?_⟩
  · show ((W.alloc (.cells C 55)).alloc (.cells #[] 3)).cell? ⟨W.heap.size, j, none⟩ = C[j]?
    rw [((Below.refl _ (W.alloc (.cells C 55))).alloc (Nat.le_refl _) (.cells #[] 3)).cell (p := ⟨W.heap.size, j, none⟩) (by simp)]
    exact World.cell?_alloc_mark _ _ _ _ _
  · have h2 : OwnsI ((W.alloc (.cells C 55)).alloc (.cells #[] 3)) w.heap.size 3 (.slice (some ⟨W.heap.size + 1, 0, none⟩) 0 0) [] := OwnsI.laid (by simp) (by have := hb.size; omega)
    exact h2.below ((Below.refl _ _).drew)
  · intro e; simp [Value.ownBlock] at e
  · show W.heap.size < ((W.alloc (.cells C 55)).alloc (.cells #[] 3)).heap.size
    simp
    omega
theorem AtSt.push {w W W' : World} {r : Int} {pe : Nat} {C A : Array Value} {T : TypeId} {v v' : Value} {Z Z' : List Int} (h : AtSt w r pe C v Z W) (ho : OwnsI W' w.heap.size 3 v' Z') (hg : (W.alloc (.cells A T)).grownBy W' v.ownBlock) : Below w.heap.size w W' ∧ (∀ j, W'.cell? ⟨pe, j, none⟩ = C[j]?) := by
  refine ⟨Below.grown (h.bel.alloc h.bel.size _) hg (by simp; have := h.bel.size; omega) (fun k hk => (h.own.lt k hk).1), fun j => ?_⟩
  rw [World.cell?_of_block (a := ⟨pe, j, none⟩) (hg.block pe (by simp; have := h.lt; omega) (fun e => h.ne e.symm))]
  rw [((Below.refl _ W).alloc (Nat.le_refl _) (.cells A T)).cell (p := ⟨pe, j, none⟩) h.lt]
  exact h.fin j
set_option maxRecDepth 100000 in
set_option maxHeartbeats 4000000 in
theorem refat_any (r : Int) (a : Option Addr) (n c : Nat) (f : FuncD) (i k : Nat) (w : World) (hq : FuncQ w [.int .i64 r, .slice a n c] f) (hsm : SmU f) (hi : i < n) (hk : k ≤ lenU f i) :
    Calls Tryd.prog 26 #[.agg #[.int .i64 r, .slice a n c], .int .i64 (i : Int), .int .i64 (k : Int)] w (ListPostU (atU f i k) w) := by
  obtain ⟨bv, he, _, hr⟩ := hq
  simp only [List.cons.injEq, Value.int.injEq, true_and, and_true] at he
  obtain ⟨hret, rfl⟩ := he
  have HRET : RowKit.Hid (f.ret = r) := Lib.hid hret.symm
  obtain ⟨g, off, pa, pn, pc, oa, on, oc, la, ln, lc, ma, mn, mc, rfl, hg, hblk, hops, hla, hma⟩ := block_atO hr hi
  have hon : on = lenU f i := by obtain ⟨_, _, _, e, h, _⟩ := hops; cases e; exact h.symm
  have HON := Lib.hid hon
  have hkon : k ≤ on := by omega
  have HOPS := Lib.hid hops
  have HLA := Lib.hid hla
  have HMA := Lib.hid hma
  have HBLK := Lib.hid hblk
  have HLL : RowKit.Hid ((theEnd f i).L.length ≤ 100000 ∧ (theEnd f i).M.length ≤ 100000) := Lib.hid ⟨hsm.l i, hsm.m i⟩
  have hin : (i : Int) < (n : Int) := by omega
  have HFIN : RowKit.Hid ((blkU f i).fin = theEnd f i) := Lib.hid (blkU_end f i)
  obtain ⟨W1, hW1⟩ : ∃ u, u = w.alloc (.cells #[.int .i64 r, .slice (some ⟨g, off, none⟩) n c] 30) := ⟨_, rfl⟩
  have hb1 : Below w.heap.size w W1 := by rw [hW1]; exact (Below.refl _ w).alloc (Nat.le_refl _) _
  have f0 : W1.cell? ⟨w.heap.size, 0, none⟩ = some (.int .i64 r) := by rw [hW1]; exact World.cell?_alloc_mark _ _ _ _ _
  have f1 : W1.cell? ⟨w.heap.size, 1, none⟩ = some (.slice (some ⟨g, off, none⟩) n c) := by rw [hW1]; exact World.cell?_alloc_mark _ _ _ _ _
  have hs1 : W1.heap.size = w.heap.size + 1 := by rw [hW1]; simp
  have HB1 : RowKit.Hid (Below w.heap.size w W1 ∧ W1.cell? ⟨w.heap.size, 0, none⟩ = some (.int .i64 r) ∧ w.heap.size < W1.heap.size) := Lib.hid ⟨hb1, f0, by omega⟩
  obtain ⟨b0, b1, b2, b3, b4, b5, b6, b7⟩ := HBLK.out W1 hb1
  clear hr hret hsm hi hk hblk hops hla hma hg hon hb1 hs1
  go_enter Tryd.func26, Tryd.ntmps26
  go_upto_region 1 with fail
  rw [← hW1]
  clear hW1
  generalize hEK : (theEnd f i).K = EK at *
  generalize hEA : (theEnd f i).A = EA at *
  generalize hET : (theEnd f i).To = ET at *
  generalize hEE : (theEnd f i).Else = EE at *
  have HEE : RowKit.Hid ((theEnd f i).K = EK ∧ (theEnd f i).A = EA ∧ (theEnd f i).To = ET ∧ (theEnd f i).Else = EE) := Lib.hid ⟨hEK, hEA, hET, hEE⟩
  clear hEK hEA hET hEE
  go_upto_region 2 with fail
  clear b0 b1 b2 b3 b4 b5 b6 b7 f0 f1
  obtain ⟨W2, hW2⟩ : ∃ u, u = W1.alloc (.cells #[.slice pa pn pc, .slice oa on oc, .int .i64 EK, .int .i64 EA, .int .i64 ET, .int .i64 EE, .slice la ln lc, .slice ma mn mc] 57) := ⟨_, rfl⟩
  rw [← hW2]
  have hb2 : Below W1.heap.size W1 W2 := by rw [hW2]; exact (Below.refl _ W1).alloc (Nat.le_refl _) _
  have HB2 : RowKit.Hid (Below w.heap.size w W2 ∧ W2.cell? ⟨w.heap.size, 0, none⟩ = some (.int .i64 r) ∧ w.heap.size < W2.heap.size) := Lib.hid ⟨HB1.out.1.trans (hb2.mono HB1.out.1.size), (hb2.cell (p := ⟨w.heap.size, 0, none⟩) HB1.out.2.2).trans HB1.out.2.1, Nat.lt_of_lt_of_le HB1.out.2.2 hb2.size⟩
  have hc2 : ∀ j, W2.cell? ⟨W1.heap.size, j, none⟩ = (#[.slice pa pn pc, .slice oa on oc, .int .i64 EK, .int .i64 EA, .int .i64 ET, .int .i64 EE, .slice la ln lc, .slice ma mn mc] : Array Value)[j]? := fun j => by rw [hW2]; exact World.cell?_alloc_mark _ _ _ _ _
  have y1 : W2.cell? ⟨W1.heap.size, 1, none⟩ = some (.slice oa on oc) := hc2 1
  have y2 : W2.cell? ⟨W1.heap.size, 2, none⟩ = some (.int .i64 EK) := hc2 2
  have y3 : W2.cell? ⟨W1.heap.size, 3, none⟩ = some (.int .i64 EA) := hc2 3
  have y4 : W2.cell? ⟨W1.heap.size, 4, none⟩ = some (.int .i64 ET) := hc2 4
  have y5 : W2.cell? ⟨W1.heap.size, 5, none⟩ = some (.int .i64 EE) := hc2 5
  have y6 : W2.cell? ⟨W1.heap.size, 6, none⟩ = some (.slice la ln lc) := hc2 6
  have y7 : W2.cell? ⟨W1.heap.size, 7, none⟩ = some (.slice ma mn mc) := hc2 7
  have HY2 : RowKit.Hid (∀ o : Obj, ∀ j, (W2.alloc o).cell? ⟨W1.heap.size, j, none⟩ = (#[.slice pa pn pc, .slice oa on oc, .int .i64 EK, .int .i64 EA, .int .i64 ET, .int .i64 EE, .slice la ln lc, .slice ma mn mc] : Array Value)[j]?) := Lib.hid fun o j => (((Below.refl _ W2).alloc (Nat.le_refl _) o).cell (p := ⟨W1.heap.size, j, none⟩) (by rw [hW2]; simp)).trans (hc2 j)
  have HZ2 : RowKit.Hid (∀ o o' : Obj, ∀ j, ((W2.alloc o).alloc o').cell? ⟨W1.heap.size, j, none⟩ = (#[.slice pa pn pc, .slice oa on oc, .int .i64 EK, .int .i64 EA, .int .i64 ET, .int .i64 EE, .slice la ln lc, .slice ma mn mc] : Array Value)[j]?) := Lib.hid fun o o' j => ((((Below.refl _ W2).alloc (Nat.le_refl _) o).alloc (by simp) o').cell (p := ⟨W1.heap.size, j, none⟩) (by rw [hW2]; simp)).trans (hc2 j)
  clear hc2 hb2 hW2 HB1
  by_cases hlk : k < on
  · have hlkz : (k : Int) < (on : Int) := by omega
    obtain ⟨hx, go, oo, ka, kn, kc, rfl, hgo, hoc, hka⟩ := op_atO HOPS.out hlk
    have hcw : ∀ j, j < 8 → W2.cell? ⟨go, oo + k * 8 + j, none⟩ = _ := fun j hj => (HB2.out.1.cell (p := ⟨go, oo + k * 8 + j, none⟩) hgo).trans (hoc j hj)
    have o0 := hcw 0 (by omega)
    have o1 := hcw 1 (by omega)
    have o2 := hcw 2 (by omega)
    have o3 := hcw 3 (by omega)
    have o4 := hcw 4 (by omega)
    have o5 := hcw 5 (by omega)
    have o6 := hcw 6 (by omega)
    have o7 := hcw 7 (by omega)
    obtain ⟨X, hX⟩ : ∃ X, X = (blkU f i).ops[k] := ⟨_, rfl⟩
    have HAT : RowKit.Hid (atU f i k = usesL X.K X.A X.B X.C X.L) := Lib.hid (by rw [atU_op hx, hX]; rfl)
    rw [← hX] at hka o0 o1 o2 o3 o4 o5 o6 o7
    have HKA := Lib.hid hka
    clear hcw hoc hka hX hx hgo y2 y3 y4 y5 y6 y7
    obtain ⟨XK, XA, XB, XC, XN, XS, XL, XT⟩ := X
    simp only [Nat.add_zero] at o0
    have CU : RowKit.Hid (Calls Tryd.prog 40 #[.agg #[.int .i64 XK, .int .i64 XA, .int .i64 XB, .int .i64 XC, .int .i64 XN, .string XS, .slice ka kn kc, .bool XT]] W2 fun e w' => ∃ va vn vc, e = .returned (.slice va vn vc) ∧ OwnsI w' W2.heap.size 3 (.slice va vn vc) (usesL XK XA XB XC XL) ∧ Below W2.heap.size W2 w') :=
      Lib.hid (uses_any XK XA XB XC XN XS ka kn kc XT XL W2 (HKA.out.1.since HB2.out.1) HKA.out.2.1 (by have := HKA.out.2.2; omega))
    go_wp2_with (go_at_call 40; refine CU.out.mono ?_; rintro e w5 ⟨ua, un, uc, rfl, ho5, hb5⟩; have HO5 := Lib.hid ho5; have HB5 := Lib.hid hb5; clear ho5 hb5)
    go_ret
    exact ⟨_, _, _, rfl, by rw [HAT.out]; exact HO5.out.mono HB2.out.1.size, HB2.out.1.trans (HB5.out.mono HB2.out.1.size)⟩
  · obtain rfl : k = on := by omega
    have HAT : RowKit.Hid (atU f i k = endU r (theEnd f i)) := Lib.hid (by rw [atU_end f i k (by rw [HON.out]; exact Nat.le_refl _), HRET.out, HFIN.out])
    have HEU : RowKit.Hid (endU r (theEnd f i) = endA r (theEnd f i) ++ (tgts (theEnd f i)).flatMap (·.2)) := Lib.hid rfl
    have HT2 := Lib.hid (tgts_two (theEnd f i))
    have HTB := Lib.hid (tgts_lists HLL.out.1 HLL.out.2)
    have HEA : RowKit.Hid (endA r (theEnd f i) = if EK = 1 ∨ EK = 3 ∨ (EK = 2 ∧ r ≠ -1) then [EA] else []) := Lib.hid (by rw [← HEE.out.1, ← HEE.out.2.1]; rfl)
    have HTV : RowKit.Hid ((tgV EK ET EE la ln lc ma mn mc).length = (tgts (theEnd f i)).length ∧ ∀ j (h : j < (tgV EK ET EE la ln lc ma mn mc).length) (h' : j < (tgts (theEnd f i)).length),
      ListAt w (tgV EK ET EE la ln lc ma mn mc)[j].2.1 (tgV EK ET EE la ln lc ma mn mc)[j].2.2.1 (tgV EK ET EE la ln lc ma mn mc)[j].2.2.2 (tgts (theEnd f i))[j].2) := Lib.hid (by
      have h := tgV_at HLA.out HMA.out
      rw [HEE.out.1, HEE.out.2.2.1, HEE.out.2.2.2] at h
      exact h)
    have CT : RowKit.Hid (∀ u, Calls Tryd.prog 41 #[.agg #[.int .i64 EK, .int .i64 EA, .int .i64 ET, .int .i64 EE, .slice la ln lc, .slice ma mn mc]] u fun e w' => ∃ va vn vc, e = .returned (.slice va vn vc) ∧ OwnsT w' u.heap.size (.slice va vn vc) (tgV EK ET EE la ln lc ma mn mc) ∧ Below u.heap.size u w') := Lib.hid fun u => reftargets_any EK EA ET EE la ln lc ma mn mc u
    generalize endU r (theEnd f i) = EU at *
    generalize endA r (theEnd f i) = AU at *
    generalize tgts (theEnd f i) = TS at *
    generalize tgV EK ET EE la ln lc ma mn mc = TV at *
    clear HFIN HLL HLA HMA HOPS HBLK HEE hlk HON
    have hge : ¬ ((k : Int) < (k : Int)) := by omega
    go_upto_region 4 with fail
    have z2 : ∀ o : Obj, (W2.alloc o).cell? ⟨W1.heap.size, 2, none⟩ = some (.int .i64 EK) := fun o => HY2.out o 2
    have z3 : ∀ o : Obj, (W2.alloc o).cell? ⟨W1.heap.size, 3, none⟩ = some (.int .i64 EA) := fun o => HY2.out o 3
    have z4 : ∀ o : Obj, (W2.alloc o).cell? ⟨W1.heap.size, 4, none⟩ = some (.int .i64 ET) := fun o => HY2.out o 4
    have z5 : ∀ o : Obj, (W2.alloc o).cell? ⟨W1.heap.size, 5, none⟩ = some (.int .i64 EE) := fun o => HY2.out o 5
    have z6 : ∀ o : Obj, (W2.alloc o).cell? ⟨W1.heap.size, 6, none⟩ = some (.slice la ln lc) := fun o => HY2.out o 6
    have z7 : ∀ o : Obj, (W2.alloc o).cell? ⟨W1.heap.size, 7, none⟩ = some (.slice ma mn mc) := fun o => HY2.out o 7
    have x2 : ∀ o o' : Obj, ((W2.alloc o).alloc o').cell? ⟨W1.heap.size, 2, none⟩ = some (.int .i64 EK) := fun o o' => HZ2.out o o' 2
    have x3 : ∀ o o' : Obj, ((W2.alloc o).alloc o').cell? ⟨W1.heap.size, 3, none⟩ = some (.int .i64 EA) := fun o o' => HZ2.out o o' 3
    have x4 : ∀ o o' : Obj, ((W2.alloc o).alloc o').cell? ⟨W1.heap.size, 4, none⟩ = some (.int .i64 ET) := fun o o' => HZ2.out o o' 4
    have x5 : ∀ o o' : Obj, ((W2.alloc o).alloc o').cell? ⟨W1.heap.size, 5, none⟩ = some (.int .i64 EE) := fun o o' => HZ2.out o o' 5
    have x6 : ∀ o o' : Obj, ((W2.alloc o).alloc o').cell? ⟨W1.heap.size, 6, none⟩ = some (.slice la ln lc) := fun o o' => HZ2.out o o' 6
    have x7 : ∀ o o' : Obj, ((W2.alloc o).alloc o').cell? ⟨W1.heap.size, 7, none⟩ = some (.slice ma mn mc) := fun o o' => HZ2.out o o' 7
    go_cut [8, 9] (fun x8 x9 wc => ∃ pe ph : Nat, x8 = .slice (some ⟨ph, 0, none⟩) 0 0 ∧ x9 = .pointer (some ⟨pe, 0, none⟩) ∧ RowKit.Hid (AtSt w r pe #[.int .i64 EK, .int .i64 EA, .int .i64 ET, .int .i64 EE, .slice la ln lc, .slice ma mn mc] (.slice (some ⟨ph, 0, none⟩) 0 0) [] wc))
    case first =>
      go_region
      all_goals
        go_wp2_with fail
        go_meet
        first | exact ⟨_, _, rfl, rfl, Lib.hid (AtSt.one HB2.out.1 HB2.out.2.1 HB2.out.2.2)⟩ | exact ⟨_, _, rfl, rfl, Lib.hid (AtSt.two HB2.out.1 HB2.out.2.1 HB2.out.2.2)⟩
    case rest =>
      obtain ⟨pe, ph, rfl, rfl, HST⟩ := hcut
      clear y1 y2 y3 y4 y5 y6 y7 z2 z3 z4 z5 z6 z7 x2 x3 x4 x5 x6 x7 HB2 HY2 HZ2
      have y0 := HST.out.fin 0
      have y1 := HST.out.fin 1
      have yf := HST.out.ret
      have hcase : EK = 1 ∨ (EK ≠ 1 ∧ EK = 3) ∨ (EK ≠ 1 ∧ EK ≠ 3 ∧ EK = 2 ∧ r ≠ -1) ∨ (EK ≠ 1 ∧ EK ≠ 3 ∧ EK = 2 ∧ r = -1) ∨ (EK ≠ 1 ∧ EK ≠ 3 ∧ EK ≠ 2) := by omega
      have HCASE := Lib.hid hcase
      have HC3 : RowKit.Hid (∀ j, wc.cell? ⟨pe, j, none⟩ = (#[.int .i64 EK, .int .i64 EA, .int .i64 ET, .int .i64 EE, .slice la ln lc, .slice ma mn mc] : Array Value)[j]?) := Lib.hid HST.out.fin
      clear hcase
      rcases HCASE.out with h1 | ⟨h1, h3⟩ | ⟨h1, h3, h2, hr⟩ | ⟨h1, h3, h2, hr⟩ | ⟨h1, h3, h2⟩
      focus
        have HAU : RowKit.Hid (AU = [EA]) := Lib.hid (by rw [HEA.out, if_pos (.inl h1)])
        have k1 : (EK == 1) = true := by rw [h1]; rfl
        clear h1 HCASE
        go_upto_region 7 with (at_builtin; (with_reducible refine wpList_append_numG _ rfl _ _ 34 rfl 3 Tryd.underlying34 info_int w.heap.size (.slice (some ⟨ph, 0, none⟩) 0 0) [] ?_ ?_ ?_ _ 1 wc.heap.size EA ?_ ?_ ?_ ?_ ?_); (next => rfl); (next => exact HST.out.own); (next => exact HST.out.bel.size); (next => rfl); (next => rfl); (next => rfl); (next => simp); intro va vn vc w3 ho3 hg3; have HS3 : RowKit.Hid (OwnsI w3 w.heap.size 3 (.slice va vn vc) AU ∧ Below w.heap.size w w3 ∧ (∀ j, w3.cell? ⟨pe, j, none⟩ = (#[.int .i64 EK, .int .i64 EA, .int .i64 ET, .int .i64 EE, .slice la ln lc, .slice ma mn mc] : Array Value)[j]?)) := Lib.hid ⟨by rw [HAU.out]; exact ho3, HST.out.push ho3 hg3⟩; clear ho3 hg3)
        clear y0 y1 yf HAU
      rotate_left
      focus
        have HAU : RowKit.Hid (AU = [EA]) := Lib.hid (by rw [HEA.out, if_pos (.inr (.inl h3))])
        have k1 : (EK == 1) = false := by simpa using h1
        have k3 : (EK == 3) = true := by rw [h3]; rfl
        clear h1 h3 HCASE
        go_upto_region 7 with (at_builtin; (with_reducible refine wpList_append_numG _ rfl _ _ 34 rfl 3 Tryd.underlying34 info_int w.heap.size (.slice (some ⟨ph, 0, none⟩) 0 0) [] ?_ ?_ ?_ _ 1 wc.heap.size EA ?_ ?_ ?_ ?_ ?_); (next => rfl); (next => exact HST.out.own); (next => exact HST.out.bel.size); (next => rfl); (next => rfl); (next => rfl); (next => simp); intro va vn vc w3 ho3 hg3; have HS3 : RowKit.Hid (OwnsI w3 w.heap.size 3 (.slice va vn vc) AU ∧ Below w.heap.size w w3 ∧ (∀ j, w3.cell? ⟨pe, j, none⟩ = (#[.int .i64 EK, .int .i64 EA, .int .i64 ET, .int .i64 EE, .slice la ln lc, .slice ma mn mc] : Array Value)[j]?)) := Lib.hid ⟨by rw [HAU.out]; exact ho3, HST.out.push ho3 hg3⟩; clear ho3 hg3)
        clear y0 y1 yf HAU
      rotate_left
      focus
        have HAU : RowKit.Hid (AU = [EA]) := Lib.hid (by rw [HEA.out, if_pos (.inr (.inr ⟨h2, hr⟩))])
        have k1 : (EK == 1) = false := by simpa using h1
        have k3 : (EK == 3) = false := by simpa using h3
        have k2 : (EK == 2) = true := by rw [h2]; rfl
        have kr : (r != -1) = true := by rw [bne_iff_ne]; exact hr
        have kre : (r == -1) = false := by simpa using hr
        clear h1 h3 h2 hr HCASE
        go_upto_region 7 with (at_builtin; (with_reducible refine wpList_append_numG _ rfl _ _ 34 rfl 3 Tryd.underlying34 info_int w.heap.size (.slice (some ⟨ph, 0, none⟩) 0 0) [] ?_ ?_ ?_ _ 1 wc.heap.size EA ?_ ?_ ?_ ?_ ?_); (next => rfl); (next => exact HST.out.own); (next => exact HST.out.bel.size); (next => rfl); (next => rfl); (next => rfl); (next => simp); intro va vn vc w3 ho3 hg3; have HS3 : RowKit.Hid (OwnsI w3 w.heap.size 3 (.slice va vn vc) AU ∧ Below w.heap.size w w3 ∧ (∀ j, w3.cell? ⟨pe, j, none⟩ = (#[.int .i64 EK, .int .i64 EA, .int .i64 ET, .int .i64 EE, .slice la ln lc, .slice ma mn mc] : Array Value)[j]?)) := Lib.hid ⟨by rw [HAU.out]; exact ho3, HST.out.push ho3 hg3⟩; clear ho3 hg3)
        clear y0 y1 yf HAU
      rotate_left
      focus
        have HAU : RowKit.Hid (AU = []) := Lib.hid (by rw [HEA.out, if_neg]; rintro (h | h | h); exact h1 h; exact h3 h; exact h.2 hr)
        have k1 : (EK == 1) = false := by simpa using h1
        have k3 : (EK == 3) = false := by simpa using h3
        have k2 : (EK == 2) = true := by rw [h2]; rfl
        have kr : (r != -1) = false := by rw [hr]; rfl
        have kre : (r == -1) = true := by rw [hr]; rfl
        clear h1 h3 h2 hr HCASE
        go_upto_region 7 with fail
        obtain ⟨w3, hw3⟩ : ∃ u, u = wc := ⟨_, rfl⟩
        obtain ⟨va, hva⟩ : ∃ va : Option Addr, va = some ⟨ph, 0, none⟩ := ⟨_, rfl⟩
        obtain ⟨vn, hvn⟩ : ∃ vn : Nat, vn = 0 := ⟨_, rfl⟩
        obtain ⟨vc, hvc⟩ : ∃ vc : Nat, vc = 0 := ⟨_, rfl⟩
        have HS3 : RowKit.Hid (OwnsI w3 w.heap.size 3 (.slice va vn vc) AU ∧ Below w.heap.size w w3 ∧ (∀ j, w3.cell? ⟨pe, j, none⟩ = (#[.int .i64 EK, .int .i64 EA, .int .i64 ET, .int .i64 EE, .slice la ln lc, .slice ma mn mc] : Array Value)[j]?)) := Lib.hid (by rw [HAU.out, hva, hvn, hvc, hw3]; exact ⟨HST.out.own, HST.out.bel, HST.out.fin⟩)
        rw [← hw3, ← hva]
        have HV0 : RowKit.Hid (vn = 0 ∧ vc = 0) := Lib.hid ⟨hvn, hvc⟩
        clear hw3 hva hvn hvc y0 y1 yf HAU
      rotate_left
      focus
        have HAU : RowKit.Hid (AU = []) := Lib.hid (by rw [HEA.out, if_neg]; rintro (h | h | h); exact h1 h; exact h3 h; exact h2 h.1)
        have k1 : (EK == 1) = false := by simpa using h1
        have k3 : (EK == 3) = false := by simpa using h3
        have k2 : (EK == 2) = false := by simpa using h2
        clear h1 h3 h2 HCASE
        go_upto_region 7 with fail
        obtain ⟨w3, hw3⟩ : ∃ u, u = wc := ⟨_, rfl⟩
        obtain ⟨va, hva⟩ : ∃ va : Option Addr, va = some ⟨ph, 0, none⟩ := ⟨_, rfl⟩
        obtain ⟨vn, hvn⟩ : ∃ vn : Nat, vn = 0 := ⟨_, rfl⟩
        obtain ⟨vc, hvc⟩ : ∃ vc : Nat, vc = 0 := ⟨_, rfl⟩
        have HS3 : RowKit.Hid (OwnsI w3 w.heap.size 3 (.slice va vn vc) AU ∧ Below w.heap.size w w3 ∧ (∀ j, w3.cell? ⟨pe, j, none⟩ = (#[.int .i64 EK, .int .i64 EA, .int .i64 ET, .int .i64 EE, .slice la ln lc, .slice ma mn mc] : Array Value)[j]?)) := Lib.hid (by rw [HAU.out, hva, hvn, hvc, hw3]; exact ⟨HST.out.own, HST.out.bel, HST.out.fin⟩)
        rw [← hw3, ← hva]
        have HV0 : RowKit.Hid (vn = 0 ∧ vc = 0) := Lib.hid ⟨hvn, hvc⟩
        clear hw3 hva hvn hvc y0 y1 yf HAU
      rotate_left
      all_goals
        have y0 := HS3.out.2.2 0
        have y1 := HS3.out.2.2 1
        have y2 := HS3.out.2.2 2
        have y3 := HS3.out.2.2 3
        have y4 := HS3.out.2.2 4
        have y5 := HS3.out.2.2 5
        have HAL : RowKit.Hid (AU.length ≤ 1) := Lib.hid (by rw [HEA.out]; split <;> simp)
        clear HEA HST HC3
        go_upto_region 8 with (go_at_call 41; (with_reducible refine (CT.out _).mono ?_); rintro e w8 ⟨ta, tn, tc, rfl, ho, hb⟩; have HO8 := Lib.hid ho; have HB8 := Lib.hid hb; clear ho hb)
        clear y0 y1 y2 y3 y4 y5 CT
        have hvn : tn = TV.length := HO8.out.read.1
        have hll : TV.length = TS.length := HTV.out.1
        have hvb : tn ≤ 2 := by rw [hvn, hll]; exact HT2.out
        have HVL : RowKit.Hid (tn = TV.length ∧ TV.length = TS.length) := Lib.hid ⟨hvn, hll⟩
        have HE0 : RowKit.Hid (EnSt w w8 w3.heap.size (.slice va vn vc) AU w8) := Lib.hid ⟨HS3.out.1.below HB8.out, HS3.out.2.1.trans (HB8.out.mono HS3.out.2.1.size), Off.refl _ _, fun k hk => .inl (HS3.out.1.lt k hk).2, Nat.le_trans HS3.out.2.1.size HB8.out.size⟩
        clear hvn hll HS3 HB8
        obtain ⟨s7, hs7⟩ : ∃ s, s = w3.heap.size := ⟨_, rfl⟩
        rw [← hs7] at HO8 HE0
        clear hs7
        go_wp2_with fail
        go_loopw [8, 11] (fun v8 v11 wr => ∃ i : Nat, i ≤ tn ∧ v11 = .int .i64 (i : Int) ∧ ∃ xa xn xc, v8 = .slice xa xn xc ∧ RowKit.Hid (EnSt w w8 s7 (.slice xa xn xc) (AU ++ (TS.take i).flatMap (·.2)) wr)) (fun _ iv _ => tn - (intOf iv).toNat)
        case atStart =>
          first
            | exact ⟨0, Nat.zero_le _, rfl, _, _, _, rfl, Lib.hid (by simpa using HE0.out)⟩
            | exact ⟨0, Nat.zero_le _, rfl, _, _, _, rfl, Lib.hid (by have h := HE0.out; rw [HV0.out.1, HV0.out.2] at h; simpa using h)⟩
        case round =>
          obtain ⟨i, hi, rfl, xa, xn, xc, rfl, HI⟩ := hrel
          clear HE0
          by_cases hlt : i < tn
          · have hltz : (i : Int) < (tn : Int) := by omega
            have hi0 : (0 : Int) ≤ (i : Int) := by omega
            have hil : i < TV.length := by have := HVL.out.1; omega
            have hit : i < TS.length := by have := HVL.out.2; omega
            have hown := HTV.out.2 i hil hit
            have hrd := HO8.out.read.2
            obtain ⟨gt, rfl, hgB, hgl, hcel⟩ := hrd (by omega)
            obtain ⟨d0, d1⟩ := hcel i hil
            have hoff : ∀ j, wr.cell? ⟨gt, j, none⟩ = w8.cell? ⟨gt, j, none⟩ := fun j => HI.out.off.cell (p := ⟨gt, j, none⟩) hgl (by show ¬ gt < s7; omega)
            have c0 := (hoff _).trans d0
            have c1 := (hoff _).trans d1
            have HMORE : RowKit.Hid ((TS.take (i + 1)).flatMap (·.2) = (TS.take i).flatMap (·.2) ++ TS[i].2) := Lib.hid (flatMap_take_more TS i hit)
            have HLEN : RowKit.Hid (((TS.take i).flatMap (·.2)).length ≤ 200000) := Lib.hid (flatMap_len TS HTB.out HT2.out i)
            obtain ⟨Z, hZ⟩ : ∃ Z, Z = TV[i] := ⟨_, rfl⟩
            rw [← hZ] at hown c0 c1
            obtain ⟨z1, ka, kn, kc⟩ := Z
            simp only [] at hown c0 c1
            obtain ⟨L, hL⟩ : ∃ L, L = TS[i].2 := ⟨_, rfl⟩
            have hLl : L.length ≤ 100000 := by rw [hL]; exact HTB.out _ (List.getElem_mem hit)
            rw [← hL] at hown HMORE
            have HNUM : RowKit.Hid (NumsAt wr ka kn L) := Lib.hid (hown.1.since HI.out.bel)
            have HKC := Lib.hid hown.2.1
            have HKN : RowKit.Hid (((AU ++ (TS.take i).flatMap (·.2)).length + kn) * 8 ≤ 140737488355328) := Lib.hid (by
              have h1 := HLEN.out
              have h2 := HAL.out
              have h3 : L.length = kn := hown.1.1
              rw [List.length_append]
              omega)
            clear hown hcel hgl hgB hrd hZ hL hLl hit hil d0 d1 hoff
            go_wp2_with (at_builtin; (with_reducible refine wpList_append_numsA _ rfl _ _ 34 rfl 3 Tryd.underlying34 info_int w.heap.size (.slice xa xn xc) (AU ++ (TS.take i).flatMap (·.2)) ?_ ?_ ?_ ka kn kc L ?_ ?_ ?_ ?_ ?_); (next => rfl); (next => exact HI.out.own); (next => exact HI.out.bel.size); (next => rfl); (next => exact HKC.out); (next => exact HNUM.out); (next => exact HKN.out); intro ea en ec w5 ho hg hwh; have HE5 := Lib.hid (HI.out.more ho hg hwh); clear ho hg hwh)
            go_roundw
            case rel => exact ⟨i + 1, by omega, by go_num, _, _, _, rfl, Lib.hid (by rw [HMORE.out, ← List.append_assoc]; exact HE5.out)⟩
            case measure => simp [intOf]; omega
          · obtain rfl : i = tn := by omega
            have hge : ¬ ((i : Int) < (i : Int)) := by omega
            have HR : RowKit.Hid (EU = AU ++ (TS.take i).flatMap (·.2)) := Lib.hid (by rw [HEU.out, List.take_of_length_le (by have := HVL.out; omega)])
            go_wp2_with fail
            go_ret
            exact ⟨_, _, _, rfl, by rw [HAT.out, HR.out]; exact HI.out.own, HI.out.bel⟩
end Go.Proofs.YtdchhfdmingnaaaDoor
