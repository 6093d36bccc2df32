/- Layer 13: package uses' iterator: each value that stands in a step or an end, with its place. -/
import Derived.Test.YtdchhfdmingnaaaDoorFCfgI
import Derived.Test.YtdchhfdmingnaaaDoorFCfgJ
import Derived.Test.YtdchhfdmingnaaaDoorFCfgW
import Derived.Test.YtdchhfdmingnaaaDoorFCodeFi
import Derived.Test.YtdchhfdmingnaaaDoorFDomR
import Derived.Test.YtdchhfdmingnaaaDoorFKindUsesK
import Derived.Test.YtdchhfdmingnaaaDoorFT0
import Derived.Test.YtdchhfdmingnaaaDoorFT1
import Derived.Test.YtdchhfdmingnaaaDoorFT2
import Derived.Test.YtdchhfdmingnaaaDoorFT3
import Derived.Test.YtdchhfdmingnaaaDoorFUsesA
import Derived.Stop.RegionWithIn
import Derived.BigQuiet
import Derived.Lib.AppendZerosOnto
namespace Go.Proofs.YtdchhfdmingnaaaDoor
open Go.RowKit
set_option linter.unusedVariables false
set_option linter.unusedSimpArgs false
attribute [local go_sem] Oper.semAt_some
theorem KeepO.cell {O : World → Nat → Prop} {W W' : World} (h : KeepO O W W') {p : Addr} (hp : p.block < W.heap.size) (hn : ¬ O W p.block) : W'.cell? p = W.cell? p := World.cell?_of_block (h.same _ hp hn)
theorem KeepO.free {O : World → Nat → Prop} {W W' : World} (h : KeepO O W W') {i : Nat} (hi : i < W.heap.size) (hn : ¬ O W i) : ¬ O W' i := fun e => hn (h.new i e hi)
theorem KeepO.grown {O : World → Nat → Prop} (hO : SteadyO O) {W W' : World} {row : Option Nat} (hg : W.grownBy W' row) (hL : LiesO O W) (hr : ∀ r, row = some r → W.heap.size ≤ r ∧ ¬ O W r) : KeepO O W W' :=
  ⟨hg.size, fun i hi _ => hg.block i hi (fun e => by have := (hr i e.symm).1; omega), fun i h hi => (hO W W' row hg hL (fun r e => (hr r e).2) i).1 h, hg.os, hg.tape, hg.output⟩
theorem KeepO.alloc {O : World → Nat → Prop} (hO : SteadyO O) {W : World} (hL : LiesO O W) (o : Obj) : KeepO O W (W.alloc o) := KeepO.grown hO (World.grownBy_alloc W o none) hL (fun r e => by cases e)
theorem LiesO.alloc {O : World → Nat → Prop} (hO : SteadyO O) {W : World} (hL : LiesO O W) (o : Obj) : LiesO O (W.alloc o) := hL.step hO (World.grownBy_alloc W o none) (fun r e => by cases e)
theorem grownBy_of_below {W W' : World} (h : Below W.heap.size W W') : W.grownBy W' none := ⟨h.os, h.tape, h.output, h.size, fun k hk _ => h.block k hk⟩
theorem LiesO.free {O : World → Nat → Prop} {W : World} (hL : LiesO O W) {k : Nat} (hk : W.heap.size ≤ k) : ¬ O W k := fun e => by have := hL.lt e; omega
theorem KeepO.nums {O : World → Nat → Prop} {W W' : World} (h : KeepO O W W') {a : Option Addr} {n : Nat} {Z : List Int} (ha : NumsAt W a n Z) (hf : ∀ g off, a = some ⟨g, off, none⟩ → 0 < n → ¬ O W g) : NumsAt W' a n Z := by
  refine ⟨ha.1, fun h0 => ?_⟩
  obtain ⟨g, off, rfl, hg, hc⟩ := ha.2 h0
  exact ⟨g, off, rfl, Nat.lt_of_lt_of_le hg h.size, fun j hj => (h.cell (p := ⟨g, off + j, none⟩) hg (hf g off rfl h0)).trans (hc j hj)⟩
theorem pairsU_take (s : SiteU) (V : Nat) (Z : List Int) (k : Nat) : (pairsU s V (Z.take k)).length ≤ (pairsU s V Z).length := by
  unfold pairsU
  rw [List.length_map, List.length_map]
  conv => rhs; rw [← List.take_append_drop k Z, List.filter_append, List.length_append]
  exact Nat.le_add_right _ _
abbrev siteV (s : SiteU) : Value := .agg #[.int .i64 0, .int .i64 (s.1 : Int), .int .i64 (s.2 : Int)]
abbrev encU (x : UseU) : Array Value := #[siteV x.1, .int .i64 x.2]
set_option maxRecDepth 100000 in
set_option maxHeartbeats 2000000 in
theorem eachU_in {O : World → Nat → Prop} {J : List UseU → World → Prop} {Vp : UseU → Prop} {N m l bs b2 n0 : Nat} (hO : SteadyO O) (hab : AbidesO n0 O J)
    (hY : ∀ pre x W1, J pre W1 → Vp x → pre.length < N → YieldAt Fence.wide (m - 1) Tryd.prog l (encU x) W1 fun e W' => e = .returned (.bool true) ∧ J (pre ++ [x]) W' ∧ KeepO O W1 W' ∧ LiesO O W')
    (s : SiteU) (V : Nat) (va : Option Addr) (vn vc : Nat) (Z : List Int) (pre : List UseU) (W : World)
    (hz : W.cell? ⟨bs, 0, none⟩ = some (.int .i64 (V : Int))) (hbs : ¬ O W bs) (hy : W.cell? ⟨b2, 0, none⟩ = some (.func (.yield l) #[] #[])) (hb2 : ¬ O W b2) (hat : NumsAt W va vn Z) (hvn : vn ≤ 140737488355328)
    (hfree : ∀ g off, va = some ⟨g, off, none⟩ → 0 < vn → ¬ O W g) (hL : LiesO O W) (hJ : J pre W) (hV : ∀ x ∈ pairsU s V Z, Vp x) (hN : pre.length + (pairsU s V Z).length ≤ N) :
    CallsIn Fence.wide m Tryd.prog 37 #[siteV s, .slice va vn vc, .pointer (some ⟨bs, 0, none⟩), .pointer (some ⟨b2, 0, none⟩)] W fun e W' => e = .returned (.bool true) ∧ J (pre ++ pairsU s V Z) W' ∧ KeepO O W W' ∧ LiesO O W' := by
  have hlen : Z.length = vn := hat.1
  have hsl : bs < W.heap.size := World.block_lt_of_cell? (a := ⟨bs, 0, none⟩) _ hz
  have hyl : b2 < W.heap.size := World.block_lt_of_cell? (a := ⟨b2, 0, none⟩) _ hy
  obtain ⟨st, hst⟩ : ∃ q : Obj, q = .cells #[.int .i64 0, .int .i64 (s.1 : Int), .int .i64 (s.2 : Int)] 41 := ⟨_, rfl⟩
  obtain ⟨W1, hW1⟩ : ∃ u, u = W.alloc st := ⟨_, rfl⟩
  have HK1 : RowKit.Hid (KeepO O W W1) := Lib.hid (by rw [hW1]; exact KeepO.alloc hO hL _)
  have HL1 : RowKit.Hid (LiesO O W1) := Lib.hid (by rw [hW1]; exact hL.alloc hO _)
  have HJ1 : RowKit.Hid (J pre W1) := Lib.hid (by rw [hW1]; exact hab.alloc _ hJ)
  have HS1 : RowKit.Hid (W1.heap.size = W.heap.size + 1) := Lib.hid (by rw [hW1]; simp)
  have HC1 : RowKit.Hid (∀ j, W1.cell? ⟨W.heap.size, j, none⟩ = (#[.int .i64 0, .int .i64 (s.1 : Int), .int .i64 (s.2 : Int)] : Array Value)[j]?) := Lib.hid fun j => by rw [hW1, hst]; exact World.cell?_alloc_mark _ _ _ _ _
  have HF1 : RowKit.Hid (¬ O W1 W.heap.size) := Lib.hid fun e => by
    rw [hW1] at e
    exact hL.free (Nat.le_refl _) ((hO _ _ none (World.grownBy_alloc W st none) hL (fun r e => by cases e) _).1 e)
  have HBS : RowKit.Hid (∀ u, KeepO O W1 u → u.cell? ⟨bs, 0, none⟩ = some (.int .i64 (V : Int)) ∧ u.cell? ⟨b2, 0, none⟩ = some (.func (.yield l) #[] #[]) ∧ NumsAt u va vn Z ∧ ∀ j, u.cell? ⟨W.heap.size, j, none⟩ = (#[.int .i64 0, .int .i64 (s.1 : Int), .int .i64 (s.2 : Int)] : Array Value)[j]?) := Lib.hid fun u hu => by
    have hk := HK1.out.trans hu
    exact ⟨(hk.cell (p := ⟨bs, 0, none⟩) hsl hbs).trans hz, (hk.cell (p := ⟨b2, 0, none⟩) hyl hb2).trans hy, hk.nums hat hfree, fun j => (hu.cell (p := ⟨W.heap.size, j, none⟩) (by show W.heap.size < _; rw [HS1.out]; omega) HF1.out).trans (HC1.out j)⟩
  have HY := Lib.hid hY
  have HV := Lib.hid hV
  have HN := Lib.hid hN
  have HLEN := Lib.hid hlen
  clear hat hfree hz hy hbs hb2 hsl hyl hY hV hN hJ hL hlen HC1 HF1 HS1 hab
  refine callsIn_of_wp Tryd.func37 rfl trivial ?_ rfl
  simp only [Tryd.ntmps37, List.size_toArray, List.length_cons, List.length_nil, Nat.reduceAdd, Nat.reduceSub, Array.replicate_succ, Array.replicate_zero, List.push_toArray, List.append_toArray, List.nil_append, List.cons_append]
  gi_wp2
  rw [← hst, ← hW1]
  clear hst
  gi_loopw [11] (fun iv wr => ∃ k : Nat, k ≤ vn ∧ iv = .int .i64 (k : Int) ∧ RowKit.Hid (J (pre ++ pairsU s V (Z.take k)) wr ∧ KeepO O W1 wr ∧ LiesO O wr)) (fun iv _ => vn - (intOf iv).toNat)
  case atStart => exact ⟨0, Nat.zero_le _, rfl, Lib.hid ⟨by simpa [pairsU] using HJ1.out, KeepO.refl _ _, HL1.out⟩⟩
  case round =>
    obtain ⟨k, hk, rfl, HI⟩ := hrel
    clear HJ1 HL1
    obtain ⟨z0, y0, na, s0⟩ := HBS.out wr HI.out.2.1
    have t0 := s0 0
    have t1 := s0 1
    have t2 := s0 2
    by_cases hlt : k < vn
    · have hkl : k < Z.length := by rw [HLEN.out]; exact hlt
      obtain ⟨ad, hne, hcel⟩ := na.at (by omega)
      subst hne
      have c0 := hcel k hkl
      obtain ⟨z, hzz⟩ : ∃ z, z = Z[k] := ⟨_, rfl⟩
      rw [← hzz] at c0
      unfold numV at c0
      have HMORE : RowKit.Hid (pairsU s V (Z.take (k + 1)) = pairsU s V (Z.take k) ++ (if inU V z then [(s, z)] else [])) := Lib.hid (by rw [List.take_succ_eq_append_getElem hkl, pairsU_more, ← hzz])
      have HVX : RowKit.Hid (inU V z = true → Vp (s, z) ∧ (pre ++ pairsU s V (Z.take k)).length < N) := Lib.hid fun hi => by
        refine ⟨HV.out _ ?_, ?_⟩
        · unfold pairsU
          exact List.mem_map.2 ⟨z, List.mem_filter.2 ⟨by rw [hzz]; exact List.getElem_mem hkl, hi⟩, rfl⟩
        · have h1 := pairsU_take s V Z (k + 1)
          rw [HMORE.out, hi, if_pos rfl, List.length_append] at h1
          have := HN.out
          rw [List.length_append]
          simp at h1
          omega
      have HKLT := Lib.hid hlt
      clear hcel na s0 hzz hkl
      by_cases h0 : 0 ≤ z
      · by_cases h1 : z < (V : Int)
        · have HIN : RowKit.Hid (inU V z = true) := Lib.hid (by unfold inU; simp [h0, h1])
          have hy0 := HY.out (pre ++ pairsU s V (Z.take k)) (s, z) wr HI.out.1 (HVX.out HIN.out).1 (HVX.out HIN.out).2
          unfold encU siteV at hy0
          obtain ⟨fn, tmps, assign, body, hy, hR⟩ := hy0
          gi_wp2
          refine ⟨(fun h => (nomatch h)), hR.mono ?_⟩
          rintro e W3 ⟨rfl, hJ3, hk3, hl3⟩
          gi_wp2
          go_roundw
          case rel => exact ⟨k + 1, by omega, by go_num, Lib.hid ⟨by rw [HMORE.out, HIN.out, if_pos rfl, ← List.append_assoc]; exact hJ3, HI.out.2.1.trans hk3, hl3⟩⟩
          case measure => simp [intOf]; omega
        · have HIN : RowKit.Hid (inU V z = false) := Lib.hid (by unfold inU; simp [h1])
          gi_wp2
          refine ⟨fun f h => (nomatch h), ?_⟩
          gi_wp2
          go_roundw
          case rel => exact ⟨k + 1, by omega, by go_num, Lib.hid ⟨by rw [HMORE.out, HIN.out, if_neg (by simp), List.append_nil]; exact HI.out.1, HI.out.2⟩⟩
          case measure => simp [intOf]; omega
      · have h0' : z < 0 := by omega
        have HIN : RowKit.Hid (inU V z = false) := Lib.hid (by unfold inU; simp [h0])
        gi_wp2
        refine ⟨fun f h => (nomatch h), ?_⟩
        gi_wp2
        go_roundw
        case rel => exact ⟨k + 1, by omega, by go_num, Lib.hid ⟨by rw [HMORE.out, HIN.out, if_neg (by simp), List.append_nil]; exact HI.out.1, HI.out.2⟩⟩
        case measure => simp [intOf]; omega
    · obtain rfl : k = vn := by omega
      have HZ : RowKit.Hid (Z.take k = Z) := Lib.hid (List.take_of_length_le (by rw [HLEN.out]; exact Nat.le_refl _))
      gi_wp2
      go_ret
      exact ⟨rfl, by have h := HI.out.1; rw [HZ.out] at h; exact h, HK1.out.trans HI.out.2.1, HI.out.2.2⟩
end Go.Proofs.YtdchhfdmingnaaaDoor

/- Layer 8: the document's Over. -/
namespace Go.Proofs.YtdchhfdmingnaaaDoor
open Go.RowKit (wrap64 intOf Below)
set_option linter.unusedVariables false
set_option linter.unusedSimpArgs false
def MI (f : FuncD) (fr wo z : Int) : Prop := ∃ v : Nat, z = v ∧ RM f fr wo v
theorem mi_iff {f : FuncD} {fr wo : Int} {n : Nat} {Z : List Int} (hI : Inv n Z) (h : ∀ v : Nat, (v : Int) ∈ Z ↔ RM f fr wo v) (z : Int) : z ∈ Z ↔ MI f fr wo z := by
  constructor
  · intro hz
    obtain ⟨v, rfl, _⟩ := nat_of (hI.2 z hz)
    exact ⟨v, rfl, (h v).1 hz⟩
  · rintro ⟨v, rfl, hv⟩
    exact (h v).2 hv
def OverF (f : FuncD) (x y : Int) : Prop := MI f 0 (-1) x ∧ MI f 0 (-1) y ∧ ¬ MI f 0 x y
open Classical in
noncomputable def overB (f : FuncD) (x y : Int) : Bool := decide (OverF f x y)
theorem overB_of {f : FuncD} {x y : Int} {q : Bool} (h : q = true ↔ OverF f x y) : q = overB f x y := by
  unfold overB
  rw [Bool.eq_iff_iff]
  simpa using h
theorem overB_iff {f : FuncD} {x y : Int} : overB f x y = true ↔ OverF f x y := by unfold overB; simp
theorem law_enter (w : World) (r : Int) (a : Option Addr) (n c : Nat) : LawSt w r a n c none 0 [] (w.alloc (.cells #[.int .i64 r, .slice a n c] 30)) := by
  have hc : ∀ j, (w.alloc (.cells #[.int .i64 r, .slice a n c] 30)).cell? ⟨w.heap.size, j, none⟩ = (#[.int .i64 r, .slice a n c] : Array Value)[j]? := fun j => World.cell?_alloc_mark _ _ _ _ _
  exact ⟨(Below.refl w.heap.size w).alloc (Nat.le_refl _) _, by simp, hc 0, hc 1, NumsAt.nil _ _⟩
set_option maxRecDepth 100000 in
set_option maxHeartbeats 4000000 in
theorem refover_any (r : Int) (a : Option Addr) (n c : Nat) (f : FuncD) (x y : Int) (w : World) (hrow : RowV BlockQ 8 w (.slice a n c) f.blocks) (hn : n ≤ 1099511627776) :
    Calls Tryd.prog 79 #[.agg #[.int .i64 r, .slice a n c], .int .i64 x, .int .i64 y] w fun e w' => e = .returned (.bool (overB f x y)) ∧ Below w.heap.size w w' := by
  have HROW := Lib.hid hrow
  clear hrow
  have CM : RowKit.Hid (∀ (fr wo : Int) (u : World), Below w.heap.size w u → Calls Tryd.prog 82 #[.agg #[.int .i64 r, .slice a n c], .int .i64 fr, .int .i64 wo] u fun e w' => ∃ va vn vc Z, e = .returned (.slice va vn vc) ∧ OwnsI w' u.heap.size 3 (.slice va vn vc) Z ∧ vn ≤ n ∧ (∀ z, z ∈ Z ↔ MI f fr wo z) ∧ Below u.heap.size u w') := Lib.hid fun fr wo u hu => (refmet_any r a n c f fr wo u (HROW.out.since BlockQ.lasts hu) hn).mono (by
    rintro e w' ⟨va, vn, vc, Z, he, ho, hI, hZ, hb⟩
    exact ⟨va, vn, vc, Z, he, ho, by have := ho.read.1; have := hI.len; omega, mi_iff hI hZ, hb⟩)
  obtain ⟨W0, hW0⟩ : ∃ W0, w.alloc (.cells #[.int .i64 r, .slice a n c] 30) = W0 := ⟨_, rfl⟩
  have HS0 : RowKit.Hid (LawSt w r a n c none 0 [] W0) := Lib.hid (by rw [← hW0]; exact law_enter w r a n c)
  have hc0 := HS0.out.c0
  have hc1 := HS0.out.c1
  go_enter Tryd.func79, Tryd.ntmps79
  go_upto_region 2 with (go_at_call 82; refine (CM.out 0 (-1) W0 HS0.out.bel).mono ?_; rintro e w1 ⟨va, vn, vc, Z, rfl, ho, hvn, hZ, hb⟩; have HB1 := Lib.hid hb; have HO1 := Lib.hid ho; have HZ1 := Lib.hid hZ; clear ho hZ hb)
  clear hW0 hc0 hc1
  have HS1 : RowKit.Hid (LawSt w r a n c none 0 [] w1) := Lib.hid (HS0.out.since HB1.out)
  have hc0 := HS1.out.c0
  have hc1 := HS1.out.c1
  have CHx : RowKit.Hid (Calls Tryd.prog 20 #[.slice va vn vc, .int .i64 x] w1 fun e w' => e = .returned (.bool (inL Z x)) ∧ w1 = w') := Lib.hid (chas_any va vn vc Z x w1 HO1.out.read (by omega))
  have CHy : RowKit.Hid (Calls Tryd.prog 20 #[.slice va vn vc, .int .i64 y] w1 fun e w' => e = .returned (.bool (inL Z y)) ∧ w1 = w') := Lib.hid (chas_any va vn vc Z y w1 HO1.out.read (by omega))
  cases hx : inL Z x with
  | false =>
    have HR : RowKit.Hid (false = overB f x y) := Lib.hid (overB_of ⟨fun h => by simp at h, fun h => absurd ((HZ1.out x).2 h.1) (of_decide_eq_false hx)⟩)
    rw [hx] at CHx
    clear hx
    go_wp2_with (go_at_call 20; (with_reducible refine CHx.out.mono ?_); rintro e u ⟨rfl, rfl⟩; clear CHx)
    go_ret
    exact ⟨by rw [← HR.out]; rfl, HS1.out.bel⟩
  | true =>
    rw [hx] at CHx
    have HX := Lib.hid ((HZ1.out x).1 (of_decide_eq_true hx))
    clear hx
    cases hy : inL Z y with
    | false =>
      have HR : RowKit.Hid (false = overB f x y) := Lib.hid (overB_of ⟨fun h => by simp at h, fun h => absurd ((HZ1.out y).2 h.2.1) (of_decide_eq_false hy)⟩)
      rw [hy] at CHy
      clear hy
      go_wp2_with (first
        | (go_at_call 20; (with_reducible refine CHx.out.mono ?_); rintro e u ⟨rfl, rfl⟩; clear CHx)
        | (go_at_call 20; (with_reducible refine CHy.out.mono ?_); rintro e u ⟨rfl, rfl⟩; clear CHy))
      go_ret
      exact ⟨by rw [← HR.out]; rfl, HS1.out.bel⟩
    | true =>
      rw [hy] at CHy
      have HY := Lib.hid ((HZ1.out y).1 (of_decide_eq_true hy))
      clear hy
      go_wp2_with (first
        | (go_at_call 20; (with_reducible refine CHx.out.mono ?_); rintro e u ⟨rfl, rfl⟩; clear CHx)
        | (go_at_call 20; (with_reducible refine CHy.out.mono ?_); rintro e u ⟨rfl, rfl⟩; clear CHy)
        | (go_at_call 82; (with_reducible refine (CM.out 0 x w1 HS1.out.bel).mono ?_); rintro e w2 ⟨ya, yn, yc, Y, rfl, ho, hyn, hY, hb⟩; have HB2 := Lib.hid hb; have CHz := Lib.hid (chas_any ya yn yc Y y w2 ho.read (by omega)); have HR : RowKit.Hid ((!inL Y y) = overB f x y) := Lib.hid (overB_of (by rw [Bool.not_eq_true']; constructor; (intro h; exact ⟨HX.out, HY.out, fun h2 => of_decide_eq_false h ((hY y).2 h2)⟩); (intro h; exact decide_eq_false fun h2 => h.2.2 ((hY y).1 h2)))); generalize inL Y y = bb at CHz HR; clear ho hY hb)
        | (go_at_call 20; (with_reducible refine CHz.out.mono ?_); rintro e u ⟨rfl, rfl⟩; clear CHz))
      go_ret
      exact ⟨by rw [← HR.out]; rfl, (HS1.out.since HB2.out).bel⟩
end Go.Proofs.YtdchhfdmingnaaaDoor

/- Layer 8, plain: what the settled tree tells is what the document asks: over, above, edges, loops, tame. Nothing of the program is named here. -/
namespace Go.Proofs.YtdchhfdmingnaaaDoor
set_option linter.unusedVariables false
section
variable {f : FuncD} {n m : Nat} {UP : List Int}
theorem mi_met (f : FuncD) (v : Nat) : MI f 0 (-1) v ↔ MetF f v := by
  constructor
  · rintro ⟨u, hu, k, hk, hkl, hw⟩
    obtain rfl : v = u := by omega
    obtain rfl : k = 0 := by omega
    exact (met_way hkl v).2 (hw.mono fun _ _ => trivial)
  · intro h
    have h0 : 0 < f.blocks.length := by have := met_lt h; omega
    exact ⟨v, rfl, 0, rfl, h0, ((met_way h0 v).1 h).mono fun u _ => by omega⟩
theorem mi_none {f : FuncD} {fr wo z : Int} (h : MI f fr wo z) : ∃ v : Nat, z = v := by obtain ⟨v, h, _⟩ := h; exact ⟨v, h⟩
theorem mi_without (f : FuncD) (h0 : 0 < f.blocks.length) (a v : Nat) : MI f 0 a v ↔ ¬ Dom (EdgeF f) a v := by
  unfold Dom
  rw [Classical.not_not]
  constructor
  · rintro ⟨u, hu, k, hk, hkl, hw⟩
    obtain rfl : v = u := by omega
    obtain rfl : k = 0 := by omega
    exact hw.mono fun u hu => by omega
  · intro h
    exact ⟨v, rfl, 0, rfl, h0, h.mono fun u hu => by omega⟩
theorem over_on (hs : Settled (EdgeF f) (MetF f) (plF f) n UP m) (x y : Int) : OverF f x y ↔ ∃ a b : Nat, x = a ∧ y = b ∧ MetF f a ∧ MetF f b ∧ On (upOf n UP) b a := by
  constructor
  · rintro ⟨h1, h2, h3⟩
    obtain ⟨a, rfl⟩ := mi_none h1
    obtain ⟨b, rfl⟩ := mi_none h2
    have ha := (mi_met f a).1 h1
    have hb := (mi_met f b).1 h2
    have h0 : 0 < f.blocks.length := by have := met_lt ha; omega
    exact ⟨a, b, rfl, rfl, ha, hb, (settled (rpo_of f h0) hs.tree hs.all hs.fix hb ha).2 (Classical.byContradiction fun h => h3 ((mi_without f h0 a b).2 h))⟩
  · rintro ⟨a, b, rfl, rfl, ha, hb, ho⟩
    have h0 : 0 < f.blocks.length := by have := met_lt ha; omega
    exact ⟨(mi_met f a).2 ha, (mi_met f b).2 hb, fun h => (mi_without f h0 a b).1 h ((settled (rpo_of f h0) hs.tree hs.all hs.fix hb ha).1 ho)⟩
theorem over_nat (hs : Settled (EdgeF f) (MetF f) (plF f) n UP m) (a b : Nat) : OverF f a b ↔ MetF f a ∧ MetF f b ∧ On (upOf n UP) b a := by
  rw [over_on hs]
  constructor
  · rintro ⟨a', b', e1, e2, h⟩
    obtain rfl : a = a' := by omega
    obtain rfl : b = b' := by omega
    exact h
  · exact fun h => ⟨a, b, rfl, rfl, h⟩
theorem on_other {up : Nat → Int} {b a : Nat} (h : On up b a) (hne : a ≠ b) : ∃ c : Nat, up b = (c : Int) ∧ On up c a := by
  cases h with
  | refl _ => exact absurd rfl hne
  | step e h => exact ⟨_, e, h⟩
end
end Go.Proofs.YtdchhfdmingnaaaDoor

/- Layer 9: where a function's values are, and which of them a step sees: the plain words. -/
namespace Go.Proofs.YtdchhfdmingnaaaDoor
open Go.RowKit (wrap64 intOf Below)
set_option linter.unusedVariables false
set_option linter.unusedSimpArgs false
def sizeB (b : BlockD) : Nat := b.params.length + b.ops.length
def firstN (f : FuncD) (i : Nat) : Nat := ((f.blocks.take i).map sizeB).sum
def valuesN (f : FuncD) : Nat := firstN f f.blocks.length
theorem firstN_zero (f : FuncD) : firstN f 0 = 0 := by simp [firstN]
theorem firstN_more {f : FuncD} {i : Nat} (h : i < f.blocks.length) : firstN f (i + 1) = firstN f i + (f.blocks[i].params.length + f.blocks[i].ops.length) := by
  unfold firstN
  rw [List.take_succ_eq_append_getElem h, List.map_append, List.sum_append]
  simp [sizeB]
theorem firstN_step (f : FuncD) (i : Nat) : firstN f i ≤ firstN f (i + 1) := by
  by_cases h : i < f.blocks.length
  · rw [firstN_more h]; omega
  · unfold firstN
    rw [List.take_of_length_le (by omega), List.take_of_length_le (by omega)]
    exact Nat.le_refl _
theorem firstN_mono (f : FuncD) {i j : Nat} (h : i ≤ j) : firstN f i ≤ firstN f j := by
  induction h with
  | refl => exact Nat.le_refl _
  | step _ ih => exact Nat.le_trans ih (firstN_step f _)
theorem firstN_le (f : FuncD) (i : Nat) : firstN f i ≤ valuesN f := by
  by_cases h : i ≤ f.blocks.length
  · exact firstN_mono f h
  · unfold firstN valuesN firstN
    rw [List.take_of_length_le (by omega), List.take_of_length_le (Nat.le_refl _)]
    exact Nat.le_refl _
def HomeB (f : FuncD) (b v : Nat) : Prop := firstN f b ≤ v ∧ v < firstN f (b + 1)
theorem home_one {f : FuncD} {b c v : Nat} (h : HomeB f b v) (k : HomeB f c v) : b = c := by
  rcases Nat.lt_trichotomy b c with hl | he | hl
  · have := firstN_mono f (show b + 1 ≤ c from hl)
    have h2 := h.2
    have k1 := k.1
    omega
  · exact he
  · have := firstN_mono f (show c + 1 ≤ b from hl)
    have h1 := h.1
    have k2 := k.2
    omega
theorem home_to {f : FuncD} {v : Nat} : ∀ n : Nat, v < firstN f n → ∃ b, b < n ∧ HomeB f b v
  | 0, h => by rw [firstN_zero] at h; omega
  | n + 1, h => by
    by_cases hv : v < firstN f n
    · obtain ⟨b, hb, hh⟩ := home_to n hv
      exact ⟨b, by omega, hh⟩
    · exact ⟨n, by omega, by omega, h⟩
theorem home_is {f : FuncD} {v : Nat} (h : v < valuesN f) : ∃ b, b < f.blocks.length ∧ HomeB f b v := home_to _ h
def SeesP (f : FuncD) (x a v : Int) : Prop :=
  ∃ b k u : Nat, x = (b : Int) ∧ a = (k : Int) ∧ v = (u : Int) ∧ ∃ hb : b < f.blocks.length, k ≤ f.blocks[b].ops.length ∧ u < valuesN f ∧
    ∃ h : Nat, HomeB f h u ∧ ((h = b ∧ u < firstN f b + f.blocks[b].params.length + k) ∨ (h ≠ b ∧ overB f (h : Int) (b : Int) = true))
open Classical in
noncomputable def seesB (f : FuncD) (x a v : Int) : Bool := decide (SeesP f x a v)
theorem sees_iff {f : FuncD} {x a v : Int} : seesB f x a v = true ↔ SeesP f x a v := by unfold seesB; simp
theorem sees_of {f : FuncD} {x a v : Int} {q : Bool} (h : q = true ↔ SeesP f x a v) : q = seesB f x a v := by
  rw [Bool.eq_iff_iff, sees_iff]
  exact h
theorem sees_no {f : FuncD} {x a v : Int} (h : ¬ SeesP f x a v) : seesB f x a v = false := by
  cases hs : seesB f x a v with
  | false => rfl
  | true => exact absurd (sees_iff.1 hs) h
theorem sees_own {f : FuncD} {b k u : Nat} (hb : b < f.blocks.length) (hk : k ≤ f.blocks[b].ops.length) (hu : u < valuesN f) (hh : HomeB f b u) : seesB f (b : Int) (k : Int) (u : Int) = decide (u < firstN f b + f.blocks[b].params.length + k) := by
  refine (sees_of ?_).symm
  rw [decide_eq_true_iff]
  constructor
  · intro h
    exact ⟨b, k, u, rfl, rfl, rfl, hb, hk, hu, b, hh, .inl ⟨rfl, h⟩⟩
  · rintro ⟨b', k', u', e1, e2, e3, hb', hk', hu', h, hH, hc⟩
    obtain rfl : b' = b := by omega
    obtain rfl : k' = k := by omega
    obtain rfl : u' = u := by omega
    obtain rfl := home_one hH hh
    rcases hc with ⟨_, h1⟩ | ⟨h1, _⟩
    · exact h1
    · exact absurd rfl h1
theorem sees_other {f : FuncD} {b k u h : Nat} (hb : b < f.blocks.length) (hk : k ≤ f.blocks[b].ops.length) (hu : u < valuesN f) (hh : HomeB f h u) (hne : h ≠ b) : seesB f (b : Int) (k : Int) (u : Int) = overB f (h : Int) (b : Int) := by
  refine (sees_of ?_).symm
  constructor
  · intro ho
    exact ⟨b, k, u, rfl, rfl, rfl, hb, hk, hu, h, hh, .inr ⟨hne, ho⟩⟩
  · rintro ⟨b', k', u', e1, e2, e3, hb', hk', hu', h', hH, hc⟩
    obtain rfl : b' = b := by omega
    obtain rfl : k' = k := by omega
    obtain rfl : u' = u := by omega
    obtain rfl := home_one hH hh
    rcases hc with ⟨h1, _⟩ | ⟨_, h1⟩
    · exact absurd h1 hne
    · exact h1
end Go.Proofs.YtdchhfdmingnaaaDoor

/- Layer 9: package well's scope: what is asked of a value. -/
namespace Go.Proofs.YtdchhfdmingnaaaDoor
open Go.RowKit (wrap64 intOf Below)
set_option linter.unusedVariables false
set_option linter.unusedSimpArgs false
def gaveUp (er : Int) : Ending := .panicked [{ v := .iface 48 (.int .i64 er), recovered := false }]
def RulePost (ok : Bool) (w : World) (e : Ending) (w' : World) : Prop := (ok = true ∧ e = .returned (.tuple #[]) ∨ ok = false ∧ e = gaveUp 4) ∧ Below w.heap.size w w'
def NeedPost (ok : Bool) (w : World) (e : Ending) (w' : World) : Prop := (ok = true ∧ e = .returned (.tuple #[]) ∨ ok = false ∧ e = gaveUp 4) ∧ w' = w
def firstL (f : FuncD) : List Int := (List.range (f.blocks.length + 1)).map fun i => ((firstN f i : Nat) : Int)
structure ScopeAt (W : World) (a : Option Addr) (n c : Nat) (f : FuncD) (fa ua : Option Addr) (m : Nat) (UP : List Int) : Prop where
  row : RowV BlockQ 8 W (.slice a n c) f.blocks
  first : NumsAt W fa (n + 1) (firstL f)
  above : NumsAt W ua n UP
  set : Settled (EdgeF f) (MetF f) (plF f) n UP m
  vals : valuesN f ≤ 1099511627776
  small : n ≤ 100000
theorem ScopeAt.len {W : World} {a : Option Addr} {n c : Nat} {f : FuncD} {fa ua : Option Addr} {m : Nat} {UP : List Int} (h : ScopeAt W a n c f fa ua m UP) : n = f.blocks.length := by
  obtain ⟨_, _, _, e, hl, _⟩ := h.row
  cases e
  exact hl.symm
theorem ScopeAt.since {W W' : World} {a : Option Addr} {n c : Nat} {f : FuncD} {fa ua : Option Addr} {m : Nat} {UP : List Int} (h : ScopeAt W a n c f fa ua m UP) (hb : Below W.heap.size W W') : ScopeAt W' a n c f fa ua m UP :=
  ⟨h.row.since BlockQ.lasts hb, h.first.since hb, h.above.since hb, h.set, h.vals, h.small⟩
def UpAt (f : FuncD) (up : Nat → Int) (x y : Nat) (b : Int) : Prop :=
  (∃ k : Nat, b = (k : Int) ∧ k < f.blocks.length ∧ (overB f (x : Int) (y : Int) = true → On up k x) ∧ On up y k ∧ (k = y ∨ (MetF f k ∧ MetF f y))) ∨ (b = -1 ∧ overB f (x : Int) (y : Int) = false)
theorem UpAt.start {f : FuncD} {n m : Nat} {UP : List Int} (hs : Settled (EdgeF f) (MetF f) (plF f) n UP m) {x y : Nat} (hy : y < f.blocks.length) : UpAt f (upOf n UP) x y (y : Int) :=
  .inl ⟨y, rfl, hy, fun h => ((over_nat hs x y).1 (overB_iff.1 h)).2.2, .refl _, .inl rfl⟩
theorem UpAt.step {f : FuncD} {n m : Nat} {UP : List Int} (hs : Settled (EdgeF f) (MetF f) (plF f) n UP m) {x y k : Nat} (h : UpAt f (upOf n UP) x y (k : Int)) (hne : k ≠ x) :
    UpAt f (upOf n UP) x y (upOf n UP k) ∧ (0 ≤ upOf n UP k → plF f (upOf n UP k).toNat < plF f k) := by
  rcases h with ⟨k', e, hk, ho, hy, hm⟩ | ⟨e, _⟩
  · obtain rfl : k' = k := by omega
    by_cases h0 : 0 ≤ upOf n UP k'
    · obtain ⟨c, hc⟩ := Int.eq_ofNat_of_zero_le h0
      have hlt := hs.tree.lt _ _ hc
      have hmk : MetF f k' := by
        by_cases hx : MetF f k' ∧ k' ≠ 0
        · exact hx.1
        · have := hs.tree.none k' hx; omega
      refine ⟨.inl ⟨c, hc, met_lt hlt.1, fun h => ?_, hy.trans (.step hc (.refl _)), .inr ⟨hlt.1, ?_⟩⟩, fun _ => ?_⟩
      · obtain ⟨c', hc', hr⟩ := on_other (ho h) (fun e => hne e.symm)
        rw [hc] at hc'
        obtain rfl : c = c' := by omega
        exact hr
      · rcases hm with rfl | hm
        · exact hmk
        · exact hm.2
      · rw [hc]; exact hlt.2.1
    · have hlow := hs.tree.low k'
      refine ⟨.inr ⟨by omega, ?_⟩, fun h => absurd h h0⟩
      cases hov : overB f (x : Int) (y : Int) with
      | false => rfl
      | true =>
        obtain ⟨c', hc', _⟩ := on_other (ho hov) (fun e => hne e.symm)
        omega
  · omega
theorem UpAt.off {f : FuncD} {up : Nat → Int} {x y : Nat} {b : Int} (h : UpAt f up x y b) (hb : ¬ 0 ≤ b) : b = -1 ∧ overB f (x : Int) (y : Int) = false := by
  rcases h with ⟨k, e, _⟩ | h
  · omega
  · exact h
end Go.Proofs.YtdchhfdmingnaaaDoor

/- Layer 9: package well's scope: whether a step is there; which values it sees. -/
namespace Go.Proofs.YtdchhfdmingnaaaDoor
open Go.RowKit (wrap64 intOf Below)
set_option linter.unusedVariables false
set_option linter.unusedSimpArgs false
def opsN (f : FuncD) (k : Nat) : Nat := ((f.blocks[k]?).map fun b => b.ops.length).getD 0
theorem opsN_at {f : FuncD} {k : Nat} (h : k < f.blocks.length) : opsN f k = f.blocks[k].ops.length := by simp [opsN, List.getElem?_eq_getElem h]
theorem ScopeAt.block {W : World} {a : Option Addr} {n c : Nat} {f : FuncD} {fa ua : Option Addr} {m : Nat} {UP : List Int} (h : ScopeAt W a n c f fa ua m UP) {k : Nat} (hk : k < f.blocks.length) :
    ∃ g off pa pc oa oc, a = some ⟨g, off, none⟩ ∧ W.cell? ⟨g, off + k * 8, none⟩ = some (.slice pa f.blocks[k].params.length pc) ∧ W.cell? ⟨g, off + k * 8 + 1, none⟩ = some (.slice oa f.blocks[k].ops.length oc) := by
  have hlen := h.len
  obtain ⟨a', n', c', e, _, _, _, hrow⟩ := h.row
  cases e
  obtain ⟨g, off, rfl, hg, hcs⟩ := hrow (by omega)
  obtain ⟨cs, hl, hcell, hq⟩ := hcs k hk
  obtain ⟨pv, ov, es, rfl, ⟨pa, pn, pc, rfl, hp, _⟩, ⟨oa, on, oc, rfl, ho, _⟩, _⟩ := hq
  have hd0 := hcell 0 (by simp)
  have hd1 := hcell 1 (by simp)
  simp only [Nat.add_zero, List.getElem_cons_zero, List.getElem_cons_succ] at hd0 hd1
  exact ⟨g, off, pa, pc, oa, oc, rfl, by rw [hp.1]; exact hd0, by rw [ho]; exact hd1⟩
theorem wrap_nat {a b : Nat} (h : a + b ≤ 1099511627776) : wrap64 ((a : Int) + (b : Int)) = ((a + b : Nat) : Int) := by unfold wrap64; omega
theorem wrap_nat3 {a b c : Nat} (h : a + b + c ≤ 1099511627776) : wrap64 ((a : Int) + (b : Int) + (c : Int)) = ((a + b + c : Nat) : Int) := by unfold wrap64; omega
theorem dec_lt (a b : Nat) : decide ((a : Int) < (b : Int)) = decide (a < b) := decide_eq_decide.2 (by omega)
theorem ScopeAt.room {W : World} {a : Option Addr} {n c : Nat} {f : FuncD} {fa ua : Option Addr} {m : Nat} {UP : List Int} (h : ScopeAt W a n c f fa ua m UP) {q k : Nat} (hq : q < f.blocks.length) (hk : k ≤ f.blocks[q].ops.length) : firstN f q + f.blocks[q].params.length + k ≤ 1099511627776 := by
  have h1 := firstN_more hq
  have h2 := firstN_le f (q + 1)
  have h3 := h.vals
  omega
end Go.Proofs.YtdchhfdmingnaaaDoor

/- Layer 8: a tree that grows: what its parts are before it is settled. -/
namespace Go.Proofs.YtdchhfdmingnaaaDoor
open Go.RowKit (wrap64 intOf Below)
set_option linter.unusedVariables false
set_option linter.unusedSimpArgs false
def GB (u v : World) : Prop := Below u.heap.size u v
theorem GB.refl (u : World) : GB u u := Below.refl _ _
theorem GB.trans {u v x : World} (h : GB u v) (k : GB v x) : GB u x := Below.trans h (Below.mono k (Below.size h))
def RowOf (w : World) (B n : Nat) (z : Int) (v : Value) : Prop := ∃ g, v = .slice (some ⟨g, 0, none⟩) n n ∧ OwnsI w B 3 (.slice (some ⟨g, 0, none⟩) n n) (List.replicate n z)
theorem RowOf.since {w w' : World} {B n : Nat} {z : Int} {v : Value} (h : RowOf w B n z v) (hb : GB w w') : RowOf w' B n z v := by
  obtain ⟨g, e, ho⟩ := h
  exact ⟨g, e, ho.below hb⟩
theorem RowOf.lt {w : World} {B n : Nat} {z : Int} {v : Value} (h : RowOf w B n z v) {k : Nat} (hk : v.ownBlock = some k) : k < w.heap.size := by
  obtain ⟨g, rfl, ho⟩ := h
  exact (ho.lt k hk).2
end Go.Proofs.YtdchhfdmingnaaaDoor

/- Layer 8: a tree that grows: its parts make a tree; its places; those that go to each block. -/
namespace Go.Proofs.YtdchhfdmingnaaaDoor
open Go.RowKit (wrap64 intOf Below)
set_option linter.unusedVariables false
set_option linter.unusedSimpArgs false
def g5 (a b c d e : Nat) : Nat → Nat := fun i => if i = 0 then a else if i = 1 then b else if i = 2 then c else if i = 3 then d else e
def Z2 (n : Nat) : Nat → List Int := fun k => if k < 2 then List.replicate n (-1) else List.replicate n 0
end Go.Proofs.YtdchhfdmingnaaaDoor

/- Layer 9: package well's through: the blocks in the order in which types are worked out. -/
namespace Go.Proofs.YtdchhfdmingnaaaDoor
open Go.RowKit (wrap64 intOf Below)
set_option linter.unusedVariables false
set_option linter.unusedSimpArgs false
def thruK (f : FuncD) (i : Nat) : List Int := orderL f ++ ((List.range i).filter fun (k : Nat) => !inL (orderL f) (k : Int)).map fun k => ((k : Nat) : Int)
def thruL (f : FuncD) : List Int := thruK f f.blocks.length
theorem thruK_zero (f : FuncD) : thruK f 0 = orderL f := by simp [thruK]
theorem thruK_met {f : FuncD} {i : Nat} (h : inL (orderL f) (i : Int) = true) : thruK f (i + 1) = thruK f i := by
  unfold thruK
  rw [List.range_succ, List.filter_append]
  simp [h]
theorem thruK_not {f : FuncD} {i : Nat} (h : inL (orderL f) (i : Int) = false) : thruK f (i + 1) = thruK f i ++ [(i : Int)] := by
  unfold thruK
  rw [List.range_succ, List.filter_append, List.map_append, List.append_assoc]
  simp [h]
theorem thruK_len (f : FuncD) (i : Nat) : (thruK f i).length ≤ (orderL f).length + i := by
  unfold thruK
  rw [List.length_append, List.length_map]
  have := List.length_filter_le (fun (k : Nat) => !inL (orderL f) ((k : Nat) : Int)) (List.range i)
  rw [List.length_range] at this
  omega
structure ThruSt (w : World) (B g n : Nat) (f : FuncD) (v : Value) (i : Nat) (wr : World) : Prop where
  own : OwnsI wr B 3 v (thruK f i)
  met : ∀ j : Nat, j < n → wr.cell? ⟨g, j, none⟩ = some (.bool (inL (orderL f) (j : Int)))
  ne : ∀ k, v.ownBlock = some k → k ≠ g
  lt : g < wr.heap.size
  le : B ≤ wr.heap.size
  below : Below w.heap.size w wr
theorem ThruSt.more {w : World} {B g n : Nat} {f : FuncD} {v v2 : Value} {i : Nat} {wr w4 : World} {C : Array Value} {e : TypeId} {z : Int} (h : ThruSt w B g n f v i wr) (hBw : w.heap.size ≤ B) (hE : thruK f (i + 1) = thruK f i ++ [z]) (ho : OwnsI w4 B 3 v2 (thruK f i ++ [z])) (hg : (wr.alloc (.cells C e)).grownBy w4 v.ownBlock) (hw : ∀ k, v2.ownBlock = some k → v.ownBlock = some k ∨ wr.heap.size ≤ k) : ThruSt w B g n f v2 (i + 1) w4 := by
  have hsz := hg.size
  have hal : (wr.alloc (.cells C e)).heap.size = wr.heap.size + 1 := by simp
  refine ⟨by rw [hE]; exact ho, fun j hj => ?_, fun k hk e' => ?_, by have := h.lt; omega, by have := h.le; omega, ?_⟩
  · exact hg.cell (a := ⟨g, j, none⟩) ((World.cell?_alloc_some _ ⟨g, j, none⟩ _ (by rw [h.met j hj]; rfl)).trans (h.met j hj)) (fun e' => h.ne g e'.symm rfl)
  · rcases hw k hk with h1 | h1
    · exact h.ne k h1 e'
    · have := h.lt; omega
  · exact Below.grown (h.below.alloc (by have := h.le; omega) _) hg (by have := h.le; omega) (fun k hk => by have := (h.own.lt k hk).1; omega)
end Go.Proofs.YtdchhfdmingnaaaDoor

/- Layer 9: the types of a function's values, and which programs are well made: the plain words. -/
namespace Go.Proofs.YtdchhfdmingnaaaDoor
open Go.RowKit (wrap64 intOf Below)
set_option linter.unusedVariables false
set_option linter.unusedSimpArgs false
def allK (p : Nat → Bool) : Nat → Bool
  | 0 => true
  | i + 1 => allK p i && p i
theorem allK_iff {p : Nat → Bool} : ∀ {n : Nat}, allK p n = true ↔ ∀ i, i < n → p i = true
  | 0 => ⟨fun _ i h => absurd h (by omega), fun _ => rfl⟩
  | n + 1 => by
    unfold allK
    rw [Bool.and_eq_true, allK_iff]
    constructor
    · rintro ⟨h1, h2⟩ i hi
      by_cases e : i < n
      · exact h1 i e
      · obtain rfl : i = n := by omega
        exact h2
    · intro h
      exact ⟨fun i hi => h i (by omega), h n (by omega)⟩
theorem allK_more {p : Nat → Bool} {i : Nat} (h : allK p i = true) (hp : p i = true) : allK p (i + 1) = true := by unfold allK; rw [h, hp]; rfl
theorem allK_no {p : Nat → Bool} {n i : Nat} (h : i < n) (hp : p i = false) : allK p n = false := by
  cases hb : allK p n with
  | false => rfl
  | true => rw [allK_iff.1 hb i h] at hp; cases hp
def resO (P : ProgD) (o : OpD) (ts : List Int) : Int × Bool := resS P o.K o.A o.B o.C o.N o.S o.L ts
def noOp : OpD := ⟨0, 0, 0, 0, 0, ByteArray.empty, [], false⟩
def blkOf (f : FuncD) (b : Nat) : BlockD := match f.blocks[b]? with | some x => x | none => ⟨[], [], noEnd⟩
theorem blkOf_at {f : FuncD} {b : Nat} (h : b < f.blocks.length) : blkOf f b = f.blocks[b] := by unfold blkOf; rw [List.getElem?_eq_getElem h]
def parL (f : FuncD) (b : Nat) : List Int := (blkOf f b).params
theorem parL_at {f : FuncD} {b : Nat} (h : b < f.blocks.length) : parL f b = f.blocks[b].params := by unfold parL; rw [blkOf_at h]
def opAt (f : FuncD) (b k : Nat) : OpD := match (blkOf f b).ops[k]? with | some o => o | none => noOp
theorem opAt_at {f : FuncD} {b k : Nat} (h : b < f.blocks.length) (hk : k < f.blocks[b].ops.length) : opAt f b k = f.blocks[b].ops[k] := by
  unfold opAt
  have e : (blkOf f b).ops[k]? = some (f.blocks[b].ops[k]) := by rw [blkOf_at h]; exact List.getElem?_eq_getElem hk
  rw [e]
def initK (f : FuncD) : Nat → List Int
  | 0 => []
  | i + 1 => initK f i ++ (parL f i ++ List.replicate (opsN f i) (-1))
theorem firstN_parL {f : FuncD} {i : Nat} (h : i < f.blocks.length) : firstN f (i + 1) = firstN f i + ((parL f i).length + opsN f i) := by rw [firstN_more h, parL_at h, opsN_at h]
theorem initK_len {f : FuncD} : ∀ {i : Nat}, i ≤ f.blocks.length → (initK f i).length = firstN f i
  | 0, _ => by simp [initK, firstN_zero]
  | i + 1, h => by
    unfold initK
    rw [List.length_append, List.length_append, List.length_replicate, initK_len (by omega), firstN_parL (by omega)]
def blockK (P : ProgD) (f : FuncD) (b : Nat) (ts : List Int) : Nat → List Int
  | 0 => ts
  | k + 1 => (blockK P f b ts k).set (firstN f b + (parL f b).length + k) (resO P (opAt f b k) (blockK P f b ts k)).1
theorem blockK_len (P : ProgD) (f : FuncD) (b : Nat) (ts : List Int) : ∀ k, (blockK P f b ts k).length = ts.length
  | 0 => rfl
  | k + 1 => by unfold blockK; rw [List.length_set, blockK_len P f b ts k]
def typesK (P : ProgD) (f : FuncD) : Nat → List Int
  | 0 => initK f f.blocks.length
  | i + 1 => blockK P f (nth (thruL f) i).toNat (typesK P f i) (opsN f (nth (thruL f) i).toNat)
theorem typesK_len (P : ProgD) (f : FuncD) : ∀ i, (typesK P f i).length = valuesN f
  | 0 => initK_len (Nat.le_refl _)
  | i + 1 => by unfold typesK; rw [blockK_len, typesK_len P f i]
def typesL (P : ProgD) (f : FuncD) : List Int := typesK P f (thruL f).length
theorem typesL_len (P : ProgD) (f : FuncD) : (typesL P f).length = valuesN f := typesK_len P f _
theorem thru_there {f : FuncD} {z : Int} (h : z ∈ thruL f) : 0 ≤ z ∧ z < (f.blocks.length : Int) := by
  unfold thruL thruK at h
  rcases List.mem_append.1 h with h | h
  · exact (order_facts f).there z h
  · obtain ⟨k, hk, rfl⟩ := List.mem_map.1 h
    have := List.mem_range.1 (List.mem_filter.1 hk).1
    exact ⟨by omega, by omega⟩
theorem thru_at {f : FuncD} {i : Nat} (h : i < (thruL f).length) : ∃ b : Nat, nth (thruL f) i = (b : Int) ∧ b < f.blocks.length := by
  have h1 : nth (thruL f) i ∈ thruL f := by rw [nth_is h]; exact List.getElem_mem h
  have h2 := thru_there h1
  obtain ⟨b, hb⟩ := Int.eq_ofNat_of_zero_le h2.1
  exact ⟨b, hb, by have := h2.2; omega⟩
theorem base_room {f : FuncD} {b k : Nat} (hb : b < f.blocks.length) (hk : k < opsN f b) : firstN f b + (parL f b).length + k < valuesN f := by
  have h1 := firstN_parL hb
  have h2 := firstN_le f (b + 1)
  omega
structure ProgR (P : ProgD) : Prop where
  cls : ∀ c ∈ P.classes, ∀ z ∈ c.fields, InR z
  sig : ∀ s ∈ P.sigs, InR s.ret
  fun' : ∀ f ∈ P.funcs, InR f.ret
theorem RowV.mem {α : Type} {Q : World → List Value → α → Prop} {k : Nat} {W : World} {v : Value} {xs : List α} (h : RowV Q k W v xs) {x : α} (hx : x ∈ xs) : ∃ cs, Q W cs x := by
  obtain ⟨a, n, c, e, hl, _, _, hr⟩ := h
  obtain ⟨i, hi, rfl⟩ := List.getElem_of_mem hx
  obtain ⟨g, off, _, _, hcs⟩ := hr (by omega)
  obtain ⟨cs, _, _, hq⟩ := hcs i hi
  exact ⟨cs, hq⟩
theorem ProgAt.r {W : World} {g : Nat} {sa : Option Addr} {sn sc : Nat} {ca : Option Addr} {cn cc : Nat} {fa : Option Addr} {fn fc : Nat} {P : ProgD} (h : ProgAt W g sa sn sc ca cn cc fa fn fc P) : ProgR P := by
  refine ⟨fun c hc z hz => ?_, fun s hs => ?_, fun f hf => ?_⟩
  · obtain ⟨cs, f, m, _, ⟨_, _, _, _, _, _, _, hr⟩, _⟩ := h.c.mem hc
    exact hr z hz
  · obtain ⟨cs, p, _, _, hr⟩ := h.s.mem hs
    exact hr
  · obtain ⟨cs, b, _, hr, _⟩ := h.f.mem hf
    exact hr
theorem inR_small {z : Int} (h : -9223372036854775808 ≤ z ∧ z ≤ 9223372036854775807) : InR z := h
theorem fieldS_r {P : ProgD} (hP : ProgR P) (t n : Int) : InR (fieldS P t n).1 := by
  unfold fieldS
  split
  · split
    · rename_i h1 h2
      have hm : nth (fieldsOf P (t - 6).toNat) n.toNat ∈ fieldsOf P (t - 6).toNat := by
        rw [nth_is (by omega)]; exact List.getElem_mem _
      unfold fieldsOf at hm
      split at hm
      · rename_i c hc
        have hmem := List.mem_of_getElem? hc
        refine hP.cls c hmem _ ?_
        simpa [fieldsOf, hc] using hm
      · cases hm
    · exact inR_small (by simp)
  · exact inR_small (by simp)
theorem ite_r {c : Prop} [Decidable c] {x y : Int × Bool} (hx : c → InR x.1) (hy : ¬ c → InR y.1) : InR (if c then x else y).1 := by
  split
  · rename_i h; exact hx h
  · rename_i h; exact hy h
theorem tlV_r (s : Int) : InR (tlV s) := by
  unfold tlV
  split
  · split <;> exact inR_small ⟨by decide, by decide⟩
  · exact inR_small ⟨by decide, by decide⟩
theorem funcOf_r {P : ProgD} (hP : ProgR P) (k : Nat) : InR (funcOf P k).ret := by
  unfold funcOf
  split
  · rename_i F hF
    exact hP.fun' F (List.mem_of_getElem? hF)
  · exact inR_small ⟨by decide, by decide⟩
theorem sigOf_r {P : ProgD} (hP : ProgR P) (k : Nat) : InR (sigOf P k).ret := by
  unfold sigOf
  split
  · rename_i F hF
    exact hP.sig F (List.mem_of_getElem? hF)
  · exact inR_small ⟨by decide, by decide⟩
theorem rowS_r {P : ProgD} (hP : ProgR P) (hl : P.classes.length ≤ 140737488355328) (K N : Int) (S : ByteArray) (l : List Int) : InR (rowS P K N S l).1 := by
  unfold rowS
  repeat' first
    | exact fieldS_r hP _ _
    | exact tlV_r _
    | exact funcOf_r hP _
    | exact sigOf_r hP _
    | exact inR_small ⟨by decide, by decide⟩
    | refine ite_r (fun h => ?_) (fun h => ?_)
  all_goals (refine inR_small ⟨?_, ?_⟩ <;> (show _ ≤ _) <;> simp only [] <;> omega)
theorem resO_r {P : ProgD} (hP : ProgR P) (hl : P.classes.length ≤ 140737488355328) (o : OpD) (ts : List Int) : InR (resO P o ts).1 := by
  unfold resO resS
  split
  · split
    · exact rowS_r hP hl _ _ _ _
    · exact inR_small (by simp)
  · exact inR_small (by simp)
def ParR (f : FuncD) : Prop := ∀ b ∈ f.blocks, ∀ z ∈ b.params, InR z
theorem RowV.parR {W : World} {v : Value} {f : FuncD} (h : RowV BlockQ 8 W v f.blocks) : ParR f := fun b hb z hz => by
  obtain ⟨cs, p, o, es, _, ⟨_, _, _, _, _, _, _, hr⟩, _⟩ := h.mem hb
  exact hr z hz
theorem initK_r {f : FuncD} (hr : ParR f) : ∀ i, ∀ z ∈ initK f i, InR z
  | 0, z, h => by simp [initK] at h
  | i + 1, z, h => by
    unfold initK at h
    rcases List.mem_append.1 h with h | h
    · exact initK_r hr i z h
    · rcases List.mem_append.1 h with h | h
      · by_cases hi : i < f.blocks.length
        · rw [parL_at hi] at h; exact hr _ (List.getElem_mem hi) z h
        · unfold parL blkOf at h; rw [List.getElem?_eq_none (by omega)] at h; cases h
      · obtain rfl := (List.mem_replicate.1 h).2
        exact inR_small (by simp)
theorem blockK_r {P : ProgD} (hP : ProgR P) (hl : P.classes.length ≤ 140737488355328) {f : FuncD} {b : Nat} {ts : List Int} (h : ∀ z ∈ ts, InR z) : ∀ k, ∀ z ∈ blockK P f b ts k, InR z
  | 0, z, hz => h z hz
  | k + 1, z, hz => by
    unfold blockK at hz
    rcases List.mem_or_eq_of_mem_set hz with hz | rfl
    · exact blockK_r hP hl h k z hz
    · exact resO_r hP hl _ _
theorem typesK_r {P : ProgD} (hP : ProgR P) (hl : P.classes.length ≤ 140737488355328) {f : FuncD} (hr : ParR f) : ∀ i, ∀ z ∈ typesK P f i, InR z
  | 0, z, hz => initK_r hr _ z hz
  | i + 1, z, hz => by unfold typesK at hz; exact blockK_r hP hl (typesK_r hP hl hr i) _ z hz
end Go.Proofs.YtdchhfdmingnaaaDoor

/- Layer 9: which programs are well made: the plain words, as the program asks and as the document does. -/
namespace Go.Proofs.YtdchhfdmingnaaaDoor
open Go.RowKit (wrap64 intOf Below)
set_option linter.unusedVariables false
set_option linter.unusedSimpArgs false
def knownB (P : ProgD) (l : List Int) : Bool := allK (fun i => typB P.classes.length (nth l i)) l.length
def toldB (P : ProgD) (t : Int) : Bool := t == -1 || typB P.classes.length t
def sigB (P : ProgD) (s : SigD) : Bool := knownB P s.params && toldB P s.ret
def intsB (l : List Int) : Bool := allK (fun i => nth l i == 0) l.length
def clsOf (P : ProgD) (k : Nat) : ClassD := match P.classes[k]? with | some c => c | none => ⟨[], []⟩
def tgAt (e : EndD) (i : Nat) : Int × List Int := match (tgts e)[i]? with | some t => t | none => (0, [])
def usesO (o : OpD) : List Int := usesL o.K o.A o.B o.C o.L
def longB (P : ProgD) : Bool := allK (fun i => decide (valuesN (funcOf P i) ≤ 700)) P.funcs.length
noncomputable def valD (f : FuncD) (T : List Int) (x k : Nat) (v : Int) : Int := if seesB f (x : Int) (k : Int) v = true then nth T v.toNat else -1
noncomputable def targD (f : FuncD) (T : List Int) (x : Nat) (t : Int × List Int) : Bool :=
  decide (1 ≤ t.1 ∧ t.1 < (f.blocks.length : Int)) && decide (t.2.length = (parL f t.1.toNat).length) && allK (fun i => valD f T x (opsN f x) (nth t.2 i) != -1 && valD f T x (opsN f x) (nth t.2 i) == nth (parL f t.1.toNat) i) t.2.length
noncomputable def finD (f : FuncD) (T : List Int) (x : Nat) : Bool :=
  (if (theEnd f x).K = 1 then valD f T x (opsN f x) (theEnd f x).A == 1 else true) && (if (theEnd f x).K = 3 then valD f T x (opsN f x) (theEnd f x).A == 0 else true) &&
  (if (theEnd f x).K = 2 then (if f.ret = -1 then (theEnd f x).A == 0 else valD f T x (opsN f x) (theEnd f x).A == f.ret) else true)
noncomputable def endD (f : FuncD) (T : List Int) (x : Nat) : Bool := finD f T x && allK (fun i => targD f T x (tgAt (theEnd f x) i)) (tgts (theEnd f x)).length
noncomputable def stepD (P : ProgD) (f : FuncD) (T : List Int) (x k : Nat) : Bool := (resO P (opAt f x k) T).2 && allK (fun i => valD f T x k (nth (usesO (opAt f x k)) i) != -1) (usesO (opAt f x k)).length
noncomputable def blockD (P : ProgD) (f : FuncD) (T : List Int) (x : Nat) : Bool := knownB P (parL f x) && endD f T x && allK (stepD P f T x) (opsN f x)
noncomputable def funD (P : ProgD) (f : FuncD) : Bool := decide (f.blocks.length ≠ 0) && toldB P f.ret && decide ((orderL f).length = f.blocks.length) && allK (blockD P f (typesL P f)) f.blocks.length
def meth1D (P : ProgD) (c : ClassD) (i : Nat) : Bool := if 0 ≤ nth c.methods i then (decide (nth c.methods i < (P.funcs.length : Int)) && decide ((funcOf P (nth c.methods i).toNat).blocks.length ≠ 0) && (funcOf P (nth c.methods i).toNat).ret == (sigOf P i).ret && sameB (parL (funcOf P (nth c.methods i).toNat) 0) (5 :: (sigOf P i).params)) else true
def classD (P : ProgD) (c : ClassD) : Bool := knownB P c.fields && decide (c.methods.length = P.sigs.length) && allK (meth1D P c) c.methods.length
noncomputable def rulesD (P : ProgD) : Bool :=
  decide (0 < P.funcs.length) && (funcOf P 0).ret == 0 && allK (fun i => sigB P (sigOf P i)) P.sigs.length && allK (fun i => classD P (clsOf P i)) P.classes.length && allK (fun i => funD P (funcOf P i)) P.funcs.length && intsB (parL (funcOf P 0) 0)
theorem and_iff {a b : Bool} : (a && b) = true ↔ a = true ∧ b = true := Bool.and_eq_true_iff
end Go.Proofs.YtdchhfdmingnaaaDoor

/- Layer 13: the first block of a well made function needs nothing ahead of it (plain). -/
namespace Go.Proofs.YtdchhfdmingnaaaDoor
open Go.RowKit (wrap64 intOf Below)
set_option linter.unusedVariables false
set_option linter.unusedSimpArgs false
theorem fst_first (f : FuncD) (i : Nat) : fstU f i = firstN f i := rfl
theorem blk_same (f : FuncD) (i : Nat) : blkU f i = blkOf f i := rfl
theorem makes_home {f : FuncD} {b u : Nat} : MakesU f b (u : Int) ↔ HomeB f b u := by
  unfold MakesU HomeB
  rw [fst_first, fst_first]
  omega
theorem len_opsN {f : FuncD} {b : Nat} (h : b < f.blocks.length) : lenU f b = opsN f b := by
  rw [opsN_at h]
  show (blkU f b).ops.length = _
  rw [blkU_at h]
theorem val_sees {f : FuncD} {T : List Int} {x k : Nat} {v : Int} (h : valD f T x k v ≠ -1) : seesB f (x : Int) (k : Int) v = true := by
  unfold valD at h
  split at h
  · assumption
  · exact absurd rfl h
theorem used_sees {P : ProgD} {f : FuncD} (hf : funD P f = true) {b k : Nat} {z : Int} (hb : b < f.blocks.length) (hk : k ≤ lenU f b) (hz : z ∈ atU f b k) : seesB f (b : Int) (k : Int) z = true := by
  unfold funD at hf
  simp only [and_iff, allK_iff, decide_eq_true_iff] at hf
  have hB := hf.2 b hb
  unfold blockD at hB
  simp only [and_iff, allK_iff] at hB
  obtain ⟨⟨_, hE⟩, hS⟩ := hB
  have hlo := len_opsN hb
  by_cases hlt : k < lenU f b
  · have hs := hS k (by omega)
    unfold stepD at hs
    simp only [and_iff, allK_iff] at hs
    have hx : k < (blkU f b).ops.length := hlt
    rw [atU_op hx] at hz
    have ho : opAt f b k = (blkU f b).ops[k] := by
      unfold opAt
      rw [← blk_same]
      rw [List.getElem?_eq_getElem hx]
    have hu : z ∈ usesO (opAt f b k) := by rw [ho]; exact hz
    obtain ⟨i, hi, e⟩ := List.getElem_of_mem hu
    have h2 := hs.2 i hi
    rw [nth_is hi, e, bne_iff_ne] at h2
    exact val_sees h2
  · obtain rfl : k = lenU f b := by omega
    rw [atU_end f b (lenU f b) (Nat.le_refl _), blkU_end] at hz
    rw [hlo]
    unfold endD at hE
    simp only [and_iff, allK_iff] at hE
    obtain ⟨hF, hT⟩ := hE
    unfold finD at hF
    simp only [and_iff] at hF
    obtain ⟨⟨h1, h3⟩, h2⟩ := hF
    unfold endU at hz
    rcases List.mem_append.1 hz with hz | hz
    · unfold endA at hz
      split at hz
      · rename_i hc
        simp at hz
        subst hz
        rcases hc with hc | hc | ⟨hc, hr⟩
        · rw [if_pos hc, beq_iff_eq] at h1
          exact val_sees (by rw [h1]; omega)
        · rw [if_pos hc, beq_iff_eq] at h3
          exact val_sees (by rw [h3]; omega)
        · rw [if_pos hc, if_neg hr, beq_iff_eq] at h2
          exact val_sees (by rw [h2]; exact hr)
      · cases hz
    · obtain ⟨t, ht, hz⟩ := List.mem_flatMap.1 hz
      obtain ⟨i, hi, e⟩ := List.getElem_of_mem ht
      have h4 := hT i hi
      have ha : tgAt (theEnd f b) i = t := by unfold tgAt; rw [List.getElem?_eq_getElem hi, e]
      rw [ha] at h4
      unfold targD at h4
      simp only [and_iff, allK_iff] at h4
      obtain ⟨j, hj, e2⟩ := List.getElem_of_mem hz
      have h5 := (h4.2 j hj).1
      rw [nth_is hj, e2, bne_iff_ne] at h5
      exact val_sees h5
theorem need_way {P : ProgD} {f : FuncD} (hf : funD P f = true) {v : Nat} {b : Nat} (h : NeedU f (v : Int) b) : Way (EdgeF f) (fun u => ¬ MakesU f u (v : Int)) 0 b → False := by
  induction h with
  | here b hb hnm hu =>
    intro hw
    obtain ⟨k, hk, hv⟩ := hu
    have hs := sees_iff.1 (used_sees hf hb hk hv)
    obtain ⟨b', k', u, e1, e2, e3, hb', _, _, h, hh, hc⟩ := hs
    have eb : b' = b := by omega
    have ev : u = v := by omega
    subst eb ev
    rcases hc with ⟨rfl, _⟩ | ⟨hne, ho⟩
    · exact hnm (makes_home.2 hh)
    · have hn := (overB_iff.1 ho).2.2
      refine hn ⟨b', rfl, 0, rfl, by omega, hw.mono fun x hx e => hx ?_⟩
      have ex : x = h := by omega
      rw [ex]
      exact makes_home.2 hh
  | on b c hb hnm hc hn ih =>
    intro hw
    exact ih (hw.snoc ⟨hc, hn.lt⟩ hn.not)
theorem need_first {P : ProgD} {f : FuncD} (hf : funD P f = true) (v : Nat) : ¬ NeedU f (v : Int) 0 := fun h => need_way hf h (.nil h.not)
theorem needed_first {P : ProgD} {f : FuncD} (hf : funD P f = true) : neededU f 0 = [] := by
  unfold neededU risingU
  rw [List.filter_eq_nil_iff.2 (fun v _ h => need_first hf v (need_iff.1 h))]
  rfl
end Go.Proofs.YtdchhfdmingnaaaDoor

/- Layer 9: the document's Sees. -/
namespace Go.Proofs.YtdchhfdmingnaaaDoor
open Go.RowKit (wrap64 intOf Below)
set_option linter.unusedVariables false
set_option linter.unusedSimpArgs false
theorem valsOf_nat (f : FuncD) (hv : valuesN f ≤ 1099511627776) : ∀ i : Nat, i ≤ f.blocks.length → valsOf (f.blocks.take i) = ((firstN f i : Nat) : Int)
  | 0, _ => by simp [valsOf, firstN]
  | i + 1, h => by
    have ih := valsOf_nat f hv i (by omega)
    have h1 := firstN_more (show i < f.blocks.length from h)
    have h2 := firstN_le f (i + 1)
    rw [valsOf_more _ _ (show i < f.blocks.length from h), ih, h1]
    unfold wrap64
    omega
theorem firstOf_nat (f : FuncD) (hv : valuesN f ≤ 1099511627776) (i : Nat) : firstOf f (i : Int) = ((firstN f i : Nat) : Int) := by
  unfold firstOf
  rw [Int.toNat_natCast]
  by_cases h : i ≤ f.blocks.length
  · exact valsOf_nat f hv i h
  · have e1 : f.blocks.take i = f.blocks.take f.blocks.length := by rw [List.take_of_length_le (by omega), List.take_of_length_le (Nat.le_refl _)]
    rw [e1, valsOf_nat f hv _ (Nat.le_refl _)]
    unfold firstN
    rw [e1]
theorem valuesOf_nat (f : FuncD) (hv : valuesN f ≤ 1099511627776) : valuesOf f = ((valuesN f : Nat) : Int) := firstOf_nat f hv _
theorem funcQ_row {w : World} {r : Int} {a : Option Addr} {n c : Nat} {f : FuncD} (h : FuncQ w [.int .i64 r, .slice a n c] f) : RowV BlockQ 8 w (.slice a n c) f.blocks ∧ n = f.blocks.length := by
  obtain ⟨b, he, _, hb⟩ := h
  simp only [List.cons.injEq, Value.int.injEq, true_and, and_true] at he
  obtain ⟨_, rfl⟩ := he
  refine ⟨hb, ?_⟩
  obtain ⟨_, _, _, e, hl, _⟩ := hb
  cases e
  exact hl.symm
theorem wrow_block {W : World} {a : Option Addr} {n c : Nat} {f : FuncD} (h : RowV BlockQ 8 W (.slice a n c) f.blocks) {k : Nat} (hk : k < f.blocks.length) :
    ∃ g off pa pc oa oc, a = some ⟨g, off, none⟩ ∧ W.cell? ⟨g, off + k * 8, none⟩ = some (.slice pa f.blocks[k].params.length pc) ∧ W.cell? ⟨g, off + k * 8 + 1, none⟩ = some (.slice oa f.blocks[k].ops.length oc) := by
  obtain ⟨a', n', c', e, hlen, _, _, hrow⟩ := h
  cases e
  obtain ⟨g, off, rfl, hg, hcs⟩ := hrow (by omega)
  obtain ⟨cs, hl, hcell, hq⟩ := hcs k hk
  obtain ⟨pv, ov, es, rfl, ⟨pa, pn, pc, rfl, hp, _⟩, ⟨oa, on, oc, rfl, ho, _⟩, _⟩ := hq
  have hd0 := hcell 0 (by simp)
  have hd1 := hcell 1 (by simp)
  simp only [Nat.add_zero, List.getElem_cons_zero, List.getElem_cons_succ] at hd0 hd1
  exact ⟨g, off, pa, pc, oa, oc, rfl, by rw [hp.1]; exact hd0, by rw [ho]; exact hd1⟩
theorem seeRoom {f : FuncD} (hv : valuesN f ≤ 1099511627776) {q k : Nat} (hq : q < f.blocks.length) (hk : k ≤ f.blocks[q].ops.length) : firstN f q + f.blocks[q].params.length + k ≤ 1099511627776 := by
  have h1 := firstN_more hq
  have h2 := firstN_le f (q + 1)
  omega
set_option maxRecDepth 100000 in
set_option maxHeartbeats 2000000 in
theorem refsees_any (r : Int) (a : Option Addr) (n c : Nat) (f : FuncD) (x t v : Int) (w : World) (hf : FuncQ w [.int .i64 r, .slice a n c] f) (hn : n ≤ 100000) (hv : valuesN f ≤ 1099511627776) :
    Calls Tryd.prog 69 #[.agg #[.int .i64 r, .slice a n c], .int .i64 x, .int .i64 t, .int .i64 v] w fun e w' => e = .returned (.bool (seesB f x t v)) ∧ Below w.heap.size w w' := by
  obtain ⟨W1, hW1⟩ : ∃ U, w.alloc (.cells #[.int .i64 r, .slice a n c] 30) = U := ⟨_, rfl⟩
  have hb1 : Below w.heap.size w W1 := by rw [← hW1]; exact (Below.refl _ w).alloc (Nat.le_refl _) _
  have hs1 : W1.heap.size = w.heap.size + 1 := by rw [← hW1]; simp
  have hc : ∀ j, W1.cell? ⟨w.heap.size, j, none⟩ = (#[.int .i64 r, .slice a n c] : Array Value)[j]? := fun j => by rw [← hW1]; exact World.cell?_alloc_mark _ _ _ _ _
  have hc0 := hc 0
  have hc1 := hc 1
  have HB1 := Lib.hid hb1
  have HC : RowKit.Hid (∀ U, Below W1.heap.size W1 U → U.cell? ⟨w.heap.size, 0, none⟩ = some (.int .i64 r) ∧ U.cell? ⟨w.heap.size, 1, none⟩ = some (.slice a n c)) := Lib.hid fun U hU => ⟨(hU.cell (p := ⟨w.heap.size, 0, none⟩) (by simp only []; omega)).trans (hc 0), (hU.cell (p := ⟨w.heap.size, 1, none⟩) (by simp only []; omega)).trans (hc 1)⟩
  have hf1 := FuncQ.lasts _ _ _ _ hb1 hf
  obtain ⟨hrow1, hlen⟩ := funcQ_row hf1
  have CF : RowKit.Hid (∀ U, Below W1.heap.size W1 U → ∀ i : Nat, Calls Tryd.prog 21 #[.agg #[.int .i64 r, .slice a n c], .int .i64 (i : Int)] U (NumPost ((firstN f i : Nat) : Int) U)) := Lib.hid fun U hU i => by
    rw [← firstOf_nat f hv i]
    exact ref_first r a n c (i : Int) f U (FuncQ.lasts _ _ _ _ hU hf1)
  have CF1 : RowKit.Hid (∀ U, Below W1.heap.size W1 U → ∀ i : Nat, Calls Tryd.prog 21 #[.agg #[.int .i64 r, .slice a n c], .int .i64 ((i : Int) + 1)] U (NumPost ((firstN f (i + 1) : Nat) : Int) U)) := Lib.hid fun U hU i => CF.out U hU (i + 1)
  have CV : RowKit.Hid (∀ U, Below W1.heap.size W1 U → Calls Tryd.prog 10 #[.agg #[.int .i64 r, .slice a n c]] U (NumPost ((valuesN f : Nat) : Int) U)) := Lib.hid fun U hU => by
    rw [← valuesOf_nat f hv]
    exact ref_values r a n c f U (FuncQ.lasts _ _ _ _ hU hf1)
  have CO : RowKit.Hid (∀ U, Below W1.heap.size W1 U → ∀ p q : Int, Calls Tryd.prog 79 #[.agg #[.int .i64 r, .slice a n c], .int .i64 p, .int .i64 q] U fun e w' => e = .returned (.bool (overB f p q)) ∧ Below U.heap.size U w') := Lib.hid fun U hU p q => refover_any r a n c f p q U (hrow1.since BlockQ.lasts hU) (by omega)
  have HROW := Lib.hid hrow1
  have HN := Lib.hid hlen
  have HV := Lib.hid hv
  clear hf hf1 hrow1 hb1 hs1 hc hv
  by_cases hx0 : x < 0
  · have HR : RowKit.Hid (seesB f x t v = false) := Lib.hid (sees_no (by rintro ⟨b, k, u, e1, e2, e3, hb, hk, hu, _⟩; omega))
    clear hlen
    go_enter Tryd.func69, Tryd.ntmps69
    go_upto_region 1 with fail
    try rw [hW1]
    clear hW1
    go_wp2_with fail
    go_ret
    exact ⟨by rw [HR.out]; rfl, HB1.out⟩
  · obtain ⟨b, rfl⟩ := Int.eq_ofNat_of_zero_le (by omega : 0 ≤ x)
    by_cases hbn : b < n
    · have hb1 : ¬ (n : Int) ≤ (b : Int) := by omega
      have hb2 : (b : Int) < (n : Int) := by omega
      by_cases ht0 : t < 0
      · have HR : RowKit.Hid (seesB f (b : Int) t v = false) := Lib.hid (sees_no (by rintro ⟨b, k, u, e1, e2, e3, hb, hk, hu, _⟩; omega))
        clear hlen
        go_enter Tryd.func69, Tryd.ntmps69
        go_upto_region 1 with fail
        try rw [hW1]
        clear hW1
        go_wp2_with fail
        go_ret
        exact ⟨by rw [HR.out]; rfl, HB1.out⟩
      · obtain ⟨k, rfl⟩ := Int.eq_ofNat_of_zero_le (by omega : 0 ≤ t)
        have hbl : b < f.blocks.length := by omega
        obtain ⟨g, off, pa, pc, oa, oc, rfl, hp, ho⟩ := wrow_block HROW.out hbl
        by_cases hk : k ≤ f.blocks[b].ops.length
        · have HK : RowKit.Hid (∃ hb : b < f.blocks.length, k ≤ f.blocks[b].ops.length) := Lib.hid ⟨hbl, hk⟩
          obtain ⟨on, hon⟩ : ∃ z, z = f.blocks[b].ops.length := ⟨_, rfl⟩
          have hk1 : ¬ (on : Int) < (k : Int) := by omega
          by_cases hv0 : v < 0
          · have HR : RowKit.Hid (seesB f (b : Int) (k : Int) v = false) := Lib.hid (sees_no (by rintro ⟨b', k', u, e1, e2, e3, _⟩; omega))
            rw [← hon] at ho
            clear hlen hp hon hk
            go_enter Tryd.func69, Tryd.ntmps69
            go_upto_region 1 with fail
            try rw [hW1]
            clear hW1
            go_wp2_with fail
            go_ret
            exact ⟨by rw [HR.out]; rfl, HB1.out⟩
          · obtain ⟨u, rfl⟩ := Int.eq_ofNat_of_zero_le (by omega : 0 ≤ v)
            by_cases hu : u < valuesN f
            · have hu1 : ¬ ((valuesN f : Nat) : Int) ≤ (u : Int) := by omega
              have HU := Lib.hid hu
              rw [← hon] at ho
              clear hlen hon hk hu hp
              go_enter Tryd.func69, Tryd.ntmps69
              go_upto_region 1 with fail
              try rw [hW1]
              clear hW1
              go_upto_region 3 with (go_at_call 10; refine (CV.out _ (Below.refl _ _)).mono ?_; rintro e w2 ⟨rfl, hb⟩; have HB2 := Lib.hid hb; obtain ⟨d0, d1⟩ := HC.out w2 hb; clear hb hc0 hc1)
              go_upto_region 4 with (go_at_call 21; (with_reducible refine (CF.out _ HB2.out b).mono ?_); rintro e w3 ⟨rfl, hb⟩; have hbb := HB2.out.trans (hb.mono (HB2.out).size); have HB3 := Lib.hid hbb; obtain ⟨q0, q1⟩ := HC.out w3 hbb; clear hb hbb d0 d1)
              by_cases h0 : firstN f b ≤ u
              · have h0' : ((firstN f b : Nat) : Int) ≤ (u : Int) := by omega
                by_cases h1 : u < firstN f (b + 1)
                · have h1' : (u : Int) < ((firstN f (b + 1) : Nat) : Int) := by omega
                  have HH : RowKit.Hid (HomeB f b u) := Lib.hid ⟨h0, h1⟩
                  clear h0 h1
                  go_upto_region 5 with (go_at_call 21; (with_reducible refine (CF1.out _ HB3.out b).mono ?_); rintro e w4 ⟨rfl, hb⟩; have hbb := HB3.out.trans (hb.mono (HB3.out).size); have HB4 := Lib.hid hbb; obtain ⟨p0, p1⟩ := HC.out w4 hbb; clear hb hbb q0 q1)
                  obtain ⟨hbl2, hko⟩ := HK.out
                  have HR : RowKit.Hid (seesB f (b : Int) (k : Int) (u : Int) = decide (u < firstN f b + f.blocks[b].params.length + k)) := Lib.hid (sees_own hbl2 hko HU.out HH.out)
                  have hfm := seeRoom HV.out hbl2 hko
                  obtain ⟨g', off', pa', pc', oa', oc', e', hp', ho'⟩ := wrow_block (HROW.out.since BlockQ.lasts HB4.out) hbl2
                  cases e'
                  obtain ⟨pn, hpn⟩ : ∃ z, z = f.blocks[b].params.length := ⟨_, rfl⟩
                  obtain ⟨z0, hz0⟩ : ∃ z, z = firstN f b := ⟨_, rfl⟩
                  rw [← hpn] at hp' HR hfm
                  rw [← hz0] at HR hfm ⊢
                  have hw1 : wrap64 ((z0 : Int) + (pn : Int)) = ((z0 + pn : Nat) : Int) := wrap_nat (Nat.le_trans (Nat.le_add_right _ k) hfm)
                  have hw2 : wrap64 (((z0 + pn : Nat) : Int) + (k : Int)) = ((z0 + pn + k : Nat) : Int) := wrap_nat hfm
                  have HW3 := Lib.hid (wrap_nat3 hfm)
                  have HW4 := Lib.hid hw2
                  clear hfm hko hpn hz0 ho' hbl2
                  go_wp2_with fail
                  go_ret
                  exact ⟨by rw [HR.out, ← dec_lt]; first | rfl | (rw [← HW3.out]; rfl), HB1.out.trans (HB4.out.mono HB1.out.size)⟩
                · have h1' : ¬ (u : Int) < ((firstN f (b + 1) : Nat) : Int) := by omega
                  have HNH : RowKit.Hid (¬ HomeB f b u) := Lib.hid fun h => h1 h.2
                  clear h0
                  go_upto_region 7 with (go_at_call 21; (with_reducible refine (CF1.out _ HB3.out b).mono ?_); rintro e w4 ⟨rfl, hb⟩; have hbb := HB3.out.trans (hb.mono (HB3.out).size); have HB4 := Lib.hid hbb; obtain ⟨p0, p1⟩ := HC.out w4 hbb; clear hb hbb q0 q1)
                  go_loopw [10] (fun v10 wr => ∃ j : Nat, j ≤ n ∧ v10 = .int .i64 (j : Int) ∧ RowKit.Hid ((∀ q, q < j → ¬ HomeB f q u) ∧ Below W1.heap.size W1 wr)) (fun iv _ => n - (intOf iv).toNat)
                  case atStart => exact ⟨0, Nat.zero_le _, rfl, Lib.hid ⟨fun q h => absurd h (by omega), HB4.out⟩⟩
                  case round =>
                    obtain ⟨j, hj, rfl, HI⟩ := hrel
                    obtain ⟨f0, f1⟩ := HC.out wr HI.out.2
                    by_cases hlt : j < n
                    · have hjn : (j : Int) < (n : Int) := by omega
                      by_cases g0 : firstN f j ≤ u
                      · have g0' : ((firstN f j : Nat) : Int) ≤ (u : Int) := by omega
                        by_cases g1 : u < firstN f (j + 1)
                        · have g1' : (u : Int) < ((firstN f (j + 1) : Nat) : Int) := by omega
                          have HH : RowKit.Hid (HomeB f j u) := Lib.hid ⟨g0, g1⟩
                          have hjb : j ≠ b := fun e => HNH.out (e ▸ HH.out)
                          have HR : RowKit.Hid (seesB f (b : Int) (k : Int) (u : Int) = overB f (j : Int) (b : Int)) := Lib.hid (by obtain ⟨h1, h2⟩ := HK.out; exact sees_other h1 h2 HU.out HH.out hjb)
                          clear g0 g1 hjb
                          go_wp2_with (first
                            | (go_at_call 21; (with_reducible refine (CF.out _ HI.out.2 j).mono ?_); rintro e w5 ⟨rfl, hb⟩; have hbb := HI.out.2.trans (hb.mono (HI.out.2).size); have HB5 := Lib.hid hbb; obtain ⟨x0, x1⟩ := HC.out w5 hbb; clear hb hbb)
                            | (go_at_call 21; (with_reducible refine (CF1.out _ HB5.out j).mono ?_); rintro e w6 ⟨rfl, hb⟩; have hbb := HB5.out.trans (hb.mono (HB5.out).size); have HB6 := Lib.hid hbb; obtain ⟨y0, y1⟩ := HC.out w6 hbb; clear hb hbb)
                            | (go_at_call 79; (with_reducible refine (CO.out _ HB6.out (j : Int) (b : Int)).mono ?_); rintro e w7 ⟨rfl, hb⟩; have HB7 := Lib.hid (HB6.out.trans (hb.mono HB6.out.size)); clear hb))
                          go_ret
                          exact ⟨by rw [HR.out]; rfl, HB1.out.trans (HB7.out.mono HB1.out.size)⟩
                        · have g1' : ¬ (u : Int) < ((firstN f (j + 1) : Nat) : Int) := by omega
                          have HX : RowKit.Hid (∀ q, q < j + 1 → ¬ HomeB f q u) := Lib.hid fun q hq hh => by
                            by_cases e : q < j
                            · exact HI.out.1 q e hh
                            · obtain rfl : q = j := by omega
                              exact g1 hh.2
                          clear g0 g1
                          go_wp2_with (first
                            | (go_at_call 21; (with_reducible refine (CF.out _ HI.out.2 j).mono ?_); rintro e w5 ⟨rfl, hb⟩; have hbb := HI.out.2.trans (hb.mono (HI.out.2).size); have HB5 := Lib.hid hbb; obtain ⟨x0, x1⟩ := HC.out w5 hbb; clear hb hbb)
                            | (go_at_call 21; (with_reducible refine (CF1.out _ HB5.out j).mono ?_); rintro e w6 ⟨rfl, hb⟩; have hbb := HB5.out.trans (hb.mono (HB5.out).size); have HB6 := Lib.hid hbb; obtain ⟨y0, y1⟩ := HC.out w6 hbb; clear hb hbb))
                          go_roundw
                          case rel => exact ⟨j + 1, hlt, by go_num, Lib.hid ⟨HX.out, HB6.out⟩⟩
                          case measure => simp [intOf]; omega
                      · have g0' : ¬ ((firstN f j : Nat) : Int) ≤ (u : Int) := by omega
                        have HX : RowKit.Hid (∀ q, q < j + 1 → ¬ HomeB f q u) := Lib.hid fun q hq hh => by
                          by_cases e : q < j
                          · exact HI.out.1 q e hh
                          · obtain rfl : q = j := by omega
                            exact g0 hh.1
                        clear g0
                        go_wp2_with (go_at_call 21; (with_reducible refine (CF.out _ HI.out.2 j).mono ?_); rintro e w5 ⟨rfl, hb⟩; have hbb := HI.out.2.trans (hb.mono (HI.out.2).size); have HB5 := Lib.hid hbb; obtain ⟨x0, x1⟩ := HC.out w5 hbb; clear hb hbb)
                        go_roundw
                        case rel => exact ⟨j + 1, hlt, by go_num, Lib.hid ⟨HX.out, HB5.out⟩⟩
                        case measure => simp [intOf]; omega
                    · exfalso
                      obtain ⟨q, hq, hh⟩ := home_is HU.out
                      exact HI.out.1 q (by have := HN.out; omega) hh
              · have h0' : ¬ ((firstN f b : Nat) : Int) ≤ (u : Int) := by omega
                have HNH : RowKit.Hid (¬ HomeB f b u) := Lib.hid fun h => h0 h.1
                clear h0
                go_upto_region 7 with fail
                go_loopw [10] (fun v10 wr => ∃ j : Nat, j ≤ n ∧ v10 = .int .i64 (j : Int) ∧ RowKit.Hid ((∀ q, q < j → ¬ HomeB f q u) ∧ Below W1.heap.size W1 wr)) (fun iv _ => n - (intOf iv).toNat)
                case atStart => exact ⟨0, Nat.zero_le _, rfl, Lib.hid ⟨fun q h => absurd h (by omega), HB3.out⟩⟩
                case round =>
                  obtain ⟨j, hj, rfl, HI⟩ := hrel
                  obtain ⟨f0, f1⟩ := HC.out wr HI.out.2
                  by_cases hlt : j < n
                  · have hjn : (j : Int) < (n : Int) := by omega
                    by_cases g0 : firstN f j ≤ u
                    · have g0' : ((firstN f j : Nat) : Int) ≤ (u : Int) := by omega
                      by_cases g1 : u < firstN f (j + 1)
                      · have g1' : (u : Int) < ((firstN f (j + 1) : Nat) : Int) := by omega
                        have HH : RowKit.Hid (HomeB f j u) := Lib.hid ⟨g0, g1⟩
                        have hjb : j ≠ b := fun e => HNH.out (e ▸ HH.out)
                        have HR : RowKit.Hid (seesB f (b : Int) (k : Int) (u : Int) = overB f (j : Int) (b : Int)) := Lib.hid (by obtain ⟨h1, h2⟩ := HK.out; exact sees_other h1 h2 HU.out HH.out hjb)
                        clear g0 g1 hjb
                        go_wp2_with (first
                          | (go_at_call 21; (with_reducible refine (CF.out _ HI.out.2 j).mono ?_); rintro e w5 ⟨rfl, hb⟩; have hbb := HI.out.2.trans (hb.mono (HI.out.2).size); have HB5 := Lib.hid hbb; obtain ⟨x0, x1⟩ := HC.out w5 hbb; clear hb hbb)
                          | (go_at_call 21; (with_reducible refine (CF1.out _ HB5.out j).mono ?_); rintro e w6 ⟨rfl, hb⟩; have hbb := HB5.out.trans (hb.mono (HB5.out).size); have HB6 := Lib.hid hbb; obtain ⟨y0, y1⟩ := HC.out w6 hbb; clear hb hbb)
                          | (go_at_call 79; (with_reducible refine (CO.out _ HB6.out (j : Int) (b : Int)).mono ?_); rintro e w7 ⟨rfl, hb⟩; have HB7 := Lib.hid (HB6.out.trans (hb.mono HB6.out.size)); clear hb))
                        go_ret
                        exact ⟨by rw [HR.out]; rfl, HB1.out.trans (HB7.out.mono HB1.out.size)⟩
                      · have g1' : ¬ (u : Int) < ((firstN f (j + 1) : Nat) : Int) := by omega
                        have HX : RowKit.Hid (∀ q, q < j + 1 → ¬ HomeB f q u) := Lib.hid fun q hq hh => by
                          by_cases e : q < j
                          · exact HI.out.1 q e hh
                          · obtain rfl : q = j := by omega
                            exact g1 hh.2
                        clear g0 g1
                        go_wp2_with (first
                          | (go_at_call 21; (with_reducible refine (CF.out _ HI.out.2 j).mono ?_); rintro e w5 ⟨rfl, hb⟩; have hbb := HI.out.2.trans (hb.mono (HI.out.2).size); have HB5 := Lib.hid hbb; obtain ⟨x0, x1⟩ := HC.out w5 hbb; clear hb hbb)
                          | (go_at_call 21; (with_reducible refine (CF1.out _ HB5.out j).mono ?_); rintro e w6 ⟨rfl, hb⟩; have hbb := HB5.out.trans (hb.mono (HB5.out).size); have HB6 := Lib.hid hbb; obtain ⟨y0, y1⟩ := HC.out w6 hbb; clear hb hbb))
                        go_roundw
                        case rel => exact ⟨j + 1, hlt, by go_num, Lib.hid ⟨HX.out, HB6.out⟩⟩
                        case measure => simp [intOf]; omega
                    · have g0' : ¬ ((firstN f j : Nat) : Int) ≤ (u : Int) := by omega
                      have HX : RowKit.Hid (∀ q, q < j + 1 → ¬ HomeB f q u) := Lib.hid fun q hq hh => by
                        by_cases e : q < j
                        · exact HI.out.1 q e hh
                        · obtain rfl : q = j := by omega
                          exact g0 hh.1
                      clear g0
                      go_wp2_with (go_at_call 21; (with_reducible refine (CF.out _ HI.out.2 j).mono ?_); rintro e w5 ⟨rfl, hb⟩; have hbb := HI.out.2.trans (hb.mono (HI.out.2).size); have HB5 := Lib.hid hbb; obtain ⟨x0, x1⟩ := HC.out w5 hbb; clear hb hbb)
                      go_roundw
                      case rel => exact ⟨j + 1, hlt, by go_num, Lib.hid ⟨HX.out, HB5.out⟩⟩
                      case measure => simp [intOf]; omega
                  · exfalso
                    obtain ⟨q, hq, hh⟩ := home_is HU.out
                    exact HI.out.1 q (by have := HN.out; omega) hh
            · have hu1 : ((valuesN f : Nat) : Int) ≤ (u : Int) := by omega
              have HR : RowKit.Hid (seesB f (b : Int) (k : Int) (u : Int) = false) := Lib.hid (sees_no (by rintro ⟨b', k', u', e1, e2, e3, _, _, h2, _⟩; omega))
              rw [← hon] at ho
              clear hlen hp hon hk hu
              go_enter Tryd.func69, Tryd.ntmps69
              go_upto_region 1 with fail
              try rw [hW1]
              clear hW1
              go_wp2_with (go_at_call 10; refine (CV.out _ (Below.refl _ _)).mono ?_; rintro e w2 ⟨rfl, hb⟩; have HB2 := Lib.hid hb; obtain ⟨d0, d1⟩ := HC.out w2 hb; clear hb hc0 hc1)
              go_ret
              exact ⟨by rw [HR.out]; rfl, HB1.out.trans (HB2.out.mono HB1.out.size)⟩
        · have HR : RowKit.Hid (seesB f (b : Int) (k : Int) v = false) := Lib.hid (sees_no (by rintro ⟨b', k', u, e1, e2, e3, hb', hk', _⟩; obtain rfl : b' = b := (by omega); obtain rfl : k' = k := (by omega); exact hk hk'))
          obtain ⟨on, hon⟩ : ∃ z, z = f.blocks[b].ops.length := ⟨_, rfl⟩
          have hk1 : (on : Int) < (k : Int) := by omega
          rw [← hon] at ho
          clear hlen hp hon hk
          go_enter Tryd.func69, Tryd.ntmps69
          go_upto_region 1 with fail
          try rw [hW1]
          clear hW1
          go_wp2_with fail
          go_ret
          exact ⟨by rw [HR.out]; rfl, HB1.out⟩
    · have hb1 : (n : Int) ≤ (b : Int) := by omega
      have HR : RowKit.Hid (seesB f (b : Int) t v = false) := Lib.hid (sees_no (by rintro ⟨b, k, u, e1, e2, e3, hb, hk, hu, _⟩; omega))
      clear hlen
      go_enter Tryd.func69, Tryd.ntmps69
      go_upto_region 1 with fail
      try rw [hW1]
      clear hW1
      go_wp2_with fail
      go_ret
      exact ⟨by rw [HR.out]; rfl, HB1.out⟩
end Go.Proofs.YtdchhfdmingnaaaDoor

/- Layer 9: package well's rules of signatures, of what others see of a function, and of function 0. -/
namespace Go.Proofs.YtdchhfdmingnaaaDoor
open Go.RowKit (wrap64 intOf Below)
set_option linter.unusedVariables false
set_option linter.unusedSimpArgs false
theorem RulePost.no {w w' : World} {e : Ending} (h : RulePost false w e w') : e = .panicked [{ v := .iface 48 (.int .i64 4), recovered := false }] ∧ Below w.heap.size w w' := by
  rcases h.1 with ⟨h1, _⟩ | ⟨_, he⟩
  · cases h1
  · exact ⟨he, h.2⟩
theorem RulePost.split {w w' : World} {b : Bool} {e : Ending} (h : RulePost b w e w') : (b = true ∧ e = .returned (.tuple #[]) ∧ Below w.heap.size w w') ∨ (b = false ∧ e = .panicked [{ v := .iface 48 (.int .i64 4), recovered := false }] ∧ Below w.heap.size w w') := by
  rcases h.1 with ⟨h1, he⟩ | ⟨h1, he⟩
  · exact .inl ⟨h1, he, h.2⟩
  · exact .inr ⟨h1, he, h.2⟩
theorem NeedPost.split {w w' : World} {b : Bool} {e : Ending} (h : NeedPost b w e w') : (b = true ∧ e = .returned (.tuple #[]) ∧ w = w') ∨ (b = false ∧ e = .panicked [{ v := .iface 48 (.int .i64 4), recovered := false }] ∧ w = w') := by
  rcases h.1 with ⟨h1, he⟩ | ⟨h1, he⟩
  · exact .inl ⟨h1, he, h.2.symm⟩
  · exact .inr ⟨h1, he, h.2.symm⟩
end Go.Proofs.YtdchhfdmingnaaaDoor

/- Layer 9: package well's rules of the blocks of one function: what is used, what an end sees (mk_wbody.py). -/
namespace Go.Proofs.YtdchhfdmingnaaaDoor
open Go.RowKit (wrap64 intOf Below)
set_option linter.unusedVariables false
set_option linter.unusedSimpArgs false
structure BodyAt (W : World) (g : Nat) (sa : Option Addr) (sn sc : Nat) (ca : Option Addr) (cn cc : Nat) (pa : Option Addr) (pn pc : Nat) (P : ProgD) (a : Option Addr) (n c : Nat) (f : FuncD) (fa ua : Option Addr) (m : Nat) (UP : List Int) (ta : Option Addr) (tn : Nat) (T : List Int) : Prop where
  prog : ProgAt W g sa sn sc ca cn cc pa pn pc P
  scop : ScopeAt W a n c f fa ua m UP
  typ : NumsAt W ta tn T
  len : tn = valuesN f
  rng : ∀ z ∈ T, InR z
  ret : InR f.ret
  ft : FT W
theorem BodyAt.since {W W' : World} {g : Nat} {sa : Option Addr} {sn sc : Nat} {ca : Option Addr} {cn cc : Nat} {pa : Option Addr} {pn pc : Nat} {P : ProgD} {a : Option Addr} {n c : Nat} {f : FuncD} {fa ua : Option Addr} {m : Nat} {UP : List Int} {ta : Option Addr} {tn : Nat} {T : List Int} (h : BodyAt W g sa sn sc ca cn cc pa pn pc P a n c f fa ua m UP ta tn T) (hb : Below W.heap.size W W') : BodyAt W' g sa sn sc ca cn cc pa pn pc P a n c f fa ua m UP ta tn T :=
  ⟨h.prog.since hb, h.scop.since hb, h.typ.since hb, h.len, h.rng, h.ret, h.ft.since hb⟩
theorem sees_value {f : FuncD} {x a v : Int} (h : seesB f x a v = true) : ∃ u : Nat, v = (u : Int) ∧ u < valuesN f := by
  obtain ⟨b, k, u, _, _, e, _, _, hu, _⟩ := sees_iff.1 h
  exact ⟨u, e, hu⟩
end Go.Proofs.YtdchhfdmingnaaaDoor

/- Layer 9: package well's Types (mk_wtypes.py). -/
namespace Go.Proofs.YtdchhfdmingnaaaDoor
open Go.RowKit (wrap64 intOf Below)
set_option linter.unusedVariables false
set_option linter.unusedSimpArgs false
structure TySt (W1 : World) (B2 n : Nat) (f : FuncD) (va : Option Addr) (vn vc : Nat) (fa : Option Addr) (fc : Nat) (oa : Option Addr) (on oc : Nat) (T : List Int) (wr : World) : Prop where
  own : OwnsI wr W1.heap.size 3 (.slice va vn vc) T
  first : OwnsI wr B2 3 (.slice fa (n + 1) fc) (firstL f)
  ord : OwnsI wr B2 3 (.slice oa on oc) (thruL f)
  lt : ∀ k, (Value.slice va vn vc).ownBlock = some k → k < B2
  le : B2 ≤ wr.heap.size
  bel : Below W1.heap.size W1 wr
theorem TySt.since {W1 : World} {B2 n : Nat} {f : FuncD} {va : Option Addr} {vn vc : Nat} {fa : Option Addr} {fc : Nat} {oa : Option Addr} {on oc : Nat} {T : List Int} {wr w' : World} (h : TySt W1 B2 n f va vn vc fa fc oa on oc T wr) (hb : Below wr.heap.size wr w') : TySt W1 B2 n f va vn vc fa fc oa on oc T w' :=
  ⟨OwnsI.below h.own hb, OwnsI.below h.first hb, OwnsI.below h.ord hb, h.lt, Nat.le_trans h.le hb.size, h.bel.trans (hb.mono h.bel.size)⟩
theorem TySt.at {W1 : World} {B2 n : Nat} {f : FuncD} {va : Option Addr} {vn vc : Nat} {fa : Option Addr} {fc : Nat} {oa : Option Addr} {on oc : Nat} {T : List Int} {wr : World} (h : TySt W1 B2 n f va vn vc fa fc oa on oc T wr) {j : Nat} (hj : j < T.length) :
    ∃ g, va = some ⟨g, 0, none⟩ ∧ W1.heap.size ≤ g ∧ g < B2 ∧ wr.cell? ⟨g, j, none⟩ = some (.int .i64 T[j]) ∧ wr.frozen? ⟨g, j, none⟩ = false := by
  rcases h.own.2 with ⟨e, h0⟩ | ⟨g, cap, cur, e, hB, hh, rest⟩
  · cases e
    have := h.own.read.1
    omega
  · cases e
    refine ⟨g, rfl, hB, h.lt g rfl, ?_, by simp [World.frozen?, hh]⟩
    have := World.ownsRow.cells h.own (g := g) rfl j (numV T[j]) (by rw [List.getElem?_map, List.getElem?_eq_getElem hj]; rfl)
    rwa [addr_plain, Nat.zero_add] at this
theorem TySt.put {W1 : World} {B2 n : Nat} {f : FuncD} {g vn vc : Nat} {fa : Option Addr} {fc : Nat} {oa : Option Addr} {on oc : Nat} {T : List Int} {wr : World} (h : TySt W1 B2 n f (some ⟨g, 0, none⟩) vn vc fa fc oa on oc T wr) (hg : W1.heap.size ≤ g) (j : Nat) (z : Int) : TySt W1 B2 n f (some ⟨g, 0, none⟩) vn vc fa fc oa on oc (T.set j z) (wr.setCell ⟨g, j, none⟩ (.int .i64 z)) := by
  have hlt := h.lt g rfl
  refine ⟨OwnsI.set h.own j z, h.first.setCell ⟨g, j, none⟩ _ hlt, h.ord.setCell ⟨g, j, none⟩ _ hlt, h.lt, by rw [setCell_size]; exact h.le, h.bel.setCell hg _⟩
theorem kwrap_two {a b : Nat} (h : a + b ≤ 1099511627776) : IntKind.i64.wrap ((a : Int) + (b : Int)) = (a : Int) + (b : Int) := wrap_small _ (by omega) (by omega)
theorem kwrap_three {a b c : Nat} (h : a + b + c ≤ 1099511627776) : IntKind.i64.wrap ((a : Int) + (b : Int) + (c : Int)) = ((a + b + c : Nat) : Int) := by
  rw [wrap_small _ (by omega) (by omega)]
  omega
end Go.Proofs.YtdchhfdmingnaaaDoor

/- Layer 9: package well's rules of a whole program (mk_whold.py). -/
namespace Go.Proofs.YtdchhfdmingnaaaDoor
open Go.RowKit (wrap64 intOf Below)
set_option linter.unusedVariables false
set_option linter.unusedSimpArgs false
def SizedP (P : ProgD) : Prop := ∀ f ∈ P.funcs, f.blocks.length ≤ 100000 ∧ valuesN f ≤ 1099511627776
end Go.Proofs.YtdchhfdmingnaaaDoor

/- Layer 9: two rows of numbers of the call's own side by side, each of which grows: the document's types and its order. -/
namespace Go.Proofs.YtdchhfdmingnaaaDoor
open Go.RowKit (wrap64 intOf Below)
set_option linter.unusedVariables false
set_option linter.unusedSimpArgs false
theorem thru_in (f : FuncD) (i : Nat) : inL (thruK f i) (i : Int) = inL (orderL f) (i : Int) := by
  unfold inL thruK
  rw [Bool.eq_iff_iff, decide_eq_true_iff, decide_eq_true_iff, List.mem_append]
  constructor
  · rintro (h | h)
    · exact h
    · obtain ⟨k, hk, e⟩ := List.mem_map.1 h
      have h1 := List.mem_range.1 (List.mem_filter.1 hk).1
      omega
  · exact .inl
structure DtSt (W1 : World) (ov rv : Value) (T O : List Int) (u : World) : Prop where
  out : OwnsI u W1.heap.size 3 ov T
  ord : OwnsI u W1.heap.size 3 rv O
  apart : ∀ k, ov.ownBlock = some k → rv.ownBlock ≠ some k
  bel : Below W1.heap.size W1 u
theorem DtSt.since {W1 : World} {ov rv : Value} {T O : List Int} {u u' : World} (h : DtSt W1 ov rv T O u) (hb : Below u.heap.size u u') : DtSt W1 ov rv T O u' :=
  ⟨h.out.below hb, h.ord.below hb, h.apart, h.bel.trans (hb.mono h.bel.size)⟩
theorem DtSt.outs {W1 : World} {ov rv ov' : Value} {T O T' : List Int} {u u' : World} (h : DtSt W1 ov rv T O u) (ho : OwnsI u' W1.heap.size 3 ov' T') (hg : u.grownBy u' ov.ownBlock) (hw : ∀ k, ov'.ownBlock = some k → ov.ownBlock = some k ∨ u.heap.size ≤ k) : DtSt W1 ov' rv T' O u' := by
  refine ⟨ho, h.ord.besides hg (fun k hk e => h.apart k e hk), fun k hk e => ?_, Below.grown h.bel hg h.bel.size (fun k hk => (h.out.lt k hk).1)⟩
  rcases hw k hk with h1 | h1
  · exact h.apart k h1 e
  · have := (h.ord.lt k e).2; omega
theorem DtSt.laid {W1 : World} {ov rv : Value} {T O : List Int} {u : World} (h : DtSt W1 ov rv T O u) (o : Obj) : DtSt W1 ov rv T O (u.alloc o) := h.since ((Below.refl _ u).alloc (Nat.le_refl _) o)
theorem DtSt.outsA {W1 : World} {ov rv ov' : Value} {T O T' : List Int} {u u' : World} {o : Obj} (h : DtSt W1 ov rv T O u) (ho : OwnsI u' W1.heap.size 3 ov' T') (hg : (u.alloc o).grownBy u' ov.ownBlock) (hw : ∀ k, ov'.ownBlock = some k → ov.ownBlock = some k ∨ u.heap.size ≤ k) : DtSt W1 ov' rv T' O u' := by
  have h2 := h.laid o
  refine ⟨ho, h2.ord.besides hg (fun k hk e => h.apart k e hk), fun k hk e => ?_, Below.grown h2.bel hg h2.bel.size (fun k hk => (h.out.lt k hk).1)⟩
  rcases hw k hk with h1 | h1
  · exact h.apart k h1 e
  · have := (h.ord.lt k e).2; omega
theorem DtSt.ordsA {W1 : World} {ov rv rv' : Value} {T O O' : List Int} {u u' : World} {o : Obj} (h : DtSt W1 ov rv T O u) (ho : OwnsI u' W1.heap.size 3 rv' O') (hg : (u.alloc o).grownBy u' rv.ownBlock) (hw : ∀ k, rv'.ownBlock = some k → rv.ownBlock = some k ∨ u.heap.size ≤ k) : DtSt W1 ov rv' T O' u' := by
  have h2 := h.laid o
  refine ⟨h2.out.besides hg (fun k hk e => h.apart k hk e), ho, fun k hk e => ?_, Below.grown h2.bel hg h2.bel.size (fun k hk => (h.ord.lt k hk).1)⟩
  rcases hw k e with h1 | h1
  · exact h.apart k hk h1
  · have := (h.out.lt k hk).2; omega
theorem DtSt.put {W1 : World} {g n c : Nat} {rv : Value} {T O : List Int} {u : World} (h : DtSt W1 (.slice (some ⟨g, 0, none⟩) n c) rv T O u) (j : Nat) (z : Int) : DtSt W1 (.slice (some ⟨g, 0, none⟩) n c) rv (T.set j z) O (u.setCell ⟨g, j, none⟩ (.int .i64 z)) :=
  ⟨OwnsI.set h.out j z, h.ord.setOther _ _ (fun k hk e => h.apart g rfl (by rw [hk]; exact congrArg some e.symm)), h.apart, h.bel.setCell (h.out.lt g rfl).1 _⟩
theorem DtSt.at {W1 : World} {va : Option Addr} {vn vc : Nat} {rv : Value} {T O : List Int} {u : World} (h : DtSt W1 (.slice va vn vc) rv T O u) {j : Nat} (hj : j < T.length) : ∃ g, va = some ⟨g, 0, none⟩ ∧ W1.heap.size ≤ g ∧ g < u.heap.size ∧ u.cell? ⟨g, j, none⟩ = some (.int .i64 T[j]) ∧ u.frozen? ⟨g, j, none⟩ = false := by
  rcases h.out.2 with ⟨e, h0⟩ | ⟨g, cap, cur, e, hB, hh, rest⟩
  · cases e
    have := h.out.read.1
    omega
  · cases e
    refine ⟨g, rfl, hB, (h.out.lt g rfl).2, ?_, by simp [World.frozen?, hh]⟩
    have := World.ownsRow.cells h.out (g := g) rfl j (numV T[j]) (by rw [List.getElem?_map, List.getElem?_eq_getElem hj]; rfl)
    rwa [addr_plain, Nat.zero_add] at this
theorem eight_set (W : World) (p : Nat) (v0 v1 v2 v3 v4 v5 v6 v7 u1 : Value) (h : W.cell? ⟨p, 1, none⟩ = some u1) :
    ((((((((W.setCell ⟨p, 0, none⟩ v0).setCell ⟨p, 1, none⟩ v1).setCell ⟨p, 2, none⟩ v2).setCell ⟨p, 3, none⟩ v3).setCell ⟨p, 4, none⟩ v4).setCell ⟨p, 5, none⟩ v5).setCell ⟨p, 6, none⟩ v6).setCell ⟨p, 7, none⟩ v7).cell? ⟨p, 1, none⟩ = some v1 := by
  have k : ∀ (u : World) (i j : Nat) (v : Value), i ≠ j → (u.setCell ⟨p, i, none⟩ v).cell? ⟨p, j, none⟩ = u.cell? ⟨p, j, none⟩ := fun u i j v h => World.cell?_setCell_other _ _ _ _ (fun e => h (by cases e; rfl))
  rw [k _ 7 1 _ (by omega), k _ 6 1 _ (by omega), k _ 5 1 _ (by omega), k _ 4 1 _ (by omega), k _ 3 1 _ (by omega), k _ 2 1 _ (by omega)]
  exact World.cell?_setCell_same _ _ _ (by rw [k _ 0 1 _ (by omega)]; exact h)
theorem eight_below {W0 W : World} {m p : Nat} (v0 v1 v2 v3 v4 v5 v6 v7 : Value) (h : Below m W0 W) (hp : m ≤ p) :
    Below m W0 ((((((((W.setCell ⟨p, 0, none⟩ v0).setCell ⟨p, 1, none⟩ v1).setCell ⟨p, 2, none⟩ v2).setCell ⟨p, 3, none⟩ v3).setCell ⟨p, 4, none⟩ v4).setCell ⟨p, 5, none⟩ v5).setCell ⟨p, 6, none⟩ v6).setCell ⟨p, 7, none⟩ v7) :=
  (((((((h.setCell hp _).setCell hp _).setCell hp _).setCell hp _).setCell hp _).setCell hp _).setCell hp _).setCell hp _
theorem alloc_block (w : World) (C : Array Value) (T : Nat) : (w.alloc (.cells C T)).heap[w.heap.size]? = some (.cells C T (0, 0)) := World.alloc_heap_new w _
theorem frozen_of {W : World} {p : Nat} {C : Array Value} {T : Nat} (h : W.heap[p]? = some (.cells C T (0, 0))) (j : Nat) : W.frozen? ⟨p, j, none⟩ = false := by simp [World.frozen?, h]
end Go.Proofs.YtdchhfdmingnaaaDoor
