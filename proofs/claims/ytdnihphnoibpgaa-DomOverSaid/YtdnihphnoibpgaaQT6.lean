/- Layer 8: package dom's Above and Over; the blocks from which a way back goes to a head. -/
import Derived.Test.YtdnihphnoibpgaaQDomJ

namespace Go.Proofs.Ytdnihphnoibpgaa
open Go.RowKit (wrap64 intOf Below)
set_option linter.unusedVariables false
set_option linter.unusedSimpArgs false

section
variable {W W' : World} {f : FuncD} {B p n : Nat} {g : Nat → Nat} {Z : Nat → List Int} {ov : Value} {gf : Nat} {vs : List Value} {rd m : Nat}
theorem GrownSt.since (h : GrownSt W f B p n g Z ov gf vs rd m) (hb : Below W.heap.size W W') : GrownSt W' f B p n g Z ov gf vs rd m :=
  ⟨h.at_.since hb, h.len, h.vsl, h.place, h.set, h.over, h.pass⟩
theorem GrownSt.met (h : GrownSt W f B p n g Z ov gf vs rd m) (z : Int) : Calls Try.prog 42 #[.pointer (some ⟨p, 0, none⟩), .int .i64 z] W fun e w' => e = .returned (.bool (metZ f z)) ∧ w' = W := by
  rw [← placed_met h.len h.place]
  exact dmet_any (gp := g 0) (c := n) (by simp [World.cell?, h.at_.blk]) (fun j hj => h.at_.cell (i := 0) (by omega) hj) z
theorem GrownSt.overC (h : GrownSt W f B p n g Z ov gf vs rd m) (a b : Nat) (ha : MetF f a) (hb : MetF f b) : Calls Try.prog 43 #[.pointer (some ⟨p, 0, none⟩), .int .i64 (a : Int), .int .i64 (b : Int)] W fun e w' => e = .returned (.bool (overB f a b)) ∧ ∃ q, W.drewN q = w' := by
  have hal : a < n := by rw [h.len]; exact met_lt ha
  have hbl : b < n := by rw [h.len]; exact met_lt hb
  have e : overB f a b = numB (Z 2) (Z 3) a b := by
    refine (overB_of ?_).symm
    rw [h.over a b ha hb, over_nat h.set]
    exact ⟨fun h => ⟨ha, hb, h⟩, fun h => h.2.2⟩
  rw [e]
  exact dover_any (by simp [World.cell?, h.at_.blk]) (by simp [World.cell?, h.at_.blk]) a b hal hbl (h.at_.cell (i := 2) (by omega) hal) (h.at_.cell (i := 2) (by omega) hbl) (h.at_.cell (i := 3) (by omega) hal)
end
theorem overB_met {f : FuncD} {x y : Int} (h : overB f x y = true) : metZ f x = true ∧ metZ f y = true := by
  have h1 := overB_iff.1 h
  have key : ∀ {z : Int}, MI f 0 (-1) z → metZ f z = true := fun {z} hz => by
    obtain ⟨v, rfl⟩ := mi_none hz
    exact metZ_iff.2 ⟨v, rfl, (mi_met f v).1 hz⟩
  exact ⟨key h1.1, key h1.2.1⟩
set_option maxRecDepth 100000 in
theorem above_any (r : Int) (a : Option Addr) (n c : Nat) (f : FuncD) (w : World) (hrow : RowV BlockQ 8 w (.slice a n c) f.blocks) (hn : n ≤ 100000) :
    Calls Try.prog 23 #[.agg #[.int .i64 r, .slice a n c]] w fun e w' => ∃ g UP m, e = .returned (.slice (some ⟨g, 0, none⟩) n n) ∧ OwnsI w' w.heap.size 3 (.slice (some ⟨g, 0, none⟩) n n) UP ∧ Settled (EdgeF f) (MetF f) (plF f) n UP m ∧ Below w.heap.size w w' := by
  obtain ⟨W1, hW1⟩ : ∃ W, w.alloc (.cells #[.int .i64 r, .slice a n c] 24) = W := ⟨_, rfl⟩
  have hb1 : Below w.heap.size w W1 := by rw [← hW1]; exact (Below.refl _ w).alloc (Nat.le_refl _) _
  have HB1 := Lib.hid hb1
  have CG := Lib.hid (grown_any r a n c f W1 (hrow.since BlockQ.lasts hb1) hn)
  have hc : ∀ j, W1.cell? ⟨w.heap.size, j, none⟩ = (#[.int .i64 r, .slice a n c] : Array Value)[j]? := fun j => by rw [← hW1]; exact World.cell?_alloc_mark _ _ _ _ _
  have hc0 := hc 0
  have hc1 := hc 1
  clear hrow hb1 hc
  go_enter Try.func23, Try.ntmps23
  go_upto_region 1 with fail
  try rw [hW1]
  clear hW1
  go_wp2_with (go_at_call 41; refine CG.out.mono ?_; rintro e w2 ⟨p, g, Z, ov, gf, vs, rd, m, rfl, hG, _, hb⟩; have HG := Lib.hid hG; have HB2 := Lib.hid hb; have c3 : w2.cell? ⟨p, 3, none⟩ = some (.slice (some ⟨g 1, 0, none⟩) n n) := (by simp [World.cell?, hG.at_.blk]); clear hG hb)
  go_ret
  exact ⟨g 1, Z 1, m, rfl, (HG.out.at_.rows.own 1 (by omega)).mono HB1.out.size, HG.out.set, HB1.out.trans (HB2.out.mono HB1.out.size)⟩
set_option maxRecDepth 100000 in
theorem over_any (r : Int) (a : Option Addr) (n c : Nat) (f : FuncD) (x y : Int) (w : World) (hrow : RowV BlockQ 8 w (.slice a n c) f.blocks) (hn : n ≤ 100000) :
    Calls Try.prog 24 #[.agg #[.int .i64 r, .slice a n c], .int .i64 x, .int .i64 y] w fun e w' => e = .returned (.bool (overB f x y)) ∧ Below w.heap.size w w' := by
  obtain ⟨W1, hW1⟩ : ∃ W, w.alloc (.cells #[.int .i64 r, .slice a n c] 24) = W := ⟨_, rfl⟩
  have hb1 : Below w.heap.size w W1 := by rw [← hW1]; exact (Below.refl _ w).alloc (Nat.le_refl _) _
  have HB1 := Lib.hid hb1
  have CG := Lib.hid (grown_any r a n c f W1 (hrow.since BlockQ.lasts hb1) hn)
  have hc : ∀ j, W1.cell? ⟨w.heap.size, j, none⟩ = (#[.int .i64 r, .slice a n c] : Array Value)[j]? := fun j => by rw [← hW1]; exact World.cell?_alloc_mark _ _ _ _ _
  have hc0 := hc 0
  have hc1 := hc 1
  clear hrow hb1 hc
  go_enter Try.func24, Try.ntmps24
  go_upto_region 1 with fail
  try rw [hW1]
  clear hW1
  go_upto_region 2 with (go_at_call 41; refine CG.out.mono ?_; rintro e w2 ⟨p, g, Z, ov, gf, vs, rd, m, rfl, hG, _, hb⟩; have HG := Lib.hid hG; have HB2 := Lib.hid hb; clear hG hb)
  clear hc0 hc1 CG
  have HBB : RowKit.Hid (Below w.heap.size w w2) := Lib.hid (HB1.out.trans (HB2.out.mono HB1.out.size))
  have CX := Lib.hid (HG.out.met x)
  have CY := Lib.hid (HG.out.met y)
  cases hx : metZ f x with
  | false =>
    have HR : RowKit.Hid (overB f x y = false) := Lib.hid (by
      cases h : overB f x y with
      | false => rfl
      | true => have := (overB_met h).1; rw [hx] at this; cases this)
    rw [hx] at CX
    clear hx
    go_wp2_with (go_at_call 42; (with_reducible refine CX.out.mono ?_); rintro e u ⟨rfl, hu⟩; rw [hu]; clear hu u CX)
    go_ret
    exact ⟨by rw [HR.out]; rfl, HBB.out⟩
  | true =>
    obtain ⟨av, hav, ham⟩ := metZ_iff.1 hx
    have HAM := Lib.hid ham
    rw [hx] at CX
    clear hx ham
    subst hav
    cases hy : metZ f y with
    | false =>
      have HR : RowKit.Hid (overB f (av : Int) y = false) := Lib.hid (by
        cases h : overB f (av : Int) y with
        | false => rfl
        | true => have := (overB_met h).2; rw [hy] at this; cases this)
      rw [hy] at CY
      clear hy
      go_wp2_with (first
        | (go_at_call 42; (with_reducible refine CX.out.mono ?_); rintro e u ⟨rfl, hu⟩; rw [hu]; clear hu u CX)
        | (go_at_call 42; (with_reducible refine CY.out.mono ?_); rintro e u ⟨rfl, hu⟩; rw [hu]; clear hu u CY))
      go_ret
      exact ⟨by rw [HR.out]; rfl, HBB.out⟩
    | true =>
      obtain ⟨bv, hbv, hbm⟩ := metZ_iff.1 hy
      rw [hy] at CY
      clear hy
      subst hbv
      have CO := Lib.hid (HG.out.overC av bv HAM.out hbm)
      obtain ⟨bb, hbb⟩ : ∃ bb, overB f (av : Int) (bv : Int) = bb := ⟨_, rfl⟩
      rw [hbb] at CO
      have HBQ := Lib.hid hbb
      clear hbb
      clear hbm
      go_wp2_with (first
        | (go_at_call 42; (with_reducible refine CX.out.mono ?_); rintro e u ⟨rfl, hu⟩; rw [hu]; clear hu u CX)
        | (go_at_call 42; (with_reducible refine CY.out.mono ?_); rintro e u ⟨rfl, hu⟩; rw [hu]; clear hu u CY)
        | (go_at_call 43; (with_reducible refine CO.out.mono ?_); rintro e u ⟨rfl, q, hu⟩; rw [← hu]; clear hu u CO))
      go_ret
      exact ⟨by rw [HBQ.out]; rfl, below_drewN _ HBB.out⟩
end Go.Proofs.Ytdnihphnoibpgaa
