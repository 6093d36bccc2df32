/- Layer 8: package dom's Above and Over; the blocks from which a way back goes to a head. -/
import Derived.Test.YtnnccahpgailiaaQDomJ

namespace Go.Proofs.Ytnnccahpgailiaa
open Go.RowKit (wrap64 intOf Below)
set_option linter.unusedVariables false
set_option linter.unusedSimpArgs false

section
variable {W W' : World} {f : FuncD} {B p n : Nat} {g : Nat → Nat} {Z : Nat → List Int} {ov : Value} {gf : Nat} {vs : List Value} {rd m : Nat}
theorem GrownSt.since (h : GrownSt W f B p n g Z ov gf vs rd m) (hb : Below W.heap.size W W') : GrownSt W' f B p n g Z ov gf vs rd m :=
  ⟨h.at_.since hb, h.len, h.vsl, h.place, h.set, h.over, h.pass⟩
theorem GrownSt.met (h : GrownSt W f B p n g Z ov gf vs rd m) (z : Int) : Calls Try.prog 65 #[.pointer (some ⟨p, 0, none⟩), .int .i64 z] W fun e w' => e = .returned (.bool (metZ f z)) ∧ w' = W := by
  rw [← placed_met h.len h.place]
  exact dmet_any (gp := g 0) (c := n) (by simp [World.cell?, h.at_.blk]) (fun j hj => h.at_.cell (i := 0) (by omega) hj) z
theorem GrownSt.overC (h : GrownSt W f B p n g Z ov gf vs rd m) (a b : Nat) (ha : MetF f a) (hb : MetF f b) : Calls Try.prog 69 #[.pointer (some ⟨p, 0, none⟩), .int .i64 (a : Int), .int .i64 (b : Int)] W fun e w' => e = .returned (.bool (overB f a b)) ∧ ∃ q, W.drewN q = w' := by
  have hal : a < n := by rw [h.len]; exact met_lt ha
  have hbl : b < n := by rw [h.len]; exact met_lt hb
  have e : overB f a b = numB (Z 2) (Z 3) a b := by
    refine (overB_of ?_).symm
    rw [h.over a b ha hb, over_nat h.set]
    exact ⟨fun h => ⟨ha, hb, h⟩, fun h => h.2.2⟩
  rw [e]
  exact dover_any (by simp [World.cell?, h.at_.blk]) (by simp [World.cell?, h.at_.blk]) a b hal hbl (h.at_.cell (i := 2) (by omega) hal) (h.at_.cell (i := 2) (by omega) hbl) (h.at_.cell (i := 3) (by omega) hal)
end
theorem overB_met {f : FuncD} {x y : Int} (h : overB f x y = true) : metZ f x = true ∧ metZ f y = true := by
  have h1 := overB_iff.1 h
  have key : ∀ {z : Int}, MI f 0 (-1) z → metZ f z = true := fun {z} hz => by
    obtain ⟨v, rfl⟩ := mi_none hz
    exact metZ_iff.2 ⟨v, rfl, (mi_met f v).1 hz⟩
  exact ⟨key h1.1, key h1.2.1⟩
set_option maxRecDepth 100000 in
theorem above_any (r : Int) (a : Option Addr) (n c : Nat) (f : FuncD) (w : World) (hrow : RowV BlockQ 8 w (.slice a n c) f.blocks) (hn : n ≤ 100000) :
    Calls Try.prog 38 #[.agg #[.int .i64 r, .slice a n c]] w fun e w' => ∃ g UP m, e = .returned (.slice (some ⟨g, 0, none⟩) n n) ∧ OwnsI w' w.heap.size 3 (.slice (some ⟨g, 0, none⟩) n n) UP ∧ Settled (EdgeF f) (MetF f) (plF f) n UP m ∧ Below w.heap.size w w' := by
  obtain ⟨W1, hW1⟩ : ∃ W, w.alloc (.cells #[.int .i64 r, .slice a n c] 24) = W := ⟨_, rfl⟩
  have hb1 : Below w.heap.size w W1 := by rw [← hW1]; exact (Below.refl _ w).alloc (Nat.le_refl _) _
  have HB1 := Lib.hid hb1
  have CG := Lib.hid (grown_any r a n c f W1 (hrow.since BlockQ.lasts hb1) hn)
  have hc : ∀ j, W1.cell? ⟨w.heap.size, j, none⟩ = (#[.int .i64 r, .slice a n c] : Array Value)[j]? := fun j => by rw [← hW1]; exact World.cell?_alloc_mark _ _ _ _ _
  have hc0 := hc 0
  have hc1 := hc 1
  clear hrow hb1 hc
  go_enter Try.func38, Try.ntmps38
  go_upto_region 1 with fail
  try rw [hW1]
  clear hW1
  go_wp2_with (go_at_call 33; refine CG.out.mono ?_; rintro e w2 ⟨p, g, Z, ov, gf, vs, rd, m, rfl, hG, _, hb⟩; have HG := Lib.hid hG; have HB2 := Lib.hid hb; have c3 : w2.cell? ⟨p, 3, none⟩ = some (.slice (some ⟨g 1, 0, none⟩) n n) := (by simp [World.cell?, hG.at_.blk]); clear hG hb)
  go_ret
  exact ⟨g 1, Z 1, m, rfl, (HG.out.at_.rows.own 1 (by omega)).mono HB1.out.size, HG.out.set, HB1.out.trans (HB2.out.mono HB1.out.size)⟩
end Go.Proofs.Ytnnccahpgailiaa
