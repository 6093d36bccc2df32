/- Layer 8: package dom's Edge: where it stands; whether a list ends with a number. -/
import Derived.Test.YtnnccahpgailiaaQDomEd
import Derived.Test.YtnnccahpgailiaaQDomP

namespace Go.Proofs.Ytnnccahpgailiaa
open Go.RowKit (wrap64 intOf Below)
set_option linter.unusedVariables false
set_option linter.unusedSimpArgs false

set_option maxRecDepth 100000 in
theorem ends_any (a : Option Addr) (n c : Nat) (L : List Int) (z : Int) (w : World) (hat : NumsAt w a n L) (hn : n ≤ 100000) :
    Calls Try.prog 34 #[.slice a n c, .int .i64 z] w fun e w' => e = .returned (.bool (endsB L z)) ∧ w = w' := by
  by_cases h0 : n = 0
  · subst h0
    have HR : RowKit.Hid (endsB L z = false) := Lib.hid (by have h := hat.1; rw [List.length_eq_zero_iff] at h; rw [h]; rfl)
    clear hat
    go_enter Try.func34, Try.ntmps34
    go_wp2_with fail
    go_ret
    exact ⟨by rw [HR.out]; rfl, rfl⟩
  · obtain ⟨g, off, rfl, hg, hc⟩ := hat.2 (by omega)
    have hl := hat.1
    obtain ⟨k, rfl⟩ : ∃ k, n = k + 1 := ⟨n - 1, by omega⟩
    obtain ⟨y, hy⟩ : ∃ y, y = L[k]'(by omega) := ⟨_, rfl⟩
    have hcell : w.cell? ⟨g, off + k, none⟩ = some (.int .i64 y) := by rw [hy]; exact hc k (by omega)
    have hlast : L.getLast? = some y := by
      have e : L.length - 1 = k := by omega
      rw [hy, List.getLast?_eq_getElem?, e]
      exact List.getElem?_eq_getElem (by omega)
    have hwk : wrap64 (((k + 1 : Nat) : Int) - 1) = (k : Int) := by unfold wrap64; omega
    have hk1 : (0 : Int) < ((k + 1 : Nat) : Int) := by omega
    have hk2 : (k : Int) < ((k + 1 : Nat) : Int) := by omega
    have hk0 : (0 : Int) ≤ (k : Int) := by omega
    obtain ⟨q, hq⟩ : ∃ q, q = decide (y = z) := ⟨_, rfl⟩
    have HR : RowKit.Hid (endsB L z = q) := Lib.hid (by unfold endsB; rw [hlast, hq])
    have hyz : (y == z) = q := by rw [hq]; rfl
    clear hat hc hl hy hlast hg hq
    go_enter Try.func34, Try.ntmps34
    go_wp2_with fail
    go_ret
    exact ⟨by rw [HR.out]; rfl, rfl⟩
/-- Where Edge stands. -/
structure EdSt (w2 : World) (F : FuncD) (N B p n : Nat) (g : Nat → Nat) (Z : Nat → List Int) (ov : Value) (gf : Nat) (vs : List Value) (rd m ge : Nat) (us : List Value) (Zs : List (List Int)) (W : World) : Prop where
  gr : GrownSt W F B p n g Z ov gf vs rd m
  tl : TreeLt N p g ov (.slice (some ⟨gf, 0, none⟩) n n) vs
  row : Rows2 W N 29 3 (.slice (some ⟨ge, 0, none⟩) n n) us Zs
  len : us.length = n
  bel : Below N w2 W
  siz : N ≤ W.heap.size
section
variable {w2 W W' w1 : World} {F : FuncD} {N B p n : Nat} {g : Nat → Nat} {Z : Nat → List Int} {ov : Value} {gf : Nat} {vs : List Value} {rd m ge : Nat} {us : List Value} {Zs : List (List Int)}
theorem EdSt.since (h : EdSt w2 F N B p n g Z ov gf vs rd m ge us Zs W) (hb : Below W.heap.size W W') : EdSt w2 F N B p n g Z ov gf vs rd m ge us Zs W' :=
  ⟨h.gr.since hb, h.tl, h.row.since hb, h.len, h.bel.trans (hb.mono h.siz), Nat.le_trans h.siz hb.size⟩
theorem EdSt.push {b : Nat} {v' : Value} {Z' : List Int} {C : Array Value} (h : EdSt w2 F N B p n g Z ov gf vs rd m ge us Zs W) (hb : b < us.length)
    (hg : (W.alloc (.cells C 3)).grownBy w1 (us[b]).ownBlock) (ho : OwnsI w1 N 3 v' Z') (hw : ∀ k, v'.ownBlock = some k → (us[b]).ownBlock = some k ∨ W.heap.size ≤ k) :
    EdSt w2 F N B p n g Z ov gf vs rd m ge (us.set b v') (Zs.set b Z') (w1.setCell ⟨ge, b, none⟩ v') ∧ w1.frozen? ⟨ge, b, none⟩ = false ∧ w1.cell? ⟨ge, b, none⟩ = some us[b] := by
  obtain ⟨h1, h2, h3, h4, h5⟩ := h.row.push (by decide) h.len.symm hb ((Below.refl _ W).alloc (Nat.le_refl _) _) hg ho hw
  obtain ⟨cur, hgb, hBg⟩ := ownsRow_blk h.row.row (i := ge) rfl
  have hgl : ge < W.heap.size := (Array.getElem?_eq_some_iff.1 hgb).1
  have hx : ∀ k, ((us[b]).ownBlock = some k ∨ k = ge) → N ≤ k := fun k hk => by
    rcases hk with hk | rfl
    · exact (ownsI_blk (h.row.own b hb (by rw [← h.row.len]; exact hb)) hk).elim fun _ h => h.2
    · exact hBg
  refine ⟨⟨⟨h.gr.at_.beyond h.tl h3 hx, h.gr.len, h.gr.vsl, h.gr.place, h.gr.set, h.gr.over, h.gr.pass⟩, h.tl, h1, by simp [h.len], h.bel.trans (h3.below h.siz hx), Nat.le_trans h.siz h3.size⟩, ?_, ?_⟩
  · exact (h4.frozen (p := ⟨ge, b, none⟩) hgl h5).trans (h.row.free h.len.symm)
  · exact (h4.cell (p := ⟨ge, b, none⟩) hgl h5).trans (h.row.cell hb)
end
end Go.Proofs.Ytnnccahpgailiaa
