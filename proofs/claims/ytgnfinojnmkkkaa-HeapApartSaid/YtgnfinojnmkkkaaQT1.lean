/- Layer 7: package cfg's Order: the blocks as the walk leaves them, turned about. -/
import Derived.Test.YtgnfinojnmkkkaaQCfgD
import Derived.Test.YtgnfinojnmkkkaaQKindRef
import Derived.Test.YtgnfinojnmkkkaaQT0
import Derived.Lib.OwnBridge
import Derived.Deep.DeepCutAuto
import Derived.Deep.RegionHeld3
namespace Go.Proofs.Ytgnfinojnmkkkaa
open Go.RowKit
set_option linter.unusedVariables false
set_option linter.unusedSimpArgs false
attribute [local go_sem] Oper.semAt_some

end Go.Proofs.Ytgnfinojnmkkkaa

/- Layer 7: a function cut to its first sixty blocks; the living call of the statements. -/
namespace Go.Proofs.Ytgnfinojnmkkkaa
open Go.RowKit (wrap64 intOf Below)
set_option linter.unusedVariables false
set_option linter.unusedSimpArgs false

def fewF (f : FuncD) : FuncD := { f with blocks := f.blocks.take 60 }
def fewN (n : Nat) : Nat := if 60 < n then 60 else n
theorem fewN_le (n : Nat) : fewN n ≤ 60 := by unfold fewN; split <;> omega
theorem fewF_len {f : FuncD} {n : Nat} (h : f.blocks.length = n) : (fewF f).blocks.length = fewN n := by
  unfold fewF fewN
  simp only [List.length_take, h]
  split <;> omega
theorem RowV.take {α : Type} {Q : World → List Value → α → Prop} {k : Nat} {W : World} {a : Option Addr} {n c : Nat} {xs : List α} (h : RowV Q k W (.slice a n c) xs) {m : Nat} (hm : m ≤ n) : RowV Q k W (.slice a m c) (xs.take m) := by
  obtain ⟨a', n', c', e, hl, h1, h2, h3⟩ := h
  cases e
  refine ⟨a, m, c, rfl, by simp; omega, h1, by omega, fun h0 => ?_⟩
  obtain ⟨g, off, rfl, hg, hcs⟩ := h3 (by omega)
  refine ⟨g, off, rfl, hg, fun i hi => ?_⟩
  have hi' : i < xs.length := by simp at hi; omega
  obtain ⟨cs, l, hc, hq⟩ := hcs i hi'
  refine ⟨cs, l, hc, ?_⟩
  rw [List.getElem_take]
  exact hq
theorem RowV.few {f : FuncD} {W : World} {a : Option Addr} {n c : Nat} (h : RowV BlockQ 8 W (.slice a n c) f.blocks) : RowV BlockQ 8 W (.slice a (fewN n) c) (fewF f).blocks := by
  have hl : f.blocks.length = n := by obtain ⟨_, _, _, e, h', _⟩ := h; cases e; exact h'
  have e : (fewF f).blocks = f.blocks.take (fewN n) := by
    unfold fewF fewN
    simp only
    split
    · rfl
    · rw [List.take_of_length_le (by omega), List.take_of_length_le (by omega)]
  rw [e]
  exact h.take (by unfold fewN; split <;> omega)
def liveF : FuncD := ⟨0, [⟨[], [], ⟨1, 0, 1, 2, [], []⟩⟩, ⟨[], [], ⟨0, 0, 3, 0, [], []⟩⟩, ⟨[], [], ⟨0, 0, 3, 0, [], []⟩⟩, ⟨[], [], ⟨2, 0, 0, 0, [], []⟩⟩]⟩
abbrev liveC : Array Value := #[.slice none 0 0, .slice none 0 0, .int .i64 1, .int .i64 0, .int .i64 1, .int .i64 2, .slice none 0 0, .slice none 0 0, .slice none 0 0, .slice none 0 0, .int .i64 0, .int .i64 0, .int .i64 3, .int .i64 0, .slice none 0 0, .slice none 0 0, .slice none 0 0, .slice none 0 0, .int .i64 0, .int .i64 0, .int .i64 3, .int .i64 0, .slice none 0 0, .slice none 0 0, .slice none 0 0, .slice none 0 0, .int .i64 2, .int .i64 0, .int .i64 0, .int .i64 0, .slice none 0 0, .slice none 0 0]
theorem nums_nil (U : World) : NumsV U (.slice none 0 0) [] := ⟨none, 0, 0, rfl, NumsAt.nil _ _, fun _ => rfl, by omega, fun z hz => by cases hz⟩
theorem ops_nil (U : World) : RowV OpQ 8 U (.slice none 0 0) ([] : List OpD) := ⟨none, 0, 0, rfl, rfl, fun _ => rfl, by omega, fun h => absurd h (by omega)⟩
theorem live_row {U : World} {g : Nat} (hg : g < U.heap.size) (hC : ∀ j, U.cell? ⟨g, j, none⟩ = liveC[j]?) : RowV BlockQ 8 U (.slice (some ⟨g, 0, none⟩) 4 4) liveF.blocks := by
  refine ⟨some ⟨g, 0, none⟩, 4, 4, rfl, rfl, (fun h => by cases h), by omega, fun _ => ⟨g, 0, rfl, hg, fun i hi => ?_⟩⟩
  have hi' : i < 4 := hi
  match i, hi with
    | 0, _ => exact ⟨[.slice none 0 0, .slice none 0 0, .int .i64 1, .int .i64 0, .int .i64 1, .int .i64 2, .slice none 0 0, .slice none 0 0], rfl, fun j hj => by
        rw [hC]
        have hj' : j < 8 := hj
        have : j = 0 ∨ j = 1 ∨ j = 2 ∨ j = 3 ∨ j = 4 ∨ j = 5 ∨ j = 6 ∨ j = 7 := by omega
        rcases this with rfl | rfl | rfl | rfl | rfl | rfl | rfl | rfl <;> rfl, _, _, _, rfl, nums_nil U, ops_nil U, _, _, rfl, (show InR 1 from ⟨by decide, by decide⟩), (show InR 0 from ⟨by decide, by decide⟩), (show InR 1 from ⟨by decide, by decide⟩), (show InR 2 from ⟨by decide, by decide⟩), nums_nil U, nums_nil U⟩
    | 1, _ => exact ⟨[.slice none 0 0, .slice none 0 0, .int .i64 0, .int .i64 0, .int .i64 3, .int .i64 0, .slice none 0 0, .slice none 0 0], rfl, fun j hj => by
        rw [hC]
        have hj' : j < 8 := hj
        have : j = 0 ∨ j = 1 ∨ j = 2 ∨ j = 3 ∨ j = 4 ∨ j = 5 ∨ j = 6 ∨ j = 7 := by omega
        rcases this with rfl | rfl | rfl | rfl | rfl | rfl | rfl | rfl <;> rfl, _, _, _, rfl, nums_nil U, ops_nil U, _, _, rfl, (show InR 0 from ⟨by decide, by decide⟩), (show InR 0 from ⟨by decide, by decide⟩), (show InR 3 from ⟨by decide, by decide⟩), (show InR 0 from ⟨by decide, by decide⟩), nums_nil U, nums_nil U⟩
    | 2, _ => exact ⟨[.slice none 0 0, .slice none 0 0, .int .i64 0, .int .i64 0, .int .i64 3, .int .i64 0, .slice none 0 0, .slice none 0 0], rfl, fun j hj => by
        rw [hC]
        have hj' : j < 8 := hj
        have : j = 0 ∨ j = 1 ∨ j = 2 ∨ j = 3 ∨ j = 4 ∨ j = 5 ∨ j = 6 ∨ j = 7 := by omega
        rcases this with rfl | rfl | rfl | rfl | rfl | rfl | rfl | rfl <;> rfl, _, _, _, rfl, nums_nil U, ops_nil U, _, _, rfl, (show InR 0 from ⟨by decide, by decide⟩), (show InR 0 from ⟨by decide, by decide⟩), (show InR 3 from ⟨by decide, by decide⟩), (show InR 0 from ⟨by decide, by decide⟩), nums_nil U, nums_nil U⟩
    | 3, _ => exact ⟨[.slice none 0 0, .slice none 0 0, .int .i64 2, .int .i64 0, .int .i64 0, .int .i64 0, .slice none 0 0, .slice none 0 0], rfl, fun j hj => by
        rw [hC]
        have hj' : j < 8 := hj
        have : j = 0 ∨ j = 1 ∨ j = 2 ∨ j = 3 ∨ j = 4 ∨ j = 5 ∨ j = 6 ∨ j = 7 := by omega
        rcases this with rfl | rfl | rfl | rfl | rfl | rfl | rfl | rfl <;> rfl, _, _, _, rfl, nums_nil U, ops_nil U, _, _, rfl, (show InR 2 from ⟨by decide, by decide⟩), (show InR 0 from ⟨by decide, by decide⟩), (show InR 0 from ⟨by decide, by decide⟩), (show InR 0 from ⟨by decide, by decide⟩), nums_nil U, nums_nil U⟩
theorem lit_nums {w : World} {Z : List Int} {t : TypeId} {n : Nat} (hn : n = Z.length) : NumsAt (w.alloc (.cells (Z.map numV).toArray t)) (some ⟨w.heap.size, 0, none⟩) n Z := by
  subst hn
  refine ⟨rfl, fun _ => ⟨w.heap.size, 0, rfl, by simp, fun j hj => ?_⟩⟩
  rw [Nat.zero_add, World.cell?_alloc_mark]
  simp [hj]
end Go.Proofs.Ytgnfinojnmkkkaa

/- Layer 7: the law CfgOnce, walked (mk_once.py). -/
namespace Go.Proofs.Ytgnfinojnmkkkaa
open Go.RowKit (wrap64 intOf Below)
set_option linter.unusedVariables false
set_option linter.unusedSimpArgs false

/-- What stands while a law of this layer runs: the function in its box, and the order. -/
structure LawSt (w : World) (r : Int) (a : Option Addr) (n c : Nat) (va : Option Addr) (vn : Nat) (L : List Int) (W : World) : Prop where
  bel : Below w.heap.size w W
  siz : w.heap.size < W.heap.size
  c0 : W.cell? ⟨w.heap.size, 0, none⟩ = some (.int .i64 r)
  c1 : W.cell? ⟨w.heap.size, 1, none⟩ = some (.slice a n c)
  lis : NumsAt W va vn L
theorem LawSt.since {w : World} {r : Int} {a : Option Addr} {n c : Nat} {va : Option Addr} {vn : Nat} {L : List Int} {W W' : World} (h : LawSt w r a n c va vn L W) (hb : Below W.heap.size W W') : LawSt w r a n c va vn L W' :=
  ⟨h.bel.trans (hb.mono h.bel.size), Nat.lt_of_lt_of_le h.siz hb.size, (hb.cell (p := ⟨w.heap.size, 0, none⟩) h.siz).trans h.c0, (hb.cell (p := ⟨w.heap.size, 1, none⟩) h.siz).trans h.c1, h.lis.since hb⟩
theorem two_cells {w1 : World} {b : Nat} {x y u v : Value} (h0 : w1.cell? ⟨b, 0, none⟩ = some x) (h1 : w1.cell? ⟨b, 1, none⟩ = some y) : ((w1.setCell ⟨b, 0, none⟩ u).setCell ⟨b, 1, none⟩ v).cell? ⟨b, 0, none⟩ = some u ∧ ((w1.setCell ⟨b, 0, none⟩ u).setCell ⟨b, 1, none⟩ v).cell? ⟨b, 1, none⟩ = some v := by
  have e0 : (w1.setCell ⟨b, 0, none⟩ u).cell? ⟨b, 0, none⟩ = some u := World.cell?_setCell_same' _ _ _ (by rw [h0]; rfl)
  have e1 : (w1.setCell ⟨b, 0, none⟩ u).cell? ⟨b, 1, none⟩ = some y := by
    exact (World.cell?_setCell_other _ _ _ _ (show (⟨b, 0, none⟩ : Addr) ≠ ⟨b, 1, none⟩ by simp)).trans h1
  refine ⟨?_, World.cell?_setCell_same' _ _ _ (by rw [e1]; rfl)⟩
  exact (World.cell?_setCell_other _ _ _ _ (show (⟨b, 1, none⟩ : Addr) ≠ ⟨b, 0, none⟩ by simp)).trans e0
theorem law_st {w w1 w2 : World} {r : Int} {a : Option Addr} {m c : Nat} {va : Option Addr} {vn : Nat} {L : List Int} (h0 : Below w.heap.size w w1) (hl : w.heap.size < w1.heap.size)
    (hc : ((w1.setCell ⟨w.heap.size, 0, none⟩ (.int .i64 r)).setCell ⟨w.heap.size, 1, none⟩ (.slice a m c)).cell? ⟨w.heap.size, 0, none⟩ = some (.int .i64 r) ∧ ((w1.setCell ⟨w.heap.size, 0, none⟩ (.int .i64 r)).setCell ⟨w.heap.size, 1, none⟩ (.slice a m c)).cell? ⟨w.heap.size, 1, none⟩ = some (.slice a m c))
    (hb : Below ((w1.setCell ⟨w.heap.size, 0, none⟩ (.int .i64 r)).setCell ⟨w.heap.size, 1, none⟩ (.slice a m c)).heap.size ((w1.setCell ⟨w.heap.size, 0, none⟩ (.int .i64 r)).setCell ⟨w.heap.size, 1, none⟩ (.slice a m c)) w2) (hr : NumsAt w2 va vn L) : LawSt w r a m c va vn L w2 := by
  have hU : Below w.heap.size w ((w1.setCell ⟨w.heap.size, 0, none⟩ (.int .i64 r)).setCell ⟨w.heap.size, 1, none⟩ (.slice a m c)) := (h0.setCell (p := ⟨w.heap.size, 0, none⟩) (Nat.le_refl _) _).setCell (p := ⟨w.heap.size, 1, none⟩) (Nat.le_refl _) _
  have hlt : w.heap.size < ((w1.setCell ⟨w.heap.size, 0, none⟩ (.int .i64 r)).setCell ⟨w.heap.size, 1, none⟩ (.slice a m c)).heap.size := by simpa [World.setCell] using hl
  exact ⟨hU.trans (hb.mono hU.size), Nat.lt_of_lt_of_le hlt hb.size, (hb.cell (p := ⟨w.heap.size, 0, none⟩) hlt).trans hc.1, (hb.cell (p := ⟨w.heap.size, 1, none⟩) hlt).trans hc.2, hr⟩
theorem own_cap {w : World} {B : Nat} {e : TypeId} {va : Option Addr} {vn vc : Nat} {Z : List Int} (h : OwnsI w B e (.slice va vn vc) Z) : vn ≤ vc := by
  rcases h.2 with ⟨e, h0⟩ | ⟨g, cap, cur, e, _, _, h1, _⟩
  · cases e; omega
  · cases e; exact h1
theorem next_len (e : EndD) : (nextL e).length ≤ 2 := by
  unfold nextL
  split
  · simp
  · split
    · split <;> simp
    · simp
theorem not_before {L : List Int} (h : L.Nodup) {i : Nat} (hi : i < L.length) : L[i] ∉ L.take i := by
  intro hm
  obtain ⟨j, hj, e⟩ := List.getElem_of_mem hm
  simp only [List.length_take] at hj
  rw [List.getElem_take] at e
  exact List.pairwise_iff_getElem.1 h j i (by omega) hi (by omega) e
theorem first_zero {f : FuncD} {i : Nat} (hi : i < (orderL f).length) : i = 0 ↔ (orderL f)[i] = 0 := by
  have hn := (order_facts f).nodup
  have hp : 0 < f.blocks.length := by have := order_len f; omega
  obtain ⟨r, hr⟩ := order_head hp
  have h0 : (orderL f)[0]'(by omega) = 0 := by simp only [hr, List.getElem_cons_zero]
  constructor
  · rintro rfl; exact h0
  · intro h
    refine Nat.eq_zero_of_not_pos fun hpos => ?_
    exact List.pairwise_iff_getElem.1 hn 0 i (by omega) hi hpos (h0.trans h.symm)
theorem met_all {f : FuncD} {i : Nat} (hi : i < (orderL f).length) : i = 0 ∨ ∃ q ∈ orderL f, (orderL f)[i] ∈ nxF f q.toNat := by
  rcases (order_facts f).pred _ (List.getElem_mem hi) with h | h
  · exact .inl ((first_zero hi).2 h)
  · exact .inr h
theorem order_some (f : FuncD) : 0 < (orderL f).length ↔ 0 < f.blocks.length := by
  constructor
  · intro h; have := order_len f; omega
  · intro h; obtain ⟨r, hr⟩ := order_head h; rw [hr]; simp
theorem order_at {f : FuncD} {k : Nat} (hk : k < (orderL f).length) : ∃ p : Nat, (orderL f)[k] = (p : Int) ∧ p < f.blocks.length := by
  have h := (order_facts f).there _ (List.getElem_mem hk)
  exact ⟨(orderL f)[k].toNat, by have := h.1; omega, by have := h.1; have := h.2; omega⟩
/-- A block of a function that came in, as it lies. -/
def BlockAt (u : World) (g off p : Nat) (e : EndD) (pa : Option Addr) (pn pc : Nat) (oa : Option Addr) (on oc : Nat) (la : Option Addr) (ln lc : Nat) (ma : Option Addr) (mn mc : Nat) : Prop :=
  u.cell? ⟨g, off + p * 8, none⟩ = some (.slice pa pn pc) ∧ u.cell? ⟨g, off + p * 8 + 1, none⟩ = some (.slice oa on oc) ∧ u.cell? ⟨g, off + p * 8 + 2, none⟩ = some (.int .i64 e.K) ∧ u.cell? ⟨g, off + p * 8 + 3, none⟩ = some (.int .i64 e.A) ∧ u.cell? ⟨g, off + p * 8 + 4, none⟩ = some (.int .i64 e.To) ∧ u.cell? ⟨g, off + p * 8 + 5, none⟩ = some (.int .i64 e.Else) ∧ u.cell? ⟨g, off + p * 8 + 6, none⟩ = some (.slice la ln lc) ∧ u.cell? ⟨g, off + p * 8 + 7, none⟩ = some (.slice ma mn mc)
theorem block_at {W : World} {a : Option Addr} {n c : Nat} {f : FuncD} (h : RowV BlockQ 8 W (.slice a n c) f.blocks) {p : Nat} (hp : p < n) : ∃ g off pa pn pc oa on oc la ln lc ma mn mc, a = some ⟨g, off, none⟩ ∧ g < W.heap.size ∧ ∀ u, Below W.heap.size W u → BlockAt u g off p (theEnd f p) pa pn pc oa on oc la ln lc ma mn mc := by
  obtain ⟨a', n', c', e, hl, _, _, hrow⟩ := h
  cases e
  obtain ⟨g, off, rfl, hg, hcs⟩ := hrow (by omega)
  obtain ⟨cs, h8, hc, pv, ov, es, rfl, hpv, hov, l, m, rfl, _, _, _, _, hL, hM⟩ := hcs p (by omega)
  obtain ⟨pa, pn, pc, rfl, _⟩ := hpv
  obtain ⟨oa, on, oc, rfl, _⟩ := hov
  obtain ⟨la, ln, lc, rfl, _⟩ := hL
  obtain ⟨ma, mn, mc, rfl, _⟩ := hM
  refine ⟨g, off, pa, pn, pc, oa, on, oc, la, ln, lc, ma, mn, mc, rfl, hg, fun u hb => ?_⟩
  rw [theEnd_at (by omega)]
  have hk : ∀ j (hj : j < 8), u.cell? ⟨g, off + p * 8 + j, none⟩ = _ := fun j hj => (hb.cell (p := ⟨g, off + p * 8 + j, none⟩) hg).trans (hc j hj)
  exact ⟨hk 0 (by omega), hk 1 (by omega), hk 2 (by omega), hk 3 (by omega), hk 4 (by omega), hk 5 (by omega), hk 6 (by omega), hk 7 (by omega)⟩
/-- Whether a block behind some of the first k was named. -/
def metB (f : FuncD) (i k : Nat) (z : Int) : Bool := decide (i = 0 ∨ ∃ q ∈ (orderL f).take k, z ∈ nxF f q.toNat)
theorem metB_more {f : FuncD} {i k : Nat} {z : Int} (hk : k < (orderL f).length) : metB f i (k + 1) z = (metB f i k z || inL (nxF f ((orderL f)[k]).toNat) z) := by
  unfold metB inL
  rw [List.take_succ_eq_append_getElem hk]
  rw [Bool.eq_iff_iff]
  simp only [List.mem_append, List.mem_singleton, decide_eq_true_eq, Bool.or_eq_true]
  constructor
  · rintro (h | ⟨q, hq | rfl, hz⟩)
    · exact .inl (.inl h)
    · exact .inl (.inr ⟨q, hq, hz⟩)
    · exact .inr hz
  · rintro ((h | ⟨q, hq, hz⟩) | h)
    · exact .inl h
    · exact .inr ⟨q, .inl hq, hz⟩
    · exact .inr ⟨_, .inr rfl, h⟩

end Go.Proofs.Ytgnfinojnmkkkaa
