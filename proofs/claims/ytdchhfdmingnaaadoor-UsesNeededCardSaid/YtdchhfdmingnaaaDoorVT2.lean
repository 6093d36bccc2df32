/- Layer 7: package cfg's Order: the blocks as the walk leaves them, turned about. -/
import Derived.Test.YtdchhfdmingnaaaDoorVCfgD
import Derived.Test.YtdchhfdmingnaaaDoorVCodeWr
import Derived.Test.YtdchhfdmingnaaaDoorVKindRef
import Derived.Test.YtdchhfdmingnaaaDoorVT0
import Derived.Test.YtdchhfdmingnaaaDoorVT1
import Derived.Lib.OwnBridge
import Derived.Deep.DeepCutAuto
import Derived.Deep.RegionHeld3
namespace Go.Proofs.YtdchhfdmingnaaaDoor
open Go.RowKit
set_option linter.unusedVariables false
set_option linter.unusedSimpArgs false
attribute [local go_sem] Oper.semAt_some
structure OrdSt (w W : World) (v : Value) (Z : List Int) : Prop where
  box : Boxed W (w.heap.size + 1) 34 v
  own : OwnsI W (w.heap.size + 3) 3 v Z
  bel : Below w.heap.size w W
  siz : w.heap.size + 3 ≤ W.heap.size
theorem OrdSt.lies {w W : World} {v : Value} {Z : List Int} (h : OrdSt w W v Z) : Lies (w.heap.size + 1) 34 W := by
  intro i hi
  rcases hi with rfl | ⟨v', hb, hv⟩
  · exact ⟨_, h.box, rfl⟩
  · have e : v' = v := by have h1 := hb; have h2 := h.box; unfold Boxed at h1 h2; rw [h1] at h2; cases h2; rfl
    subst e
    obtain ⟨cur, hc, _⟩ := rowW_blk h.own hv
    exact ⟨_, hc, rfl⟩
theorem OrdSt.grown {w W W' : World} {v : Value} {Z : List Int} {row : Option Nat} (h : OrdSt w W v Z) (hg : W.grownBy W' row) (hr : ∀ r, row = some r → w.heap.size ≤ r ∧ ¬ Owns (w.heap.size + 1) 34 W r) : OrdSt w W' v Z :=
  ⟨h.box.kept hg (fun e => (hr _ e.symm).2 (.inl rfl)), World.ownsRow.kept h.own hg (row_off fun r e hv => (hr r e).2 (.inr ⟨v, h.box, hv⟩)), h.bel.trans ((Below.grown (Below.refl w.heap.size W) hg (by have := h.siz; omega) (fun k e => (hr k e).1))), Nat.le_trans h.siz hg.size⟩
end Go.Proofs.YtdchhfdmingnaaaDoor

/- Layer 7: a function cut to its first sixty blocks; the living call of the statements. -/
namespace Go.Proofs.YtdchhfdmingnaaaDoor
open Go.RowKit (wrap64 intOf Below)
set_option linter.unusedVariables false
set_option linter.unusedSimpArgs false
theorem RowV.take {α : Type} {Q : World → List Value → α → Prop} {k : Nat} {W : World} {a : Option Addr} {n c : Nat} {xs : List α} (h : RowV Q k W (.slice a n c) xs) {m : Nat} (hm : m ≤ n) : RowV Q k W (.slice a m c) (xs.take m) := by
  obtain ⟨a', n', c', e, hl, h1, h2, h3⟩ := h
  cases e
  refine ⟨a, m, c, rfl, by simp; omega, h1, by omega, fun h0 => ?_⟩
  obtain ⟨g, off, rfl, hg, hcs⟩ := h3 (by omega)
  refine ⟨g, off, rfl, hg, fun i hi => ?_⟩
  have hi' : i < xs.length := by simp at hi; omega
  obtain ⟨cs, l, hc, hq⟩ := hcs i hi'
  refine ⟨cs, l, hc, ?_⟩
  rw [List.getElem_take]
  exact hq
theorem lit_nums {w : World} {Z : List Int} {t : TypeId} {n : Nat} (hn : n = Z.length) : NumsAt (w.alloc (.cells (Z.map numV).toArray t)) (some ⟨w.heap.size, 0, none⟩) n Z := by
  subst hn
  refine ⟨rfl, fun _ => ⟨w.heap.size, 0, rfl, by simp, fun j hj => ?_⟩⟩
  rw [Nat.zero_add, World.cell?_alloc_mark]
  simp [hj]
end Go.Proofs.YtdchhfdmingnaaaDoor

/- Layer 7: the law CfgOnce, walked (mk_once.py). -/
namespace Go.Proofs.YtdchhfdmingnaaaDoor
open Go.RowKit (wrap64 intOf Below)
set_option linter.unusedVariables false
set_option linter.unusedSimpArgs false
structure LawSt (w : World) (r : Int) (a : Option Addr) (n c : Nat) (va : Option Addr) (vn : Nat) (L : List Int) (W : World) : Prop where
  bel : Below w.heap.size w W
  siz : w.heap.size < W.heap.size
  c0 : W.cell? ⟨w.heap.size, 0, none⟩ = some (.int .i64 r)
  c1 : W.cell? ⟨w.heap.size, 1, none⟩ = some (.slice a n c)
  lis : NumsAt W va vn L
theorem LawSt.since {w : World} {r : Int} {a : Option Addr} {n c : Nat} {va : Option Addr} {vn : Nat} {L : List Int} {W W' : World} (h : LawSt w r a n c va vn L W) (hb : Below W.heap.size W W') : LawSt w r a n c va vn L W' :=
  ⟨h.bel.trans (hb.mono h.bel.size), Nat.lt_of_lt_of_le h.siz hb.size, (hb.cell (p := ⟨w.heap.size, 0, none⟩) h.siz).trans h.c0, (hb.cell (p := ⟨w.heap.size, 1, none⟩) h.siz).trans h.c1, h.lis.since hb⟩
theorem next_len (e : EndD) : (nextL e).length ≤ 2 := by
  unfold nextL
  split
  · simp
  · split
    · split <;> simp
    · simp
def BlockAt (u : World) (g off p : Nat) (e : EndD) (pa : Option Addr) (pn pc : Nat) (oa : Option Addr) (on oc : Nat) (la : Option Addr) (ln lc : Nat) (ma : Option Addr) (mn mc : Nat) : Prop :=
  u.cell? ⟨g, off + p * 8, none⟩ = some (.slice pa pn pc) ∧ u.cell? ⟨g, off + p * 8 + 1, none⟩ = some (.slice oa on oc) ∧ u.cell? ⟨g, off + p * 8 + 2, none⟩ = some (.int .i64 e.K) ∧ u.cell? ⟨g, off + p * 8 + 3, none⟩ = some (.int .i64 e.A) ∧ u.cell? ⟨g, off + p * 8 + 4, none⟩ = some (.int .i64 e.To) ∧ u.cell? ⟨g, off + p * 8 + 5, none⟩ = some (.int .i64 e.Else) ∧ u.cell? ⟨g, off + p * 8 + 6, none⟩ = some (.slice la ln lc) ∧ u.cell? ⟨g, off + p * 8 + 7, none⟩ = some (.slice ma mn mc)
theorem block_at {W : World} {a : Option Addr} {n c : Nat} {f : FuncD} (h : RowV BlockQ 8 W (.slice a n c) f.blocks) {p : Nat} (hp : p < n) : ∃ g off pa pn pc oa on oc la ln lc ma mn mc, a = some ⟨g, off, none⟩ ∧ g < W.heap.size ∧ ∀ u, Below W.heap.size W u → BlockAt u g off p (theEnd f p) pa pn pc oa on oc la ln lc ma mn mc := by
  obtain ⟨a', n', c', e, hl, _, _, hrow⟩ := h
  cases e
  obtain ⟨g, off, rfl, hg, hcs⟩ := hrow (by omega)
  obtain ⟨cs, h8, hc, pv, ov, es, rfl, hpv, hov, l, m, rfl, _, _, _, _, hL, hM⟩ := hcs p (by omega)
  obtain ⟨pa, pn, pc, rfl, _⟩ := hpv
  obtain ⟨oa, on, oc, rfl, _⟩ := hov
  obtain ⟨la, ln, lc, rfl, _⟩ := hL
  obtain ⟨ma, mn, mc, rfl, _⟩ := hM
  refine ⟨g, off, pa, pn, pc, oa, on, oc, la, ln, lc, ma, mn, mc, rfl, hg, fun u hb => ?_⟩
  rw [theEnd_at (by omega)]
  have hk : ∀ j (hj : j < 8), u.cell? ⟨g, off + p * 8 + j, none⟩ = _ := fun j hj => (hb.cell (p := ⟨g, off + p * 8 + j, none⟩) hg).trans (hc j hj)
  exact ⟨hk 0 (by omega), hk 1 (by omega), hk 2 (by omega), hk 3 (by omega), hk 4 (by omega), hk 5 (by omega), hk 6 (by omega), hk 7 (by omega)⟩
end Go.Proofs.YtdchhfdmingnaaaDoor

/- Layer 5: what lies in memory of the call's own, as the walk's list wants it; its list of numbers with a writer. -/
namespace Go.Proofs.YtdchhfdmingnaaaDoor
open Go.RowKit (wrap64 intOf Below)
set_option linter.unusedVariables false
attribute [local go_sem ↓] Go.wp_at_zero Go.wp_at_succ
theorem NumsO.form {w : World} {S : Nat → Prop} {v : Value} {Z : List Int} (h : NumsO w S v Z) :
    ∃ a c g, v = .slice a Z.length c ∧ Z.length * 8 ≤ 140737488351232 ∧ (a = none → c = 0) ∧ (0 < Z.length → a = some ⟨g, 0, none⟩ ∧ S g) ∧ ∀ k (hk : k < Z.length), WinAt w g k [.int .i64 Z[k]] ∧ -9223372036854775808 ≤ Z[k] ∧ Z[k] ≤ 9223372036854775807 := by
  obtain ⟨h1, h2, h3, h4⟩ := h
  have hown := h1
  rcases h1.2 with ⟨rfl, h0⟩ | ⟨g, cap, cur, rfl, hB, hg, hc1, hc2, hc3, htake⟩
  · have h0' : Z.length = 0 := h0
    refine ⟨none, 0, 0, by rw [h0'], h3, fun _ => rfl, fun hp => absurd hp (by omega), fun k hk => absurd hk (by omega)⟩
  · refine ⟨_, cap, g, rfl, h3, (fun h => by cases h), fun hp => ⟨rfl, h2 g rfl⟩, fun k hk => ⟨⟨cur, _, hg, fun j hj => ?_⟩, h4 _ (List.getElem_mem hk)⟩⟩
    obtain rfl : j = 0 := by simpa using hj
    have hz : (Z.map numV)[k]? = some (.int .i64 Z[k]) := by simp [hk, numV]
    rw [← htake, List.getElem?_take] at hz
    split at hz
    · simpa using hz
    · cases hz
theorem RowO.form {α : Type} {T K : Nat} {Q : World → (Nat → Prop) → List Value → α → Prop} (hQ : Holds Q) {w : World} {S : Nat → Prop} {v : Value} {xs : List α} (h : RowO T K Q w S v xs) :
    ∃ a c g, v = .slice a xs.length c ∧ xs.length ≤ 140737488351232 ∧ (a = Option.none → c = 0) ∧ (0 < xs.length → a = some ⟨g, 0, Option.none⟩ ∧ S g) ∧ ∀ k (hk : k < xs.length), ∃ cs, cs.length = K ∧ WinAt w g (k * K) cs ∧ Q w S cs xs[k] := by
  obtain ⟨css, h1, h2, h3, h4, h5, h6⟩ := h
  have hown := h1
  rcases h1.2 with ⟨rfl, h0⟩ | ⟨g, cap, cur, rfl, hB, hg, hc1, hc2, hc3, htake⟩
  · refine ⟨Option.none, 0, 0, by rw [h0], h5, fun _ => rfl, fun hp => absurd hp (by omega), fun k hk => absurd hk (by omega)⟩
  · refine ⟨_, cap, g, rfl, h5, (fun h => by cases h), fun hp => ⟨rfl, h4 g rfl⟩, fun k hk => ?_⟩
    have hk' : k < css.length := by omega
    exact ⟨css[k], h3 _ (List.getElem_mem hk'), ownsRow_win hown h3 rfl hk', hQ.wider (h6 k hk hk') (fun b _ hb => hb.1)⟩
end Go.Proofs.YtdchhfdmingnaaaDoor

/- Layer 5: Copy's small parts: apart, copiedSig, copiedClass, plain (of an end). -/
namespace Go.Proofs.YtdchhfdmingnaaaDoor
open Go.RowKit (wrap64 intOf Below)
set_option linter.unusedVariables false
set_option linter.unusedSimpArgs false
attribute [local go_sem ↓] Go.wp_at_zero Go.wp_at_succ
theorem OwnsI.numsO {w : World} {B : Nat} {v : Value} {Z : List Int} (h : OwnsI w B 3 v Z) (hl : Z.length * 8 ≤ 140737488351232) (hr : ∀ z ∈ Z, InR z) : NumsO w (From B) v Z :=
  ⟨h.mono (Nat.zero_le _), fun b hb => (h.lt b hb).1, hl, hr⟩
structure Laid2 (w : World) (C0 C1 : Array Value) (u : World) : Prop where
  bel : Below w.heap.size w u
  c0 : ∀ j, u.cell? ⟨w.heap.size, j, none⟩ = C0[j]?
  c1 : ∀ j, u.cell? ⟨w.heap.size + 1, j, none⟩ = C1[j]?
  f0 : ∀ j, u.frozen? ⟨w.heap.size, j, none⟩ = false
  f1 : ∀ j, u.frozen? ⟨w.heap.size + 1, j, none⟩ = false
  size : w.heap.size + 2 ≤ u.heap.size
theorem Laid2.start (w : World) (C0 C1 : Array Value) (t0 t1 : TypeId) : Laid2 w C0 C1 ((w.alloc (.cells C0 t0)).alloc (.cells C1 t1)).drew := by
  have h := cell_laid2 (C0 := C0) (C1 := C1) (t0 := t0) (t1 := t1) (show Below (w.heap.size + 2) ((w.alloc (.cells C0 t0)).alloc (.cells C1 t1)) ((w.alloc (.cells C0 t0)).alloc (.cells C1 t1)).drew from (Below.refl _ _).drew)
  exact ⟨(((Below.refl _ _).alloc (Nat.le_refl _) _).alloc (by simp) _).drew, h.1, h.2.1, h.2.2.1, h.2.2.2, by simp [World.drew]⟩
theorem Laid2.step {w : World} {C0 C1 : Array Value} {u u' : World} (h : Laid2 w C0 C1 u) (hb : Below u.heap.size u u') : Laid2 w C0 C1 u' := by
  have hs := h.size
  exact ⟨keepB h.bel hb, fun j => (hb.cell (p := ⟨w.heap.size, j, none⟩) (by simp; omega)).trans (h.c0 j), fun j => (hb.cell (p := ⟨w.heap.size + 1, j, none⟩) (by simp; omega)).trans (h.c1 j), fun j => (hb.frozen (p := ⟨w.heap.size, j, none⟩) (by simp; omega)).trans (h.f0 j), fun j => (hb.frozen (p := ⟨w.heap.size + 1, j, none⟩) (by simp; omega)).trans (h.f1 j), Nat.le_trans hs hb.size⟩
theorem NumsO.first {w u : World} {v : Value} {Z : List Int} {C0 C1 : Array Value} (hl : Laid2 w C0 C1 u) {u' : World} (h : NumsO u' (From u.heap.size) v Z) : NumsO u' (From (w.heap.size + 2)) v Z :=
  h.wider (fun b _ hb => Nat.le_trans hl.size hb)
end Go.Proofs.YtdchhfdmingnaaaDoor
