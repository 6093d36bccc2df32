/- Layer 7: where package cfg's Deep stands; its iterator (mk_dp.py). -/
import Derived.Test.YtdnihphnoibpgaaCfgI
import Derived.Test.YtdnihphnoibpgaaCfgL
import Derived.Test.YtdnihphnoibpgaaCfgM
import Derived.Test.YtdnihphnoibpgaaQueue
namespace Go.Proofs.Ytdnihphnoibpgaa
open Go.RowKit
set_option linter.unusedVariables false
set_option linter.unusedSimpArgs false
attribute [local go_sem] Oper.semAt_some

/-- Where Deep stands: the row of distances in its box, and the queue in its own. -/
structure DpSt (w : World) (r : Int) (a : Option Addr) (n c q bd bm : Nat) (vm : Value) (DL Q : List Int) (W : World) : Prop where
  bel : Below w.heap.size w W
  fun_ : W.heap[w.heap.size]? = some (.cells #[.int .i64 r, .slice a n c] 24 (0, 0))
  bxd : Boxed W bd 30 (.slice (some ⟨q, 0, none⟩) n n)
  row : OwnsI W (w.heap.size + 1) 3 (.slice (some ⟨q, 0, none⟩) n n) DL
  bxm : Boxed W bm 30 vm
  que : QAt W (w.heap.size + 1) 3 vm Q
  qne : qBlock vm ≠ some q
  bne : bd ≠ bm
  ge : w.heap.size < bd ∧ w.heap.size < bm ∧ w.heap.size < q
section
variable {w W W' : World} {r : Int} {a : Option Addr} {n c q bd bm : Nat} {vm : Value} {DL Q : List Int}
theorem DpSt.c0 (h : DpSt w r a n c q bd bm vm DL Q W) : W.cell? ⟨w.heap.size, 0, none⟩ = some (.int .i64 r) := by simp [World.cell?, h.fun_]
theorem DpSt.c1 (h : DpSt w r a n c q bd bm vm DL Q W) : W.cell? ⟨w.heap.size, 1, none⟩ = some (.slice a n c) := by simp [World.cell?, h.fun_]
theorem DpSt.qblk (h : DpSt w r a n c q bd bm vm DL Q W) : ∃ cur, W.heap[q]? = some (.cells cur 3 (0, 0)) := by
  obtain ⟨cur, hc, _⟩ := ownsI_blk h.row (i := q) rfl
  exact ⟨cur, hc⟩
/-- The blocks that it names. -/
def DpOwn (w : World) (q bd bm : Nat) (vm : Value) (i : Nat) : Prop := i = w.heap.size ∨ i = bd ∨ i = bm ∨ i = q ∨ qBlock vm = some i
theorem DpSt.cells (h : DpSt w r a n c q bd bm vm DL Q W) {i : Nat} (hi : DpOwn w q bd bm vm i) : ∃ C t, W.heap[i]? = some (.cells C t (0, 0)) := by
  rcases hi with rfl | rfl | rfl | rfl | hi
  · exact ⟨_, _, h.fun_⟩
  · exact ⟨_, _, h.bxd⟩
  · exact ⟨_, _, h.bxm⟩
  · obtain ⟨cur, hc⟩ := h.qblk; exact ⟨_, _, hc⟩
  · obtain ⟨g, cur, e, _, hg⟩ := h.que.blk
    rw [hi] at e; cases e
    exact ⟨_, _, hg⟩
theorem DpSt.kept (h : DpSt w r a n c q bd bm vm DL Q W) (hb : Below w.heap.size W W') (hk : ∀ i, DpOwn w q bd bm vm i → W'.heap[i]? = W.heap[i]?) : DpSt w r a n c q bd bm vm DL Q W' := by
  refine ⟨h.bel.trans hb, (hk _ (.inl rfl)).trans h.fun_, (hk _ (.inr (.inl rfl))).trans h.bxd, ?_, (hk _ (.inr (.inr (.inl rfl)))).trans h.bxm, h.que.kept fun g hg => hk _ (.inr (.inr (.inr (.inr hg)))), h.qne, h.bne, h.ge⟩
  refine ⟨h.row.1, ?_⟩
  rcases h.row.2 with hn | ⟨g, cap, cur, e, hB, hg, rest⟩
  · exact .inl hn
  · cases e
    exact .inr ⟨_, _, cur, rfl, hB, (hk _ (.inr (.inr (.inr (.inl rfl))))).trans hg, rest⟩
theorem DpSt.grown {row : Option Nat} (h : DpSt w r a n c q bd bm vm DL Q W) (hg : W.grownBy W' row) (hr : ∀ i, row = some i → w.heap.size ≤ i ∧ ∃ o : Obj, W.heap[i]? = some o ∧ o.isCells = false) : DpSt w r a n c q bd bm vm DL Q W' := by
  have hsz : w.heap.size ≤ W.heap.size := h.bel.size
  refine h.kept (Below.grown (Below.refl _ W) hg hsz (fun k e => (hr k e).1)) fun i hi => ?_
  obtain ⟨C, t, hC⟩ := h.cells hi
  refine hg.block i (Array.getElem?_eq_some_iff.1 hC).1 fun e => ?_
  obtain ⟨_, o, ho, hc⟩ := hr i e.symm
  rw [hC] at ho; cases ho; cases hc
theorem DpSt.alloc (h : DpSt w r a n c q bd bm vm DL Q W) (o : Obj) : DpSt w r a n c q bd bm vm DL Q (W.alloc o) := h.grown (World.grownBy_alloc W o none) (fun i e => by cases e)
theorem DpSt.siz (h : DpSt w r a n c q bd bm vm DL Q W) : w.heap.size < W.heap.size := (Array.getElem?_eq_some_iff.1 h.fun_).1
theorem DpSt.diff (h : DpSt w r a n c q bd bm vm DL Q W) : q ≠ w.heap.size ∧ q ≠ bd ∧ q ≠ bm ∧ bm ≠ w.heap.size ∧ (∀ g, qBlock vm = some g → g ≠ w.heap.size ∧ g ≠ bd ∧ g ≠ bm ∧ g ≠ q ∧ w.heap.size < g) := by
  obtain ⟨cur, hc⟩ := h.qblk
  have h1 := h.bxd; have h2 := h.bxm
  unfold Boxed at h1 h2
  refine ⟨by have := h.ge; omega, fun e => by rw [e, h1] at hc; simp at hc, fun e => by rw [e, h2] at hc; simp at hc, by have := h.ge; omega, fun g hg => ?_⟩
  obtain ⟨g', cur', e, hB, hgb⟩ := h.que.blk
  rw [hg] at e; cases e
  refine ⟨by omega, fun e => by rw [e, h1] at hgb; simp at hgb, fun e => by rw [e, h2] at hgb; simp at hgb, fun e => h.qne (by rw [hg, e]), by omega⟩
/-- One distance is told. -/
theorem DpSt.tell (h : DpSt w r a n c q bd bm vm DL Q W) (j : Nat) (z : Int) : DpSt w r a n c q bd bm vm (DL.set j z) Q (W.setCell ⟨q, j, none⟩ (.int .i64 z)) := by
  obtain ⟨d1, d2, d3, d4, d5⟩ := h.diff
  have hk : ∀ i, i ≠ q → (W.setCell ⟨q, j, none⟩ (.int .i64 z)).heap[i]? = W.heap[i]? := fun i hi => Below.heap_setCell _ _ _ _ hi
  refine ⟨h.bel.trans ((Below.refl _ W).setCell (p := ⟨q, j, none⟩) (by have := h.ge; show w.heap.size ≤ q; omega) _), (hk _ (fun e => d1 e.symm)).trans h.fun_, (hk _ (fun e => d2 e.symm)).trans h.bxd, own_store h.row j z, (hk _ (fun e => d3 e.symm)).trans h.bxm, h.que.kept fun g hg => hk g (d5 g hg).2.2.2.1, h.qne, h.bne, h.ge⟩
theorem DpSt.tell_off (h : DpSt w r a n c q bd bm vm DL Q W) (j : Nat) (z : Value) : Off (fun i => i = q) W (W.setCell ⟨q, j, none⟩ z) := Off.setCell (X := fun i => i = q) (p := ⟨q, j, none⟩) (Off.refl (fun i => i = q) W) (.inl rfl) z
/-- The queue has grown, and is stored. -/
theorem DpSt.push {w1 : World} {C : Array Value} {t : TypeId} {v' : Value} {z : Int} (h : DpSt w r a n c q bd bm vm DL Q W) (hg : (W.alloc (.cells C t)).grownBy w1 (qBlock vm)) (hq : QAt w1 (w.heap.size + 1) 3 v' (Q ++ [z])) (hw : ∀ i, qBlock v' = some i → qBlock vm = some i ∨ W.heap.size ≤ i) :
    Boxed w1 bm 30 vm ∧ DpSt w r a n c q bd bm v' DL (Q ++ [z]) (w1.setCell ⟨bm, 0, none⟩ v') ∧ Off (fun i => i = bm ∨ qBlock vm = some i) W (w1.setCell ⟨bm, 0, none⟩ v') ∧ Off (fun i => qBlock vm = some i) W w1 := by
  obtain ⟨d1, d2, d3, d4, d5⟩ := h.diff
  have hoff1 : Off (fun i => qBlock vm = some i) W w1 := (Off.since ((Below.refl _ W).alloc (Nat.le_refl _) _)).grown hg fun k hk => .inl hk
  have hoff : Off (fun i => i = bm ∨ qBlock vm = some i) W (w1.setCell ⟨bm, 0, none⟩ v') := (hoff1.mono (fun i _ hi => .inr hi)).setCell (.inl (.inl rfl)) v'
  have hblt : bm < W.heap.size := h.bxm.lt
  have hb1 : Boxed w1 bm 30 vm := (hoff1.block bm hblt (fun e => (d5 bm e).2.2.1 rfl)).trans h.bxm
  have hk : ∀ i C t, W.heap[i]? = some (.cells C t (0, 0)) → i ≠ bm → ¬ qBlock vm = some i → (w1.setCell ⟨bm, 0, none⟩ v').heap[i]? = W.heap[i]? := fun i C t hi h1 h2 => hoff.block i (Array.getElem?_eq_some_iff.1 hi).1 (fun e => by rcases e with e | e; exact h1 e; exact h2 e)
  obtain ⟨cur, hc⟩ := h.qblk
  have hb1' : w1.heap[bm]? = _ := hb1
  refine ⟨hb1, ⟨h.bel.trans (hoff.below h.bel.size fun i hi => ?_), (hk _ _ _ h.fun_ (fun e => d4 e.symm) (fun e => (d5 _ e).1 rfl)).trans h.fun_, (hk _ _ _ h.bxd h.bne (fun e => (d5 _ e).2.1 rfl)).trans h.bxd, ?_, hb1.set v', hq.kept fun g hgq => ?_, fun e => ?_, h.bne, h.ge⟩, hoff, hoff1⟩
  · rcases hi with rfl | hi
    · have := h.ge; omega
    · have := (d5 i hi).2.2.2.2; omega
  · refine ⟨h.row.1, ?_⟩
    rcases h.row.2 with hn | ⟨g, cap, cur', e, hB, hgr, rest⟩
    · exact .inl hn
    · cases e
      exact .inr ⟨_, _, cur', rfl, hB, (hk _ _ _ hgr d3 (fun e => (d5 _ e).2.2.2.1 rfl)).trans hgr, rest⟩
  · refine Below.heap_setCell _ _ _ _ fun e => ?_
    obtain ⟨g', cur', e1, _, e2⟩ := hq.blk
    rw [hgq] at e1; cases e1
    simp only at e
    rw [e, hb1'] at e2; simp at e2
  · rcases hw q e with e' | e'
    · exact h.qne e'
    · have := (Array.getElem?_eq_some_iff.1 hc).1; omega
/-- The queue is in a new box. -/
theorem DpSt.moved (h : DpSt w r a n c q bd bm vm DL Q W) : DpSt w r a n c q bd W.heap.size vm DL Q (W.alloc (.cells #[vm] 30)) := by
  have h1 := h.alloc (.cells #[vm] 30)
  have hbd : bd < W.heap.size := h.bxd.lt
  exact ⟨h1.bel, h1.fun_, h1.bxd, h1.row, World.alloc_heap_new W _, h1.que, h1.qne, by omega, by have := h.ge; have := h.siz; omega⟩
/-- The queue is without its first one. -/
theorem DpSt.drop {v' : Value} {Z : List Int} (h : DpSt w r a n c q bd bm vm DL Q W) (hq : QAt W (w.heap.size + 1) 3 v' Z) (hv : qBlock v' = qBlock vm) : DpSt w r a n c q bd bm v' DL Z (W.setCell ⟨bm, 0, none⟩ v') := by
  obtain ⟨d1, d2, d3, d4, d5⟩ := h.diff
  have hk : ∀ i, i ≠ bm → (W.setCell ⟨bm, 0, none⟩ v').heap[i]? = W.heap[i]? := fun i hi => Below.heap_setCell _ _ _ _ hi
  refine ⟨h.bel.trans ((Below.refl _ W).setCell (p := ⟨bm, 0, none⟩) (by have := h.ge; show w.heap.size ≤ bm; omega) _), (hk _ (fun e => d4 e.symm)).trans h.fun_, (hk _ h.bne).trans h.bxd, ?_, h.bxm.set v', hq.kept fun g hg => hk g ?_, by rw [hv]; exact h.qne, h.bne, h.ge⟩
  · refine ⟨h.row.1, ?_⟩
    rcases h.row.2 with hn | ⟨g, cap, cur', e, hB, hgr, rest⟩
    · exact .inl hn
    · cases e
      exact .inr ⟨_, _, cur', rfl, hB, (hk _ d3).trans hgr, rest⟩
  · rw [hv] at hg
    exact (d5 g hg).2.2.1
end
/-- What comes of it. -/
def DpEnd (w : World) (n q bd : Nat) (DL : List Int) (W : World) : Prop := Boxed W bd 30 (.slice (some ⟨q, 0, none⟩) n n) ∧ OwnsI W (w.heap.size + 1) 3 (.slice (some ⟨q, 0, none⟩) n n) DL ∧ Below w.heap.size w W
theorem DpSt.lies {w W : World} {r : Int} {a : Option Addr} {n c q bd bm : Nat} {vm : Value} {DL Q : List Int} (h : DpSt w r a n c q bd bm vm DL Q W) : Lies bd 30 W := by
  intro i hi
  rcases hi with rfl | ⟨v', hb, hv⟩
  · exact ⟨_, h.bxd, rfl⟩
  · have h1 := hb; have h2 := h.bxd
    unfold Boxed at h1 h2
    rw [h1] at h2; cases h2; cases hv
    obtain ⟨cur, hc⟩ := h.qblk
    exact ⟨_, hc, rfl⟩
theorem DpEnd.abides (w : World) (n q bd : Nat) (DL : List Int) : AbidesX w.heap.size bd 30 (fun (_ : Unit) W => DpEnd w n q bd DL W) := by
  rintro _ W W' row ⟨h1, h2, h3⟩ hg hr
  have hq : ∀ r, row = some r → r ≠ q ∧ r ≠ bd := fun r e => ⟨fun e' => (hr r e).2 (.inr ⟨_, h1, by rw [e']; rfl⟩), fun e' => (hr r e).2 (.inl e')⟩
  refine ⟨(hg.block bd h1.lt fun e => (hq bd e.symm).2 rfl).trans h1, World.ownsRow.kept h2 hg (.inr fun e => (hq q e.symm).1 rfl), h3.trans (Below.grown (Below.refl _ W) hg h3.size (fun k e => (hr k e).1))⟩
theorem dp_start {w W1 w2 : World} {r : Int} {a : Option Addr} {n c : Nat} (hz1 : W1.heap.size = w.heap.size + 2) (hb1 : Below w.heap.size w W1) (hf1 : W1.heap[w.heap.size]? = some (.cells #[.int .i64 r, .slice a n c] 24 (0, 0)))
    (ho : OwnsI w2 W1.heap.size 3 (.slice (some ⟨W1.heap.size, 0, none⟩) n n) (List.replicate n (-1))) (hb2 : Below W1.heap.size W1 w2) (hn : 0 < n) :
    DpSt w r a n c W1.heap.size w2.heap.size (w2.heap.size + 1 + 1 + 1) (.slice (some ⟨w2.heap.size + 1 + 1, 0, none⟩) 1 1) ((List.replicate n (-1)).set 0 0) [0]
      (((((w2.setCell ⟨W1.heap.size, 0, none⟩ (.int .i64 0)).alloc (.cells #[.slice (some ⟨W1.heap.size, 0, none⟩) n n] 30)).alloc (.cells #[.int .i64 r, .slice a n c] 24)).alloc (.cells #[.int .i64 0] 3)).alloc (.cells #[.slice (some ⟨w2.heap.size + 1 + 1, 0, none⟩) 1 1] 30)) := by
  obtain ⟨cur, hc, _⟩ := ownsI_blk ho (i := W1.heap.size) rfl
  have hql : W1.heap.size < w2.heap.size := (Array.getElem?_eq_some_iff.1 hc).1
  have hsz : (w2.setCell ⟨W1.heap.size, 0, none⟩ (.int .i64 0)).heap.size = w2.heap.size := by simp [World.setCell]
  have hst := own_store ho 0 0
  have hF : (w2.setCell ⟨W1.heap.size, 0, none⟩ (.int .i64 0)).heap[w.heap.size]? = some (.cells #[.int .i64 r, .slice a n c] 24 (0, 0)) :=
    (Below.heap_setCell _ _ _ _ (show w.heap.size ≠ W1.heap.size by omega)).trans ((hb2.block _ (by omega)).trans hf1)
  have hbU : Below w.heap.size w (w2.setCell ⟨W1.heap.size, 0, none⟩ (.int .i64 0)) := (hb1.trans (hb2.mono (by omega))).setCell (p := ⟨W1.heap.size, 0, none⟩) (by show w.heap.size ≤ W1.heap.size; omega) _
  generalize hU : w2.setCell ⟨W1.heap.size, 0, none⟩ (.int .i64 0) = U at *
  obtain ⟨A1, hA1⟩ : ∃ A1, U.alloc (.cells #[.slice (some ⟨W1.heap.size, 0, none⟩) n n] 30) = A1 := ⟨_, rfl⟩
  have n1 : A1.heap[w2.heap.size]? = some (.cells #[.slice (some ⟨W1.heap.size, 0, none⟩) n n] 30 (0, 0)) := by rw [← hA1, ← hsz]; exact World.alloc_heap_new U _
  have o1 : ∀ i, i < w2.heap.size → A1.heap[i]? = U.heap[i]? := fun i hi => by rw [← hA1]; exact Below.heap_alloc _ _ _ (by omega)
  have z1 : A1.heap.size = w2.heap.size + 1 := by rw [← hA1]; simp [hsz]
  have b1 : Below w.heap.size w A1 := by rw [← hA1]; exact hbU.alloc (by omega) _
  have r1 : OwnsI A1 W1.heap.size 3 (.slice (some ⟨W1.heap.size, 0, none⟩) n n) ((List.replicate n (-1)).set 0 0) := by rw [← hA1]; exact World.ownsRow.alloc hst _
  rw [hA1]
  obtain ⟨A2, hA2⟩ : ∃ A2, A1.alloc (.cells #[.int .i64 r, .slice a n c] 24) = A2 := ⟨_, rfl⟩
  have o2 : ∀ i, i < A1.heap.size → A2.heap[i]? = A1.heap[i]? := fun i hi => by rw [← hA2]; exact Below.heap_alloc _ _ _ hi
  have z2 : A2.heap.size = w2.heap.size + 1 + 1 := by rw [← hA2]; simp [z1]
  have b2 : Below w.heap.size w A2 := by rw [← hA2]; exact b1.alloc (by omega) _
  have r2 : OwnsI A2 W1.heap.size 3 (.slice (some ⟨W1.heap.size, 0, none⟩) n n) ((List.replicate n (-1)).set 0 0) := by rw [← hA2]; exact World.ownsRow.alloc r1 _
  rw [hA2]
  obtain ⟨A3, hA3⟩ : ∃ A3, A2.alloc (.cells #[.int .i64 0] 3) = A3 := ⟨_, rfl⟩
  have o3 : ∀ i, i < A2.heap.size → A3.heap[i]? = A2.heap[i]? := fun i hi => by rw [← hA3]; exact Below.heap_alloc _ _ _ hi
  have z3 : A3.heap.size = w2.heap.size + 1 + 1 + 1 := by rw [← hA3]; simp [z2]
  have b3 : Below w.heap.size w A3 := by rw [← hA3]; exact b2.alloc (by omega) _
  have r3 : OwnsI A3 W1.heap.size 3 (.slice (some ⟨W1.heap.size, 0, none⟩) n n) ((List.replicate n (-1)).set 0 0) := by rw [← hA3]; exact World.ownsRow.alloc r2 _
  have q3 : QAt A3 (w.heap.size + 1) 3 (.slice (some ⟨w2.heap.size + 1 + 1, 0, none⟩) 1 1) [0] := by
    have := QAt.lit (w := A2) (B := w.heap.size + 1) (e := 3) (z := 0) (by omega)
    rw [hA3, z2] at this
    exact this
  rw [hA3]
  have n4 := World.alloc_heap_new A3 (.cells #[.slice (some ⟨w2.heap.size + 1 + 1, 0, none⟩) 1 1] 30)
  have o4 : ∀ i, i < A3.heap.size → (A3.alloc (.cells #[.slice (some ⟨w2.heap.size + 1 + 1, 0, none⟩) 1 1] 30)).heap[i]? = A3.heap[i]? := fun i hi => Below.heap_alloc _ _ _ hi
  refine ⟨b3.alloc (by omega) _, ?_, ?_, OwnsI.mono (World.ownsRow.alloc r3 _) (by omega), by rw [← z3]; exact n4, q3.kept fun g hg => o4 g ?_, ?_, by omega, by omega⟩
  · rw [o4 _ (by omega), o3 _ (by omega), o2 _ (by omega), o1 _ (by omega)]; exact hF
  · show (A3.alloc _).heap[w2.heap.size]? = _
    rw [o4 _ (by omega), o3 _ (by omega), o2 _ (by omega)]; exact n1
  · simp [qBlock] at hg; omega
  · simp [qBlock]; omega
/-- The queue without its first one is in a new box. -/
theorem DpSt.shift {w W : World} {r : Int} {a : Option Addr} {n c q bd bm : Nat} {vm v' : Value} {DL Q Z : List Int} (h : DpSt w r a n c q bd bm vm DL Q W) (hq : QAt W (w.heap.size + 1) 3 v' Z) (hv : qBlock v' = qBlock vm) : DpSt w r a n c q bd W.heap.size v' DL Z (W.alloc (.cells #[v'] 30)) := by
  have h1 := h.alloc (.cells #[v'] 30)
  have hbd : bd < W.heap.size := h.bxd.lt
  exact ⟨h1.bel, h1.fun_, h1.bxd, h1.row, World.alloc_heap_new W _, hq.kept (fun g hg => by
    obtain ⟨g', cur, e, _, hg'⟩ := hq.blk
    rw [hg] at e; cases e
    exact Below.heap_alloc _ _ _ (Array.getElem?_eq_some_iff.1 hg').1), by rw [hv]; exact h.qne, by omega, by have := h.ge; have := h.siz; omega⟩
theorem pred_lower {N : Nat} {nx : Nat → List Int} {D : Nat → Int} (hp : ∀ x, x < N → 0 < D x → ∃ p, p < N ∧ D p = D x - 1 ∧ (x : Int) ∈ nx p) : ∀ (k : Nat) (x : Nat), x < N → D x = k → ∃ L : List Nat, L.length = k + 1 ∧ (∀ y ∈ L, y < N ∧ 0 ≤ D y ∧ D y ≤ k) ∧ L.Nodup
  | 0, x, hx, h => ⟨[x], rfl, fun y hy => by simp at hy; subst hy; exact ⟨hx, by omega, by omega⟩, by simp⟩
  | k + 1, x, hx, h => by
    obtain ⟨p, hpN, h1, h2⟩ := hp x hx (by omega)
    obtain ⟨L, hl, hm, hd⟩ := pred_lower hp k p hpN (by omega)
    refine ⟨x :: L, by simp [hl], fun y hy => ?_, List.nodup_cons.2 ⟨fun hx' => ?_, hd⟩⟩
    · rcases List.mem_cons.1 hy with rfl | hy
      · exact ⟨hx, by omega, by omega⟩
      · have := hm y hy; exact ⟨this.1, this.2.1, by omega⟩
    · have := hm x hx'; omega
theorem Bfs.small {N : Nat} {nx : Nat → List Int} {DL dn Q : List Int} (B : Bfs N nx DL dn Q) {x : Nat} (hx : x < N) : nth DL x < N := by
  by_cases h0 : 0 ≤ nth DL x
  · obtain ⟨L, hl, hm, hd⟩ := pred_lower B.pred (nth DL x).toNat x hx (by omega)
    have := List.Nodup.length_le_of_subset hd (l₂ := List.range N) (fun y hy => List.mem_range.2 (hm y hy).1)
    simp at this
    omega
  · omega
theorem Marks.off {n0 : Nat} {W W' : World} {Ds : List Nat} {X : Nat → Prop} (h : Marks n0 W Ds) (ho : Off X W W') (hX : ∀ i, X i → ∃ o : Obj, W.heap[i]? = some o ∧ o.isCells = true) : Marks n0 W' Ds :=
  ⟨h.1, fun D hD => by
    obtain ⟨h1, h2⟩ := h.2 D hD
    exact ⟨(ho.block D (Array.getElem?_eq_some_iff.1 h1).1 (fun hx => by obtain ⟨o, ho', hc⟩ := hX D hx; rw [h1] at ho'; cases ho'; cases hc)).trans h1, h2⟩⟩
def tgInt (T E : Int) : Bool → Int
  | false => T
  | true => E
theorem tgInt_mem {e : EndD} {x : Bool} (h : x ∈ ixs e.K) : tgInt e.To e.Else x ∈ nextL e := by
  rw [mem_next]
  unfold ixs at h
  unfold tos tgts
  by_cases h0 : e.K = 0
  · simp only [if_pos h0] at h ⊢
    simp at h; subst h; simp [tgInt]
  · by_cases h1 : e.K = 1
    · simp only [if_neg h0, if_pos h1] at h ⊢
      cases x <;> simp [tgInt]
    · simp only [if_neg h0, if_neg h1] at h
      cases h
theorem next_tgInt {e : EndD} {z : Int} (h : z ∈ nextL e) : ∃ x ∈ ixs e.K, tgInt e.To e.Else x = z := by
  rw [mem_next] at h
  unfold tos tgts at h
  unfold ixs
  by_cases h0 : e.K = 0
  · simp only [if_pos h0] at h ⊢
    simp at h; subst h; exact ⟨false, by simp, rfl⟩
  · by_cases h1 : e.K = 1
    · simp only [if_neg h0, if_pos h1] at h ⊢
      simp at h
      rcases h with rfl | rfl
      · exact ⟨false, by simp, rfl⟩
      · exact ⟨true, by simp, rfl⟩
    · simp only [if_neg h0, if_neg h1] at h
      cases h
set_option maxRecDepth 100000 in
set_option maxHeartbeats 2000000 in
/-- The iterator's contract, by which of both it is, and that it is one. -/
theorem tg_stopsS (K A T E : Int) (la : Option Addr) (ln lc : Nat) (ma : Option Addr) (mn mc : Nat) (b n : Nat) (w : World) (hb : ∀ j, w.cell? ⟨b, j, none⟩ = (#[.int .i64 K, .int .i64 A, .int .i64 T, .int .i64 E, .slice la ln lc, .slice ma mn mc] : Array Value)[j]?) :
    SeqStopsK (α := { x : Bool // x ∈ ixs K }) Fence.wide n Try.prog 49 #[.pointer (some ⟨b, 0, none⟩)] (fun x => encB T E la ln lc ma mn mc x.1) (KeptT b) (fun xs => xs.map (·.1) = ixs K) (fun _ => True) (ixs K).length w := by
  intro l J Jx W hW hJ hJx hY h0
  have hlt : b < w.heap.size := World.block_lt_of_cell? (a := ⟨b, 0, none⟩) _ (hb 0)
  have HB : RowKit.Hid (∀ u, KeptT b W u → ∀ j, u.cell? ⟨b, j, none⟩ = (#[.int .i64 K, .int .i64 A, .int .i64 T, .int .i64 E, .slice la ln lc, .slice ma mn mc] : Array Value)[j]?) := Lib.hid fun u hu j => (hu.cells j).trans ((hW.cell (p := ⟨b, j, none⟩) hlt).trans (hb j))
  have c0 := HB.out W (KeptT.refl b W) 0
  have c2 := HB.out W (KeptT.refl b W) 2
  have c4 := HB.out W (KeptT.refl b W) 4
  clear hb hlt hW
  refine callsIn_of_wp Try.func49 rfl trivial ?_ rfl
  simp only [Try.ntmps49, List.size_toArray, List.length_cons, List.length_nil, Nat.reduceAdd, Nat.reduceSub, Array.replicate_succ, Array.replicate_zero, List.push_toArray, List.append_toArray, List.nil_append, List.cons_append]
  by_cases hK0 : K = 0
  · have hk : (K == 0) = true := by rw [hK0]; rfl
    have HT : RowKit.Hid (ixs K = [false]) := Lib.hid (by unfold ixs; rw [if_pos hK0])
    clear hK0
    have hy0 := hY [] ⟨false, by rw [HT.out]; simp⟩ W h0 (by rw [HT.out]; simp)
    simp only [encB] at hy0
    obtain ⟨fn, tmps, assign, body, hy, hR⟩ := hy0
    clear hY
    gi_wp2
    refine ⟨(fun h => (nomatch h)), hR.mono ?_⟩
    rintro e W3 (⟨rfl, hJ3, hk3⟩ | ⟨rfl, hJx3⟩)
    · gi_wp2
      go_end0
      exact ⟨⟨_, rfl⟩, .inl ⟨_, (by exact HT.out.symm), hJ3⟩⟩
    · gi_wp2
      go_end0
      exact ⟨⟨_, rfl⟩, .inr ⟨_, trivial, hJx3⟩⟩
  · have hk : (K == 0) = false := by simpa using hK0
    by_cases hK1 : K = 1
    · have hk1 : (K == 1) = true := by rw [hK1]; rfl
      have HT : RowKit.Hid (ixs K = [false, true]) := Lib.hid (by unfold ixs; rw [if_neg hK0, if_pos hK1])
      clear hK0 hK1
      have hy0 := hY [] ⟨false, by rw [HT.out]; simp⟩ W h0 (by rw [HT.out]; simp)
      have HY1 := Lib.hid fun W1 h => hY [⟨false, by rw [HT.out]; simp⟩] ⟨true, by rw [HT.out]; simp⟩ W1 h (by have h' := congrArg List.length HT.out; simp at h' ⊢; omega)
      simp only [encB] at hy0 HY1
      obtain ⟨fn, tmps, assign, body, hy, hR⟩ := hy0
      clear hY
      gi_wp2
      refine ⟨(fun h => (nomatch h)), hR.mono ?_⟩
      rintro e W3 (⟨rfl, hJ3, hk3⟩ | ⟨rfl, hJx3⟩)
      · have d3 := HB.out W3 hk3 3
        have d5 := HB.out W3 hk3 5
        obtain ⟨fn2, tmps2, assign2, body2, hy2, hR2⟩ := HY1.out W3 hJ3
        clear hJ3 hk3 hy hR c0 c2 c4
        gi_wp2
        refine ⟨(fun h => (nomatch h)), hR2.mono ?_⟩
        rintro e W4 (⟨rfl, hJ4, hk4⟩ | ⟨rfl, hJx4⟩)
        · gi_wp2
          go_end0
          exact ⟨⟨_, rfl⟩, .inl ⟨_, (by exact HT.out.symm), hJ4⟩⟩
        · gi_wp2
          go_end0
          exact ⟨⟨_, rfl⟩, .inr ⟨_, trivial, hJx4⟩⟩
      · gi_wp2
        go_end0
        exact ⟨⟨_, rfl⟩, .inr ⟨_, trivial, hJx3⟩⟩
    · have hk1 : (K == 1) = false := by simpa using hK1
      have HT : RowKit.Hid (ixs K = []) := Lib.hid (by unfold ixs; rw [if_neg hK0, if_neg hK1])
      clear hK0 hK1 hY
      gi_wp2
      go_end0
      exact ⟨⟨_, rfl⟩, .inl ⟨_, (by exact HT.out.symm), h0⟩⟩
end Go.Proofs.Ytdnihphnoibpgaa
