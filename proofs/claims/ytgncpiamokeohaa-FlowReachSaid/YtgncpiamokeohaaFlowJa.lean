/- Layer 14: package flow's met: the line of nodes in memory, beside a consumer. -/
import Derived.Test.YtgncpiamokeohaaFlowFa
import Derived.Test.YtgncpiamokeohaaIterM
import Derived.WalkSmall
import Derived.Maps.AppendAt
namespace Go.Proofs.Ytgncpiamokeohaa
open Go.RowKit
set_option linter.unusedVariables false
set_option linter.unusedSimpArgs false

/-- Truths of which nodes are marked. -/
def metVF (N : Nat) (met : List Int) : List Value := (List.range N).map fun (i : Nat) => Value.bool (decide ((i : Int) ∈ met))
theorem metVF_len (N : Nat) (met : List Int) : (metVF N met).length = N := by simp [metVF]
theorem metVF_at {N : Nat} {met : List Int} {j : Nat} (hj : j < N) : (metVF N met)[j]? = some (.bool (decide ((j : Int) ∈ met))) := by simp [metVF, hj]
theorem metVF_more {N : Nat} {met : List Int} {j : Nat} (hj : j < N) : (metVF N met).set j (.bool true) = metVF N (met ++ [(j : Int)]) := by
  apply List.ext_getElem
  · simp [metVF]
  · intro i h1 h2
    simp only [metVF, List.getElem_set, List.getElem_map, List.getElem_range, List.mem_append, List.mem_singleton]
    by_cases e : j = i
    · subst e; simp
    · have : ¬ (i : Int) = (j : Int) := by omega
      simp [e, this]
theorem metVF_none (N : Nat) : (madeCells #[Value.bool false] N).toList = metVF N [] := by
  apply List.ext_getElem
  · simp [metVF, madeCells]
  · intro i h1 h2
    simp [metVF, madeCells, Nat.mod_one]
theorem nums_same {W W' : World} {a : Option Addr} {n : Nat} {Z : List Int} (h : NumsAt W a n Z) (hs : ∀ g off, a = some ⟨g, off, none⟩ → 0 < n → W'.heap[g]? = W.heap[g]? ∧ g < W'.heap.size) : NumsAt W' a n Z := by
  refine ⟨h.1, fun h0 => ?_⟩
  obtain ⟨g, off, e, hg, hc⟩ := h.2 h0
  obtain ⟨h1, h2⟩ := hs g off e h0
  exact ⟨g, off, e, h2, fun j hj => (World.cell?_of_block (a := ⟨g, off + j, none⟩) h1).trans (hc j hj)⟩
theorem prs_blk {W : World} {n0 : Nat} {e : TypeId} {v : Value} {l : List (Int × Int)} (h : OwnsPr W n0 e v l) {i : Nat} (hi : v.ownBlock = some i) : ∃ cur, W.heap[i]? = some (.cells cur e (0, 0)) ∧ n0 ≤ i := by
  rcases h.2 with ⟨e, _⟩ | ⟨g, cap, cur, e, hb, hh, _⟩
  · subst e; cases hi
  · subst e; cases hi; exact ⟨cur, hh, hb⟩
theorem bools_blk {W : World} {n0 q N : Nat} {L : List Value} (h : W.ownsRow n0 4 1 (.slice (some ⟨q, 0, none⟩) N N) N L) : ∃ cur, W.heap[q]? = some (.cells cur 4 (0, 0)) ∧ n0 ≤ q := by
  rcases h.2 with ⟨e, _⟩ | ⟨g, cap, cur, e, hb, hh, _⟩
  · cases e
  · cases e; exact ⟨cur, hh, hb⟩
/-- The line, the marks, and what came in. -/
structure LineSt (w0 : World) (X : Nat → Prop) (O : World → Nat → Prop) (n0 bl q N : Nat) (W : World) (vl : Value) (met : List Int) (l : List (Int × Int)) : Prop where
  lies : LiesO O W
  boxL : Boxed W bl 22 vl
  rowL : OwnsPr W n0 43 vl l
  rowM : W.ownsRow 0 4 1 (.slice (some ⟨q, 0, none⟩) N N) N (metVF N met)
  geL : n0 ≤ bl
  ltq : q < n0
  freeL : ¬ O W bl
  freeQ : ¬ O W q
  freeV : ∀ i, vl.ownBlock = some i → ¬ O W i
  came : ∀ i, X i → i < n0 ∧ i ≠ q ∧ ¬ O W i ∧ W.heap[i]? = w0.heap[i]? ∧ i < W.heap.size
  siz : n0 ≤ W.heap.size
/-- What the consumer is told abides. -/
def AbidF (n0 q : Nat) (O : World → Nat → Prop) (W W' : World) : Prop := ∀ (β : Type) (J : β → World → Prop) (s : β), AbidesM n0 (fun r => r = q) O J → J s W → J s W'
theorem AbidF.refl (n0 q : Nat) (O : World → Nat → Prop) (W : World) : AbidF n0 q O W W := fun _ _ _ _ h => h
theorem AbidF.trans {n0 q : Nat} {O : World → Nat → Prop} {X Y Z : World} (h : AbidF n0 q O X Y) (k : AbidF n0 q O Y Z) : AbidF n0 q O X Z := fun β J s hJ hs => k β J s hJ (h β J s hJ hs)
section
variable {w0 : World} {X : Nat → Prop} {O : World → Nat → Prop} {n0 bl q N : Nat} {W W' : World} {vl : Value} {met : List Int} {l : List (Int × Int)}
theorem LineSt.ql (h : LineSt w0 X O n0 bl q N W vl met l) : q ≠ bl := by have := h.ltq; have := h.geL; omega
theorem LineSt.nvl (h : LineSt w0 X O n0 bl q N W vl met l) : vl.ownBlock ≠ some bl := fun e => by
  obtain ⟨cur, hc, _⟩ := prs_blk h.rowL e
  have h2 := h.boxL
  unfold Boxed at h2
  rw [hc] at h2
  simp at h2
theorem LineSt.vq (h : LineSt w0 X O n0 bl q N W vl met l) : vl.ownBlock ≠ some q := fun e => by
  obtain ⟨cur, hc, hg⟩ := prs_blk h.rowL e
  have := h.ltq; omega
theorem LineSt.qlt (h : LineSt w0 X O n0 bl q N W vl met l) : q < W.heap.size := Nat.lt_of_lt_of_le h.ltq h.siz
theorem rowF_off {v : Value} {row : Option Nat} (h : ∀ r, row = some r → v.ownBlock ≠ some r) : v.ownBlock = none ∨ v.ownBlock ≠ row := by
  cases hv : v.ownBlock with
  | none => exact .inl rfl
  | some i => exact .inr fun e => h i e.symm hv
theorem cameF {w0 W W' : World} {X : Nat → Prop} {O : World → Nat → Prop} {n0 q : Nat} (h : ∀ i, X i → i < n0 ∧ i ≠ q ∧ ¬ O W i ∧ W.heap[i]? = w0.heap[i]? ∧ i < W.heap.size) {row : Option Nat} (hg : W.grownBy W' row) (ho : ∀ i, O W' i ↔ O W i) (hr : ∀ r, row = some r → ¬ X r) : ∀ i, X i → i < n0 ∧ i ≠ q ∧ ¬ O W' i ∧ W'.heap[i]? = w0.heap[i]? ∧ i < W'.heap.size := by
  intro i hi
  obtain ⟨h1, h1', h2, h3, h4⟩ := h i hi
  exact ⟨h1, h1', fun e => h2 ((ho i).1 e), (hg.block i h4 (fun e => hr i e.symm hi)).trans h3, Nat.lt_of_lt_of_le h4 hg.size⟩
/-- What turns none of its blocks, and none of the consumer's, leaves it. -/
theorem LineSt.kept (hO : SteadyO O) (h : LineSt w0 X O n0 bl q N W vl met l) {row : Option Nat} (hg : W.grownBy W' row) (hr : ∀ r, row = some r → ¬ O W r ∧ r ≠ bl ∧ r ≠ q ∧ vl.ownBlock ≠ some r ∧ ¬ X r) : LineSt w0 X O n0 bl q N W' vl met l := by
  have h1 := hO W W' row hg h.lies (fun r e => (hr r e).1)
  have h2 := h.lies.step hO hg (fun r e => (hr r e).1)
  exact ⟨h2, h.boxL.kept hg (fun e => (hr bl e.symm).2.1 rfl), World.ownsRow.kept h.rowL hg (rowF_off fun r e hv => (hr r e).2.2.2.1 hv), World.ownsRow.kept h.rowM hg (.inr fun e => (hr q e.symm).2.2.1 rfl),
    h.geL, h.ltq, fun e => h.freeL ((h1 _).1 e), fun e => h.freeQ ((h1 _).1 e), fun i hi e => h.freeV i hi ((h1 _).1 e), cameF h.came hg h1 (fun r e => (hr r e).2.2.2.2), Nat.le_trans h.siz hg.size⟩
theorem LineSt.alloc (hO : SteadyO O) (h : LineSt w0 X O n0 bl q N W vl met l) (o : Obj) : LineSt w0 X O n0 bl q N (W.alloc o) vl met l := h.kept hO (World.grownBy_alloc W o none) (fun r e => by cases e)
theorem LineSt.drew (hO : SteadyO O) (h : LineSt w0 X O n0 bl q N W vl met l) : LineSt w0 X O n0 bl q N W.drew vl met l := h.kept (row := none) hO ⟨rfl, rfl, rfl, Nat.le_refl _, fun _ _ _ => rfl⟩ (fun r e => by cases e)
theorem LineSt.markAt (h : LineSt w0 X O n0 bl q N W vl met l) {j : Nat} (hj : j < N) : W.cell? ⟨q, j, none⟩ = some (.bool (decide ((j : Int) ∈ met))) ∧ W.frozen? ⟨q, j, none⟩ = false := by
  have := World.ownsRow.cells h.rowM rfl j _ (metVF_at (met := met) hj)
  rw [addr_plain, Nat.zero_add] at this
  exact ⟨this, World.ownsRow.frozenAt h.rowM j⟩
/-- A node is marked. -/
theorem LineSt.mark (hO : SteadyO O) (h : LineSt w0 X O n0 bl q N W vl met l) {j : Nat} (hj : j < N) : LineSt w0 X O n0 bl q N (W.setCell ⟨q, j, none⟩ (.bool true)) vl (met ++ [(j : Int)]) l ∧ W.grownBy (W.setCell ⟨q, j, none⟩ (.bool true)) (some q) ∧ AbidF n0 q O W (W.setCell ⟨q, j, none⟩ (.bool true)) := by
  obtain ⟨hr, hg⟩ := World.ownsRow.stored h.rowM j (.bool true)
  rw [metVF_more hj] at hr
  have h1 := hO _ _ _ hg h.lies (fun r e => by cases e; exact h.freeQ)
  have h2 := h.lies.step hO hg (fun r e => by cases e; exact h.freeQ)
  exact ⟨⟨h2, h.boxL.kept hg (fun e => by cases e; exact h.ql rfl), World.ownsRow.kept h.rowL hg (rowF_off fun r e hv => by cases e; exact h.vq hv), hr,
    h.geL, h.ltq, fun e => h.freeL ((h1 _).1 e), fun e => h.freeQ ((h1 _).1 e), fun i hi e => h.freeV i hi ((h1 _).1 e), cameF h.came hg h1 (fun r e hx => by cases e; exact (h.came _ hx).2.1 rfl), Nat.le_trans h.siz hg.size⟩, hg,
    fun β J s hJ hs => hJ s W _ (some q) hs hg (fun r e => by cases e; exact ⟨.inr rfl, h.freeQ⟩)⟩
/-- One more stands in the line. -/
theorem LineSt.push (hO : SteadyO O) (h : LineSt w0 X O n0 bl q N W vl met l) {C : Array Value} {et : TypeId} {w1 : World} {v' : Value} {z : Int × Int} (hg : (W.alloc (.cells C et)).grownBy w1 vl.ownBlock) (ho : OwnsPr w1 n0 43 v' (l ++ [z]))
    (hwh : ∀ i, v'.ownBlock = some i → vl.ownBlock = some i ∨ W.heap.size ≤ i) :
    Boxed w1 bl 22 vl ∧ LineSt w0 X O n0 bl q N (w1.setCell ⟨bl, 0, none⟩ v') v' met (l ++ [z]) ∧ AbidF n0 q O W (w1.setCell ⟨bl, 0, none⟩ v') := by
  have hU := h.alloc hO (.cells C et)
  have hge : ∀ i, vl.ownBlock = some i → n0 ≤ i := fun i hi => by obtain ⟨_, _, h'⟩ := prs_blk h.rowL hi; exact h'
  have h1 := hO _ _ _ hg hU.lies (fun r e => hU.freeV r e)
  have h2 := hU.lies.step hO hg (fun r e => hU.freeV r e)
  have hbL : Boxed w1 bl 22 vl := hU.boxL.kept hg (fun e => hU.nvl e.symm)
  have hrM := World.ownsRow.kept hU.rowM hg (.inr fun e => hU.vq e.symm)
  have hg2 := grownBy_setCell' w1 bl v'
  have hfL1 : ¬ O w1 bl := fun e => hU.freeL ((h1 _).1 e)
  have k1 := hO _ _ _ hg2 h2 (fun r e => by cases e; exact hfL1)
  have k2 := h2.step hO hg2 (fun r e => by cases e; exact hfL1)
  have hvb : v'.ownBlock ≠ some bl := fun e => by
    obtain ⟨cur, hc, _⟩ := prs_blk ho e
    have h2 := hbL
    unfold Boxed at h2
    rw [hc] at h2
    simp at h2
  have hfv : ∀ i, v'.ownBlock = some i → ¬ O w1 i := fun i hi e => by
    have e' := (h1 _).1 e
    rcases hwh i hi with hx | hx
    · exact hU.freeV i hx e'
    · have := (hO _ _ _ (World.grownBy_alloc W (.cells C et) none) h.lies (fun r e => by cases e) i).1 e'
      have := h.lies.lt this
      omega
  refine ⟨hbL, ⟨k2, hbL.set v', World.ownsRow.kept ho hg2 (rowF_off fun r e hv => by cases e; exact hvb hv), World.ownsRow.kept hrM hg2 (.inr fun e => by cases e; exact h.ql rfl),
    h.geL, h.ltq, fun e => hU.freeL ((h1 _).1 ((k1 _).1 e)), fun e => hU.freeQ ((h1 _).1 ((k1 _).1 e)), fun i hi e => hfv i hi ((k1 _).1 e), cameF (cameF hU.came hg h1 (fun r e hx => by have := (h.came _ hx).1; have := hge r e; omega)) hg2 k1 (fun r e hx => by cases e; have := (h.came _ hx).1; have := h.geL; omega), Nat.le_trans hU.siz (Nat.le_trans hg.size hg2.size)⟩, fun β J s hJ hs => ?_⟩
  exact hJ.setCell _ (hJ s _ _ _ (hJ.alloc _ hs) hg (fun r e => ⟨.inl (hge r e), hU.freeV r e⟩)) (.inl h.geL) hfL1
/-- Behind a round of the consumer's. -/
theorem LineSt.since (h : LineSt w0 X O n0 bl q N W vl met l) (hk : KeepO O W W') (hl : LiesO O W') : LineSt w0 X O n0 bl q N W' vl met l := by
  have hvlt : ∀ i, vl.ownBlock = some i → i < W.heap.size := fun i hi => by obtain ⟨cur, hc, _⟩ := prs_blk h.rowL hi; exact (Array.getElem?_eq_some_iff.1 hc).1
  have row : ∀ {B : Nat} {e : TypeId} {sz : Nat} {v : Value} {k : Nat} {xs : List Value}, W.ownsRow B e sz v k xs → (∀ i, v.ownBlock = some i → ¬ O W i) → W'.ownsRow B e sz v k xs := by
    intro B e sz v k xs ho hv
    refine ⟨ho.1, ?_⟩
    rcases ho.2 with h' | ⟨g, cap, cur, rfl, hg, hh, rest⟩
    · exact .inl h'
    · exact .inr ⟨g, cap, cur, rfl, hg, (hk.same g (Array.getElem?_eq_some_iff.1 hh).1 (hv g rfl)).trans hh, rest⟩
  exact ⟨hl, (hk.same bl h.boxL.lt h.freeL).trans h.boxL, row h.rowL h.freeV, row h.rowM (fun i hi => by cases hi; exact h.freeQ),
    h.geL, h.ltq, fun e => h.freeL (hk.new _ e h.boxL.lt), fun e => h.freeQ (hk.new _ e h.qlt), fun i hi e => h.freeV i hi (hk.new _ e (hvlt i hi)), fun i hi => by obtain ⟨c1, c1', c2, c3, c4⟩ := h.came i hi; exact ⟨c1, c1', fun e => c2 (hk.new _ e c4), (hk.same i c4 c2).trans c3, Nat.lt_of_lt_of_le c4 hk.size⟩, Nat.le_trans h.siz hk.size⟩
/-- A list that came in is read. -/
theorem LineSt.nums (h : LineSt w0 X O n0 bl q N W vl met l) {a : Option Addr} {n : Nat} {Z : List Int} (hn : NumsAt w0 a n Z) (hX : ∀ g off, a = some ⟨g, off, none⟩ → 0 < n → X g) : NumsAt W a n Z :=
  nums_same hn (fun g off e h0 => ⟨(h.came g (hX g off e h0)).2.2.2.1, (h.came g (hX g off e h0)).2.2.2.2⟩)
theorem LineSt.cell (h : LineSt w0 X O n0 bl q N W vl met l) {i j : Nat} (hX : X i) : W.cell? ⟨i, j, none⟩ = w0.cell? ⟨i, j, none⟩ := World.cell?_of_block (h.came i hX).2.2.2.1
end
/-- 'append(l, [2]int{..})': what is new, and where it lies. -/
theorem wpList_append_prW {P : Program} (w : World) {ops : Array Oper} {rest : List Oper} {o : Oper} {a : Act} {Q : Exit → Act → World → Prop} (hgd : o.guard = none) (s x : Operand) (t : TypeId)
    (ho : o.op = .call { callee := .builtin .append, args := #[s, x], argTypes := #[t, t] }) (e : TypeId) (ht : P.underlying t = some (.slice e))
    (hinfo : (P.info? e).map (fun i => (i.zero, i.size, i.bytes)) = some (some (.agg #[.int .i64 0, .int .i64 0]), 2, 16))
    (B : Nat) (v : Value) (l : List (Int × Int)) (hs : a.eval s = v) (hown : OwnsPr w B e v l) (hB : B ≤ w.heap.size)
    (C : Array Value) (c g : Nat) (z : Int × Int) (hx : a.eval x = .slice (some ⟨g, 0, none⟩) 1 c) (hg : g = w.heap.size) (hC : C = #[.int .i64 z.1, .int .i64 z.2])
    (hlen : l.length ≤ 1000000)
    (h : ∀ va vn vc w', OwnsPr w' B e (.slice va vn vc) (l ++ [z]) → (w.alloc (.cells C e)).grownBy w' v.ownBlock → (∀ k, (Value.slice va vn vc).ownBlock = some k → v.ownBlock = some k ∨ w.heap.size ≤ k) → wpList P ops Q rest (a.put o.dst (.slice va vn vc)) w') : wpList P ops Q (o :: rest) a (w.alloc (.cells C e)) := by
  obtain ⟨i0, hi, hz0, hz1, hz2⟩ := info_parts hinfo
  subst hC hg
  refine wpList_append_own_at _ hgd s x t ho B e i0 (.agg #[.int .i64 0, .int .i64 0]) 2 16 ht hi hz0 hz1 hz2 rfl (by decide) v l.length (flatPr l) hs (World.ownsRow.alloc hown _) ⟨w.heap.size, 0, none⟩ 1 c [.int .i64 z.1, .int .i64 z.2] hx rfl (fun j u hu => ?_) (by intro u hu; simp at hu; rcases hu with rfl | rfl <;> rfl) (by unfold maxLen; omega) (by omega) (by simp; omega) ?_
  · rw [addr_plain, Nat.zero_add, World.cell?_alloc_mark]
    simpa using hu
  · intro v' w' hown' hgrow _ hwh
    have h2 : OwnsPr w' B e v' (l ++ [z]) := by
      show w'.ownsRow B e 2 v' (l ++ [z]).length (flatPr (l ++ [z]))
      rw [flatPr_more, List.length_append]
      exact hown'
    obtain ⟨va, vc, rfl⟩ := h2.slice
    exact h va _ vc w' h2 hgrow (fun k hk => by
      rcases hwh with e' | e'
      · exact .inl (e' ▸ hk)
      · rw [e'] at hk; cases hk; simp)
/-- The nodes of the line are nodes, each once. -/
structure LnOk (N : Nat) (l : List (Int × Int)) : Prop where
  nd : (l.map Prod.fst).Nodup
  inr : ∀ x ∈ l, 0 ≤ x.1 ∧ x.1 < (N : Int)
theorem LnOk.len {N : Nat} {l : List (Int × Int)} (h : LnOk N l) : l.length ≤ N := by
  have := nodup_bound (n := N) h.nd (fun x hx => by obtain ⟨y, hy, rfl⟩ := List.mem_map.1 hx; exact h.inr y hy)
  simpa using this
theorem LnOk.join {N : Nat} {M : List Int} {d : Int} {l : List (Int × Int)} {ns : List Int} (h : LnOk N l) (hin : ∀ z ∈ ns, 0 ≤ z ∧ z < (N : Int)) : LnOk N (joinF M d l ns) := by
  obtain ⟨⟨t, h1, h2⟩, h3, _⟩ := join_facts M d l ns
  refine ⟨h3 h.nd, fun x hx => ?_⟩
  rw [h1] at hx
  rcases List.mem_append.1 hx with hx | hx
  · exact h.inr x hx
  · exact hin _ (h2 x hx).2.1
end Go.Proofs.Ytgncpiamokeohaa
