/- Layer 14: package flow's ways: lists in one piece of memory. -/
import Derived.Test.YtgncpiamokeohaaFlowWa
import Derived.Test.YtgncpiamokeohaaFlowFa
import Derived.Deep.RegionLaw
import Derived.RegionTactic
import Derived.BigRegion
namespace Go.Proofs.Ytgncpiamokeohaa
open Go.RowKit (wrap64 intOf Below)
set_option linter.unusedVariables false
set_option linter.unusedSimpArgs false

theorem info_intF : (Try.prog.info? 3).map (fun i => (i.zero, i.size, i.bytes)) = some (some (.int .i64 0), 1, 8) := by kernel_rfl
theorem make_intF (q : Int) (Q : Nat) (hq : q = Q) (hQ : Q ≤ 1099511627776) (u : World) : (Instr.makeSlice 23 (.int .i64 q) (.int .i64 q)).run Try.prog u = .ok (.slice (some ⟨u.heap.size, 0, none⟩) Q Q) (u.alloc (.cells (madeCells #[.int .i64 0] Q) 3)) := by
  obtain ⟨i0, hi, hz0, hz1, hz2⟩ := info_parts info_intF
  subst hq
  have h := run_make (P := Try.prog) u 23 3 i0 (.int .i64 0) Try.underlying23 hi hz0 .i64 .i64 (Q : Int) (Q : Int) (by omega) (by omega) (by rw [hz2]; omega) (by omega)
  simpa [hz1, Value.cells] using h
theorem make_rowF (q : Int) (Q : Nat) (hq : q = Q) (hQ : Q ≤ 1099511627776) (u : World) : (Instr.makeSlice 48 (.int .i64 q) (.int .i64 q)).run Try.prog u = .ok (.slice (some ⟨u.heap.size, 0, none⟩) Q Q) (u.alloc (.cells (madeCells #[.slice none 0 0] Q) 23)) := by
  have hinfo : (Try.prog.info? 23).map (fun i => (i.zero, i.size, i.bytes)) = some (some (.slice none 0 0), 1, 24) := by kernel_rfl
  obtain ⟨i0, hi, hz0, hz1, hz2⟩ := info_parts hinfo
  subst hq
  have h := run_make (P := Try.prog) u 48 23 i0 (.slice none 0 0) Try.underlying48 hi hz0 .i64 .i64 (Q : Int) (Q : Int) (by omega) (by omega) (by rw [hz2]; omega) (by omega)
  simpa [hz1, Value.cells] using h
theorem made_ints (n : Nat) : (madeCells #[Value.int .i64 0] n).toList = (cntsF [] n).map numV := by
  rw [cntsF_none]
  apply List.ext_getElem
  · simp [madeCells]
  · intro i h1 h2; simp [madeCells, Nat.mod_one, numV]
theorem made_rows (R n : Nat) (E : List (Int × Int)) : (madeCells #[Value.slice none 0 0] n).toList = cutV R n E 0 := by
  rw [cutV_none]
  apply List.ext_getElem
  · simp [madeCells]
  · intro i h1 h2; simp [madeCells, Nat.mod_one]
/-- The rows that ways makes. -/
structure WaSt (w : World) (s R G n m : Nat) (C Z : List Int) (V : List Value) (W : World) : Prop where
  bel : Below w.heap.size w W
  sz : OwnsI W w.heap.size 3 (.slice (some ⟨s, 0, none⟩) n n) C
  rm : OwnsI W w.heap.size 3 (.slice (some ⟨R, 0, none⟩) m m) Z
  gw : W.ownsRow w.heap.size 23 1 (.slice (some ⟨G, 0, none⟩) n n) n V
  ne : s ≠ R ∧ R ≠ G ∧ s ≠ G
  cl : C.length = n
  zl : Z.length = m
section
variable {w W : World} {s R G n m : Nat} {C Z : List Int} {V : List Value}
theorem WaSt.lt (h : WaSt w s R G n m C Z V W) : s < W.heap.size ∧ R < W.heap.size ∧ G < W.heap.size ∧ w.heap.size ≤ R ∧ w.heap.size ≤ G :=
  ⟨(h.sz.lt s rfl).2, (h.rm.lt R rfl).2, (World.ownsRow.lt h.gw G rfl).2, (h.rm.lt R rfl).1, (World.ownsRow.lt h.gw G rfl).1⟩
theorem OwnsI.kept {W W' : World} {B : Nat} {e : TypeId} {v : Value} {Z : List Int} {row : Option Nat} (h : OwnsI W B e v Z) (hg : W.grownBy W' row) (hn : v.ownBlock = none ∨ v.ownBlock ≠ row) : OwnsI W' B e v Z := World.ownsRow.kept h hg hn
theorem WaSt.alloc (h : WaSt w s R G n m C Z V W) (o : Obj) : WaSt w s R G n m C Z V (W.alloc o) :=
  ⟨h.bel.alloc h.bel.size _, World.ownsRow.alloc h.sz _, World.ownsRow.alloc h.rm _, World.ownsRow.alloc h.gw _, h.ne, h.cl, h.zl⟩
theorem WaSt.drew (h : WaSt w s R G n m C Z V W) : WaSt w s R G n m C Z V W.drew :=
  ⟨h.bel.drew, h.sz, h.rm, h.gw, h.ne, h.cl, h.zl⟩
theorem WaSt.setG (h : WaSt w s R G n m C Z V W) (j : Nat) (v : Value) : WaSt w s R G n m C Z (V.set j v) (W.setCell ⟨G, j, none⟩ v) := by
  obtain ⟨hr, hg⟩ := World.ownsRow.stored h.gw j v
  exact ⟨h.bel.setCell (p := ⟨G, j, none⟩) h.lt.2.2.2.2 _, h.sz.kept hg (.inr fun e => h.ne.2.2 (Option.some.inj e)), h.rm.kept hg (.inr fun e => h.ne.2.1 (Option.some.inj e)), hr, h.ne, h.cl, h.zl⟩
theorem WaSt.setR (h : WaSt w s R G n m C Z V W) (j : Nat) (z : Int) : WaSt w s R G n m C (Z.set j z) V (W.setCell ⟨R, j, none⟩ (.int .i64 z)) := by
  obtain rfl := h.zl
  obtain ⟨hr, hg⟩ := World.ownsRow.stored h.rm j (.int .i64 z)
  refine ⟨h.bel.setCell (p := ⟨R, j, none⟩) h.lt.2.2.2.1 _, h.sz.kept hg (.inr fun e => h.ne.1 (Option.some.inj e)), ?_, World.ownsRow.kept h.gw hg (.inr fun e => h.ne.2.1 (Option.some.inj e).symm), h.ne, h.cl, by rw [List.length_set]⟩
  have e : (Z.map numV).set j (.int .i64 z) = (Z.set j z).map numV := by rw [List.map_set]; rfl
  rw [e] at hr
  have hl : (Z.set j z).length = Z.length := by simp
  unfold OwnsI
  rw [hl]
  exact hr
theorem WaSt.cellS (h : WaSt w s R G n m C Z V W) {u : Nat} (hu : u < n) : W.cell? ⟨s, u, none⟩ = some (.int .i64 (nth C u)) := by
  have hu' : u < C.length := by rw [h.cl]; exact hu
  have := World.ownsRow.cells h.sz rfl u (numV C[u]) (by rw [List.getElem?_map, List.getElem?_eq_getElem hu']; rfl)
  rw [addr_plain, Nat.zero_add] at this
  rw [this, nth_is hu']; rfl
theorem WaSt.cellR (h : WaSt w s R G n m C Z V W) {u : Nat} (hu : u < m) : (W.cell? ⟨R, u, none⟩).isSome = true ∧ W.frozen? ⟨R, u, none⟩ = false := by
  obtain rfl := h.zl
  have hu' : u < Z.length := by rw [h.zl]; exact hu
  have := World.ownsRow.cells h.rm rfl u (numV Z[u]) (by rw [List.getElem?_map, List.getElem?_eq_getElem hu']; rfl)
  rw [addr_plain, Nat.zero_add] at this
  exact ⟨by rw [this]; rfl, World.ownsRow.frozenAt h.rm u⟩
theorem WaSt.cellG (h : WaSt w s R G n m C Z V W) {u : Nat} {v : Value} (hu : V[u]? = some v) : W.cell? ⟨G, u, none⟩ = some v ∧ W.frozen? ⟨G, u, none⟩ = false := by
  have := World.ownsRow.cells h.gw rfl u v hu
  rw [addr_plain, Nat.zero_add] at this
  exact ⟨this, World.ownsRow.frozenAt h.gw u⟩
end
theorem cntF_upto (E : List (Int × Int)) (i u : Nat) : cntF (E.take i) u ≤ i := Nat.le_trans (cntF_le _ u) (by rw [List.length_take]; exact Nat.min_le_left _ _)
theorem wrapsF {c : Nat} (h : c ≤ 1099511627776) : wrap64 ((c : Int) + 1) = (c : Int) + 1 ∧ IntKind.i64.wrap ((c : Int) + 1) = (c : Int) + 1 := ⟨by unfold wrap64; omega, wrap_small _ (by omega) (by omega)⟩
/-- The counts alone. -/
structure CnSt (w : World) (s n : Nat) (C : List Int) (W : World) : Prop where
  bel : Below w.heap.size w W
  sz : OwnsI W w.heap.size 3 (.slice (some ⟨s, 0, none⟩) n n) C
  cl : C.length = n
section
variable {w W : World} {s n : Nat} {C : List Int}
theorem CnSt.alloc (h : CnSt w s n C W) (o : Obj) : CnSt w s n C (W.alloc o) := ⟨h.bel.alloc h.bel.size _, World.ownsRow.alloc h.sz _, h.cl⟩
theorem CnSt.set (h : CnSt w s n C W) (j : Nat) (z : Int) : CnSt w s n (C.set j z) (W.setCell ⟨s, j, none⟩ (.int .i64 z)) := by
  obtain rfl := h.cl
  obtain ⟨hr, hg⟩ := World.ownsRow.stored h.sz j (.int .i64 z)
  refine ⟨h.bel.setCell (p := ⟨s, j, none⟩) (h.sz.lt s rfl).1 _, ?_, by rw [List.length_set]⟩
  have e : (C.map numV).set j (.int .i64 z) = (C.set j z).map numV := by rw [List.map_set]; rfl
  rw [e] at hr
  have hl : (C.set j z).length = C.length := by simp
  unfold OwnsI
  rw [hl]
  exact hr
theorem CnSt.cell (h : CnSt w s n C W) {u : Nat} (hu : u < n) : W.cell? ⟨s, u, none⟩ = some (.int .i64 (nth C u)) ∧ W.frozen? ⟨s, u, none⟩ = false := by
  obtain rfl := h.cl
  have hu' : u < C.length := by rw [h.cl]; exact hu
  have := World.ownsRow.cells h.sz rfl u (numV C[u]) (by rw [List.getElem?_map, List.getElem?_eq_getElem hu']; rfl)
  rw [addr_plain, Nat.zero_add] at this
  exact ⟨by rw [this, nth_is hu']; rfl, World.ownsRow.frozenAt h.sz u⟩
theorem CnSt.begin (w : World) (n : Nat) (hn : n ≤ 1099511627776) : CnSt w w.heap.size n (cntsF [] n) (w.alloc (.cells (madeCells #[.int .i64 0] n) 3)) := by
  refine ⟨(Below.refl _ w).alloc (Nat.le_refl _) _, ?_, cntsF_len _ _⟩
  have h := World.ownsRow_lit (base := w.heap.size) (e := 3) (size := 1) w (madeCells #[Value.int .i64 0] n) n (Nat.le_refl _) (by unfold maxLen; omega) (by simp [size_madeCells])
  rw [made_ints] at h
  unfold OwnsI
  rw [cntsF_len]
  exact h
/-- The piece of memory, and the lists, are laid. -/
theorem CnSt.lay (h : CnSt w s n C W) (E : List (Int × Int)) (m : Nat) (hn : n ≤ 1099511627776) (hm : m ≤ 1099511627776) :
    WaSt w s W.heap.size (W.heap.size + 1) n m C (cntsF [] m) (cutV W.heap.size n E 0) ((W.alloc (.cells (madeCells #[.int .i64 0] m) 3)).alloc (.cells (madeCells #[.slice none 0 0] n) 23)) := by
  have h1 := h.alloc (.cells (madeCells #[.int .i64 0] m) 3)
  have h2 := h1.alloc (.cells (madeCells #[.slice none 0 0] n) 23)
  have hr := World.ownsRow_lit (base := w.heap.size) (e := 3) (size := 1) W (madeCells #[Value.int .i64 0] m) m h.bel.size (by unfold maxLen; omega) (by simp [size_madeCells])
  rw [made_ints] at hr
  have hg := World.ownsRow_lit (base := w.heap.size) (e := 23) (size := 1) (W.alloc (.cells (madeCells #[.int .i64 0] m) 3)) (madeCells #[Value.slice none 0 0] n) n h1.bel.size (by unfold maxLen; omega) (by simp [size_madeCells])
  rw [made_rows W.heap.size n E, World.size_alloc] at hg
  have hs := (h.sz.lt s rfl).2
  refine ⟨h2.bel, h2.sz, ?_, hg, ⟨by omega, by omega, by omega⟩, h.cl, cntsF_len _ _⟩
  unfold OwnsI
  rw [cntsF_len]
  exact World.ownsRow.alloc hr _
end
/-- What ways answers: lists in blocks of its own. -/
def WaysPost (E : List (Int × Int)) (n : Nat) (w : World) (e : Ending) (w' : World) : Prop := ∃ g R, e = .returned (.slice (some ⟨g, 0, none⟩) n n) ∧ WaysAt w' g R n E ∧ Below w.heap.size w w' ∧ w.heap.size ≤ g ∧ w.heap.size ≤ R
end Go.Proofs.Ytgncpiamokeohaa
