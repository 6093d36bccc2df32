/- A slice of numbers of 64 bits: one that is read, and one that the call made itself: told by the list of its numbers. Nothing of the program is named here. -/
import Derived.Test.YtgncpiamokeohaaBytesIn
namespace Go.Proofs.Ytgncpiamokeohaa
open Go.RowKit (wrap64 intOf Below)
set_option linter.unusedVariables false

def numV (z : Int) : Value := .int .i64 z
theorem nth_is {Z : List Int} {j : Nat} (h : j < Z.length) : nth Z j = Z[j] := by
  unfold nth; rw [List.getD_eq_getElem?_getD, List.getElem?_eq_getElem h]; rfl
/-- The slice at a, of n numbers, reads as Z. -/
def NumsAt (w : World) (a : Option Addr) (n : Nat) (Z : List Int) : Prop :=
  Z.length = n ∧ (0 < n → ∃ g off, a = some ⟨g, off, none⟩ ∧ g < w.heap.size ∧ ∀ j (h : j < Z.length), w.cell? ⟨g, off + j, none⟩ = some (numV Z[j]))
theorem NumsAt.nil (w : World) (a : Option Addr) : NumsAt w a 0 [] := ⟨rfl, fun h => absurd h (by omega)⟩
theorem NumsAt.below {w w' : World} {a : Option Addr} {n : Nat} {Z : List Int} {B : Nat} (h : NumsAt w a n Z) (hb : Below B w w') (hB : w.heap.size ≤ B) : NumsAt w' a n Z := by
  refine ⟨h.1, fun hn => ?_⟩
  obtain ⟨g, off, e, hg, hc⟩ := h.2 hn
  refine ⟨g, off, e, Nat.lt_of_lt_of_le hg hb.size, fun j hj => ?_⟩
  rw [hb.cell (p := ⟨g, off + j, none⟩) (Nat.lt_of_lt_of_le hg hB)]
  exact hc j hj
theorem NumsAt.since {w w' : World} {a : Option Addr} {n : Nat} {Z : List Int} (h : NumsAt w a n Z) (hb : Below w.heap.size w w') : NumsAt w' a n Z := h.below hb (Nat.le_refl _)
theorem NumsAt.drewN {w : World} {a : Option Addr} {n : Nat} {Z : List Int} (h : NumsAt w a n Z) (q : Nat) : NumsAt (w.drewN q) a n Z :=
  h.below (B := w.heap.size) ⟨rfl, rfl, rfl, Nat.le_refl _, fun _ _ => rfl⟩ (Nat.le_refl _)
/-- What came in. -/
theorem IntsAt.nums {w : World} {v : Value} {Z : List Int} (h : IntsAt w v Z) : ∃ a c, v = .slice a Z.length c ∧ NumsAt w a Z.length Z := by
  rcases h with ⟨rfl, rfl⟩ | ⟨⟨b, off, spot⟩, c, rfl, hl, hlt, hc⟩
  · exact ⟨none, 0, rfl, NumsAt.nil w none⟩
  · refine ⟨_, c, rfl, rfl, fun hn => ?_⟩
    have hs : spot = none := by simpa [Addr.add] using World.cell?_spot (hc 0 hn)
    subst hs
    refine ⟨b, off, rfl, hlt 0 hn, fun j hj => ?_⟩
    have := hc j hj
    rw [addr_plain, nth_is hj] at this
    exact this
theorem CellsAt.nums {w : World} {g off : Nat} {Z : List Int} (h : CellsAt w g off Z) (hg : g < w.heap.size) : NumsAt w (some ⟨g, off, none⟩) Z.length Z :=
  ⟨rfl, fun _ => ⟨g, off, rfl, hg, fun j hj => by rw [h j hj, nth_is hj]; rfl⟩⟩

/-- The slice v is the call's own (from block B on) and holds the numbers Z. -/
def OwnsI (w : World) (B : Nat) (e : TypeId) (v : Value) (Z : List Int) : Prop := w.ownsRow B e 1 v Z.length (Z.map numV)
theorem OwnsI.lt {w : World} {B : Nat} {e : TypeId} {v : Value} {Z : List Int} (h : OwnsI w B e v Z) : ∀ k, v.ownBlock = some k → B ≤ k ∧ k < w.heap.size := World.ownsRow.lt h
theorem OwnsI.made {w : World} {B : Nat} {e : TypeId} (cur : Array Value) (cap : Nat) (hB : B ≤ w.heap.size) (hm : cap ≤ maxLen) (hs : cur.size = cap) : OwnsI (w.alloc (.cells cur e)) B e (.slice (some ⟨w.heap.size, 0, none⟩) 0 cap) [] :=
  World.ownsRow_made w cur cap hB hm (by rw [hs, Nat.mul_one])
theorem OwnsI.below {w w' : World} {B : Nat} {e : TypeId} {v : Value} {Z : List Int} (h : OwnsI w B e v Z) (hb : Below w.heap.size w w') : OwnsI w' B e v Z := by
  refine ⟨h.1, ?_⟩
  rcases h.2 with hn | ⟨g, cap, cur, rfl, hB, hg, rest⟩
  · exact .inl hn
  · refine .inr ⟨g, cap, cur, rfl, hB, ?_, rest⟩
    rw [hb.block g (Array.getElem?_eq_some_iff.1 hg).1]
    exact hg
theorem OwnsI.mono {w : World} {B B' : Nat} {e : TypeId} {v : Value} {Z : List Int} (h : OwnsI w B e v Z) (hB : B' ≤ B) : OwnsI w B' e v Z := by
  refine ⟨h.1, ?_⟩
  rcases h.2 with hn | ⟨g, cap, cur, rfl, hg, rest⟩
  · exact .inl hn
  · exact .inr ⟨g, cap, cur, rfl, Nat.le_trans hB hg, rest⟩
theorem OwnsI.nums {w : World} {B : Nat} {e : TypeId} {v : Value} {Z : List Int} (h : OwnsI w B e v Z) : ∃ a n c, v = .slice a n c ∧ NumsAt w a n Z := by
  have hown := h
  rcases h.2 with ⟨rfl, h0⟩ | ⟨g, cap, cur, rfl, hB, hg, h1, h2, _⟩
  · obtain rfl := List.eq_nil_of_length_eq_zero h0
    exact ⟨none, 0, 0, rfl, NumsAt.nil w none⟩
  · refine ⟨_, _, cap, rfl, rfl, fun _ => ⟨g, 0, rfl, (hown.lt g rfl).2, fun j hj => ?_⟩⟩
    have := World.ownsRow.cells hown (g := g) rfl j (numV Z[j]) (by rw [List.getElem?_map, List.getElem?_eq_getElem hj]; rfl)
    rwa [addr_plain] at this
/-- 'append(l, z)': a number behind the others. -/
theorem wpList_append_num {P : Program} (w : World) {ops : Array Oper} {rest : List Oper} {o : Oper} {a : Act} {Q : Exit → Act → World → Prop} (hgd : o.guard = none) (s x : Operand) (t : TypeId)
    (ho : o.op = .call { callee := .builtin .append, args := #[s, x], argTypes := #[t, t] }) (e : TypeId) (ht : P.underlying t = some (.slice e))
    (hinfo : (P.info? e).map (fun i => (i.zero, i.size, i.bytes)) = some (some (.int .i64 0), 1, 8))
    (B : Nat) (v : Value) (Z : List Int) (hs : a.eval s = v) (hown : OwnsI w B e v Z) (hB : B ≤ w.heap.size)
    (C : Array Value) (c g : Nat) (z : Int) (hx : a.eval x = .slice (some ⟨g, 0, none⟩) 1 c) (hg : g = w.heap.size) (hC : C = #[.int .i64 z])
    (hlen : (Z.length + 1) * 8 ≤ 140737488355328)
    (h : ∀ v' w', OwnsI w' B e v' (Z ++ [z]) → Below B w w' → wpList P ops Q rest (a.put o.dst v') w') : wpList P ops Q (o :: rest) a (w.alloc (.cells C e)) := by
  obtain ⟨i0, hi, hz0, hz1, hz2⟩ := info_parts hinfo
  subst hC hg
  refine wpList_append_own _ hgd s x t ho B e i0 (.int .i64 0) 1 8 ht hi hz0 hz1 hz2 rfl (by decide) v Z.length (Z.map numV) hs (World.ownsRow.alloc hown _) ⟨w.heap.size, 0, none⟩ 1 c [.int .i64 z] hx rfl (fun j u hu => ?_) (by intro u hu; simp at hu; subst hu; rfl) (by unfold maxLen; omega) hlen (by simp; omega) ?_
  · rw [addr_plain, Nat.zero_add, World.cell?_alloc_mark]
    simpa using hu
  · intro v' w' hown' hgrow _
    refine h v' w' ?_ ?_
    · show w'.ownsRow B e 1 v' (Z ++ [z]).length ((Z ++ [z]).map numV)
      rw [List.map_append, List.length_append]
      exact hown'
    · exact Below.grown ((Below.refl B w).alloc hB _) hgrow (by simp; omega) (fun k hk => (hown.lt k hk).1)

/-- 'append([]int64{}, l...)' as one step of a region that draws its order. -/
theorem step_copy_nums {P : Program} {u : World} {ops : Array Oper} {o : Oper} {a : Act} {K : Act → World → Prop} {Q : Exit → Act → World → Prop} {E : Prop} (hgd : o.guard = none) (s x : Operand) (t : TypeId)
    (ho : o.op = .call { callee := .builtin .append, args := #[s, x], argTypes := #[t, t] }) (e : TypeId) (ht : P.underlying t = some (.slice e))
    (hinfo : (P.info? e).map (fun i => (i.zero, i.size, i.bytes)) = some (some (.int .i64 0), 1, 8))
    (b : Addr) (hs : a.eval s = .slice (some b) 0 0) (xv : Value) (Z : List Int) (hx : a.eval x = xv) (hat : IntsAt u xv Z)
    (h : ∀ va n c w', NumsAt w' va n Z → Below u.heap.size u w' → K (a.put o.dst (.slice va n c)) w') :
    if Region.wanted o (yielded ops a.tmps) = true then Oper.wp P o a u K Q else E := by
  have hw : Region.wanted o (yielded ops a.tmps) = true := by simp [Region.wanted, hgd]
  rw [if_pos hw]
  obtain ⟨i0, hi, hz0, hz1, hz2⟩ := info_parts hinfo
  rcases hat with ⟨rfl, rfl⟩ | ⟨ad, c, rfl, hlen, _, hcell⟩
  · have hrun : (Builtin.append_ #[t, t] o.type #[.slice (some b) 0 0, .slice none 0 0]).run P u = .ok (.slice (some b) 0 0) u := by
      simp [Builtin.append_, run_underlying ht, sizeOf, typeInfo, hi, Builtin.lenOf, Builtin.firstCells, storeCells]
    unfold Oper.wp
    simp [execOp, ho, resolve, invoke, builtin, hs, hx, hrun, Result.andThen]
    exact h (some b) 0 0 u (NumsAt.nil u _) (Below.refl _ _)
  · by_cases h0 : Z.length = 0
    · have hZ := List.eq_nil_of_length_eq_zero h0
      subst hZ
      have hrun : (Builtin.append_ #[t, t] o.type #[.slice (some b) 0 0, .slice (some ad) 0 c]).run P u = .ok (.slice (some b) 0 0) u := by
        simp [Builtin.append_, run_underlying ht, sizeOf, typeInfo, hi, Builtin.lenOf, Builtin.firstCells, storeCells, loadCells, loadCellsFrom]
      unfold Oper.wp
      simp [execOp, ho, resolve, invoke, builtin, hs, hx, hrun, Result.andThen]
      exact h (some b) 0 0 u (NumsAt.nil u _) (Below.refl _ _)
    · have hrun := run_append_grow (P := P) (w := u) t o.type e i0 (.int .i64 0) ht hi hz0 b 0 0 [] (by simp) (fun j v hj => by simp at hj) ad Z.length c (Z.map numV) (by rw [hz1]; simp) (fun j y hy => by
        rw [List.getElem?_map] at hy
        obtain ⟨z, hz, rfl⟩ := Option.map_eq_some_iff.1 hy
        obtain ⟨hj, rfl⟩ := List.getElem?_eq_some_iff.1 hz
        rw [hcell j hj, nth_is hj]; rfl) (by omega) (by omega) (by rw [hz2]; exact growslice_fits (by omega) (by omega))
      have hnum : NumsAt (u.drew.alloc (.cells (#[] ++ (Z.map numV).toArray ++ Builtin.zeroCells (Value.int .i64 0).cells (grownCap u (0 + Z.length) 0 e - (0 + Z.length))) e)) (some ⟨u.heap.size, 0, none⟩) Z.length Z := by
        refine ⟨rfl, fun hn => ⟨u.heap.size, 0, rfl, by simp, fun j hj => ?_⟩⟩
        have hm := World.cell?_alloc_mark u.drew (#[] ++ (Z.map numV).toArray ++ Builtin.zeroCells (Value.int .i64 0).cells (grownCap u (0 + Z.length) 0 e - (0 + Z.length))) e (0, 0) j
        rw [Nat.zero_add j]
        refine Eq.trans hm ?_
        rw [Array.getElem?_append_left (by simpa using hj)]
        simp [hj]
      have hb : Below u.heap.size u (u.drew.alloc (.cells (#[] ++ (Z.map numV).toArray ++ Builtin.zeroCells (Value.int .i64 0).cells (grownCap u (0 + Z.length) 0 e - (0 + Z.length))) e)) := ((Below.refl u.heap.size u).drew).alloc (Nat.le_refl _) _
      have hk := h _ _ (grownCap u (0 + Z.length) 0 e) _ hnum hb
      have e0 : (0 : Nat) + Z.length = Z.length := Nat.zero_add _
      unfold Oper.wp
      simp only [execOp, ho, resolve, invoke, builtin, List.map_toArray, List.map_cons, List.map_nil, hs, hx, Sem.run_bind, Sem.run_pure, Result.andThen_ok, hrun]
      rw [e0] at hk ⊢
      first | exact hk | exact Or.inl hk
/-- The same as a step of a walk. -/
theorem wpList_copy_nums {P : Program} (w : World) {ops : Array Oper} {rest : List Oper} {o : Oper} {a : Act} {Q : Exit → Act → World → Prop} (hgd : o.guard = none) (s x : Operand) (t : TypeId)
    (ho : o.op = .call { callee := .builtin .append, args := #[s, x], argTypes := #[t, t] }) (e : TypeId) (ht : P.underlying t = some (.slice e))
    (hinfo : (P.info? e).map (fun i => (i.zero, i.size, i.bytes)) = some (some (.int .i64 0), 1, 8))
    (g0 : Nat) (hs : a.eval s = .slice (some ⟨g0, 0, none⟩) 0 0) (hg0 : w.heap[g0]? = some (.cells #[] e (0, 0))) (hlt0 : g0 < w.heap.size)
    (xv : Value) (Z : List Int) (hx : a.eval x = xv) (hat : IntsAt w xv Z)
    (h : ∀ va n c w', NumsAt w' va n Z → Below g0 w w' → wpList P ops Q rest (a.put o.dst (.slice va n c)) w') : wpList P ops Q (o :: rest) a w := by
  refine wpList_copy_ints w hgd s x t ho e ht hinfo g0 hs hg0 hlt0 xv Z hx hat ?_
  intro g cap w' hg hlt hn hm hc hb
  exact h _ _ _ w' (CellsAt.nums hc hlt) hb
end Go.Proofs.Ytgncpiamokeohaa
