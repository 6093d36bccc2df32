/- Layer 14: slices of pairs of numbers: as they are read, and of the call's own. -/
import Derived.Test.YtgncpiamokeohaaNums
import Derived.Deep.AppendLies
import Derived.Maps.AppendAt
namespace Go.Proofs.Ytgncpiamokeohaa
open Go.RowKit (wrap64 intOf Below)
set_option linter.unusedVariables false
set_option linter.unusedSimpArgs false

/-- The slice at a, of n pairs, reads as E. -/
def PairsAt (W : World) (a : Option Addr) (n : Nat) (E : List (Int × Int)) : Prop :=
  E.length = n ∧ (0 < n → ∃ g off, a = some ⟨g, off, none⟩ ∧ g < W.heap.size ∧ ∀ i (h : i < E.length), W.cell? ⟨g, off + i * 2, none⟩ = some (.int .i64 E[i].1) ∧ W.cell? ⟨g, off + i * 2 + 1, none⟩ = some (.int .i64 E[i].2))
theorem PairsAt.since {W W' : World} {a : Option Addr} {n : Nat} {E : List (Int × Int)} (h : PairsAt W a n E) (hb : Below W.heap.size W W') : PairsAt W' a n E := by
  refine ⟨h.1, fun h0 => ?_⟩
  obtain ⟨g, off, e, hg, hc⟩ := h.2 h0
  exact ⟨g, off, e, Nat.lt_of_lt_of_le hg hb.size, fun i hi => ⟨(hb.cell (p := ⟨g, off + i * 2, none⟩) hg).trans (hc i hi).1, (hb.cell (p := ⟨g, off + i * 2 + 1, none⟩) hg).trans (hc i hi).2⟩⟩
theorem PairsAt.drewN {W : World} {a : Option Addr} {n : Nat} {E : List (Int × Int)} (h : PairsAt W a n E) (q : Nat) : PairsAt (W.drewN q) a n E := h.since ⟨rfl, rfl, rfl, Nat.le_refl _, fun _ _ => rfl⟩
/-- The first m pairs. -/
theorem PairsAt.cut {W : World} {a : Option Addr} {n m : Nat} {E : List (Int × Int)} (h : PairsAt W a n E) (hm : m ≤ n) : PairsAt W a m (E.take m) := by
  refine ⟨by rw [List.length_take, h.1]; omega, fun h0 => ?_⟩
  obtain ⟨g, off, e, hg, hc⟩ := h.2 (by omega)
  refine ⟨g, off, e, hg, fun i hi => ?_⟩
  rw [List.length_take] at hi
  rw [List.getElem_take]
  exact hc i (by omega)
def flatPr (l : List (Int × Int)) : List Value := l.flatMap fun x => [.int .i64 x.1, .int .i64 x.2]
theorem flatPr_len (l : List (Int × Int)) : (flatPr l).length = l.length * 2 := by
  induction l with
  | nil => rfl
  | cons x l ih => simp only [flatPr, List.flatMap_cons, List.length_append, List.length_cons, List.length_nil] at ih ⊢; omega
theorem flatPr_more (l : List (Int × Int)) (z : Int × Int) : flatPr (l ++ [z]) = flatPr l ++ [.int .i64 z.1, .int .i64 z.2] := by simp [flatPr]
theorem flatPr_app (l k : List (Int × Int)) : flatPr (l ++ k) = flatPr l ++ flatPr k := by simp [flatPr]
theorem flatPr_at : ∀ (l : List (Int × Int)) (i : Nat) (h : i < l.length), (flatPr l)[i * 2]? = some (.int .i64 l[i].1) ∧ (flatPr l)[i * 2 + 1]? = some (.int .i64 l[i].2)
  | x :: l, 0, _ => ⟨rfl, rfl⟩
  | x :: l, i + 1, h => by
    have ih := flatPr_at l i (by simpa using h)
    have e1 : (i + 1) * 2 = i * 2 + 2 := by omega
    refine ⟨?_, ?_⟩
    · rw [e1]; exact ih.1
    · rw [e1]; exact ih.2
/-- A slice of pairs of the call's own. -/
def OwnsPr (w : World) (B : Nat) (e : TypeId) (v : Value) (l : List (Int × Int)) : Prop := w.ownsRow B e 2 v l.length (flatPr l)
theorem OwnsPr.slice {w : World} {B : Nat} {e : TypeId} {v : Value} {l : List (Int × Int)} (h : OwnsPr w B e v l) : ∃ va vc, v = .slice va l.length vc := by
  rcases h.2 with ⟨e, h0⟩ | ⟨g, cap, cur, e, _⟩
  · exact ⟨none, 0, by rw [h0]; exact e⟩
  · exact ⟨_, _, e⟩
theorem OwnsPr.below {w w' : World} {B : Nat} {e : TypeId} {v : Value} {l : List (Int × Int)} (h : OwnsPr w B e v l) (hb : Below w.heap.size w w') : OwnsPr w' B e v l := by
  refine ⟨h.1, ?_⟩
  rcases h.2 with hn | ⟨g, cap, cur, rfl, hB, hg, rest⟩
  · exact .inl hn
  · refine .inr ⟨g, cap, cur, rfl, hB, ?_, rest⟩
    rw [hb.block g (Array.getElem?_eq_some_iff.1 hg).1]
    exact hg
theorem OwnsPr.mono {w : World} {B B' : Nat} {e : TypeId} {v : Value} {l : List (Int × Int)} (h : OwnsPr w B e v l) (hB : B' ≤ B) : OwnsPr w B' e v l := by
  refine ⟨h.1, ?_⟩
  rcases h.2 with hn | ⟨g, cap, cur, rfl, hg, rest⟩
  · exact .inl hn
  · exact .inr ⟨g, cap, cur, rfl, Nat.le_trans hB hg, rest⟩
theorem OwnsPr.read {w : World} {B : Nat} {e : TypeId} {va : Option Addr} {vn vc : Nat} {l : List (Int × Int)} (h : OwnsPr w B e (.slice va vn vc) l) : PairsAt w va vn l := by
  have hown : w.ownsRow B e 2 (.slice va vn vc) l.length (flatPr l) := h
  rcases h.2 with ⟨e1, h0⟩ | ⟨g, cap, cur, e1, hB, hh, _⟩
  · simp only [Value.slice.injEq] at e1
    refine ⟨by omega, fun hp => by omega⟩
  · simp only [Value.slice.injEq] at e1
    have hva := e1.1
    subst hva
    refine ⟨e1.2.1.symm, fun _ => ⟨g, 0, rfl, (Array.getElem?_eq_some_iff.1 hh).1, fun i hi => ?_⟩⟩
    obtain ⟨h1, h2⟩ := flatPr_at l i hi
    have c1 := World.ownsRow.cells hown rfl _ _ h1
    have c2 := World.ownsRow.cells hown rfl _ _ h2
    rw [addr_plain, Nat.zero_add] at c1 c2
    rw [Nat.zero_add]
    exact ⟨c1, c2⟩
/-- 'append(l, [2]int{..})'. -/
theorem wpList_append_pr {P : Program} (w : World) {ops : Array Oper} {rest : List Oper} {o : Oper} {a : Act} {Q : Exit → Act → World → Prop} (hgd : o.guard = none) (s x : Operand) (t : TypeId)
    (ho : o.op = .call { callee := .builtin .append, args := #[s, x], argTypes := #[t, t] }) (e : TypeId) (ht : P.underlying t = some (.slice e))
    (hinfo : (P.info? e).map (fun i => (i.zero, i.size, i.bytes)) = some (some (.agg #[.int .i64 0, .int .i64 0]), 2, 16))
    (B : Nat) (v : Value) (l : List (Int × Int)) (hs : a.eval s = v) (hown : OwnsPr w B e v l) (hB : B ≤ w.heap.size)
    (C : Array Value) (c g : Nat) (z : Int × Int) (hx : a.eval x = .slice (some ⟨g, 0, none⟩) 1 c) (hg : g = w.heap.size) (hC : C = #[.int .i64 z.1, .int .i64 z.2])
    (hlen : l.length ≤ 1000000)
    (h : ∀ va vn vc w', OwnsPr w' B e (.slice va vn vc) (l ++ [z]) → Below B w w' → wpList P ops Q rest (a.put o.dst (.slice va vn vc)) w') : wpList P ops Q (o :: rest) a (w.alloc (.cells C e)) := by
  obtain ⟨i0, hi, hz0, hz1, hz2⟩ := info_parts hinfo
  subst hC hg
  refine wpList_append_own _ hgd s x t ho B e i0 (.agg #[.int .i64 0, .int .i64 0]) 2 16 ht hi hz0 hz1 hz2 rfl (by decide) v l.length (flatPr l) hs (World.ownsRow.alloc hown _) ⟨w.heap.size, 0, none⟩ 1 c [.int .i64 z.1, .int .i64 z.2] hx rfl (fun j u hu => ?_) (by intro u hu; simp at hu; rcases hu with rfl | rfl <;> rfl) (by unfold maxLen; omega) (by omega) (by simp; omega) ?_
  · rw [addr_plain, Nat.zero_add, World.cell?_alloc_mark]
    simpa using hu
  · intro v' w' hown' hgrow _
    have h2 : OwnsPr w' B e v' (l ++ [z]) := by
      show w'.ownsRow B e 2 v' (l ++ [z]).length (flatPr (l ++ [z]))
      rw [flatPr_more, List.length_append]
      exact hown'
    obtain ⟨va, vc, rfl⟩ := h2.slice
    exact h va _ vc w' h2 (Below.grown ((Below.refl B w).alloc hB _) hgrow (by simp; omega) (fun k hk => (World.ownsRow.lt hown k hk).1))
/-- 'append(l, k...)': l the call's own, k whatever is read. -/
theorem wpList_append_prs {P : Program} (u : World) {ops : Array Oper} {rest : List Oper} {o : Oper} {a : Act} {Q : Exit → Act → World → Prop} (hgd : o.guard = none) (s x : Operand) (t : TypeId)
    (ho : o.op = .call { callee := .builtin .append, args := #[s, x], argTypes := #[t, t] }) (e : TypeId) (ht : P.underlying t = some (.slice e))
    (hinfo : (P.info? e).map (fun i => (i.zero, i.size, i.bytes)) = some (some (.agg #[.int .i64 0, .int .i64 0]), 2, 16))
    (B : Nat) (v : Value) (l : List (Int × Int)) (hs : a.eval s = v) (hown : OwnsPr u B e v l) (hB : B ≤ u.heap.size)
    (xa : Option Addr) (m c : Nat) (k : List (Int × Int)) (hx : a.eval x = .slice xa m c) (hnil : xa = none → c = 0) (hat : PairsAt u xa m k)
    (hlen : (l.length + m) * 16 ≤ 140737488355328)
    (h : ∀ va vn vc w', OwnsPr w' B e (.slice va vn vc) (l ++ k) → Below B u w' → wpList P ops Q rest (a.put o.dst (.slice va vn vc)) w') : wpList P ops Q (o :: rest) a u := by
  obtain ⟨i0, hi, hz0, hz1, hz2⟩ := info_parts hinfo
  have h1 := hat.1
  have hown0 : u.ownsRow B e 2 v l.length (flatPr l) := hown
  refine wpList_plain hgd ?_
  intro K' hK'
  cases xa with
  | none =>
    have hm : m = 0 := by
      by_cases h0 : 0 < m
      · obtain ⟨g, off, he, _⟩ := hat.2 h0; cases he
      · omega
    have hc : c = 0 := hnil rfl
    subst hm hc
    have h0 : k = [] := List.eq_nil_of_length_eq_zero h1
    subst h0
    have hrun := run_append_owned_none (P := P) (w := u) B t o.type e i0 2 ht hi v l.length (flatPr l) hown0
    obtain ⟨va, vc, rfl⟩ := hown.slice
    have hk := hK' _ _ (h va l.length vc u (by rw [List.append_nil]; exact hown) (Below.refl _ _))
    unfold Oper.wp
    simp only [execOp, ho, resolve, invoke, builtin, List.map_toArray, List.map_cons, List.map_nil, hs, hx, Sem.run_bind, Sem.run_pure, Result.andThen_ok, hrun]
    exact hk
  | some ad =>
    subst h1
    obtain ⟨v', w', hrun, r1, r2, _⟩ := run_append_own (P := P) u B t o.type e i0 (.agg #[.int .i64 0, .int .i64 0]) 2 16 ht hi hz0 hz1 hz2 rfl (by decide) v l.length (flatPr l) hown0 ad k.length c (flatPr k) (flatPr_len k) (fun j y hu => by
      obtain ⟨hj, rfl⟩ := List.getElem?_eq_some_iff.1 hu
      rw [flatPr_len] at hj
      have hi2 : j / 2 < k.length := by omega
      obtain ⟨g, off, he, _, hc⟩ := hat.2 (by omega)
      cases he
      obtain ⟨c0, c1⟩ := hc (j / 2) hi2
      obtain ⟨f0, f1⟩ := flatPr_at k (j / 2) hi2
      rw [addr_plain]
      rcases Nat.mod_two_eq_zero_or_one j with hj2 | hj2
      · have e1 : j = j / 2 * 2 := by omega
        have e2 : off + j = off + j / 2 * 2 := by omega
        rw [show off + j = off + j / 2 * 2 from e2, c0]
        have : (flatPr k)[j]? = some (.int .i64 k[j / 2].1) := by
          rw [show (flatPr k)[j]? = (flatPr k)[j / 2 * 2]? by rw [← e1]]
          exact f0
        exact (List.getElem?_eq_some_iff.1 this).2 ▸ rfl
      · have e2 : off + j = off + j / 2 * 2 + 1 := by omega
        rw [e2, c1]
        have : (flatPr k)[j]? = some (.int .i64 k[j / 2].2) := by
          have e1 : j = j / 2 * 2 + 1 := by omega
          rw [show (flatPr k)[j]? = (flatPr k)[j / 2 * 2 + 1]? by rw [← e1]]
          exact f1
        exact (List.getElem?_eq_some_iff.1 this).2 ▸ rfl) (fun y hu => by
          unfold flatPr at hu
          obtain ⟨z, _, hz⟩ := List.mem_flatMap.1 hu
          simp at hz
          rcases hz with rfl | rfl <;> rfl) (by unfold maxLen; omega) hlen hB
    have h2 : OwnsPr w' B e v' (l ++ k) := by
      show w'.ownsRow B e 2 v' (l ++ k).length (flatPr (l ++ k))
      rw [flatPr_app, List.length_append]
      exact r1
    obtain ⟨va, vc, rfl⟩ := h2.slice
    have hk := hK' _ _ (h va _ vc w' h2 (Below.grown (Below.refl B u) r2 hB (fun k hk => (World.ownsRow.lt hown k hk).1)))
    unfold Oper.wp
    simp only [execOp, ho, resolve, invoke, builtin, List.map_toArray, List.map_cons, List.map_nil, hs, hx, Sem.run_bind, Sem.run_pure, Result.andThen_ok, hrun]
    exact hk
end Go.Proofs.Ytgncpiamokeohaa
