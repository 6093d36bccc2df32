/- 'append' of a struct to a row of the call's own, as a step of a region that draws its order. Nothing of the program is named here. -/
import Derived.Test.YtdmlogpaenbblaaDoorQT0

namespace Go.Proofs.YtdmlogpaenbblaaDoor
open Go.RowKit (wrap64 intOf Below)
set_option linter.unusedVariables false

theorem step_append_elem {P : Program} (w : World) {ops : Array Oper} {o : Oper} {a : Act} {K : Act → World → Prop} {Q' : Exit → Act → World → Prop} {E : Prop} (hgd : o.guard = none) (s x : Operand) (t : TypeId)
    (ho : o.op = .call { callee := .builtin .append, args := #[s, x], argTypes := #[t, t] }) (e : TypeId) (ht : P.underlying t = some (.slice e)) (z : Value) (k bytes : Nat)
    (hinfo : (P.info? e).map (fun i => (i.zero, i.size, i.bytes)) = some (some z, k, bytes)) (hzs : z.cells.size = k) (hk : 0 < k) (hby : bytes ≤ 1000)
    {α : Type} {Q : World → (Nat → Prop) → List Value → α → Prop} (hQ : Holds Q) (B : Nat) (v : Value) (xs : List α) (hs : a.eval s = v) (hrow : RowO e k Q w (From B) v xs) (hB : B ≤ w.heap.size)
    (C : Array Value) (c g : Nat) (hx : a.eval x = .slice (some ⟨g, 0, none⟩) 1 c) (hg : g = w.heap.size) (hC : C.size = k) (h1 : ∀ u ∈ C.toList, u.oneCell' = true)
    (y : α) (B' : Nat) (hy : Q w (From B') C.toList y) (hBB : B ≤ B') (hfar : ∀ b, v.ownBlock = some b → b < B') (hn : xs.length ≤ 100000)
    (h : ∀ va vn vc w', RowO e k Q w' (From B) (.slice va vn vc) (xs ++ [y]) → Below B w w' → K (a.put o.dst (.slice va vn vc)) w') : if Region.wanted o (yielded ops a.tmps) = true then Oper.wp P o a (w.alloc (.cells C e)) K Q' else E := by
  obtain ⟨i0, hi, hz0, hz1, hz2⟩ := info_parts hinfo
  subst hg
  have hrow' := hrow
  obtain ⟨css, r1, r2, r3, r4, r5, r6⟩ := hrow
  have hown := ownsRow_base r1 (base' := B) (fun b hb => r4 b hb)
  refine step_append_lies _ hgd s x t ho B e i0 z k bytes ht hi hz0 hz1 hz2 hzs hk v xs.length css.flatten hs (World.ownsRow.alloc hown _) ⟨w.heap.size, 0, none⟩ 1 c C.toList hx (by simp [hC]) (World.news_of_block (heap_alloc_new w _)) h1 (by omega) (by unfold maxLen; omega) (Nat.le_trans (Nat.mul_le_mul (show xs.length + 1 ≤ 100001 by omega) hby) (by decide)) (by simp; omega) (w.heap.size + 1) (by simp) ?_
  intro g' cap w' hown' hgrow hat hlt
  have hkeep : ∀ b, b < w.heap.size → v.ownBlock ≠ some b → w'.heap[b]? = w.heap[b]? := fun b hb hne => (hgrow.block b (by simp; omega) (fun e => hne e.symm)).trans (heap_alloc_old w _ hb)
  have hne' : ∀ b, b < w.heap.size → v.ownBlock ≠ some b → g' ≠ b := fun b hb hne e => by
    subst e
    rcases hat with h' | h'
    · exact hne h'
    · omega
  have hgB : B ≤ g' := by
    rcases hat with h' | h'
    · exact r4 g' h'
    · omega
  refine h _ _ _ w' ⟨css ++ [C.toList], ?_, by simp [r2], ?_, ?_, by simp; omega, ?_⟩ ?_
  · rw [List.flatten_append, List.length_append]
    simpa using ownsRow_base hown' (base' := 0) (fun _ _ => Nat.zero_le _)
  · intro cs hcs
    rcases List.mem_append.1 hcs with h' | h'
    · exact r3 cs h'
    · simp only [List.mem_singleton] at h'; subst h'; simpa using hC
  · intro b hb
    simp only [Value.ownBlock, Option.some.injEq] at hb
    subst hb
    exact hgB
  · intro i hi1 hi2
    by_cases hii : i < xs.length
    · have hic : i < css.length := by omega
      rw [List.getElem_append_left hic, List.getElem_append_left hii]
      exact hQ _ _ _ _ _ _ (fun b hb hS => ⟨hkeep b hb hS.2, hS.1, by simp only [Value.ownBlock, ne_eq, Option.some.injEq]; exact hne' b hb hS.2⟩) (r6 i hii hic)
    · have hie : i = xs.length := by simp at hi1; omega
      subst hie
      rw [List.getElem_append_right (by omega), List.getElem_append_right (by omega)]
      simp only [r2, Nat.sub_self, List.getElem_cons_zero]
      refine hQ _ _ _ _ _ _ (fun b hb hS => ?_) hy
      have hnb : v.ownBlock ≠ some b := fun e => by have := hfar b e; have h2 : B' ≤ b := hS; omega
      exact ⟨hkeep b hb hnb, Nat.le_trans hBB hS, by simp only [Value.ownBlock, ne_eq, Option.some.injEq]; exact hne' b hb hnb⟩
  · exact Below.grown ((Below.refl B w).alloc hB _) hgrow (by simp; omega) (fun k hk => r4 k hk)
end Go.Proofs.YtdmlogpaenbblaaDoor
