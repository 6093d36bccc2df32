/- Layer 7: package cfg's Ahead: which blocks go to each block; the document's Ahead. -/
import Derived.Test.YtgnfinojnmkkkaaQT0
import Derived.Test.YtgnfinojnmkkkaaQT1

namespace Go.Proofs.Ytgnfinojnmkkkaa
open Go.RowKit (wrap64 intOf Below)
set_option linter.unusedVariables false
set_option linter.unusedSimpArgs false

/-- 'append(l, z)' on a row of the call's own: what was turned, and where its array then lies. -/
theorem wpList_append_numA {P : Program} (w : World) {ops : Array Oper} {rest : List Oper} {o : Oper} {a : Act} {Q : Exit → Act → World → Prop} (hgd : o.guard = none) (s x : Operand) (t : TypeId)
    (ho : o.op = .call { callee := .builtin .append, args := #[s, x], argTypes := #[t, t] }) (e : TypeId) (ht : P.underlying t = some (.slice e))
    (hinfo : (P.info? e).map (fun i => (i.zero, i.size, i.bytes)) = some (some (.int .i64 0), 1, 8))
    (B : Nat) (v : Value) (Z : List Int) (hs : a.eval s = v) (hown : OwnsI w B e v Z) (hB : B ≤ w.heap.size)
    (C : Array Value) (c g : Nat) (z : Int) (hx : a.eval x = .slice (some ⟨g, 0, none⟩) 1 c) (hg : g = w.heap.size) (hC : C = #[.int .i64 z])
    (hlen : (Z.length + 1) * 8 ≤ 140737488355328)
    (h : ∀ va vn vc w', OwnsI w' B e (.slice va vn vc) (Z ++ [z]) → (w.alloc (.cells C e)).grownBy w' v.ownBlock → (∀ k, (Value.slice va vn vc).ownBlock = some k → v.ownBlock = some k ∨ w.heap.size ≤ k) → wpList P ops Q rest (a.put o.dst (.slice va vn vc)) w') : wpList P ops Q (o :: rest) a (w.alloc (.cells C e)) := by
  obtain ⟨i0, hi, hz0, hz1, hz2⟩ := info_parts hinfo
  subst hC hg
  refine wpList_append_own_at _ hgd s x t ho B e i0 (.int .i64 0) 1 8 ht hi hz0 hz1 hz2 rfl (by decide) v Z.length (Z.map numV) hs (World.ownsRow.alloc hown _) ⟨w.heap.size, 0, none⟩ 1 c [.int .i64 z] hx rfl (fun j u hu => ?_) (by intro u hu; simp at hu; subst hu; rfl) (by unfold maxLen; omega) hlen (by simp; omega) ?_
  · rw [addr_plain, Nat.zero_add, World.cell?_alloc_mark]
    simpa using hu
  · intro v' w' hown' hgrow _ hwh
    have hown2 : OwnsI w' B e v' (Z ++ [z]) := by
      show w'.ownsRow B e 1 v' (Z ++ [z]).length ((Z ++ [z]).map numV)
      rw [List.map_append, List.length_append]
      exact hown'
    obtain ⟨va, vn, vc, rfl, _⟩ := hown2.nums
    exact h va vn vc w' hown2 hgrow (fun k hk => by
      rcases hwh with e' | e'
      · exact .inl (e' ▸ hk)
      · rw [e'] at hk; cases hk; simp)
/-- What is read stays as it was where a row has grown. -/
theorem NumsAt.off {w w' : World} {a : Option Addr} {n : Nat} {Z : List Int} {X : Nat → Prop} (h : NumsAt w a n Z) (hb : Off X w w') (hx : ∀ g off, a = some ⟨g, off, none⟩ → 0 < n → ¬ X g) : NumsAt w' a n Z := by
  refine ⟨h.1, fun h0 => ?_⟩
  obtain ⟨g, off, rfl, hg, hc⟩ := h.2 h0
  exact ⟨g, off, rfl, Nat.lt_of_lt_of_le hg hb.size, fun j hj => (hb.cell (p := ⟨g, off + j, none⟩) hg (hx g off rfl h0)).trans (hc j hj)⟩
/-- A row that is read, and none of the rows that grow. -/
def Aside (ya : Option Addr) (yn : Nat) (b : Nat) (vs : List Value) : Prop := ∀ g off, ya = some ⟨g, off, none⟩ → 0 < yn → g ≠ b ∧ ∀ i (h : i < vs.length), vs[i].ownBlock ≠ some g
end Go.Proofs.Ytgnfinojnmkkkaa
