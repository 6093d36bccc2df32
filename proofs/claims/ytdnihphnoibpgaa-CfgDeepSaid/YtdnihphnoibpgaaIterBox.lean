/- A list of numbers that the call makes, in a box of its own, in the rounds of a range over a function: one more, and what else stands. Nothing of the program is named here. -/
import Derived.Test.YtdnihphnoibpgaaNumsMore
import Derived.Test.YtdnihphnoibpgaaOff
import Derived.RangeFuncBox
import Derived.RangeFuncNested
import Derived.OwnWalkIn
namespace Go.Proofs.Ytdnihphnoibpgaa
open Go.RowKit
set_option linter.unusedVariables false
theorem OwnsI.grownRow {W W' : World} {B : Nat} {e : TypeId} {v : Value} {Z : List Int} {row : Option Nat} (h : OwnsI W B e v Z) (hg : W.grownBy W' row) (hr : ∀ r, row = some r → ∃ o : Obj, W.heap[r]? = some o ∧ o.isCells = false) : OwnsI W' B e v Z := by
  refine World.ownsRow.kept h hg ?_
  rcases h.2 with ⟨he, _⟩ | ⟨g, cap, cur, he, _, hgb, _⟩
  · exact .inl (by rw [he]; rfl)
  · refine .inr fun e' => ?_
    obtain ⟨o, ho, hc⟩ := hr g (by rw [← e', he]; rfl)
    rw [hgb] at ho; cases ho; cases hc
theorem Boxed.grownRow {W W' : World} {B : Nat} {t : TypeId} {v : Value} {row : Option Nat} (h : Boxed W B t v) (hg : W.grownBy W' row) (hr : ∀ r, row = some r → ∃ o : Obj, W.heap[r]? = some o ∧ o.isCells = false) : Boxed W' B t v := by
  refine h.kept hg fun e => ?_
  obtain ⟨o, ho, hc⟩ := hr B e.symm
  have h' : W.heap[B]? = _ := h
  rw [h'] at ho; cases ho; cases hc
theorem cells_grownRow {W W' : World} {B : Nat} {C : Array Value} {t : TypeId} {m : Nat × Nat} {row : Option Nat} (h : W.heap[B]? = some (.cells C t m)) (hg : W.grownBy W' row) (hr : ∀ r, row = some r → ∃ o : Obj, W.heap[r]? = some o ∧ o.isCells = false) : W'.heap[B]? = some (.cells C t m) := by
  refine (hg.block B (Array.getElem?_eq_some_iff.1 h).1 fun e => ?_).trans h
  obtain ⟨o, ho, hc⟩ := hr B e.symm
  rw [h] at ho; cases ho; cases hc
theorem KeepsOthers.of_off {X : Nat → Prop} {W W' : World} (h : Off X W W') (hX : ∀ i, X i → ∀ o, W.heap[i]? = some o → o.isCells = true) : KeepsOthers W W' :=
  ⟨h.size, fun k o hk ho => by
    by_cases hx : X k
    · rw [hX k hx o hk] at ho; cases ho
    · exact (h.block k (Array.getElem?_eq_some_iff.1 hk).1 hx).trans hk⟩
theorem OwnsI.isCells {W : World} {B : Nat} {e : TypeId} {v : Value} {Z : List Int} (h : OwnsI W B e v Z) {i : Nat} (hi : v.ownBlock = some i) {o : Obj} (ho : W.heap[i]? = some o) : o.isCells = true := by
  rcases h.2 with ⟨he, _⟩ | ⟨g, cap, cur, he, _, hgb, _⟩
  · subst he; simp [Value.ownBlock] at hi
  · subst he
    obtain rfl : g = i := by simpa [Value.ownBlock] using hi
    rw [hgb] at ho; cases ho; rfl
/-- Only the box B and the list's own array turn. -/
def PushX (B : Nat) (v : Value) (i : Nat) : Prop := i = B ∨ v.ownBlock = some i
/-- A number behind the others, in a list in a box. -/
theorem push_box {W U w1 : World} {B B0 : Nat} {t e : TypeId} {v v' : Value} {Z : List Int} {z : Int} (hbx : Boxed W B t v) (hown : OwnsI W B0 e v Z) (hBB : B < B0) (hU : Below W.heap.size W U) (ho : OwnsI w1 B0 e v' (Z ++ [z])) (hg : U.grownBy w1 v.ownBlock) :
    Boxed w1 B t v ∧ Boxed (w1.setCell ⟨B, 0, none⟩ v') B t v' ∧ OwnsI (w1.setCell ⟨B, 0, none⟩ v') B0 e v' (Z ++ [z]) ∧ KeepsOthers W (w1.setCell ⟨B, 0, none⟩ v') ∧ Off (PushX B v) W (w1.setCell ⟨B, 0, none⟩ v') := by
  have hlt : B < W.heap.size := hbx.lt
  have hoff1 : Off (PushX B v) W w1 := (Off.since hU).grown hg fun k hk => .inl (.inr hk)
  have hneq : v.ownBlock ≠ some B := fun e => by have := (hown.lt B e).1; omega
  have hbU : Boxed U B t v := (hU.block B hlt).trans hbx
  have hb1 : Boxed w1 B t v := hbU.kept hg (fun e => hneq e.symm)
  have hoff : Off (PushX B v) W (w1.setCell ⟨B, 0, none⟩ v') := hoff1.setCell (.inl (.inl rfl)) v'
  refine ⟨hb1, hb1.set v', ho.setCell _ _ hBB, KeepsOthers.of_off hoff fun i hi o hio => ?_, hoff⟩
  rcases hi with rfl | hi
  · have h' : W.heap[i]? = _ := hbx
    rw [h'] at hio; cases hio; rfl
  · exact hown.isCells hi hio
theorem wpListIn_append_num {F : Fence} {n : Nat} {P : Program} (w : World) {ops : Array Oper} {rest : List Oper} {o : Oper} {a : Act} {Q : Exit → Act → World → Prop} (hgd : o.guard = none) (s x : Operand) (t : TypeId)
    (ho : o.op = .call { callee := .builtin .append, args := #[s, x], argTypes := #[t, t] }) (e : TypeId) (ht : P.underlying t = some (.slice e))
    (hinfo : (P.info? e).map (fun i => (i.zero, i.size, i.bytes)) = some (some (.int .i64 0), 1, 8))
    (B : Nat) (v : Value) (Z : List Int) (hs : a.eval s = v) (hown : OwnsI w B e v Z) (hB : B ≤ w.heap.size)
    (C : Array Value) (c g : Nat) (z : Int) (hx : a.eval x = .slice (some ⟨g, 0, none⟩) 1 c) (hg : g = w.heap.size) (hC : C = #[.int .i64 z])
    (hlen : (Z.length + 1) * 8 ≤ 140737488355328)
    (h : ∀ va vn vc w', OwnsI w' B e (.slice va vn vc) (Z ++ [z]) → (w.alloc (.cells C e)).grownBy w' v.ownBlock → wpListIn F n P ops Q rest (a.put o.dst (.slice va vn vc)) w') : wpListIn F n P ops Q (o :: rest) a (w.alloc (.cells C e)) := by
  obtain ⟨i0, hi, hz0, hz1, hz2⟩ := info_parts hinfo
  subst hC hg
  refine wpListIn_append_own _ hgd s x t ho B e i0 (.int .i64 0) 1 8 ht hi hz0 hz1 hz2 rfl (by decide) v Z.length (Z.map numV) hs (World.ownsRow.alloc hown _) ⟨w.heap.size, 0, none⟩ 1 c [.int .i64 z] hx rfl (fun j u hu => ?_) (by intro u hu; simp at hu; subst hu; rfl) (by unfold maxLen; omega) hlen (by simp; omega) ?_
  · rw [addr_plain, Nat.zero_add, World.cell?_alloc_mark]
    simpa using hu
  · intro v' w' hown' hgrow _
    have hown2 : OwnsI w' B e v' (Z ++ [z]) := by
      show w'.ownsRow B e 1 v' (Z ++ [z]).length ((Z ++ [z]).map numV)
      rw [List.map_append, List.length_append]
      exact hown'
    obtain ⟨va, vn, vc, rfl, _⟩ := hown2.nums
    exact h va vn vc w' hown2 hgrow
end Go.Proofs.Ytdnihphnoibpgaa
