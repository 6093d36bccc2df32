/- Layer 5: the walk's list, with a reader, at each type of what is listed (gen/rklist.py). -/
import Derived.Test.YtccajbgdlicbnaaDoorQT0
import Derived.Test.YtccajbgdlicbnaaDoorQT1

namespace Go.Proofs.YtccajbgdlicbnaaDoor
open Go.RowKit (wrap64 intOf Below)
set_option linter.unusedVariables false
set_option linter.unusedSimpArgs false

/-- A list of the call's own, and one more place of which the cells are known alone. -/
def RowR {α : Type} (T k : Nat) (Q : World → (Nat → Prop) → List Value → α → Prop) (w : World) (S : Nat → Prop) (v : Value) (xs : List α) (C : List Value) : Prop :=
  ∃ css : List (List Value), w.ownsRow 0 T k v (xs.length + 1) (css.flatten ++ C) ∧ css.length = xs.length ∧ (∀ cs ∈ css, cs.length = k) ∧ C.length = k ∧ (∀ b, v.ownBlock = some b → S b) ∧ xs.length ≤ 100000 ∧
    ∀ i (h : i < xs.length) (h' : i < css.length), Q w (fun b => S b ∧ v.ownBlock ≠ some b) css[i] xs[i]
theorem RowO.same {α : Type} {T k : Nat} {Q : World → (Nat → Prop) → List Value → α → Prop} {w : World} {S : Nat → Prop} {a : Option Addr} {n c : Nat} {xs : List α} (h : RowO T k Q w S (.slice a n c) xs) : n = xs.length := by
  obtain ⟨css, h1, _⟩ := h
  rcases h1.2 with ⟨he, h0⟩ | ⟨g, cap, cur, he, _⟩
  · cases he; exact h0.symm
  · cases he; rfl
theorem wpList_append_raw {P : Program} (w : World) {ops : Array Oper} {rest : List Oper} {o : Oper} {a : Act} {Q' : Exit → Act → World → Prop} (hgd : o.guard = none) (s x : Operand) (t : TypeId)
    (ho : o.op = .call { callee := .builtin .append, args := #[s, x], argTypes := #[t, t] }) (e : TypeId) (ht : P.underlying t = some (.slice e)) (z : Value) (k bytes : Nat)
    (hinfo : (P.info? e).map (fun i => (i.zero, i.size, i.bytes)) = some (some z, k, bytes)) (hzs : z.cells.size = k) (hk : 0 < k) (hby : bytes ≤ 1000)
    {α : Type} {Q : World → (Nat → Prop) → List Value → α → Prop} (hQ : Holds Q) (B : Nat) (v : Value) (xs : List α) (hs : a.eval s = v) (hrow : RowO e k Q w (From B) v xs) (hB : B ≤ w.heap.size)
    (C : Array Value) (c g : Nat) (hx : a.eval x = .slice (some ⟨g, 0, none⟩) 1 c) (hg : g = w.heap.size) (hC : C.size = k) (h1 : ∀ u ∈ C.toList, u.oneCell' = true) (hn : xs.length ≤ 100000)
    (h : ∀ g' cap w', RowR e k Q w' (From B) (.slice (some ⟨g', 0, none⟩) (xs.length + 1) cap) xs C.toList → Below B w w' → B ≤ g' → Off (fun b => v.ownBlock = some b) w w' → wpList P ops Q' rest (a.put o.dst (.slice (some ⟨g', 0, none⟩) (xs.length + 1) cap)) w') : wpList P ops Q' (o :: rest) a (w.alloc (.cells C e)) := by
  obtain ⟨i0, hi, hz0, hz1, hz2⟩ := info_parts hinfo
  subst hg
  obtain ⟨css, r1, r2, r3, r4, r5, r6⟩ := hrow
  have hown := ownsRow_base r1 (base' := B) (fun b hb => r4 b hb)
  refine wpList_append_lies _ hgd s x t ho B e i0 z k bytes ht hi hz0 hz1 hz2 hzs hk v xs.length css.flatten hs (World.ownsRow.alloc hown _) ⟨w.heap.size, 0, none⟩ 1 c C.toList hx (by simp [hC]) (World.news_of_block (heap_alloc_new w _)) h1 (by omega) (by unfold maxLen; omega) (Nat.le_trans (Nat.mul_le_mul (show xs.length + 1 ≤ 100001 by omega) hby) (by decide)) (by simp; omega) (w.heap.size + 1) (by simp) ?_
  intro g' cap w' hown' hgrow hat hlt
  have hkeep : ∀ b, b < w.heap.size → v.ownBlock ≠ some b → w'.heap[b]? = w.heap[b]? := fun b hb hne => (hgrow.block b (by simp; omega) (fun e => hne e.symm)).trans (heap_alloc_old w _ hb)
  have hne' : ∀ b, b < w.heap.size → v.ownBlock ≠ some b → g' ≠ b := fun b hb hne e => by
    subst e
    rcases hat with h' | h'
    · exact hne h'
    · omega
  have hgB : B ≤ g' := by
    rcases hat with h' | h'
    · exact r4 g' h'
    · omega
  refine h _ _ w' ⟨css, ownsRow_base hown' (base' := 0) (fun _ _ => Nat.zero_le _), r2, r3, by simpa using hC, ?_, hn, ?_⟩ (Below.grown ((Below.refl B w).alloc hB _) hgrow (by simp; omega) (fun k hk => r4 k hk)) hgB ?_
  · intro b hb
    simp only [Value.ownBlock, Option.some.injEq] at hb
    subst hb
    exact hgB
  · intro i hi1 hi2
    exact hQ _ _ _ _ _ _ (fun b hb hS => ⟨hkeep b hb hS.2, hS.1, by simp only [Value.ownBlock, ne_eq, Option.some.injEq]; exact hne' b hb hS.2⟩) (r6 i hi1 hi2)
  · exact (Off.alloc (Off.refl _ _) _).grown hgrow (fun k hk => .inl hk)
theorem RowR.win {α : Type} {T k : Nat} {Q : World → (Nat → Prop) → List Value → α → Prop} {w : World} {S : Nat → Prop} {g n c : Nat} {xs : List α} {C : List Value} (h : RowR T k Q w S (.slice (some ⟨g, 0, none⟩) n c) xs C) : WinAt w g (xs.length * k) C := by
  obtain ⟨css, r1, r2, r3, r4, r5, r6, r7⟩ := h
  have h1 : w.ownsRow 0 T k (.slice (some ⟨g, 0, none⟩) n c) (xs.length + 1) (css ++ [C]).flatten := by simpa using r1
  have hk : ∀ cs ∈ css ++ [C], cs.length = k := fun cs hcs => by
    rcases List.mem_append.1 hcs with h' | h'
    · exact r3 cs h'
    · simp only [List.mem_singleton] at h'; rw [h']; exact r4
  have := ownsRow_win h1 hk (g := g) rfl (i := css.length) (by simp)
  have h2 : (css ++ [C])[css.length]'(by simp) = C := by simp
  rw [h2, r2] at this
  exact this
/-- Its last place filled. -/
theorem RowR.fill {α : Type} {T k : Nat} {Q : World → (Nat → Prop) → List Value → α → Prop} (hQ : Holds Q) {r B : Nat} {w w' : World} {g n c : Nat} {xs : List α} {C cs : List Value} {x : α} (h : RowR T k Q w (From B) (.slice (some ⟨g, 0, none⟩) n c) xs C) (hw : RWin r g (xs.length * k) k w w') (hc : WinAt w' g (xs.length * k) cs) (hl : cs.length = k) (hq : Q w' (From w.heap.size) cs x) (hr : r < B) (hB : B ≤ w.heap.size) :
    RowO T k Q w' (From B) (.slice (some ⟨g, 0, none⟩) n c) (xs ++ [x]) := by
  obtain ⟨css, r1, r2, r3, r4, r5, r6, r7⟩ := h
  obtain ⟨cur, cur', T', e1, e2, e3, e4⟩ := hw.obj
  obtain ⟨cur2, T2, f1, f2⟩ := hc
  rw [e2] at f1
  cases f1
  have hgl : g < w.heap.size := (Array.getElem?_eq_some_iff.1 e1).1
  rcases r1.2 with ⟨he, _⟩ | ⟨g', cap, cur0, he, hg0, hg1, hc1, hc2, hc3, htake⟩
  · cases he
  · cases he
    rw [e1] at hg1
    cases hg1
    have hfl : css.flatten.length = xs.length * k := by rw [flatten_len css r3, r2]
    refine ⟨css ++ [cs], ⟨by rw [List.flatten_append, List.length_append, List.length_append, hfl]; simp [hl, Nat.succ_mul], .inr ⟨g, c, cur', by rw [List.length_append]; rfl, Nat.zero_le _, e2, by simpa using hc1, hc2, by rw [e3]; exact hc3, ?_⟩⟩, by simp [r2], ?_, r5, by simp; omega, ?_⟩
    · rw [List.length_append]
      apply List.ext_getElem?
      intro j
      have hsz : (xs.length + 1) * k ≤ cur.size := by rw [hc3]; exact Nat.mul_le_mul_right _ hc1
      have hnk : (xs.length + 1) * k = xs.length * k + k := Nat.succ_mul _ _
      rw [List.getElem?_take]
      simp only [List.length_singleton, List.flatten_append, List.flatten_cons, List.flatten_nil, List.append_nil]
      by_cases hj : j < xs.length * k
      · rw [if_pos (by omega), List.getElem?_append_left (by omega)]
        have h1 : (List.take ((xs.length + 1) * k) cur.toList)[j]? = (css.flatten ++ C)[j]? := by rw [htake]
        rw [List.getElem?_take, if_pos (by omega), List.getElem?_append_left (by omega)] at h1
        rw [← h1]
        simpa using e4 j (.inl hj)
      · by_cases hj2 : j < xs.length * k + k
        · rw [if_pos (by omega), List.getElem?_append_right (by omega), hfl, List.getElem?_eq_getElem (show j - xs.length * k < cs.length by omega)]
          have := f2 (j - xs.length * k) (by omega)
          rw [show xs.length * k + (j - xs.length * k) = j by omega] at this
          simpa using this
        · rw [if_neg (by omega), List.getElem?_eq_none (by rw [List.length_append, hfl, hl]; omega)]
    · intro c' hc'
      rcases List.mem_append.1 hc' with h' | h'
      · exact r3 c' h'
      · simp only [List.mem_singleton] at h'; rw [h']; exact hl
    · have hsame : ∀ b, b < w.heap.size → From B b → (Value.slice (some ⟨g, 0, none⟩) (xs.length + 1) c).ownBlock ≠ some b → w'.heap[b]? = w.heap[b]? := fun b hb hS hne => hw.block b hb (fun e => by subst e; have : B ≤ b := hS; omega) (fun e => hne (by rw [e]; rfl))
      intro i hi1 hi2
      by_cases hii : i < xs.length
      · have hic : i < css.length := by omega
        rw [List.getElem_append_left hic, List.getElem_append_left hii]
        exact hQ _ _ _ _ _ _ (fun b hb hS => ⟨hsame b hb hS.1 hS.2, hS⟩) (r7 i hii hic)
      · have hie : i = xs.length := by simp at hi1; omega
        subst hie
        rw [List.getElem_append_right (by omega), List.getElem_append_right (by omega)]
        simp only [r2, Nat.sub_self, List.getElem_cons_zero]
        exact hQ.wider hq (fun b hb hS => ⟨Nat.le_trans hB hS, fun e => by simp only [Value.ownBlock, Option.some.injEq] at e; have : w.heap.size ≤ b := hS; omega⟩)
theorem rinfo_int : (Tryd.prog.info? 3).map (fun i => (i.zero, i.size, i.bytes)) = some (some (.int .i64 0), 1, 8) := by kernel_rfl
theorem rinfo_sig : (Tryd.prog.info? 41).map (fun i => (i.zero, i.size, i.bytes)) = some (some (.agg #[.slice none 0 0, .int .i64 0]), 2, 32) := by kernel_rfl
theorem rinfo_cls : (Tryd.prog.info? 43).map (fun i => (i.zero, i.size, i.bytes)) = some (some (.agg #[.slice none 0 0, .slice none 0 0]), 2, 48) := by kernel_rfl
theorem rinfo_fun : (Tryd.prog.info? 34).map (fun i => (i.zero, i.size, i.bytes)) = some (some (.agg #[.int .i64 0, .slice none 0 0]), 2, 32) := by kernel_rfl
theorem rinfo_block : (Tryd.prog.info? 48).map (fun i => (i.zero, i.size, i.bytes)) = some (some (.agg #[.slice none 0 0, .slice none 0 0, .int .i64 0, .int .i64 0, .int .i64 0, .int .i64 0, .slice none 0 0, .slice none 0 0]), 8, 128) := by kernel_rfl
theorem rinfo_op : (Tryd.prog.info? 50).map (fun i => (i.zero, i.size, i.bytes)) = some (some (.agg #[.int .i64 0, .int .i64 0, .int .i64 0, .int .i64 0, .int .i64 0, .string ⟨#[]⟩, .slice none 0 0, .bool false]), 8, 88) := by kernel_rfl
end Go.Proofs.YtccajbgdlicbnaaDoor
