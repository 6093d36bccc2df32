/- Layer 5: the document's Own: the new program's block, and what it keeps. -/
import Derived.Test.YtfnkmigcklmghaaDoorQCodeCd
import Derived.Test.YtfnkmigcklmghaaDoorQCodeQf
import Derived.Test.YtfnkmigcklmghaaDoorQCodeVb
import Derived.Test.YtfnkmigcklmghaaDoorQT6
import Derived.Deep.RegionLaw
import Derived.Deep.DeepCutAuto
namespace Go.Proofs.YtfnkmigcklmghaaDoor
open Go.RowKit (wrap64 intOf Below)
set_option linter.unusedVariables false
set_option linter.unusedSimpArgs false

/-- A block that the call is at work on, all that was there before kept. -/
structure OSt (w : World) (T O : Nat) (C : Array Value) (u : World) : Prop where
  e : u.heap[O]? = some (.cells C T (0, 0))
  bel : Below w.heap.size w u
  hO : w.heap.size ≤ O
section
variable {w : World} {T O : Nat} {C : Array Value} {u u' : World}
theorem OSt.elt (h : OSt w T O C u) : O < u.heap.size := (Array.getElem?_eq_some_iff.1 h.e).1
theorem OSt.ec (h : OSt w T O C u) (j : Nat) : u.cell? ⟨O, j, none⟩ = C[j]? := by simp [World.cell?, h.e]
theorem OSt.ef (h : OSt w T O C u) (j : Nat) : u.frozen? ⟨O, j, none⟩ = false := by simp [World.frozen?, h.e]
theorem OSt.set (h : OSt w T O C u) (j : Nat) (v : Value) : OSt w T O (C.setIfInBounds j v) (u.setCell ⟨O, j, none⟩ v) :=
  ⟨heap_setCell_same u O j _ _ v h.e, h.bel.setCell h.hO _, h.hO⟩
theorem OSt.news {B : Nat} (h : OSt w T O C u) (hb : Below B u u') (hO : O < B) : OSt w T O C u' :=
  ⟨(hb.block O hO).trans h.e, h.bel.trans (hb.mono (Nat.le_trans h.hO (Nat.le_of_lt hO))), h.hO⟩
theorem OSt.past (h : OSt w T O C u) (hb : Below u.heap.size u u') : OSt w T O C u' := h.news hb h.elt
end

theorem alloc_at {w : World} {C : Array Value} {t : TypeId} {n : Nat} (h : n = w.heap.size) : (w.alloc (.cells C t)).heap[n]? = some (.cells C t (0, 0)) := by subst h; exact heap_alloc_new w _
theorem Below.cell_setCell_ {u : World} {p a : Addr} {v : Value} (h : a.block ≠ p.block) : (u.setCell p v).cell? a = u.cell? a := World.cell?_setCell_far u p a v (fun e => h e.symm)
/-- Blocks from lo on, below hi. -/
def Amid_ (lo hi : Nat) (k : Nat) : Prop := lo ≤ k ∧ k < hi
theorem RowO.stored_ {α : Type} {T k : Nat} {Q : World → (Nat → Prop) → List Value → α → Prop} (hQ : Holds Q) {u : World} {B X : Nat} {v : Value} {xs : List α} (h : RowO T k Q u (From B) v xs) (j : Nat) (z : Value) (hX : X < B) : RowO T k Q (u.setCell ⟨X, j, Option.none⟩ z) (From B) v xs :=
  h.holds hQ (fun b hlt hs => ⟨Below.heap_setCell _ _ _ _ (fun he => by have : B ≤ b := hs; simp only at he; omega), hs⟩)
/-- A block's struct, stored into the block that was made for it. -/
theorem block_made {W v : World} {T X Y : Nat} {c0 c1 c2 c3 c4 c5 c6 c7 : Value} (hs : OSt W T Y #[c0, c1, c2, c3, c4, c5, c6, c7] v) {q : Value} {ps : List Int} {es : List Value} {e : EndD} (hn : NumsO v (fun b => X < b ∧ b ≠ Y) q ps) (he : EndO v (fun b => X < b ∧ b ≠ Y) es e) (v0 v1 v2 v3 v4 v5 v6 v7 : Value) :
    OSt W T Y #[v0, v1, v2, v3, v4, v5, v6, v7] ((((((((v.setCell ⟨Y, 0, none⟩ v0).setCell ⟨Y, 1, none⟩ v1).setCell ⟨Y, 2, none⟩ v2).setCell ⟨Y, 3, none⟩ v3).setCell ⟨Y, 4, none⟩ v4).setCell ⟨Y, 5, none⟩ v5).setCell ⟨Y, 6, none⟩ v6).setCell ⟨Y, 7, none⟩ v7) ∧
    NumsO ((((((((v.setCell ⟨Y, 0, none⟩ v0).setCell ⟨Y, 1, none⟩ v1).setCell ⟨Y, 2, none⟩ v2).setCell ⟨Y, 3, none⟩ v3).setCell ⟨Y, 4, none⟩ v4).setCell ⟨Y, 5, none⟩ v5).setCell ⟨Y, 6, none⟩ v6).setCell ⟨Y, 7, none⟩ v7) (fun b => X < b ∧ b ≠ Y) q ps ∧
    EndO ((((((((v.setCell ⟨Y, 0, none⟩ v0).setCell ⟨Y, 1, none⟩ v1).setCell ⟨Y, 2, none⟩ v2).setCell ⟨Y, 3, none⟩ v3).setCell ⟨Y, 4, none⟩ v4).setCell ⟨Y, 5, none⟩ v5).setCell ⟨Y, 6, none⟩ v6).setCell ⟨Y, 7, none⟩ v7) (fun b => X < b ∧ b ≠ Y) es e := by
  have ho := ((((((((Off.refl (fun k => k = Y) v).setCell (p := ⟨Y, 0, none⟩) (.inl rfl) v0).setCell (p := ⟨Y, 1, none⟩) (.inl rfl) v1).setCell (p := ⟨Y, 2, none⟩) (.inl rfl) v2).setCell (p := ⟨Y, 3, none⟩) (.inl rfl) v3).setCell (p := ⟨Y, 4, none⟩) (.inl rfl) v4).setCell (p := ⟨Y, 5, none⟩) (.inl rfl) v5).setCell (p := ⟨Y, 6, none⟩) (.inl rfl) v6).setCell (p := ⟨Y, 7, none⟩) (.inl rfl) v7
  refine ⟨?_, hn.off ho (fun b hb hx => hb.2 hx), EndO.holds.off he ho (fun b hb hx => hb.2 hx)⟩
  have h := (((((((hs.set 0 v0).set 1 v1).set 2 v2).set 3 v3).set 4 v4).set 5 v5).set 6 v6).set 7 v7
  simp only [List.setIfInBounds_toArray, List.set_cons_zero, List.set_cons_succ] at h
  exact h
/-- 'append' of a struct as a step of a region: all blocks but the row's stand. -/
theorem step_append_elem2 {P : Program} (w : World) {ops : Array Oper} {o : Oper} {a : Act} {K : Act → World → Prop} {Q' : Exit → Act → World → Prop} {E : Prop} (hgd : o.guard = none) (s x : Operand) (t : TypeId)
    (ho : o.op = .call { callee := .builtin .append, args := #[s, x], argTypes := #[t, t] }) (e : TypeId) (ht : P.underlying t = some (.slice e)) (z : Value) (k bytes : Nat)
    (hinfo : (P.info? e).map (fun i => (i.zero, i.size, i.bytes)) = some (some z, k, bytes)) (hzs : z.cells.size = k) (hk : 0 < k) (hby : bytes ≤ 1000)
    {α : Type} {Q : World → (Nat → Prop) → List Value → α → Prop} (hQ : Holds Q) (B : Nat) (v : Value) (xs : List α) (hs : a.eval s = v) (hrow : RowO e k Q w (From B) v xs) (hB : B ≤ w.heap.size)
    (C : Array Value) (c g : Nat) (hx : a.eval x = .slice (some ⟨g, 0, none⟩) 1 c) (hg : g = w.heap.size) (hC : C.size = k) (h1 : ∀ u ∈ C.toList, u.oneCell' = true)
    (y : α) (B' : Nat) (hy : Q w (From B') C.toList y) (hBB : B ≤ B') (hfar : ∀ b, v.ownBlock = some b → b < B') (hn : xs.length ≤ 100000)
    (h : ∀ va vn vc w', RowO e k Q w' (From B) (.slice va vn vc) (xs ++ [y]) → Below B w w' → (∀ b, b < w.heap.size → v.ownBlock ≠ some b → w'.heap[b]? = w.heap[b]?) → K (a.put o.dst (.slice va vn vc)) w') : if Region.wanted o (yielded ops a.tmps) = true then Oper.wp P o a (w.alloc (.cells C e)) K Q' else E := by
  obtain ⟨i0, hi, hz0, hz1, hz2⟩ := info_parts hinfo
  subst hg
  have hrow' := hrow
  obtain ⟨css, r1, r2, r3, r4, r5, r6⟩ := hrow
  have hown := ownsRow_base r1 (base' := B) (fun b hb => r4 b hb)
  refine step_append_lies _ hgd s x t ho B e i0 z k bytes ht hi hz0 hz1 hz2 hzs hk v xs.length css.flatten hs (World.ownsRow.alloc hown _) ⟨w.heap.size, 0, none⟩ 1 c C.toList hx (by simp [hC]) (World.news_of_block (heap_alloc_new w _)) h1 (by omega) (by unfold maxLen; omega) (Nat.le_trans (Nat.mul_le_mul (show xs.length + 1 ≤ 100001 by omega) hby) (by decide)) (by simp; omega) (w.heap.size + 1) (by simp) ?_
  intro g' cap w' hown' hgrow hat hlt
  have hkeep : ∀ b, b < w.heap.size → v.ownBlock ≠ some b → w'.heap[b]? = w.heap[b]? := fun b hb hne => (hgrow.block b (by simp; omega) (fun e => hne e.symm)).trans (heap_alloc_old w _ hb)
  have hne' : ∀ b, b < w.heap.size → v.ownBlock ≠ some b → g' ≠ b := fun b hb hne e => by
    subst e
    rcases hat with h' | h'
    · exact hne h'
    · omega
  have hgB : B ≤ g' := by
    rcases hat with h' | h'
    · exact r4 g' h'
    · omega
  refine h _ _ _ w' ⟨css ++ [C.toList], ?_, by simp [r2], ?_, ?_, by simp; omega, ?_⟩ ?_ hkeep
  · rw [List.flatten_append, List.length_append]
    simpa using ownsRow_base hown' (base' := 0) (fun _ _ => Nat.zero_le _)
  · intro cs hcs
    rcases List.mem_append.1 hcs with h' | h'
    · exact r3 cs h'
    · simp only [List.mem_singleton] at h'; subst h'; simpa using hC
  · intro b hb
    simp only [Value.ownBlock, Option.some.injEq] at hb
    subst hb
    exact hgB
  · intro i hi1 hi2
    by_cases hii : i < xs.length
    · have hic : i < css.length := by omega
      rw [List.getElem_append_left hic, List.getElem_append_left hii]
      exact hQ _ _ _ _ _ _ (fun b hb hS => ⟨hkeep b hb hS.2, hS.1, by simp only [Value.ownBlock, ne_eq, Option.some.injEq]; exact hne' b hb hS.2⟩) (r6 i hii hic)
    · have hie : i = xs.length := by simp at hi1; omega
      subst hie
      rw [List.getElem_append_right (by omega), List.getElem_append_right (by omega)]
      simp only [r2, Nat.sub_self, List.getElem_cons_zero]
      refine hQ _ _ _ _ _ _ (fun b hb hS => ?_) hy
      have hnb : v.ownBlock ≠ some b := fun e => by have := hfar b e; have h2 : B' ≤ b := hS; omega
      exact ⟨hkeep b hb hnb, Nat.le_trans hBB hS, by simp only [Value.ownBlock, ne_eq, Option.some.injEq]; exact hne' b hb hnb⟩
  · exact Below.grown ((Below.refl B w).alloc hB _) hgrow (by simp; omega) (fun k hk => r4 k hk)
theorem OwnsI.empty_at {u : World} {B n : Nat} {e : TypeId} (h : u.heap[n]? = some (.cells #[] e (0, 0))) (hB : B ≤ n) : OwnsI u B e (.slice (some ⟨n, 0, none⟩) 0 0) [] :=
  ⟨rfl, .inr ⟨n, 0, #[], rfl, hB, h, by simp, by simp, by simp, by simp [maxLen]⟩⟩
/-- 'append([]int{}, x...)' as a step of a region: what comes is the call's own, and all that was there stands. -/
theorem step_copy_keep {P : Program} {u : World} {ops : Array Oper} {o : Oper} {a : Act} {K : Act → World → Prop} {Q : Exit → Act → World → Prop} {E : Prop} (hgd : o.guard = none) (s x : Operand) (t : TypeId)
    (ho : o.op = .call { callee := .builtin .append, args := #[s, x], argTypes := #[t, t] }) (e : TypeId) (ht : P.underlying t = some (.slice e))
    (hinfo : (P.info? e).map (fun i => (i.zero, i.size, i.bytes)) = some (some (.int .i64 0), 1, 8))
    (B : Nat) (b : Addr) (hs : a.eval s = .slice (some b) 0 0) (hown : OwnsI u B e (.slice (some b) 0 0) []) (hB : B ≤ u.heap.size)
    (xa : Option Addr) (m c : Nat) (Z : List Int) (hx : a.eval x = .slice xa m c) (hnil : xa = none → c = 0) (hat : NumsAt u xa m Z) (hl : m * 8 ≤ 140737488355328)
    (h : ∀ va vn vc w', OwnsI w' B e (.slice va vn vc) Z → Below u.heap.size u w' → (∀ k, (Value.slice va vn vc).ownBlock = some k → k = b.block ∨ u.heap.size ≤ k) → K (a.put o.dst (.slice va vn vc)) w') :
    if Region.wanted o (yielded ops a.tmps) = true then Oper.wp P o a u K Q else E := by
  obtain ⟨i0, hi, hz0, hz1, hz2⟩ := info_parts hinfo
  have h1 := hat.1
  by_cases h0 : 0 < m
  · obtain ⟨g, off, rfl, hg, hcell⟩ := hat.2 h0
    subst h1
    have hnews : ∀ j y, (Z.map numV)[j]? = some y → u.cell? ((⟨g, off, none⟩ : Addr).add j) = some y := fun j z hz => by
      rw [List.getElem?_map] at hz
      obtain ⟨y, hy, rfl⟩ := Option.map_eq_some_iff.1 hz
      obtain ⟨hj, rfl⟩ := List.getElem?_eq_some_iff.1 hy
      rw [addr_plain]
      exact hcell j hj
    obtain ⟨g', cap, w', hr, hown', _, hat', _⟩ := run_append_lies (P := P) u t o.type B e i0 (.int .i64 0) 1 8 ht hi hz0 hz1 hz2 rfl (by decide) (.slice (some b) 0 0) 0 [] hown ⟨g, off, none⟩ Z.length c (Z.map numV) (by simp) hnews (fun y hy => by obtain ⟨z, _, rfl⟩ := List.mem_map.1 hy; rfl) h0 (by unfold maxLen; omega) (by omega) hB u.heap.size rfl
    have hrun := run_append_grow (P := P) (w := u) t o.type e i0 (.int .i64 0) ht hi hz0 b 0 0 [] (by simp) (fun j v hj => by simp at hj) ⟨g, off, none⟩ Z.length c (Z.map numV) (by rw [hz1]; simp) (fun j y hy => by
        have := hnews j y hy
        simpa using this) (by omega) (by omega) (by rw [hz2]; exact growslice_fits (by omega) (by omega))
    have hb : Below u.heap.size u w' := by
      have he := hr.symm.trans hrun
      simp only [Result.ok.injEq] at he
      obtain ⟨_, rfl⟩ := he
      exact ((Below.refl _ _).drew).alloc (Nat.le_refl _) _
    have hw : Region.wanted o (yielded ops a.tmps) = true := by simp [Region.wanted, hgd]
    rw [if_pos hw]
    unfold Oper.wp
    simp [execOp, ho, resolve, invoke, builtin, hs, hx, hr, Result.andThen]
    refine h _ _ _ w' ?_ hb (fun k hk => by simp only [Value.ownBlock, Option.some.injEq] at hk hat'; omega)
    show w'.ownsRow B e 1 _ Z.length (Z.map numV)
    simpa using hown'
  · obtain rfl : m = 0 := by omega
    have hZ := List.eq_nil_of_length_eq_zero h1
    subst hZ
    have hw : Region.wanted o (yielded ops a.tmps) = true := by simp [Region.wanted, hgd]
    rw [if_pos hw]
    have hrun : (Builtin.append_ #[t, t] o.type #[.slice (some b) 0 0, .slice xa 0 c]).run P u = .ok (.slice (some b) 0 0) u := by
      cases xa with
      | none =>
        obtain rfl := hnil rfl
        simp [Builtin.append_, run_underlying ht, sizeOf, typeInfo, hi, Builtin.lenOf, Builtin.firstCells, storeCells]
      | some ad => simp [Builtin.append_, run_underlying ht, sizeOf, typeInfo, hi, Builtin.lenOf, Builtin.firstCells, storeCells, loadCells, loadCellsFrom]
    unfold Oper.wp
    simp [execOp, ho, resolve, invoke, builtin, hs, hx, hrun, Result.andThen]
    exact h (some b) 0 0 u hown (Below.refl _ _) (fun k hk => by cases hk; exact .inl rfl)
end Go.Proofs.YtfnkmigcklmghaaDoor
