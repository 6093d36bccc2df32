/- Layer 7: package cfg's Targets (mk_tg.py). -/
import Derived.Test.YtnnccahpgailiaaQT0
import Derived.Test.YtnnccahpgailiaaQT1

namespace Go.Proofs.Ytnnccahpgailiaa
open Go.RowKit
set_option linter.unusedVariables false
set_option linter.unusedSimpArgs false
attribute [local go_sem] Oper.semAt_some

def tgB (T E : Int) (L M : List Int) : Bool → Int × List Int
  | false => (T, L)
  | true => (E, M)
theorem ixs_tgB (e : EndD) : (ixs e.K).map (tgB e.To e.Else e.L e.M) = tgts e := by
  unfold ixs tgts
  split
  · rfl
  · split <;> rfl
/-- 'append(b, x...)' as a step of a region: b the call's own, x whatever is read. -/
theorem step_append_nums {P : Program} {u : World} {ops : Array Oper} {o : Oper} {a : Act} {K : Act → World → Prop} {Q : Exit → Act → World → Prop} {E : Prop} (hgd : Region.wanted o (yielded ops a.tmps) = true) (s x : Operand) (t : TypeId)
    (ho : o.op = .call { callee := .builtin .append, args := #[s, x], argTypes := #[t, t] }) (e : TypeId) (ht : P.underlying t = some (.slice e))
    (hinfo : (P.info? e).map (fun i => (i.zero, i.size, i.bytes)) = some (some (.int .i64 0), 1, 8))
    (B : Nat) (v : Value) (Z : List Int) (hs : a.eval s = v) (hown : OwnsI u B e v Z) (hB : B ≤ u.heap.size)
    (xa : Option Addr) (m c : Nat) (news : List Int) (hx : a.eval x = .slice xa m c) (hnil : xa = none → c = 0) (hat : NumsAt u xa m news)
    (hlen : (Z.length + m) * 8 ≤ 140737488355328)
    (h : ∀ va vn vc w', OwnsI w' B e (.slice va vn vc) (Z ++ news) → u.grownBy w' v.ownBlock → K (a.put o.dst (.slice va vn vc)) w') :
    if Region.wanted o (yielded ops a.tmps) = true then Oper.wp P o a u K Q else E := by
  rw [if_pos hgd]
  obtain ⟨i0, hi, hz0, hz1, hz2⟩ := info_parts hinfo
  have h1 := hat.1
  have hown0 : u.ownsRow B e 1 v Z.length (Z.map numV) := hown
  cases xa with
  | none =>
    have hm : m = 0 := by
      by_cases h0 : 0 < m
      · obtain ⟨g, off, he, _⟩ := hat.2 h0; cases he
      · omega
    have hc : c = 0 := hnil rfl
    subst hm hc
    have h0 : news = [] := List.eq_nil_of_length_eq_zero h1
    subst h0
    have hrun := run_append_owned_none (P := P) (w := u) B t o.type e i0 1 ht hi v Z.length (Z.map numV) hown0
    obtain ⟨va, vn, vc, rfl, _⟩ := hown.nums
    have hk := h va vn vc u (by rw [List.append_nil]; exact hown) ⟨rfl, rfl, rfl, Nat.le_refl _, fun _ _ _ => rfl⟩
    unfold Oper.wp
    simp only [execOp, ho, resolve, invoke, builtin, List.map_toArray, List.map_cons, List.map_nil, hs, hx, Sem.run_bind, Sem.run_pure, Result.andThen_ok, hrun]
    exact hk
  | some ad =>
    subst h1
    obtain ⟨v', w', hrun, r1, r2, _⟩ := run_append_own (P := P) u B t o.type e i0 (.int .i64 0) 1 8 ht hi hz0 hz1 hz2 rfl (by decide) v Z.length (Z.map numV) hown0 ad news.length c (news.map numV) (by simp) (fun j y hu => by
      rw [List.getElem?_map] at hu
      obtain ⟨z, hz, rfl⟩ := Option.map_eq_some_iff.1 hu
      obtain ⟨hj, rfl⟩ := List.getElem?_eq_some_iff.1 hz
      obtain ⟨ad', he, hcell⟩ := hat.at (by omega)
      cases he
      exact hcell j hj) (fun y hu => by obtain ⟨z, _, rfl⟩ := List.mem_map.1 hu; rfl) (by unfold maxLen; omega) hlen hB
    have hown2 : OwnsI w' B e v' (Z ++ news) := by
      show w'.ownsRow B e 1 v' (Z ++ news).length ((Z ++ news).map numV)
      rw [List.map_append, List.length_append]
      exact r1
    obtain ⟨va, vn, vc, rfl, _⟩ := hown2.nums
    have hk := h va vn vc w' hown2 r2
    unfold Oper.wp
    simp only [execOp, ho, resolve, invoke, builtin, List.map_toArray, List.map_cons, List.map_nil, hs, hx, Sem.run_bind, Sem.run_pure, Result.andThen_ok, hrun]
    exact hk
theorem step_append_tg {u : World} {ops : Array Oper} {o : Oper} {a : Act} {K : Act → World → Prop} {Q : Exit → Act → World → Prop} {E : Prop} (hgd : Region.wanted o (yielded ops a.tmps) = true) (s x : Operand)
    (ho : o.op = .call { callee := .builtin .append, args := #[s, x], argTypes := #[142, 142] })
    (B : Nat) (v : Value) (l : List TgV) (hs : a.eval s = v) (hown : OwnsT u B v l) (hB : B ≤ u.heap.size)
    (C : Array Value) (c g : Nat) (z : TgV) (hx : a.eval x = .slice (some ⟨g, 0, none⟩) 1 c) (hg : g = u.heap.size) (hC : C = #[.int .i64 z.1, .slice z.2.1 z.2.2.1 z.2.2.2])
    (hlen : l.length ≤ 100000)
    (h : ∀ va vn vc w', OwnsT w' B (.slice va vn vc) (l ++ [z]) → (u.alloc (.cells C 145)).grownBy w' v.ownBlock → K (a.put o.dst (.slice va vn vc)) w') :
    if Region.wanted o (yielded ops a.tmps) = true then Oper.wp Try.prog o a (u.alloc (.cells C 145)) K Q else E := by
  rw [if_pos hgd]
  obtain ⟨i0, hi, hz0, hz1, hz2⟩ := info_parts info_tg
  subst hC hg
  obtain ⟨v', w', hrun, r1, r2, _⟩ := run_append_own (P := Try.prog) (u.alloc (.cells #[.int .i64 z.1, .slice z.2.1 z.2.2.1 z.2.2.2] 145)) B 142 o.type 145 i0 (.agg #[.int .i64 0, .slice none 0 0]) 2 32 Try.underlying142 hi hz0 hz1 hz2 rfl (by decide) v l.length (flatT l) (World.ownsRow.alloc hown _) ⟨u.heap.size, 0, none⟩ 1 c [.int .i64 z.1, .slice z.2.1 z.2.2.1 z.2.2.2] rfl (fun j y hu => by
    rw [addr_plain, Nat.zero_add, World.cell?_alloc_mark]
    simpa using hu) (by intro y hu; simp at hu; rcases hu with rfl | rfl <;> rfl) (by unfold maxLen; omega) (by omega) (by simp; omega)
  have h2 : OwnsT w' B v' (l ++ [z]) := by
    show w'.ownsRow B _ 2 v' (l ++ [z]).length (flatT (l ++ [z]))
    rw [show flatT (l ++ [z]) = flatT l ++ [.int .i64 z.1, .slice z.2.1 z.2.2.1 z.2.2.2] by simp [flatT], List.length_append]
    exact r1
  obtain ⟨va, vn, vc, rfl⟩ : ∃ va vn vc, v' = .slice va vn vc := by
    rcases h2.2 with ⟨e, _⟩ | ⟨_, _, _, e, _⟩
    · exact ⟨_, _, _, e⟩
    · exact ⟨_, _, _, e⟩
  have hk := h va vn vc w' h2 r2
  unfold Oper.wp
  simp only [execOp, ho, resolve, invoke, builtin, List.map_toArray, List.map_cons, List.map_nil, hs, hx, Sem.run_bind, Sem.run_pure, Result.andThen_ok, hrun]
  exact hk
theorem tgt_push {w W W5 w6 : World} {v v' : Value} {l : List TgV} {ts : List (Int × List Int)} {z : TgV} {t : Int × List Int} {C : Array Value} (h : TgtSt w W v l ts) (h5 : Below W.heap.size W W5) (hz : CopT W5 (w.heap.size + 3) z t)
    (hg : (W5.alloc (.cells C 145)).grownBy w6 v.ownBlock) (ho : OwnsT w6 (w.heap.size + 3) v' (l ++ [z])) :
    TgtSt w (w6.setCell ⟨w.heap.size + 1, 0, none⟩ v') v' (l ++ [z]) (ts ++ [t]) ∧ KeepsOthers W (w6.setCell ⟨w.heap.size + 1, 0, none⟩ v') ∧ Off (PushX (w.heap.size + 1) v) W (w6.setCell ⟨w.heap.size + 1, 0, none⟩ v') ∧ Boxed w6 (w.heap.size + 1) 142 v := by
  have hlt : w.heap.size + 1 < W.heap.size := h.box.lt
  have hU : Below W.heap.size W (W5.alloc (.cells C 145)) := h5.alloc h5.size _
  have hoff1 : Off (PushX (w.heap.size + 1) v) W w6 := (Off.since hU).grown hg fun k hk => .inl (.inr hk)
  have hvb : ∀ r, v.ownBlock = some r → ∃ C', W.heap[r]? = some (.cells C' 145 (0, 0)) ∧ w.heap.size + 3 ≤ r := fun r hr => ownT_block h.own hr
  have hneq : v.ownBlock ≠ some (w.heap.size + 1) := fun e => by obtain ⟨_, _, h'⟩ := hvb _ e; omega
  have hbU : Boxed (W5.alloc (.cells C 145)) (w.heap.size + 1) 142 v := (hU.block _ hlt).trans h.box
  have hb1 : Boxed w6 (w.heap.size + 1) 142 v := hbU.kept hg (fun e => hneq e.symm)
  have hoff : Off (PushX (w.heap.size + 1) v) W (w6.setCell ⟨w.heap.size + 1, 0, none⟩ v') := hoff1.setCell (.inl (.inl rfl)) v'
  have hset := grownBy_setCell' w6 (w.heap.size + 1) v'
  have hb1' : w6.heap[w.heap.size + 1]? = _ := hb1
  refine ⟨⟨hb1.set v', ?_, ?_, h.bel.trans (hoff.below (by have := h.siz; omega) fun i hi => ?_), Nat.le_trans h.siz hoff.size⟩, KeepsOthers.of_off hoff fun i hi o hio => ?_, hoff, hb1⟩
  · refine World.ownsRow.kept ho hset ?_
    by_cases hv : v'.ownBlock = none
    · exact .inl hv
    · refine .inr fun e => ?_
      obtain ⟨_, _, h'⟩ := ownT_block ho e
      omega
  · refine Cops.snoc ?_ (h.cop.all fun x t' hx => ⟨hx.1, ?_⟩)
    · refine CopT.grown (CopT.grown (CopT.grown hz (World.grownBy_alloc W5 _ none) (fun r e => by cases e)) hg (fun r e C' m hC => ?_)) hset (fun r e C' m hC => ?_)
      · obtain ⟨C2, h2, h3⟩ := hvb r e
        have := (hU.block r (Array.getElem?_eq_some_iff.1 h2).1).trans h2
        rw [hC] at this; cases this
      · cases e; rw [hb1'] at hC; cases hC
    · have hown : OwnsI W (w.heap.size + 3) 3 (.slice x.2.1 x.2.2.1 x.2.2.2) t'.2 := hx.2
      refine ⟨hown.1, ?_⟩
      rcases hown.2 with hn | ⟨g, cap, cur, he, hB, hgb, rest⟩
      · exact .inl hn
      · refine .inr ⟨g, cap, cur, he, hB, ?_, rest⟩
        rw [hoff.block g (Array.getElem?_eq_some_iff.1 hgb).1 (fun hx' => by
          rcases hx' with rfl | hx'
          · have := h.box; unfold Boxed at this; rw [this] at hgb; cases hgb
          · obtain ⟨C2, h2, _⟩ := hvb g hx'; rw [h2] at hgb; cases hgb)]
        exact hgb
  · rcases hi with rfl | hi
    · omega
    · obtain ⟨_, _, h'⟩ := hvb i hi; omega
  · rcases hi with rfl | hi
    · have h' : W.heap[w.heap.size + 1]? = _ := h.box
      rw [h'] at hio; cases hio; rfl
    · obtain ⟨C2, h2, _⟩ := hvb i hi; rw [h2] at hio; cases hio; rfl
end Go.Proofs.Ytnnccahpgailiaa
