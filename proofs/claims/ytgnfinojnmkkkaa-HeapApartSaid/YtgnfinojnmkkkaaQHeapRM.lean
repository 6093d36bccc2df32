/- Layer 10: the document's Put. -/
import Derived.Test.YtgnfinojnmkkkaaQT5

namespace Go.Proofs.Ytgnfinojnmkkkaa
open Go.RowKit (wrap64 intOf Below)
set_option linter.unusedVariables false
set_option linter.unusedSimpArgs false

/-- 'append(l, z)' of a number, as a step of a region, wherever the number lies. -/
theorem step_append_i64 {u : World} {ops : Array Oper} {o : Oper} {a : Act} {K : Act → World → Prop} {Q : Exit → Act → World → Prop} {E : Prop} (hgd : Region.wanted o (yielded ops a.tmps) = true) (s x : Operand)
    (ho : o.op = .call { callee := .builtin .append, args := #[s, x], argTypes := #[61, 61] })
    (B : Nat) (v : Value) (L : List Int) (hs : a.eval s = v) (hown : OwnsI u B 2 v L) (hB : B ≤ u.heap.size)
    (c g : Nat) (z : Int) (hx : a.eval x = .slice (some ⟨g, 0, none⟩) 1 c) (hc : u.cell? ⟨g, 0, none⟩ = some (.int .i64 z))
    (hlen : (L.length + 1) * 8 ≤ 140737488355328)
    (h : ∀ va vn vc w', OwnsI w' B 2 (.slice va vn vc) (L ++ [z]) → u.grownBy w' v.ownBlock → (∀ k, (Value.slice va vn vc).ownBlock = some k → v.ownBlock = some k ∨ u.heap.size ≤ k) → K (a.put o.dst (.slice va vn vc)) w') :
    if Region.wanted o (yielded ops a.tmps) = true then Oper.wp Try.prog o a u K Q else E := by
  rw [if_pos hgd]
  obtain ⟨i0, hi, hz0, hz1, hz2⟩ := info_parts info64
  obtain ⟨v', w', hrun, r1, r2, _, r3⟩ := run_append_own_at (P := Try.prog) u B 61 o.type 2 i0 (.int .i64 0) 1 8 Try.underlying61 hi hz0 hz1 hz2 rfl (by decide) v L.length (L.map numV) hown ⟨g, 0, none⟩ 1 c [.int .i64 z] rfl (fun j y hu => by
    rw [addr_plain, Nat.zero_add]
    cases j with
    | zero => simp at hu; subst hu; exact hc
    | succ j => simp at hu) (by intro y hu; simp at hu; subst hu; rfl) (by unfold maxLen; omega) hlen hB
  have h2 : OwnsI w' B 2 v' (L ++ [z]) := by
    show w'.ownsRow B _ 1 v' (L ++ [z]).length ((L ++ [z]).map numV)
    rw [List.map_append, List.length_append]
    exact r1
  obtain ⟨va, vn, vc, rfl⟩ : ∃ va vn vc, v' = .slice va vn vc := by
    rcases h2.2 with ⟨e, _⟩ | ⟨_, _, _, e, _⟩
    · exact ⟨_, _, _, e⟩
    · exact ⟨_, _, _, e⟩
  have hk := h va vn vc w' h2 r2 (fun k hk => by
      rcases r3 with e' | e'
      · exact .inl (e' ▸ hk)
      · rw [e'] at hk; cases hk; simp)
  unfold Oper.wp
  simp only [execOp, ho, resolve, invoke, builtin, List.map_toArray, List.map_cons, List.map_nil, hs, hx, Sem.run_bind, Sem.run_pure, Result.andThen_ok, hrun]
  exact hk
section
variable {W W' w1 w2 : World} {B cap : Nat} {R : RM} {G : GR}
/-- Thing k is told anew, in its row too. -/
theorem RefAt.anew (h : RefAt W B cap R G) {k : Nat} (h1 : k < R.L.length) (h2 : k < G.gts.length) {t : RT} {g : GT} {ρ' : Rho} (hl : OwnsTh W' B (.slice G.la G.ln G.lc) ((R.L.zip G.gts).set k (t, g))) (hT : ThAt W' B ρ' k t g) (hkp : Kp G.ρ (fun r => r ≠ (1, 0) ∧ thR k r) W W') (hs : W.heap.size ≤ W'.heap.size) (hex : Ex G.ρ ρ') (hr : ∀ b r, ρ' b = some r → B ≤ b ∧ b < W'.heap.size) {cap' : Nat} (hn : RNum cap' {R with L := R.L.set k t}) : RefAt W' B cap' {R with L := R.L.set k t} {G with gts := G.gts.set k g, ρ := ρ'} := by
  have hoth : ∀ a j, 2 ≤ a → j ≠ k → ((a, j) : Nat × Nat) ≠ (1, 0) ∧ thR k (a, j) := fun a j ha hj => ⟨fun e => by cases e; omega, fun hh => hj hh.2.2⟩
  refine ⟨hr, hex _ _ h.rm, (hkp _ _ h.rm ⟨by simp, fun hh => by have := hh.1; simp at this⟩).trans h.blk, ?_, h.rl.ex hex, by simp [h.glen], fun j k1 k2 => ?_, hn⟩
  · show OwnsTh W' B _ ((R.L.set k t).zip (G.gts.set k g))
    have e : (R.L.set k t).zip (G.gts.set k g) = (R.L.zip G.gts).set k (t, g) := by
      have e1 := zip_setL R.L (G.gts.set k g) k (by simpa using h2) t
      rw [List.getElem_set_self] at e1
      rw [← e1]
      have e2 := zip_set R.L G.gts k h1 g
      rw [← e2, List.set_set]
    rw [e]; exact hl
  · have k1' : j < R.L.length := by simpa using k1
    have k2' : j < G.gts.length := by simpa using k2
    show ThAt W' B ρ' j (R.L.set k t)[j] (G.gts.set k g)[j]
    by_cases e : k = j
    · subst e
      rw [List.getElem_set_self, List.getElem_set_self]; exact hT
    · rw [List.getElem_set_ne e, List.getElem_set_ne e]
      exact (h.th j k1' k2').kept hkp (fun a ha _ => hoth a j ha (fun e' => e e'.symm)) hex
/-- A cell of the row of things is stored. -/
theorem th_set {lb n lc : Nat} {L : List (RT × GT)} (h : OwnsTh W B (.slice (some ⟨lb, 0, none⟩) n lc) L) (hn : n = L.length) {k j : Nat} (hk : k < L.length) (hj : j < 6) {v : Value} {y : RT × GT} (hy : thV y = (thV L[k]).set j v) : OwnsTh (W.setCell ⟨lb, k * 6 + j, none⟩ v) B (.slice (some ⟨lb, 0, none⟩) n lc) (L.set k y) := by
  have h0 : W.ownsRow B 63 6 (.slice (some ⟨lb, 0, none⟩) n lc) n (L.flatMap thV) := by rw [hn] at h ⊢; exact h
  have t1 := (World.ownsRow.stored h0 (k * 6 + j) v).1
  rw [flat_set thV_len L k hk j v y hj hy] at t1
  show World.ownsRow _ B _ 6 _ (L.set k y).length _
  rw [List.length_set, ← hn]; exact t1
theorem zip_len (h : RefAt W B cap R G) : (R.L.zip G.gts).length = R.L.length := by rw [List.length_zip, h.glen]; exact Nat.min_self _
def moreT (t : RT) (key n : Int) : RT := {t with keys := t.keys ++ [key], under := t.under ++ [n]}
theorem TNum.more {t : RT} (h : TNum cap t) (key n : Int) : TNum (cap + 1) (moreT t key n) :=
  ⟨h.kind, h.V, by show (t.keys ++ [key]).length ≤ _; rw [List.length_append]; have := h.keys; simp; omega, by show (t.under ++ [n]).length = (t.keys ++ [key]).length; simp [h.under], h.frame.1, by have := h.frame.2; show t.frame ≤ _; simp; omega⟩
/-- What is under a key is set. -/
theorem RefAt.setU (h : RefAt W B cap R G) {k : Nat} (h1 : k < R.L.length) (h2 : k < G.gts.length) {q gu : Nat} (hq : q < R.L[k].under.length) (hgu : G.gts[k].U.1 = some ⟨gu, 0, none⟩) (n : Int) :
    RefAt (W.setCell ⟨gu, q, none⟩ (.int .i64 n)) B cap {R with L := R.L.set k {R.L[k] with under := R.L[k].under.set q n}} G ∧ Below B W (W.setCell ⟨gu, q, none⟩ (.int .i64 n)) ∧ Sep W (W.setCell ⟨gu, q, none⟩ (.int .i64 n)) G.ρ G.ρ := by
  have hT := h.th k h1 h2
  have hrb : G.ρ gu = some (4, k) := hT.ru gu (by unfold sv; rw [hgu]; rfl)
  have s1 : Off (fun b => b = gu) W (W.setCell ⟨gu, q, none⟩ (.int .i64 n)) := (Off.refl (fun b => b = gu) W).setCell (p := ⟨gu, q, none⟩) (.inl rfl) _
  have hU : OwnsI (W.setCell ⟨gu, q, none⟩ (.int .i64 n)) B 2 (sv G.gts[k].U) (R.L[k].under.set q n) := by
    have hu0 := hT.U
    have hn := (OwnsI.read (show OwnsI W B 2 (.slice G.gts[k].U.1 G.gts[k].U.2.1 G.gts[k].U.2.2) R.L[k].under from hu0)).1
    unfold OwnsI sv at hu0 ⊢
    rw [hgu, ← hn] at hu0
    have t1 := (World.ownsRow.stored hu0 q (.int .i64 n)).1
    rw [hgu, ← hn, List.length_set, List.map_set]
    exact t1
  have hBW : B ≤ W.heap.size := by have := h.plt; omega
  refine ⟨h.turn h1 h2 rfl ⟨hT.rv.off hrb (by simp) hT.V s1, hT.rv, hT.rk.off hrb (by simp) hT.K s1, hT.rk, hU, hT.ru⟩ (kp_th h.range hrb (by omega) s1) s1.size ?_, s1.below hBW (fun b hb => by rw [hb]; exact (h.range _ _ hrb).1), s1.mono (fun b _ hb => ⟨(4, k), by rw [hb]; exact hrb⟩), fun b r hr => .inl ⟨r, hr⟩⟩
  have nn := h.num.one _ (List.getElem_mem h1)
  exact ⟨nn.kind, nn.V, nn.keys, by show (R.L[k].under.set q n).length = _; rw [List.length_set]; exact nn.under, nn.frame⟩
/-- A key more: where the two rows have grown. -/
structure Grown2 (W w2 : World) (B : Nat) (K U K' U' : Option Addr × Nat × Nat) (ks us : List Int) : Prop where
  oK : OwnsI w2 B 2 (sv K') ks
  oU : OwnsI w2 B 2 (sv U') us
  off : Off (fun b => (sv K).ownBlock = some b ∨ (sv U).ownBlock = some b) W w2
  kw : ∀ b, (sv K').ownBlock = some b → (sv K).ownBlock = some b ∨ W.heap.size ≤ b
  uw : ∀ b, (sv U').ownBlock = some b → (sv U).ownBlock = some b ∨ W.heap.size ≤ b
  ne : ∀ b, (sv K').ownBlock = some b → (sv U').ownBlock ≠ some b
theorem RefAt.putNew (h : RefAt W B cap R G) {k : Nat} (h1 : k < R.L.length) (h2 : k < G.gts.length) {key n : Int} {lb : Nat} (hla : G.la = some ⟨lb, 0, none⟩) {K' U' : Option Addr × Nat × Nat} (hg : Grown2 W w2 B G.gts[k].K G.gts[k].U K' U' (R.L[k].keys ++ [key]) (R.L[k].under ++ [n])) :
    (w2.frozen? ⟨lb, k * 6 + 2, none⟩ = false ∧ w2.frozen? ⟨lb, k * 6 + 3, none⟩ = false) ∧ ∃ G', RefAt ((w2.setCell ⟨lb, k * 6 + 2, none⟩ (sv K')).setCell ⟨lb, k * 6 + 3, none⟩ (sv U')) B (cap + 1) {R with L := R.L.set k (moreT R.L[k] key n)} G' ∧ G'.p = G.p ∧ Below B W ((w2.setCell ⟨lb, k * 6 + 2, none⟩ (sv K')).setCell ⟨lb, k * 6 + 3, none⟩ (sv U')) ∧ Sep W ((w2.setCell ⟨lb, k * 6 + 2, none⟩ (sv K')).setCell ⟨lb, k * 6 + 3, none⟩ (sv U')) G.ρ G'.ρ := by
  have hT := h.th k h1 h2
  have hlr : G.ρ lb = some (1, 0) := h.rl lb (by rw [hla]; rfl)
  have hll := h.range _ _ hlr
  have hzl := zip_len h
  have hz : k < (R.L.zip G.gts).length := by rw [hzl]; exact h1
  have hln := h.ln
  have hlv2 : OwnsTh w2 B (.slice (some ⟨lb, 0, none⟩) G.ln G.lc) (R.L.zip G.gts) := by
    have h0 := h.lv
    rw [hla] at h0
    refine ⟨h0.1, ?_⟩
    rcases h0.2 with hx | ⟨gg, cp, cur, e, hB, hgg, rest⟩
    · exact .inl hx
    · have h9 : (Value.slice (some ⟨lb, 0, none⟩) G.ln G.lc).ownBlock = some gg := by rw [e]; rfl
      have e2 : gg = lb := (Option.some.inj h9).symm
      refine .inr ⟨gg, cp, cur, e, hB, (hg.off.block gg (by rw [e2]; exact hll.2) (fun hx => ?_)).trans hgg, rest⟩
      rw [e2] at hx
      rcases hx with hx | hx
      · have := hT.rk _ hx; rw [hlr] at this; simp at this
      · have := hT.ru _ hx; rw [hlr] at this; simp at this
  have f0 : ∀ j, w2.frozen? ⟨lb, j, none⟩ = false := fun j => by
    have h3 : w2.ownsRow B 63 6 (.slice (some ⟨lb, 0, none⟩) G.ln G.lc) G.ln ((R.L.zip G.gts).flatMap thV) := by
      have e : (R.L.zip G.gts).length = G.ln := by rw [hzl, hln]
      have := hlv2; unfold OwnsTh at this; rw [e] at this; exact this
    exact World.ownsRow.frozenAt h3 j
  have hnl : G.ln = (R.L.zip G.gts).length := by rw [hzl, hln]
  have s1 := th_set hlv2 hnl hz (j := 2) (v := sv K') (y := (R.L[k], ⟨G.gts[k].V, K', G.gts[k].U⟩)) (by omega) (by rw [List.getElem_zip]; rfl)
  have s2 := th_set s1 (by rw [List.length_set]; exact hnl) (by rw [List.length_set]; exact hz) (j := 3) (v := sv U') (y := (moreT R.L[k] key n, ⟨G.gts[k].V, K', U'⟩)) (by omega) (by rw [List.getElem_set_self]; rfl)
  rw [List.set_set] at s2
  obtain ⟨w3, hw3⟩ : ∃ w3, (w2.setCell ⟨lb, k * 6 + 2, none⟩ (sv K')).setCell ⟨lb, k * 6 + 3, none⟩ (sv U') = w3 := ⟨_, rfl⟩
  rw [hw3] at s2 ⊢
  have o3 : Off (fun b => b = lb) w2 w3 := by
    rw [← hw3]
    exact ((Off.refl (fun b => b = lb) w2).setCell (p := ⟨lb, k * 6 + 2, none⟩) (.inl rfl) _).setCell (p := ⟨lb, k * 6 + 3, none⟩) (.inl rfl) _
  have oW : Off (fun b => ((sv G.gts[k].K).ownBlock = some b ∨ (sv G.gts[k].U).ownBlock = some b) ∨ b = lb) W w3 := (hg.off.mono (fun b _ hb => .inl hb)).trans (o3.mono (fun b _ hb => .inr hb))
  have hkl : ∀ b, (sv K').ownBlock = some b → b ≠ lb ∧ B ≤ b ∧ b < w2.heap.size := fun b hb => by
    have := hg.oK.lt b hb
    refine ⟨fun e => ?_, this⟩
    rcases hg.kw b hb with h3 | h3
    · have := hT.rk _ h3; rw [e, hlr] at this; simp at this
    · omega
  have hul : ∀ b, (sv U').ownBlock = some b → b ≠ lb ∧ B ≤ b ∧ b < w2.heap.size := fun b hb => by
    have := hg.oU.lt b hb
    refine ⟨fun e => ?_, this⟩
    rcases hg.uw b hb with h3 | h3
    · have := hT.ru _ h3; rw [e, hlr] at this; simp at this
    · omega
  -- the roles
  have hnew : ∀ b r, (if (sv K').ownBlock = some b then some (3, k) else if (sv U').ownBlock = some b then some (4, k) else G.ρ b) = some r → G.ρ b = some r ∨ (W.heap.size ≤ b ∧ b < w3.heap.size) := fun b r hbr => by
    have hs3 := o3.size
    split at hbr
    · rename_i e
      rcases hg.kw b e with h3 | h3
      · exact .inl ((hT.rk b h3).trans hbr)
      · exact .inr ⟨h3, by have := (hkl b e).2.2; omega⟩
    · split at hbr
      · rename_i e
        rcases hg.uw b e with h3 | h3
        · exact .inl ((hT.ru b h3).trans hbr)
        · exact .inr ⟨h3, by have := (hul b e).2.2; omega⟩
      · exact .inl hbr
  have hex : Ex G.ρ (fun b => if (sv K').ownBlock = some b then some (3, k) else if (sv U').ownBlock = some b then some (4, k) else G.ρ b) := fun b r hbr => by
    have hbl := (h.range b r hbr).2
    show (if (sv K').ownBlock = some b then some (3, k) else if (sv U').ownBlock = some b then some (4, k) else G.ρ b) = some r
    by_cases e : (sv K').ownBlock = some b
    · rw [if_pos e]
      rcases hg.kw b e with h3 | h3
      · have := hT.rk b h3; rw [hbr] at this; exact this.symm
      · omega
    · rw [if_neg e]
      by_cases e2 : (sv U').ownBlock = some b
      · rw [if_pos e2]
        rcases hg.uw b e2 with h3 | h3
        · have := hT.ru b h3; rw [hbr] at this; exact this.symm
        · omega
      · rw [if_neg e2]; exact hbr
  have hkp : Kp G.ρ (fun r => r ≠ (1, 0) ∧ thR k r) W w3 := kp_of_off h.range oW fun b r hx hbr hR => by
    rcases hx with (hx | hx) | hx
    · have := hT.rk _ hx; rw [hbr] at this; cases this; exact hR.2 ⟨by simp, by simp, rfl⟩
    · have := hT.ru _ hx; rw [hbr] at this; cases this; exact hR.2 ⟨by simp, by simp, rfl⟩
    · rw [hx, hlr] at hbr; cases hbr; exact hR.1 rfl
  have keepW : ∀ {e z m : Nat} {xs : List Value} {v : Value}, w2.ownsRow B e z v m xs → (∀ b, v.ownBlock = some b → b ≠ lb) → w3.ownsRow B e z v m xs := fun {e z m xs v} ho hne => by
    refine ⟨ho.1, ?_⟩
    rcases ho.2 with hx | ⟨gg, cp, cur, e1, hB, hgg, rest⟩
    · exact .inl hx
    · exact .inr ⟨gg, cp, cur, e1, hB, (o3.block gg (Array.getElem?_eq_some_iff.1 hgg).1 (hne gg (by rw [e1]; rfl))).trans hgg, rest⟩
  have hV3 : OwnsV w3 B (sv G.gts[k].V) R.L[k].V := by
    refine ⟨hT.V.1, ?_⟩
    rcases hT.V.2 with hx | ⟨gg, cp, cur, e1, hB, hgg, rest⟩
    · exact .inl hx
    · have hgr := hT.rv gg (by rw [e1]; rfl)
      refine .inr ⟨gg, cp, cur, e1, hB, (oW.block gg (h.range _ _ hgr).2 (fun hx => ?_)).trans hgg, rest⟩
      rcases hx with (hx | hx) | hx
      · have := hT.rk _ hx; rw [hgr] at this; simp at this
      · have := hT.ru _ hx; rw [hgr] at this; simp at this
      · rw [hx, hlr] at hgr; simp at hgr
  have hBW : B ≤ W.heap.size := by omega
  have num := h.num
  have nk := num.one _ (List.getElem_mem h1)
  refine ⟨⟨f0 _, f0 _⟩, {G with gts := G.gts.set k ⟨G.gts[k].V, K', U'⟩, ρ := fun b => if (sv K').ownBlock = some b then some (3, k) else if (sv U').ownBlock = some b then some (4, k) else G.ρ b}, h.anew h1 h2 (t := moreT R.L[k] key n) (g := ⟨G.gts[k].V, K', U'⟩) (by rw [hla]; exact s2) ⟨hV3, hT.rv.ex hex, keepW hg.oK (fun b hb => (hkl b hb).1), fun b hb => if_pos hb, keepW hg.oU (fun b hb => (hul b hb).1), fun b hb => ?_⟩ hkp oW.size hex (fun b r hbr => ?_) ?_, rfl, oW.below hBW (fun b hb => ?_), oW.mono (fun b _ hb => ?_), fun b r hbr => (hnew b r hbr).imp (fun h' => ⟨r, h'⟩) (fun h' => h'.1)⟩
  · show (if (sv K').ownBlock = some b then some (3, k) else if (sv U').ownBlock = some b then some (4, k) else G.ρ b) = some (4, k)
    rw [if_neg (fun e => hg.ne b e hb), if_pos hb]
  · rcases hnew b r hbr with h3 | h3
    · have := h.range b r h3; have := oW.size; omega
    · omega
  · exact RNum.set (num.mono (Nat.le_succ _)) (nk.more key n) k
  · rcases hb with (hb | hb) | hb
    · exact (h.range _ _ (hT.rk b hb)).1
    · exact (h.range _ _ (hT.ru b hb)).1
    · rw [hb]; exact hll.1
  · rcases hb with (hb | hb) | hb
    · exact ⟨_, hT.rk b hb⟩
    · exact ⟨_, hT.ru b hb⟩
    · exact ⟨(1, 0), by rw [hb]; exact hlr⟩
end
section
variable {D u w1 w2 : World} {B cap : Nat} {R : RM} {G : GR} {k : Nat} {K U K' U' : Option Addr × Nat × Nat} {ks us : List Int} {key n : Int}
/-- Behind the first append. -/
structure AfterK (D w1 : World) (B : Nat) (K K' : Option Addr × Nat × Nat) (ks : List Int) : Prop where
  oK : OwnsI w1 B 2 (sv K') ks
  off : Off (fun b => (sv K).ownBlock = some b) D w1
  kw : ∀ b, (sv K').ownBlock = some b → (sv K).ownBlock = some b ∨ D.heap.size ≤ b
theorem AfterK.alloc (h : AfterK D w1 B K K' ks) (X : Obj) : AfterK D (w1.alloc X) B K K' ks := ⟨World.ownsRow.alloc h.oK X, h.off.alloc X, h.kw⟩
theorem AfterK.mk' (hu : Below D.heap.size D u) (ho : OwnsI w1 B 2 (sv K') ks) (hg : u.grownBy w1 (sv K).ownBlock) (hw : ∀ b, (sv K').ownBlock = some b → (sv K).ownBlock = some b ∨ u.heap.size ≤ b) : AfterK D w1 B K K' ks :=
  ⟨ho, (Off.since hu).grown hg (fun b hb => .inl hb), fun b hb => (hw b hb).imp id (fun h => by have := hu.size; omega)⟩
theorem AfterK.cell (h : AfterK D w1 B K K' ks) {b j : Nat} (hb : b < D.heap.size) (hne : (sv K).ownBlock ≠ some b) {v : Value} (hc : D.cell? ⟨b, j, none⟩ = some v) : w1.cell? ⟨b, j, none⟩ = some v := (h.off.cell (p := ⟨b, j, none⟩) hb hne).trans hc
theorem AfterK.ends (h : AfterK D u B K K' ks) (ho : OwnsI w2 B 2 (sv U') us) (hg : u.grownBy w2 (sv U).ownBlock) (hw : ∀ b, (sv U').ownBlock = some b → (sv U).ownBlock = some b ∨ u.heap.size ≤ b) (hU : ∀ b, (sv U).ownBlock = some b → b < D.heap.size ∧ (sv K).ownBlock ≠ some b) : Grown2 D w2 B K U K' U' ks us := by
  have hne : ∀ b, (sv K').ownBlock = some b → (sv U).ownBlock ≠ some b := fun b hb e => by
    rcases h.kw b hb with h1 | h1
    · exact (hU b e).2 h1
    · have := (hU b e).1; omega
  refine ⟨?_, ho, (h.off.mono (fun b _ hb => .inl hb)).grown hg (fun b hb => .inl (.inr hb)), h.kw, fun b hb => (hw b hb).imp id (fun h' => by have := h.off.size; omega), fun b hb e => ?_⟩
  · refine ⟨h.oK.1, ?_⟩
    rcases h.oK.2 with hx | ⟨gg, cp, cur, e1, hB, hgg, rest⟩
    · exact .inl hx
    · have hgb : (sv K').ownBlock = some gg := by rw [e1]; rfl
      exact .inr ⟨gg, cp, cur, e1, hB, (hg.block gg (Array.getElem?_eq_some_iff.1 hgg).1 (fun e => hne gg hgb e.symm)).trans hgg, rest⟩
  · rcases hw b e with h1 | h1
    · exact hne b hb h1
    · have := (h.oK.lt b hb).2; omega
theorem own_after (h : AfterK D u B K K' ks) {L : List Int} {v : Option Addr × Nat × Nat} (ho : OwnsI D B 2 (sv v) L) (hne : ∀ b, (sv v).ownBlock = some b → (sv K).ownBlock ≠ some b) : OwnsI u B 2 (sv v) L := by
  refine ⟨ho.1, ?_⟩
  rcases ho.2 with hx | ⟨gg, cp, cur, e1, hB, hgg, rest⟩
  · exact .inl hx
  · exact .inr ⟨gg, cp, cur, e1, hB, (h.off.block gg (Array.getElem?_eq_some_iff.1 hgg).1 (hne gg (by rw [e1]; rfl))).trans hgg, rest⟩
end
/-- What is known where the last part of Put begins. -/
structure PutHd (D : World) (B cap : Nat) (R : RM) (G : GR) (k lb : Nat) (t : RT) (g : GT) : Prop where
  mem : RefAt D B cap R G
  k1 : k < R.L.length
  k2 : k < G.gts.length
  t : R.L[k] = t
  g : G.gts[k] = g
  la : G.la = some ⟨lb, 0, none⟩
section
variable {D : World} {B cap : Nat} {R : RM} {G : GR} {k lb : Nat} {t : RT} {g : GT}
theorem PutHd.facts (h : PutHd D B cap R G k lb t g) : B ≤ D.heap.size ∧ lb < D.heap.size ∧ (sv g.K).ownBlock ≠ some lb ∧ (sv g.U).ownBlock ≠ some lb ∧ (∀ b, (sv g.U).ownBlock = some b → b < D.heap.size ∧ (sv g.K).ownBlock ≠ some b) ∧ (∀ b, (sv g.K).ownBlock = some b → b < D.heap.size) ∧ OwnsI D B 2 (sv g.K) t.keys ∧ OwnsI D B 2 (sv g.U) t.under ∧ (t.keys.length + 1) * 8 ≤ 8 * (cap + 1) ∧ (t.under.length + 1) * 8 ≤ 8 * (cap + 1) ∧ D.cell? ⟨lb, k * 6 + 2, none⟩ = some (.slice g.K.1 g.K.2.1 g.K.2.2) ∧ D.cell? ⟨lb, k * 6 + 3, none⟩ = some (.slice g.U.1 g.U.2.1 g.U.2.2) := by
  have hT := h.mem.th k h.k1 h.k2
  have nn := h.mem.num.one _ (List.getElem_mem h.k1)
  obtain ⟨lb', e, hl, hlB, hr, t0, t1, t2, t3, t4, t5⟩ := h.mem.thing h.k1 h.k2
  rw [h.la] at e
  cases e
  rw [h.t] at hT nn
  rw [h.g] at hT t2 t3
  refine ⟨by omega, hl, fun e => by have := hT.rk _ e; rw [hr] at this; simp at this, fun e => by have := hT.ru _ e; rw [hr] at this; simp at this, fun b hb => ⟨(h.mem.range _ _ (hT.ru b hb)).2, fun e => by have := hT.rk b e; rw [hT.ru b hb] at this; simp at this⟩, fun b hb => (h.mem.range _ _ (hT.rk b hb)).2, hT.K, hT.U, by have := nn.keys; omega, by have := nn.keys; have := nn.under; omega, t2, t3⟩
end
set_option maxRecDepth 100000 in
set_option maxHeartbeats 2000000 in
theorem refput_any {W : World} {B cap : Nat} {R : RM} {G : GR} (h : RefAt W B cap R G) (hcap : cap ≤ 1099511627776) (r key n : Int) (hr : -9223372036854775808 ≤ r ∧ r ≤ 9223372036854775807) :
    Calls Try.prog 37 #[.pointer (some ⟨G.p, 0, none⟩), .int .i64 r, .int .i64 key, .int .i64 n] W (RSPost W B cap G (putR R r key n)) := by
  have CW := Lib.hid (refwhy_any h hcap r 1 hr)
  rcases tabR_why R r with ⟨hw, _, _, hl⟩ | ⟨hw, k, k1, hrk, ho, hkd, hgn⟩
  · have HV := Lib.hid (hl key n)
    obtain ⟨x, hx⟩ : ∃ x, whyR R r 1 = x := ⟨_, rfl⟩
    have hxb : (x != 0) = true := by rw [← hx, bne_iff_ne]; exact hw
    rw [hx] at CW HV
    have HM := Lib.hid h
    clear h hw hl hx
    go_enter Try.func37, Try.ntmps37
    go_wp2_with (go_at_call 50; refine CW.out.mono ?_; rintro e u ⟨rfl, hu⟩; rw [hu]; clear hu u)
    go_ret
    rw [HV.out]
    exact ⟨rfl, G, HM.out.mono (Nat.le_succ _), rfl, Below.refl _ _, Sep.since (Below.refl _ _)⟩
  · rw [hw] at CW
    have k2 : k < G.gts.length := by rw [h.glen]; exact k1
    obtain ⟨lb, e, hl, _, _, t0, t1, t2, t3, t4, t5⟩ := h.thing k1 k2
    have c0 := h.cell 0
    have c2 := h.cell 2
    have c3 := h.cell 3
    have f3 := h.free 3
    simp only [List.getElem?_toArray, List.getElem?_cons_succ, List.getElem?_cons_zero] at c0 c2 c3
    rw [h.ln, e] at c0
    have hll := h.num.len
    have hT := h.th k k1 k2
    have hn := h.num.one _ (List.getElem_mem k1)
    have hrd : NumsAt W G.gts[k].K.1 G.gts[k].K.2.1 R.L[k].keys := OwnsI.read hT.K
    have hru : NumsAt W G.gts[k].U.1 G.gts[k].U.2.1 R.L[k].under := OwnsI.read hT.U
    have HV : RowKit.Hid (putR R r key n = (if 0 ≤ findL R.L[k].keys key ∨ R.L[k].frame ≠ 0 then ({R with L := R.L.set k (putT R.L[k] key n)}, 0) else (if R.used + 16 ≤ R.limit then ({R with used := R.used + 16, L := R.L.set k (putT R.L[k] key n)}, 0) else (R, 4)))) := Lib.hid (by unfold putR; rw [ho]; simp only [hkd, hgn, if_true, Bool.false_eq_true, if_false]; rw [show (r - 1).toNat = k by omega])
    have hfr := findL_range R.L[k].keys key
    have CF : RowKit.Hid (Calls Try.prog 52 #[.slice G.gts[k].K.1 G.gts[k].K.2.1 G.gts[k].K.2.2, .int .i64 key] W fun e w' => e = .returned (.int .i64 (findL R.L[k].keys key)) ∧ w' = W) := Lib.hid (find_any hrd (by have := hrd.1; have := hn.keys; omega) key)
    have hw1 : wrap64 (r - 1) = (k : Int) := by unfold wrap64; omega
    have hk0 : (0 : Int) ≤ (k : Int) := by omega
    have hk1 : (k : Int) < (R.L.length : Int) := by omega
    obtain ⟨N, hN⟩ : ∃ N, R.L.length = N := ⟨_, rfl⟩
    rw [hN] at hk1 c0
    obtain ⟨fi, hfi⟩ : ∃ fi, findL R.L[k].keys key = fi := ⟨_, rfl⟩
    rw [hfi] at CF HV hfr
    have hPT : putT R.L[k] key n = if 0 ≤ fi then {R.L[k] with under := R.L[k].under.set fi.toNat n} else moreT R.L[k] key n := by rw [← hfi]; rfl
    unfold sv at t1 t2 t3
    by_cases hf : 0 ≤ fi
    · obtain ⟨q, rfl⟩ : ∃ q : Nat, fi = q := ⟨fi.toNat, by omega⟩
      have hqu : q < R.L[k].under.length := by have := hn.under; omega
      have hqn : (q : Int) < (G.gts[k].U.2.1 : Int) := by have := hru.1; omega
      obtain ⟨gu, eu, _, hgu, hcu⟩ := (row_cells (show W.ownsRow B 2 1 (.slice G.gts[k].U.1 G.gts[k].U.2.1 G.gts[k].U.2.2) _ _ from hT.U)).2 (by omega)
      have hcq := hcu q (numV R.L[k].under[q]) (by rw [List.getElem?_map, List.getElem?_eq_getElem hqu]; rfl)
      have hfz : W.frozen? ⟨gu, q, none⟩ = false := by
        have hu0 := hT.U
        unfold OwnsI sv at hu0
        rw [eu, ← hru.1] at hu0
        exact World.ownsRow.frozenAt hu0 q
      obtain ⟨p1, p2, p3⟩ := h.setU k1 k2 hqu eu n
      have HE : RowKit.Hid (RSPost W B cap G (putR R r key n) (.returned (.int .i64 0)) (W.setCell ⟨gu, q, none⟩ (.int .i64 n))) := Lib.hid (by
        rw [HV.out, if_pos (.inl hf), hPT, if_pos hf, Int.toNat_natCast]
        exact ⟨rfl, G, p1.mono (Nat.le_succ _), rfl, p2, p3⟩)
      rw [eu] at t3
      unfold numV at hcq
      have hq0 : (0 : Int) ≤ (q : Int) := hf
      have hlt : decide ((q : Int) < 0) = false := decide_eq_false (by omega)
      generalize R.L[k].under[q] = y at *
      clear p1 p2 p3 h hw ho hkd hgn hT hn hrd hru hN hfi hfr hcu eu hf hqu k1 hrk e hll hPT HV t0 t1 t4 t5 c2 c3 f3
      go_enter Try.func37, Try.ntmps37
      go_wp2_with (first
        | (go_at_call 50; refine CW.out.mono ?_; rintro e u ⟨rfl, hu⟩; rw [hu]; clear hu u)
        | (go_at_call 52; (with_reducible refine CF.out.mono ?_); rintro e u ⟨rfl, hu⟩; rw [hu]; clear hu u))
      go_ret
      exact HE.out
    · have hlt : decide (fi < 0) = true := decide_eq_true (by omega)
      have hle : decide (0 ≤ fi) = false := decide_eq_false hf
      rw [if_neg hf] at hPT
      obtain ⟨fm, hfm⟩ : ∃ fm, R.L[k].frame = fm := ⟨_, rfl⟩
      rw [hfm] at t4 HV
      by_cases hf0 : fm = 0
      · subst hf0
        rw [if_neg (by simp [hf])] at HV
        have hus := h.num.used
        have hli := h.num.limit
        have hws : wrap64 (R.limit - R.used) = R.limit - R.used := by unfold wrap64; omega
        by_cases hfit : R.used + 16 ≤ R.limit
        · rw [if_pos hfit] at HV
          have hd : decide (R.limit - R.used < 16) = false := decide_eq_false (by omega)
          have hwa : wrap64 (R.used + 16) = R.used + 16 := by unfold wrap64; omega
          obtain ⟨t, ht⟩ : ∃ t, R.L[k] = t := ⟨_, rfl⟩
          obtain ⟨g, hg⟩ : ∃ g, G.gts[k] = g := ⟨_, rfl⟩
          have HD : RowKit.Hid (∀ q, ∀ U, U = ((W.drewN q).setCell ⟨G.p, 3, none⟩ (.int .i64 (R.used + 16))) → PutHd U.drew B cap {R with used := R.used + 16} G k lb t g ∧ Below B W U.drew ∧ Sep W U.drew G.ρ G.ρ) := Lib.hid fun q U hU => by
            have bq : Below W.heap.size W (W.drewN q) := below_drewN q (Below.refl _ _)
            have hq := h.since bq
            have o1 : Off (fun b => b = G.p) (W.drewN q) U.drew := by
              rw [hU]
              exact ((Off.refl (fun b => b = G.p) (W.drewN q)).setCell (p := ⟨G.p, 3, none⟩) (.inl rfl) _).drew
            have kq : Kp G.ρ (fun r => r ≠ (0, 0)) (W.drewN q) U.drew := kp_of_off hq.range o1 fun b r hx hbr hR => by
              rw [hx, hq.rm] at hbr; exact hR (Option.some.inj hbr).symm
            have hbW : B ≤ W.heap.size := by have := h.plt; omega
            refine ⟨⟨hq.head (a := R.frames) (b := R.limit) (c := R.used + 16) (d := R.makes) kq o1.size ?_ ⟨h.num.frames, hli, ⟨by show 0 ≤ R.used + 16; omega, hfit⟩, h.num.makes, h.num.len, h.num.one⟩, k1, k2, ht, hg, e⟩, (bq.mono hbW).trans (o1.below (by have := bq.size; omega) (fun b hb => by rw [hb]; exact h.plt.1)), (Off.since bq).trans (o1.mono fun b _ hb => ⟨(0, 0), by rw [hb]; exact h.rm⟩), fun b r hr => .inl ⟨r, hr⟩⟩
            rw [hU]
            show ((W.drewN q).setCell _ _).heap[G.p]? = _
            rw [heap_setCell_same (W.drewN q) G.p 3 _ _ _ hq.blk]; rfl
          rw [ht] at t5 t0 hPT HV
          rw [hg] at t1 t2 t3 CF
          have HPT := Lib.hid hPT
          have HCP := Lib.hid hcap
          clear h hw ho hkd hgn hT hn hrd hru hN hfi hfr hf e hll hPT t0 t1 t5 hus hli hfit ht hg hfm hrk
          go_enter Try.func37, Try.ntmps37
          go_upto_region 10 with (first
            | (go_at_call 50; refine CW.out.mono ?_; rintro e u ⟨rfl, hu⟩; rw [hu]; clear hu u)
            | (go_at_call 52; (with_reducible refine CF.out.mono ?_); rintro e u ⟨rfl, hu⟩; rw [hu]; clear hu u))
          go_quiet (fail)
          go_upto_region 13 with fail
          generalize hU : World.setCell _ _ _ = U
          obtain ⟨PH, pb, ps⟩ := HD.out _ U hU.symm
          have HH := Lib.hid PH
          have HPB := Lib.hid (And.intro pb ps)
          clear PH pb ps c0 c2 c3 f3 t2 t3 t4 HD hU
          obtain ⟨hDB, hlb, hkl, hul, hUK, hKD, hoK, hoU, hsk, hsu, d2, d3⟩ := HH.out.facts
          have HKW := Lib.hid (And.intro hUK hKD)
          have HKO := Lib.hid (And.intro hoK hoU)
          have HSZ : RowKit.Hid ((t.keys.length + 1) * 8 ≤ 140737488355328 ∧ (t.under.length + 1) * 8 ≤ 140737488355328) := Lib.hid (by have := HCP.out; omega)
          have HLB := Lib.hid (And.intro hDB hlb)
          have HNE := Lib.hid (And.intro hkl hul)
          have HB1 : RowKit.Hid (∀ X, Below U.drew.heap.size U.drew (U.drew.alloc X)) := Lib.hid fun X => (Below.refl _ _).alloc (Nat.le_refl _) X
          have HB2 : RowKit.Hid (∀ X Y, Below U.drew.heap.size U.drew ((U.drew.alloc X).alloc Y)) := Lib.hid fun X Y => (HB1.out X).alloc (by simp) Y
          have HS0 : RowKit.Hid (∀ u, Below U.drew.heap.size U.drew u → u.cell? ⟨lb, k * 6 + 2, none⟩ = some (.slice g.K.1 g.K.2.1 g.K.2.2) ∧ u.cell? ⟨lb, k * 6 + 3, none⟩ = some (.slice g.U.1 g.U.2.1 g.U.2.2)) := Lib.hid fun u hu => ⟨(hu.cell (p := ⟨lb, k * 6 + 2, none⟩) hlb).trans d2, (hu.cell (p := ⟨lb, k * 6 + 3, none⟩) hlb).trans d3⟩
          have HA0 : RowKit.Hid (∀ u K' ks, AfterK U.drew u B g.K K' ks → u.cell? ⟨lb, k * 6 + 2, none⟩ = some (.slice g.K.1 g.K.2.1 g.K.2.2) ∧ u.cell? ⟨lb, k * 6 + 3, none⟩ = some (.slice g.U.1 g.U.2.1 g.U.2.2)) := Lib.hid fun u K' ks hu => ⟨hu.cell hlb hkl d2, hu.cell hlb hkl d3⟩
          have HO0 : RowKit.Hid (∀ u, Below U.drew.heap.size U.drew u → OwnsI u B 2 (.slice g.K.1 g.K.2.1 g.K.2.2) t.keys ∧ B ≤ u.heap.size) := Lib.hid fun u hu => ⟨OwnsI.below hoK hu, by have := hu.size; omega⟩
          have HO1 : RowKit.Hid (∀ u K' ks, AfterK U.drew u B g.K K' ks → OwnsI u B 2 (.slice g.U.1 g.U.2.1 g.U.2.2) t.under ∧ B ≤ u.heap.size) := Lib.hid fun u K' ks hu => ⟨own_after hu hoU (fun b hb => (hUK b hb).2), by have := hu.off.size; omega⟩
          have HD0 := Lib.hid (And.intro d2 d3)
          clear hDB hlb hkl hul hUK hKD hoK hoU hsk hsu d2 d3
          refine wp_region_T (S := (fun u : World => u.cell? ⟨lb, k * 6 + 2, none⟩ = some (.slice g.K.1 g.K.2.1 g.K.2.2) ∧ u.cell? ⟨lb, k * 6 + 3, none⟩ = some (.slice g.U.1 g.U.2.1 g.U.2.2))) 16 (by kernel_rfl) (HS0.out _ (Below.refl _ _)) (fun hHeld => ?_)
          refine wpAnyT_takeW (i := 0) (oi := ⟨some 63, _, _, _, _, _⟩) (v := ?_) rfl (by kernel_rfl) (by kernel_rfl) (by kernel_rfl) (fun _ _ _ h => h) (Or.inl ⟨by rfl, ?_⟩) ?_
          rotate_left
          · ((intro w _; go_simp); try with_reducible rfl)
          (try simp only [Act.put, List.setIfInBounds_toArray, List.set_cons_zero, List.set_cons_succ])
          refine wpAnyT_takeW (i := 1) (oi := ⟨some 64, _, _, _, _, _⟩) (v := ?_) rfl (by kernel_rfl) (by kernel_rfl) (by kernel_rfl) (fun _ _ _ h => h) (Or.inl ⟨by rfl, ?_⟩) ?_
          rotate_left
          · ((intro w _; go_simp); try with_reducible rfl)
          (try simp only [Act.put, List.setIfInBounds_toArray, List.set_cons_zero, List.set_cons_succ])
          refine wpAnyT_takeW (i := 2) (oi := ⟨some 65, _, _, _, _, _⟩) (v := ?_) rfl (by kernel_rfl) (by kernel_rfl) (by kernel_rfl) (fun _ _ _ h => h) (Or.inl ⟨by rfl, ?_⟩) ?_
          rotate_left
          · ((intro w _; go_simp); try with_reducible rfl)
          (try simp only [Act.put, List.setIfInBounds_toArray, List.set_cons_zero, List.set_cons_succ])
          refine wpAnyT_takeW (i := 3) (oi := ⟨some 66, _, _, _, _, _⟩) (v := ?_) rfl (by kernel_rfl) (by kernel_rfl) (by kernel_rfl) (fun _ _ _ h => h) (Or.inl ⟨by rfl, ?_⟩) ?_
          rotate_left
          · ((intro w _; go_simp); try with_reducible rfl)
          (try simp only [Act.put, List.setIfInBounds_toArray, List.set_cons_zero, List.set_cons_succ])
          refine wpAnyT_takeW (i := 4) (oi := ⟨some 67, _, _, _, _, _⟩) (v := ?_) rfl (by kernel_rfl) (by kernel_rfl) (by kernel_rfl) (fun _ _ _ h => h) (Or.inl ⟨by rfl, ?_⟩) ?_
          rotate_left
          · ((intro w _; go_simp); try with_reducible rfl)
          (try simp only [Act.put, List.setIfInBounds_toArray, List.set_cons_zero, List.set_cons_succ])
          refine wpAnyT_take (i := 5) (oi := ⟨some 68, _, _, _, _, _⟩) (v := ?_) 8 rfl (by kernel_rfl) (by kernel_rfl) (by kernel_rfl) (by kernel_rfl) (by kernel_rfl) (fun _ _ _ h => h) (Or.inl ⟨by rfl, ?_⟩) (by assumption) ?_
          rotate_left
          · ((intro w hSw; (try dsimp only at hSw); go_simp); try with_reducible rfl)
          (try simp only [Act.put, List.setIfInBounds_toArray, List.set_cons_zero, List.set_cons_succ])
          refine wpAnyT_takeW (i := 6) (oi := ⟨some 69, _, _, _, _, _⟩) (v := ?_) rfl (by kernel_rfl) (by kernel_rfl) (by kernel_rfl) (fun _ _ _ h => h) (Or.inl ⟨by rfl, ?_⟩) ?_
          rotate_left
          · ((intro w _; go_simp); try with_reducible rfl)
          (try simp only [Act.put, List.setIfInBounds_toArray, List.set_cons_zero, List.set_cons_succ])
          refine wpAnyT_takeW (i := 9) (oi := ⟨some 72, _, _, _, _, _⟩) (v := ?_) rfl (by kernel_rfl) (by kernel_rfl) (by kernel_rfl) (fun _ _ _ h => h) (Or.inl ⟨by rfl, ?_⟩) ?_
          rotate_left
          · ((intro w _; go_simp); try with_reducible rfl)
          (try simp only [Act.put, List.setIfInBounds_toArray, List.set_cons_zero, List.set_cons_succ])
          refine wpAnyT_takeW (i := 10) (oi := ⟨some 73, _, _, _, _, _⟩) (v := ?_) rfl (by kernel_rfl) (by kernel_rfl) (by kernel_rfl) (fun _ _ _ h => h) (Or.inl ⟨by rfl, ?_⟩) ?_
          rotate_left
          · ((intro w _; go_simp); try with_reducible rfl)
          (try simp only [Act.put, List.setIfInBounds_toArray, List.set_cons_zero, List.set_cons_succ])
          refine wpAnyT_takeW (i := 11) (oi := ⟨some 74, _, _, _, _, _⟩) (v := ?_) rfl (by kernel_rfl) (by kernel_rfl) (by kernel_rfl) (fun _ _ _ h => h) (Or.inl ⟨by rfl, ?_⟩) ?_
          rotate_left
          · ((intro w _; go_simp); try with_reducible rfl)
          (try simp only [Act.put, List.setIfInBounds_toArray, List.set_cons_zero, List.set_cons_succ])
          refine wpAnyT_take (i := 12) (oi := ⟨some 75, _, _, _, _, _⟩) (v := ?_) 8 rfl (by kernel_rfl) (by kernel_rfl) (by kernel_rfl) (by kernel_rfl) (by kernel_rfl) (fun _ _ _ h => h) (Or.inl ⟨by rfl, ?_⟩) (by assumption) ?_
          rotate_left
          · ((intro w hSw; (try dsimp only at hSw); go_simp); try with_reducible rfl)
          (try simp only [Act.put, List.setIfInBounds_toArray, List.set_cons_zero, List.set_cons_succ])
          refine wpAnyT_takeW (i := 13) (oi := ⟨some 76, _, _, _, _, _⟩) (v := ?_) rfl (by kernel_rfl) (by kernel_rfl) (by kernel_rfl) (fun _ _ _ h => h) (Or.inl ⟨by rfl, ?_⟩) ?_
          rotate_left
          · ((intro w _; go_simp); try with_reducible rfl)
          (try simp only [Act.put, List.setIfInBounds_toArray, List.set_cons_zero, List.set_cons_succ])
          refine wpAnyT_two (i := 7) (j := 14) (by kernel_rfl) rfl rfl (fun K hK => ?_) (fun K hK => ?_)
          · rw [if_pos (by rfl)]
            go_simp
            refine hK.out _ _ (HS0.out _ (HB1.out _)) (fun hHeld => ?_)
            clear hK K
            (try simp only [Act.put, List.setIfInBounds_toArray, List.set_cons_zero, List.set_cons_succ])
            refine wpAnyT_two (i := 8) (j := 14) (by kernel_rfl) rfl rfl (fun K hK => ?_) (fun K hK => ?_)
            · refine step_append_i64 (by rfl) _ _ (by rfl) B (.slice g.K.1 g.K.2.1 g.K.2.2) t.keys (by rfl) (HO0.out _ (HB1.out (.cells #[.int .i64 key] 2))).1 (HO0.out _ (HB1.out (.cells #[.int .i64 key] 2))).2 _ _ key (by rfl) (World.cell?_alloc_mark _ _ _ _ _) HSZ.out.1 ?_
              intro ya yn yc w1 ho1 hg1 hw1
              have HAK : RowKit.Hid (AfterK U.drew w1 B g.K (ya, yn, yc) (t.keys ++ [key])) := Lib.hid (AfterK.mk' (HB1.out (.cells #[.int .i64 key] 2)) ho1 hg1 hw1)
              clear ho1 hg1 hw1
              refine hK.out _ _ (HA0.out _ _ _ HAK.out) (fun hHeld => ?_)
              clear hK K
              (try simp only [Act.put, List.setIfInBounds_toArray, List.set_cons_zero, List.set_cons_succ])
              refine wpAnyT_one (i := 14) (by kernel_rfl) rfl (fun K hK => ?_)
              rw [if_pos (by rfl)]
              go_simp
              refine hK.out _ _ (HA0.out _ _ _ (HAK.out.alloc _)) (fun hHeld => ?_)
              clear hK K
              (try simp only [Act.put, List.setIfInBounds_toArray, List.set_cons_zero, List.set_cons_succ])
              refine wpAnyT_one (i := 15) (by kernel_rfl) rfl (fun K hK => ?_)
              refine step_append_i64 (by rfl) _ _ (by rfl) B (.slice g.U.1 g.U.2.1 g.U.2.2) t.under (by rfl) (HO1.out _ _ _ (HAK.out.alloc (.cells #[.int .i64 n] 2))).1 (HO1.out _ _ _ (HAK.out.alloc (.cells #[.int .i64 n] 2))).2 _ _ n (by rfl) (World.cell?_alloc_mark _ _ _ _ _) HSZ.out.2 ?_
              intro za zn zc w2 ho2 hg2 hw2
              have HG2 : RowKit.Hid (Grown2 U.drew w2 B g.K g.U (ya, yn, yc) (za, zn, zc) (t.keys ++ [key]) (t.under ++ [n])) := Lib.hid (AfterK.ends (HAK.out.alloc (.cells #[.int .i64 n] 2)) ho2 hg2 hw2 HKW.out.1)
              clear ho2 hg2 hw2
              have HC2 : RowKit.Hid (w2.cell? ⟨lb, k * 6 + 2, none⟩ = some (.slice g.K.1 g.K.2.1 g.K.2.2) ∧ w2.cell? ⟨lb, k * 6 + 3, none⟩ = some (.slice g.U.1 g.U.2.1 g.U.2.2)) := Lib.hid ⟨(HG2.out.off.cell (p := ⟨lb, k * 6 + 2, none⟩) HLB.out.2 (fun e => e.elim HNE.out.1 HNE.out.2)).trans HD0.out.1, (HG2.out.off.cell (p := ⟨lb, k * 6 + 3, none⟩) HLB.out.2 (fun e => e.elim HNE.out.1 HNE.out.2)).trans HD0.out.2⟩
              refine hK.out _ _ HC2.out (fun hHeld => ?_)
              clear hK K
              (try simp only [Act.put, List.setIfInBounds_toArray, List.set_cons_zero, List.set_cons_succ])
              refine wpAnyT_end (i := 16) (by kernel_rfl) (by kernel_rfl) rfl (fun K hK => ?_)
              rw [if_pos (by rfl)]
              go_simp
              refine hK.out _ _ ?_
              clear hK K
              (try simp only [Act.put, List.setIfInBounds_toArray, List.set_cons_zero, List.set_cons_succ])
              refine wpAnyT_end (i := 17) (by kernel_rfl) (by kernel_rfl) rfl (fun K hK => ?_)
              rw [if_pos (by rfl)]
              go_simp
              refine hK.out _ _ ?_
              clear hK K
              (try simp only [Act.put, List.setIfInBounds_toArray, List.set_cons_zero, List.set_cons_succ])
              have hX := HH.out.mem.putNew (w2 := w2) (key := key) (n := n) (K' := (ya, yn, yc)) (U' := (za, zn, zc)) HH.out.k1 HH.out.k2 HH.out.la (by rw [HH.out.t, HH.out.g]; exact HG2.out)
              have HX := Lib.hid hX
              obtain ⟨fz2, fz3⟩ := hX.1
              obtain ⟨cz2, cz3⟩ := HC2.out
              clear hX hHeld
              refine wpAnyT_end (i := 18) (by kernel_rfl) (by kernel_rfl) rfl (fun K hK => ?_)
              rw [if_pos (by rfl)]
              go_simp
              refine hK.out _ _ ?_
              clear hK K
              (try simp only [Act.put, List.setIfInBounds_toArray, List.set_cons_zero, List.set_cons_succ])
              refine wpAnyT_end (i := 19) (by kernel_rfl) (by kernel_rfl) rfl (fun K hK => ?_)
              rw [if_pos (by rfl)]
              go_simp
              refine hK.out _ _ ?_
              clear hK K
              (try simp only [Act.put, List.setIfInBounds_toArray, List.set_cons_zero, List.set_cons_succ])
              refine wpAnyT_end (i := 20) (by kernel_rfl) (by kernel_rfl) rfl (fun K hK => ?_)
              rw [if_pos (by rfl)]
              go_simp
              refine hK.out _ _ ?_
              clear hK K
              (try simp only [Act.put, List.setIfInBounds_toArray, List.set_cons_zero, List.set_cons_succ])
              refine wpAnyT_end (i := 21) (by kernel_rfl) (by kernel_rfl) rfl (fun K hK => ?_)
              rw [if_pos (by rfl)]
              go_simp
              refine hK.out _ _ ?_
              clear hK K
              (try simp only [Act.put, List.setIfInBounds_toArray, List.set_cons_zero, List.set_cons_succ])
              refine wpAnyT_done (by kernel_rfl) ?_
              go_wp2_with fail
              go_ret
              obtain ⟨G', q1, q2, q3, q4⟩ := HX.out.2
              rw [HV.out, HPT.out]
              rw [HH.out.t] at q1
              exact ⟨rfl, G', q1, q2, HPB.out.1.trans q3, HPB.out.2.trans q4⟩
            · rw [if_pos (by rfl)]
              go_simp
              refine hK.out _ _ (HS0.out _ (HB2.out _ _)) (fun hHeld => ?_)
              clear hK K
              (try simp only [Act.put, List.setIfInBounds_toArray, List.set_cons_zero, List.set_cons_succ])
              refine wpAnyT_one (i := 8) (by kernel_rfl) rfl (fun K hK => ?_)
              refine step_append_i64 (by rfl) _ _ (by rfl) B (.slice g.K.1 g.K.2.1 g.K.2.2) t.keys (by rfl) (HO0.out _ (HB2.out (.cells #[.int .i64 key] 2) (.cells #[.int .i64 n] 2))).1 (HO0.out _ (HB2.out (.cells #[.int .i64 key] 2) (.cells #[.int .i64 n] 2))).2 _ _ key (by rfl) ((cell_of_row _ _ 0 _ _ _ (two_new U.drew (.cells #[.int .i64 key] 2) (.cells #[.int .i64 n] 2)).1).trans rfl) HSZ.out.1 ?_
              intro ya yn yc w1 ho1 hg1 hw1
              have HAK : RowKit.Hid (AfterK U.drew w1 B g.K (ya, yn, yc) (t.keys ++ [key])) := Lib.hid (AfterK.mk' (HB2.out (.cells #[.int .i64 key] 2) (.cells #[.int .i64 n] 2)) ho1 hg1 hw1)
              have HXN : RowKit.Hid (w1.cell? ⟨(U.drew.heap.size + 1), 0, none⟩ = some (.int .i64 n)) := Lib.hid (hg1.cell (a := ⟨(U.drew.heap.size + 1), 0, none⟩) ((cell_of_row _ _ 0 _ _ _ (two_new U.drew (.cells #[.int .i64 key] 2) (.cells #[.int .i64 n] 2)).2.1).trans rfl) (fun e => absurd (show (U.drew.heap.size + 1) < U.drew.heap.size from HKW.out.2 _ e.symm) (by omega)))
              clear ho1 hg1 hw1
              refine hK.out _ _ (HA0.out _ _ _ HAK.out) (fun hHeld => ?_)
              clear hK K
              (try simp only [Act.put, List.setIfInBounds_toArray, List.set_cons_zero, List.set_cons_succ])
              refine wpAnyT_one (i := 15) (by kernel_rfl) rfl (fun K hK => ?_)
              refine step_append_i64 (by rfl) _ _ (by rfl) B (.slice g.U.1 g.U.2.1 g.U.2.2) t.under (by rfl) (HO1.out _ _ _ (HAK.out)).1 (HO1.out _ _ _ (HAK.out)).2 _ _ n (by rfl) (HXN.out) HSZ.out.2 ?_
              intro za zn zc w2 ho2 hg2 hw2
              have HG2 : RowKit.Hid (Grown2 U.drew w2 B g.K g.U (ya, yn, yc) (za, zn, zc) (t.keys ++ [key]) (t.under ++ [n])) := Lib.hid (AfterK.ends (HAK.out) ho2 hg2 hw2 HKW.out.1)
              clear ho2 hg2 hw2
              have HC2 : RowKit.Hid (w2.cell? ⟨lb, k * 6 + 2, none⟩ = some (.slice g.K.1 g.K.2.1 g.K.2.2) ∧ w2.cell? ⟨lb, k * 6 + 3, none⟩ = some (.slice g.U.1 g.U.2.1 g.U.2.2)) := Lib.hid ⟨(HG2.out.off.cell (p := ⟨lb, k * 6 + 2, none⟩) HLB.out.2 (fun e => e.elim HNE.out.1 HNE.out.2)).trans HD0.out.1, (HG2.out.off.cell (p := ⟨lb, k * 6 + 3, none⟩) HLB.out.2 (fun e => e.elim HNE.out.1 HNE.out.2)).trans HD0.out.2⟩
              refine hK.out _ _ HC2.out (fun hHeld => ?_)
              clear hK K
              (try simp only [Act.put, List.setIfInBounds_toArray, List.set_cons_zero, List.set_cons_succ])
              refine wpAnyT_end (i := 16) (by kernel_rfl) (by kernel_rfl) rfl (fun K hK => ?_)
              rw [if_pos (by rfl)]
              go_simp
              refine hK.out _ _ ?_
              clear hK K
              (try simp only [Act.put, List.setIfInBounds_toArray, List.set_cons_zero, List.set_cons_succ])
              refine wpAnyT_end (i := 17) (by kernel_rfl) (by kernel_rfl) rfl (fun K hK => ?_)
              rw [if_pos (by rfl)]
              go_simp
              refine hK.out _ _ ?_
              clear hK K
              (try simp only [Act.put, List.setIfInBounds_toArray, List.set_cons_zero, List.set_cons_succ])
              have hX := HH.out.mem.putNew (w2 := w2) (key := key) (n := n) (K' := (ya, yn, yc)) (U' := (za, zn, zc)) HH.out.k1 HH.out.k2 HH.out.la (by rw [HH.out.t, HH.out.g]; exact HG2.out)
              have HX := Lib.hid hX
              obtain ⟨fz2, fz3⟩ := hX.1
              obtain ⟨cz2, cz3⟩ := HC2.out
              clear hX hHeld
              refine wpAnyT_end (i := 18) (by kernel_rfl) (by kernel_rfl) rfl (fun K hK => ?_)
              rw [if_pos (by rfl)]
              go_simp
              refine hK.out _ _ ?_
              clear hK K
              (try simp only [Act.put, List.setIfInBounds_toArray, List.set_cons_zero, List.set_cons_succ])
              refine wpAnyT_end (i := 19) (by kernel_rfl) (by kernel_rfl) rfl (fun K hK => ?_)
              rw [if_pos (by rfl)]
              go_simp
              refine hK.out _ _ ?_
              clear hK K
              (try simp only [Act.put, List.setIfInBounds_toArray, List.set_cons_zero, List.set_cons_succ])
              refine wpAnyT_end (i := 20) (by kernel_rfl) (by kernel_rfl) rfl (fun K hK => ?_)
              rw [if_pos (by rfl)]
              go_simp
              refine hK.out _ _ ?_
              clear hK K
              (try simp only [Act.put, List.setIfInBounds_toArray, List.set_cons_zero, List.set_cons_succ])
              refine wpAnyT_end (i := 21) (by kernel_rfl) (by kernel_rfl) rfl (fun K hK => ?_)
              rw [if_pos (by rfl)]
              go_simp
              refine hK.out _ _ ?_
              clear hK K
              (try simp only [Act.put, List.setIfInBounds_toArray, List.set_cons_zero, List.set_cons_succ])
              refine wpAnyT_done (by kernel_rfl) ?_
              go_wp2_with fail
              go_ret
              obtain ⟨G', q1, q2, q3, q4⟩ := HX.out.2
              rw [HV.out, HPT.out]
              rw [HH.out.t] at q1
              exact ⟨rfl, G', q1, q2, HPB.out.1.trans q3, HPB.out.2.trans q4⟩
          · rw [if_pos (by rfl)]
            go_simp
            refine hK.out _ _ (HS0.out _ (HB1.out _)) (fun hHeld => ?_)
            clear hK K
            (try simp only [Act.put, List.setIfInBounds_toArray, List.set_cons_zero, List.set_cons_succ])
            refine wpAnyT_one (i := 7) (by kernel_rfl) rfl (fun K hK => ?_)
            rw [if_pos (by rfl)]
            go_simp
            refine hK.out _ _ (HS0.out _ (HB2.out _ _)) (fun hHeld => ?_)
            clear hK K
            (try simp only [Act.put, List.setIfInBounds_toArray, List.set_cons_zero, List.set_cons_succ])
            refine wpAnyT_one (i := 8) (by kernel_rfl) rfl (fun K hK => ?_)
            refine step_append_i64 (by rfl) _ _ (by rfl) B (.slice g.K.1 g.K.2.1 g.K.2.2) t.keys (by rfl) (HO0.out _ (HB2.out (.cells #[.int .i64 n] 2) (.cells #[.int .i64 key] 2))).1 (HO0.out _ (HB2.out (.cells #[.int .i64 n] 2) (.cells #[.int .i64 key] 2))).2 _ _ key (by rfl) ((cell_of_row _ _ 0 _ _ _ (two_new U.drew (.cells #[.int .i64 n] 2) (.cells #[.int .i64 key] 2)).2.1).trans rfl) HSZ.out.1 ?_
            intro ya yn yc w1 ho1 hg1 hw1
            have HAK : RowKit.Hid (AfterK U.drew w1 B g.K (ya, yn, yc) (t.keys ++ [key])) := Lib.hid (AfterK.mk' (HB2.out (.cells #[.int .i64 n] 2) (.cells #[.int .i64 key] 2)) ho1 hg1 hw1)
            have HXN : RowKit.Hid (w1.cell? ⟨U.drew.heap.size, 0, none⟩ = some (.int .i64 n)) := Lib.hid (hg1.cell (a := ⟨U.drew.heap.size, 0, none⟩) ((cell_of_row _ _ 0 _ _ _ (two_new U.drew (.cells #[.int .i64 n] 2) (.cells #[.int .i64 key] 2)).1).trans rfl) (fun e => absurd (show U.drew.heap.size < U.drew.heap.size from HKW.out.2 _ e.symm) (by omega)))
            clear ho1 hg1 hw1
            refine hK.out _ _ (HA0.out _ _ _ HAK.out) (fun hHeld => ?_)
            clear hK K
            (try simp only [Act.put, List.setIfInBounds_toArray, List.set_cons_zero, List.set_cons_succ])
            refine wpAnyT_one (i := 15) (by kernel_rfl) rfl (fun K hK => ?_)
            refine step_append_i64 (by rfl) _ _ (by rfl) B (.slice g.U.1 g.U.2.1 g.U.2.2) t.under (by rfl) (HO1.out _ _ _ (HAK.out)).1 (HO1.out _ _ _ (HAK.out)).2 _ _ n (by rfl) (HXN.out) HSZ.out.2 ?_
            intro za zn zc w2 ho2 hg2 hw2
            have HG2 : RowKit.Hid (Grown2 U.drew w2 B g.K g.U (ya, yn, yc) (za, zn, zc) (t.keys ++ [key]) (t.under ++ [n])) := Lib.hid (AfterK.ends (HAK.out) ho2 hg2 hw2 HKW.out.1)
            clear ho2 hg2 hw2
            have HC2 : RowKit.Hid (w2.cell? ⟨lb, k * 6 + 2, none⟩ = some (.slice g.K.1 g.K.2.1 g.K.2.2) ∧ w2.cell? ⟨lb, k * 6 + 3, none⟩ = some (.slice g.U.1 g.U.2.1 g.U.2.2)) := Lib.hid ⟨(HG2.out.off.cell (p := ⟨lb, k * 6 + 2, none⟩) HLB.out.2 (fun e => e.elim HNE.out.1 HNE.out.2)).trans HD0.out.1, (HG2.out.off.cell (p := ⟨lb, k * 6 + 3, none⟩) HLB.out.2 (fun e => e.elim HNE.out.1 HNE.out.2)).trans HD0.out.2⟩
            refine hK.out _ _ HC2.out (fun hHeld => ?_)
            clear hK K
            (try simp only [Act.put, List.setIfInBounds_toArray, List.set_cons_zero, List.set_cons_succ])
            refine wpAnyT_end (i := 16) (by kernel_rfl) (by kernel_rfl) rfl (fun K hK => ?_)
            rw [if_pos (by rfl)]
            go_simp
            refine hK.out _ _ ?_
            clear hK K
            (try simp only [Act.put, List.setIfInBounds_toArray, List.set_cons_zero, List.set_cons_succ])
            refine wpAnyT_end (i := 17) (by kernel_rfl) (by kernel_rfl) rfl (fun K hK => ?_)
            rw [if_pos (by rfl)]
            go_simp
            refine hK.out _ _ ?_
            clear hK K
            (try simp only [Act.put, List.setIfInBounds_toArray, List.set_cons_zero, List.set_cons_succ])
            have hX := HH.out.mem.putNew (w2 := w2) (key := key) (n := n) (K' := (ya, yn, yc)) (U' := (za, zn, zc)) HH.out.k1 HH.out.k2 HH.out.la (by rw [HH.out.t, HH.out.g]; exact HG2.out)
            have HX := Lib.hid hX
            obtain ⟨fz2, fz3⟩ := hX.1
            obtain ⟨cz2, cz3⟩ := HC2.out
            clear hX hHeld
            refine wpAnyT_end (i := 18) (by kernel_rfl) (by kernel_rfl) rfl (fun K hK => ?_)
            rw [if_pos (by rfl)]
            go_simp
            refine hK.out _ _ ?_
            clear hK K
            (try simp only [Act.put, List.setIfInBounds_toArray, List.set_cons_zero, List.set_cons_succ])
            refine wpAnyT_end (i := 19) (by kernel_rfl) (by kernel_rfl) rfl (fun K hK => ?_)
            rw [if_pos (by rfl)]
            go_simp
            refine hK.out _ _ ?_
            clear hK K
            (try simp only [Act.put, List.setIfInBounds_toArray, List.set_cons_zero, List.set_cons_succ])
            refine wpAnyT_end (i := 20) (by kernel_rfl) (by kernel_rfl) rfl (fun K hK => ?_)
            rw [if_pos (by rfl)]
            go_simp
            refine hK.out _ _ ?_
            clear hK K
            (try simp only [Act.put, List.setIfInBounds_toArray, List.set_cons_zero, List.set_cons_succ])
            refine wpAnyT_end (i := 21) (by kernel_rfl) (by kernel_rfl) rfl (fun K hK => ?_)
            rw [if_pos (by rfl)]
            go_simp
            refine hK.out _ _ ?_
            clear hK K
            (try simp only [Act.put, List.setIfInBounds_toArray, List.set_cons_zero, List.set_cons_succ])
            refine wpAnyT_done (by kernel_rfl) ?_
            go_wp2_with fail
            go_ret
            obtain ⟨G', q1, q2, q3, q4⟩ := HX.out.2
            rw [HV.out, HPT.out]
            rw [HH.out.t] at q1
            exact ⟨rfl, G', q1, q2, HPB.out.1.trans q3, HPB.out.2.trans q4⟩
        · rw [if_neg hfit] at HV
          have hd : decide (R.limit - R.used < 16) = true := decide_eq_true (by omega)
          have HE : RowKit.Hid (∀ q, RSPost W B cap G (R, 4) (.returned (.int .i64 4)) (W.drewN q)) := Lib.hid fun q => ⟨rfl, G, (h.since (below_drewN q (Below.refl _ _))).mono (Nat.le_succ _), rfl, below_drewN q (Below.refl _ _), Sep.since (below_drewN q (Below.refl _ _))⟩
          clear h hw ho hkd hgn hT hn hrd hru hN hfi hfr hf e hll hPT t0 t1 t3 t5 hus hli hfit hfm hrk f3
          go_enter Try.func37, Try.ntmps37
          go_upto_region 10 with (first
            | (go_at_call 50; refine CW.out.mono ?_; rintro e u ⟨rfl, hu⟩; rw [hu]; clear hu u)
            | (go_at_call 52; (with_reducible refine CF.out.mono ?_); rintro e u ⟨rfl, hu⟩; rw [hu]; clear hu u))
          go_quiet (fail)
          go_wp2_with fail
          go_ret
          rw [HV.out]
          exact HE.out _
      · rw [if_pos (.inr hf0)] at HV
        have hfb : (fm == 0) = false := by simpa using hf0
        obtain ⟨t, ht⟩ : ∃ t, R.L[k] = t := ⟨_, rfl⟩
        obtain ⟨g, hg⟩ : ∃ g, G.gts[k] = g := ⟨_, rfl⟩
        have HH : RowKit.Hid (PutHd W.drew B cap R G k lb t g) := Lib.hid ⟨h.since (Below.refl _ _).drew, k1, k2, ht, hg, e⟩
        have HPB : RowKit.Hid (Below B W W.drew ∧ Sep W W.drew G.ρ G.ρ) := Lib.hid ⟨(Below.refl _ _).drew, Sep.since (Below.refl _ _).drew⟩
        rw [ht] at t5 t0 hPT HV
        rw [hg] at t1 t2 t3 CF
        have HPT := Lib.hid hPT
        have HCP := Lib.hid hcap
        clear h hw ho hkd hgn hT hn hrd hru hN hfi hfr hf e hll hPT t0 t1 t5 ht hg hfm hrk c2 c3 f3 hf0
        go_enter Try.func37, Try.ntmps37
        go_upto_region 13 with (first
          | (go_at_call 50; refine CW.out.mono ?_; rintro e u ⟨rfl, hu⟩; rw [hu]; clear hu u)
          | (go_at_call 52; (with_reducible refine CF.out.mono ?_); rintro e u ⟨rfl, hu⟩; rw [hu]; clear hu u))
        clear c0 t2 t3 t4
        obtain ⟨hDB, hlb, hkl, hul, hUK, hKD, hoK, hoU, hsk, hsu, d2, d3⟩ := HH.out.facts
        have HKW := Lib.hid (And.intro hUK hKD)
        have HKO := Lib.hid (And.intro hoK hoU)
        have HSZ : RowKit.Hid ((t.keys.length + 1) * 8 ≤ 140737488355328 ∧ (t.under.length + 1) * 8 ≤ 140737488355328) := Lib.hid (by have := HCP.out; omega)
        have HLB := Lib.hid (And.intro hDB hlb)
        have HNE := Lib.hid (And.intro hkl hul)
        have HB1 : RowKit.Hid (∀ X, Below W.drew.heap.size W.drew (W.drew.alloc X)) := Lib.hid fun X => (Below.refl _ _).alloc (Nat.le_refl _) X
        have HB2 : RowKit.Hid (∀ X Y, Below W.drew.heap.size W.drew ((W.drew.alloc X).alloc Y)) := Lib.hid fun X Y => (HB1.out X).alloc (by simp) Y
        have HS0 : RowKit.Hid (∀ u, Below W.drew.heap.size W.drew u → u.cell? ⟨lb, k * 6 + 2, none⟩ = some (.slice g.K.1 g.K.2.1 g.K.2.2) ∧ u.cell? ⟨lb, k * 6 + 3, none⟩ = some (.slice g.U.1 g.U.2.1 g.U.2.2)) := Lib.hid fun u hu => ⟨(hu.cell (p := ⟨lb, k * 6 + 2, none⟩) hlb).trans d2, (hu.cell (p := ⟨lb, k * 6 + 3, none⟩) hlb).trans d3⟩
        have HA0 : RowKit.Hid (∀ u K' ks, AfterK W.drew u B g.K K' ks → u.cell? ⟨lb, k * 6 + 2, none⟩ = some (.slice g.K.1 g.K.2.1 g.K.2.2) ∧ u.cell? ⟨lb, k * 6 + 3, none⟩ = some (.slice g.U.1 g.U.2.1 g.U.2.2)) := Lib.hid fun u K' ks hu => ⟨hu.cell hlb hkl d2, hu.cell hlb hkl d3⟩
        have HO0 : RowKit.Hid (∀ u, Below W.drew.heap.size W.drew u → OwnsI u B 2 (.slice g.K.1 g.K.2.1 g.K.2.2) t.keys ∧ B ≤ u.heap.size) := Lib.hid fun u hu => ⟨OwnsI.below hoK hu, by have := hu.size; omega⟩
        have HO1 : RowKit.Hid (∀ u K' ks, AfterK W.drew u B g.K K' ks → OwnsI u B 2 (.slice g.U.1 g.U.2.1 g.U.2.2) t.under ∧ B ≤ u.heap.size) := Lib.hid fun u K' ks hu => ⟨own_after hu hoU (fun b hb => (hUK b hb).2), by have := hu.off.size; omega⟩
        have HD0 := Lib.hid (And.intro d2 d3)
        clear hDB hlb hkl hul hUK hKD hoK hoU hsk hsu d2 d3
        refine wp_region_T (S := (fun u : World => u.cell? ⟨lb, k * 6 + 2, none⟩ = some (.slice g.K.1 g.K.2.1 g.K.2.2) ∧ u.cell? ⟨lb, k * 6 + 3, none⟩ = some (.slice g.U.1 g.U.2.1 g.U.2.2))) 16 (by kernel_rfl) (HS0.out _ (Below.refl _ _)) (fun hHeld => ?_)
        refine wpAnyT_takeW (i := 0) (oi := ⟨some 63, _, _, _, _, _⟩) (v := ?_) rfl (by kernel_rfl) (by kernel_rfl) (by kernel_rfl) (fun _ _ _ h => h) (Or.inl ⟨by rfl, ?_⟩) ?_
        rotate_left
        · ((intro w _; go_simp); try with_reducible rfl)
        (try simp only [Act.put, List.setIfInBounds_toArray, List.set_cons_zero, List.set_cons_succ])
        refine wpAnyT_takeW (i := 1) (oi := ⟨some 64, _, _, _, _, _⟩) (v := ?_) rfl (by kernel_rfl) (by kernel_rfl) (by kernel_rfl) (fun _ _ _ h => h) (Or.inl ⟨by rfl, ?_⟩) ?_
        rotate_left
        · ((intro w _; go_simp); try with_reducible rfl)
        (try simp only [Act.put, List.setIfInBounds_toArray, List.set_cons_zero, List.set_cons_succ])
        refine wpAnyT_takeW (i := 2) (oi := ⟨some 65, _, _, _, _, _⟩) (v := ?_) rfl (by kernel_rfl) (by kernel_rfl) (by kernel_rfl) (fun _ _ _ h => h) (Or.inl ⟨by rfl, ?_⟩) ?_
        rotate_left
        · ((intro w _; go_simp); try with_reducible rfl)
        (try simp only [Act.put, List.setIfInBounds_toArray, List.set_cons_zero, List.set_cons_succ])
        refine wpAnyT_takeW (i := 3) (oi := ⟨some 66, _, _, _, _, _⟩) (v := ?_) rfl (by kernel_rfl) (by kernel_rfl) (by kernel_rfl) (fun _ _ _ h => h) (Or.inl ⟨by rfl, ?_⟩) ?_
        rotate_left
        · ((intro w _; go_simp); try with_reducible rfl)
        (try simp only [Act.put, List.setIfInBounds_toArray, List.set_cons_zero, List.set_cons_succ])
        refine wpAnyT_takeW (i := 4) (oi := ⟨some 67, _, _, _, _, _⟩) (v := ?_) rfl (by kernel_rfl) (by kernel_rfl) (by kernel_rfl) (fun _ _ _ h => h) (Or.inl ⟨by rfl, ?_⟩) ?_
        rotate_left
        · ((intro w _; go_simp); try with_reducible rfl)
        (try simp only [Act.put, List.setIfInBounds_toArray, List.set_cons_zero, List.set_cons_succ])
        refine wpAnyT_take (i := 5) (oi := ⟨some 68, _, _, _, _, _⟩) (v := ?_) 8 rfl (by kernel_rfl) (by kernel_rfl) (by kernel_rfl) (by kernel_rfl) (by kernel_rfl) (fun _ _ _ h => h) (Or.inl ⟨by rfl, ?_⟩) (by assumption) ?_
        rotate_left
        · ((intro w hSw; (try dsimp only at hSw); go_simp); try with_reducible rfl)
        (try simp only [Act.put, List.setIfInBounds_toArray, List.set_cons_zero, List.set_cons_succ])
        refine wpAnyT_takeW (i := 6) (oi := ⟨some 69, _, _, _, _, _⟩) (v := ?_) rfl (by kernel_rfl) (by kernel_rfl) (by kernel_rfl) (fun _ _ _ h => h) (Or.inl ⟨by rfl, ?_⟩) ?_
        rotate_left
        · ((intro w _; go_simp); try with_reducible rfl)
        (try simp only [Act.put, List.setIfInBounds_toArray, List.set_cons_zero, List.set_cons_succ])
        refine wpAnyT_takeW (i := 9) (oi := ⟨some 72, _, _, _, _, _⟩) (v := ?_) rfl (by kernel_rfl) (by kernel_rfl) (by kernel_rfl) (fun _ _ _ h => h) (Or.inl ⟨by rfl, ?_⟩) ?_
        rotate_left
        · ((intro w _; go_simp); try with_reducible rfl)
        (try simp only [Act.put, List.setIfInBounds_toArray, List.set_cons_zero, List.set_cons_succ])
        refine wpAnyT_takeW (i := 10) (oi := ⟨some 73, _, _, _, _, _⟩) (v := ?_) rfl (by kernel_rfl) (by kernel_rfl) (by kernel_rfl) (fun _ _ _ h => h) (Or.inl ⟨by rfl, ?_⟩) ?_
        rotate_left
        · ((intro w _; go_simp); try with_reducible rfl)
        (try simp only [Act.put, List.setIfInBounds_toArray, List.set_cons_zero, List.set_cons_succ])
        refine wpAnyT_takeW (i := 11) (oi := ⟨some 74, _, _, _, _, _⟩) (v := ?_) rfl (by kernel_rfl) (by kernel_rfl) (by kernel_rfl) (fun _ _ _ h => h) (Or.inl ⟨by rfl, ?_⟩) ?_
        rotate_left
        · ((intro w _; go_simp); try with_reducible rfl)
        (try simp only [Act.put, List.setIfInBounds_toArray, List.set_cons_zero, List.set_cons_succ])
        refine wpAnyT_take (i := 12) (oi := ⟨some 75, _, _, _, _, _⟩) (v := ?_) 8 rfl (by kernel_rfl) (by kernel_rfl) (by kernel_rfl) (by kernel_rfl) (by kernel_rfl) (fun _ _ _ h => h) (Or.inl ⟨by rfl, ?_⟩) (by assumption) ?_
        rotate_left
        · ((intro w hSw; (try dsimp only at hSw); go_simp); try with_reducible rfl)
        (try simp only [Act.put, List.setIfInBounds_toArray, List.set_cons_zero, List.set_cons_succ])
        refine wpAnyT_takeW (i := 13) (oi := ⟨some 76, _, _, _, _, _⟩) (v := ?_) rfl (by kernel_rfl) (by kernel_rfl) (by kernel_rfl) (fun _ _ _ h => h) (Or.inl ⟨by rfl, ?_⟩) ?_
        rotate_left
        · ((intro w _; go_simp); try with_reducible rfl)
        (try simp only [Act.put, List.setIfInBounds_toArray, List.set_cons_zero, List.set_cons_succ])
        refine wpAnyT_two (i := 7) (j := 14) (by kernel_rfl) rfl rfl (fun K hK => ?_) (fun K hK => ?_)
        · rw [if_pos (by rfl)]
          go_simp
          refine hK.out _ _ (HS0.out _ (HB1.out _)) (fun hHeld => ?_)
          clear hK K
          (try simp only [Act.put, List.setIfInBounds_toArray, List.set_cons_zero, List.set_cons_succ])
          refine wpAnyT_two (i := 8) (j := 14) (by kernel_rfl) rfl rfl (fun K hK => ?_) (fun K hK => ?_)
          · refine step_append_i64 (by rfl) _ _ (by rfl) B (.slice g.K.1 g.K.2.1 g.K.2.2) t.keys (by rfl) (HO0.out _ (HB1.out (.cells #[.int .i64 key] 2))).1 (HO0.out _ (HB1.out (.cells #[.int .i64 key] 2))).2 _ _ key (by rfl) (World.cell?_alloc_mark _ _ _ _ _) HSZ.out.1 ?_
            intro ya yn yc w1 ho1 hg1 hw1
            have HAK : RowKit.Hid (AfterK W.drew w1 B g.K (ya, yn, yc) (t.keys ++ [key])) := Lib.hid (AfterK.mk' (HB1.out (.cells #[.int .i64 key] 2)) ho1 hg1 hw1)
            clear ho1 hg1 hw1
            refine hK.out _ _ (HA0.out _ _ _ HAK.out) (fun hHeld => ?_)
            clear hK K
            (try simp only [Act.put, List.setIfInBounds_toArray, List.set_cons_zero, List.set_cons_succ])
            refine wpAnyT_one (i := 14) (by kernel_rfl) rfl (fun K hK => ?_)
            rw [if_pos (by rfl)]
            go_simp
            refine hK.out _ _ (HA0.out _ _ _ (HAK.out.alloc _)) (fun hHeld => ?_)
            clear hK K
            (try simp only [Act.put, List.setIfInBounds_toArray, List.set_cons_zero, List.set_cons_succ])
            refine wpAnyT_one (i := 15) (by kernel_rfl) rfl (fun K hK => ?_)
            refine step_append_i64 (by rfl) _ _ (by rfl) B (.slice g.U.1 g.U.2.1 g.U.2.2) t.under (by rfl) (HO1.out _ _ _ (HAK.out.alloc (.cells #[.int .i64 n] 2))).1 (HO1.out _ _ _ (HAK.out.alloc (.cells #[.int .i64 n] 2))).2 _ _ n (by rfl) (World.cell?_alloc_mark _ _ _ _ _) HSZ.out.2 ?_
            intro za zn zc w2 ho2 hg2 hw2
            have HG2 : RowKit.Hid (Grown2 W.drew w2 B g.K g.U (ya, yn, yc) (za, zn, zc) (t.keys ++ [key]) (t.under ++ [n])) := Lib.hid (AfterK.ends (HAK.out.alloc (.cells #[.int .i64 n] 2)) ho2 hg2 hw2 HKW.out.1)
            clear ho2 hg2 hw2
            have HC2 : RowKit.Hid (w2.cell? ⟨lb, k * 6 + 2, none⟩ = some (.slice g.K.1 g.K.2.1 g.K.2.2) ∧ w2.cell? ⟨lb, k * 6 + 3, none⟩ = some (.slice g.U.1 g.U.2.1 g.U.2.2)) := Lib.hid ⟨(HG2.out.off.cell (p := ⟨lb, k * 6 + 2, none⟩) HLB.out.2 (fun e => e.elim HNE.out.1 HNE.out.2)).trans HD0.out.1, (HG2.out.off.cell (p := ⟨lb, k * 6 + 3, none⟩) HLB.out.2 (fun e => e.elim HNE.out.1 HNE.out.2)).trans HD0.out.2⟩
            refine hK.out _ _ HC2.out (fun hHeld => ?_)
            clear hK K
            (try simp only [Act.put, List.setIfInBounds_toArray, List.set_cons_zero, List.set_cons_succ])
            refine wpAnyT_end (i := 16) (by kernel_rfl) (by kernel_rfl) rfl (fun K hK => ?_)
            rw [if_pos (by rfl)]
            go_simp
            refine hK.out _ _ ?_
            clear hK K
            (try simp only [Act.put, List.setIfInBounds_toArray, List.set_cons_zero, List.set_cons_succ])
            refine wpAnyT_end (i := 17) (by kernel_rfl) (by kernel_rfl) rfl (fun K hK => ?_)
            rw [if_pos (by rfl)]
            go_simp
            refine hK.out _ _ ?_
            clear hK K
            (try simp only [Act.put, List.setIfInBounds_toArray, List.set_cons_zero, List.set_cons_succ])
            have hX := HH.out.mem.putNew (w2 := w2) (key := key) (n := n) (K' := (ya, yn, yc)) (U' := (za, zn, zc)) HH.out.k1 HH.out.k2 HH.out.la (by rw [HH.out.t, HH.out.g]; exact HG2.out)
            have HX := Lib.hid hX
            obtain ⟨fz2, fz3⟩ := hX.1
            obtain ⟨cz2, cz3⟩ := HC2.out
            clear hX hHeld
            refine wpAnyT_end (i := 18) (by kernel_rfl) (by kernel_rfl) rfl (fun K hK => ?_)
            rw [if_pos (by rfl)]
            go_simp
            refine hK.out _ _ ?_
            clear hK K
            (try simp only [Act.put, List.setIfInBounds_toArray, List.set_cons_zero, List.set_cons_succ])
            refine wpAnyT_end (i := 19) (by kernel_rfl) (by kernel_rfl) rfl (fun K hK => ?_)
            rw [if_pos (by rfl)]
            go_simp
            refine hK.out _ _ ?_
            clear hK K
            (try simp only [Act.put, List.setIfInBounds_toArray, List.set_cons_zero, List.set_cons_succ])
            refine wpAnyT_end (i := 20) (by kernel_rfl) (by kernel_rfl) rfl (fun K hK => ?_)
            rw [if_pos (by rfl)]
            go_simp
            refine hK.out _ _ ?_
            clear hK K
            (try simp only [Act.put, List.setIfInBounds_toArray, List.set_cons_zero, List.set_cons_succ])
            refine wpAnyT_end (i := 21) (by kernel_rfl) (by kernel_rfl) rfl (fun K hK => ?_)
            rw [if_pos (by rfl)]
            go_simp
            refine hK.out _ _ ?_
            clear hK K
            (try simp only [Act.put, List.setIfInBounds_toArray, List.set_cons_zero, List.set_cons_succ])
            refine wpAnyT_done (by kernel_rfl) ?_
            go_wp2_with fail
            go_ret
            obtain ⟨G', q1, q2, q3, q4⟩ := HX.out.2
            rw [HV.out, HPT.out]
            rw [HH.out.t] at q1
            exact ⟨rfl, G', q1, q2, HPB.out.1.trans q3, HPB.out.2.trans q4⟩
          · rw [if_pos (by rfl)]
            go_simp
            refine hK.out _ _ (HS0.out _ (HB2.out _ _)) (fun hHeld => ?_)
            clear hK K
            (try simp only [Act.put, List.setIfInBounds_toArray, List.set_cons_zero, List.set_cons_succ])
            refine wpAnyT_one (i := 8) (by kernel_rfl) rfl (fun K hK => ?_)
            refine step_append_i64 (by rfl) _ _ (by rfl) B (.slice g.K.1 g.K.2.1 g.K.2.2) t.keys (by rfl) (HO0.out _ (HB2.out (.cells #[.int .i64 key] 2) (.cells #[.int .i64 n] 2))).1 (HO0.out _ (HB2.out (.cells #[.int .i64 key] 2) (.cells #[.int .i64 n] 2))).2 _ _ key (by rfl) ((cell_of_row _ _ 0 _ _ _ (two_new W.drew (.cells #[.int .i64 key] 2) (.cells #[.int .i64 n] 2)).1).trans rfl) HSZ.out.1 ?_
            intro ya yn yc w1 ho1 hg1 hw1
            have HAK : RowKit.Hid (AfterK W.drew w1 B g.K (ya, yn, yc) (t.keys ++ [key])) := Lib.hid (AfterK.mk' (HB2.out (.cells #[.int .i64 key] 2) (.cells #[.int .i64 n] 2)) ho1 hg1 hw1)
            have HXN : RowKit.Hid (w1.cell? ⟨(W.drew.heap.size + 1), 0, none⟩ = some (.int .i64 n)) := Lib.hid (hg1.cell (a := ⟨(W.drew.heap.size + 1), 0, none⟩) ((cell_of_row _ _ 0 _ _ _ (two_new W.drew (.cells #[.int .i64 key] 2) (.cells #[.int .i64 n] 2)).2.1).trans rfl) (fun e => absurd (show (W.drew.heap.size + 1) < W.drew.heap.size from HKW.out.2 _ e.symm) (by omega)))
            clear ho1 hg1 hw1
            refine hK.out _ _ (HA0.out _ _ _ HAK.out) (fun hHeld => ?_)
            clear hK K
            (try simp only [Act.put, List.setIfInBounds_toArray, List.set_cons_zero, List.set_cons_succ])
            refine wpAnyT_one (i := 15) (by kernel_rfl) rfl (fun K hK => ?_)
            refine step_append_i64 (by rfl) _ _ (by rfl) B (.slice g.U.1 g.U.2.1 g.U.2.2) t.under (by rfl) (HO1.out _ _ _ (HAK.out)).1 (HO1.out _ _ _ (HAK.out)).2 _ _ n (by rfl) (HXN.out) HSZ.out.2 ?_
            intro za zn zc w2 ho2 hg2 hw2
            have HG2 : RowKit.Hid (Grown2 W.drew w2 B g.K g.U (ya, yn, yc) (za, zn, zc) (t.keys ++ [key]) (t.under ++ [n])) := Lib.hid (AfterK.ends (HAK.out) ho2 hg2 hw2 HKW.out.1)
            clear ho2 hg2 hw2
            have HC2 : RowKit.Hid (w2.cell? ⟨lb, k * 6 + 2, none⟩ = some (.slice g.K.1 g.K.2.1 g.K.2.2) ∧ w2.cell? ⟨lb, k * 6 + 3, none⟩ = some (.slice g.U.1 g.U.2.1 g.U.2.2)) := Lib.hid ⟨(HG2.out.off.cell (p := ⟨lb, k * 6 + 2, none⟩) HLB.out.2 (fun e => e.elim HNE.out.1 HNE.out.2)).trans HD0.out.1, (HG2.out.off.cell (p := ⟨lb, k * 6 + 3, none⟩) HLB.out.2 (fun e => e.elim HNE.out.1 HNE.out.2)).trans HD0.out.2⟩
            refine hK.out _ _ HC2.out (fun hHeld => ?_)
            clear hK K
            (try simp only [Act.put, List.setIfInBounds_toArray, List.set_cons_zero, List.set_cons_succ])
            refine wpAnyT_end (i := 16) (by kernel_rfl) (by kernel_rfl) rfl (fun K hK => ?_)
            rw [if_pos (by rfl)]
            go_simp
            refine hK.out _ _ ?_
            clear hK K
            (try simp only [Act.put, List.setIfInBounds_toArray, List.set_cons_zero, List.set_cons_succ])
            refine wpAnyT_end (i := 17) (by kernel_rfl) (by kernel_rfl) rfl (fun K hK => ?_)
            rw [if_pos (by rfl)]
            go_simp
            refine hK.out _ _ ?_
            clear hK K
            (try simp only [Act.put, List.setIfInBounds_toArray, List.set_cons_zero, List.set_cons_succ])
            have hX := HH.out.mem.putNew (w2 := w2) (key := key) (n := n) (K' := (ya, yn, yc)) (U' := (za, zn, zc)) HH.out.k1 HH.out.k2 HH.out.la (by rw [HH.out.t, HH.out.g]; exact HG2.out)
            have HX := Lib.hid hX
            obtain ⟨fz2, fz3⟩ := hX.1
            obtain ⟨cz2, cz3⟩ := HC2.out
            clear hX hHeld
            refine wpAnyT_end (i := 18) (by kernel_rfl) (by kernel_rfl) rfl (fun K hK => ?_)
            rw [if_pos (by rfl)]
            go_simp
            refine hK.out _ _ ?_
            clear hK K
            (try simp only [Act.put, List.setIfInBounds_toArray, List.set_cons_zero, List.set_cons_succ])
            refine wpAnyT_end (i := 19) (by kernel_rfl) (by kernel_rfl) rfl (fun K hK => ?_)
            rw [if_pos (by rfl)]
            go_simp
            refine hK.out _ _ ?_
            clear hK K
            (try simp only [Act.put, List.setIfInBounds_toArray, List.set_cons_zero, List.set_cons_succ])
            refine wpAnyT_end (i := 20) (by kernel_rfl) (by kernel_rfl) rfl (fun K hK => ?_)
            rw [if_pos (by rfl)]
            go_simp
            refine hK.out _ _ ?_
            clear hK K
            (try simp only [Act.put, List.setIfInBounds_toArray, List.set_cons_zero, List.set_cons_succ])
            refine wpAnyT_end (i := 21) (by kernel_rfl) (by kernel_rfl) rfl (fun K hK => ?_)
            rw [if_pos (by rfl)]
            go_simp
            refine hK.out _ _ ?_
            clear hK K
            (try simp only [Act.put, List.setIfInBounds_toArray, List.set_cons_zero, List.set_cons_succ])
            refine wpAnyT_done (by kernel_rfl) ?_
            go_wp2_with fail
            go_ret
            obtain ⟨G', q1, q2, q3, q4⟩ := HX.out.2
            rw [HV.out, HPT.out]
            rw [HH.out.t] at q1
            exact ⟨rfl, G', q1, q2, HPB.out.1.trans q3, HPB.out.2.trans q4⟩
        · rw [if_pos (by rfl)]
          go_simp
          refine hK.out _ _ (HS0.out _ (HB1.out _)) (fun hHeld => ?_)
          clear hK K
          (try simp only [Act.put, List.setIfInBounds_toArray, List.set_cons_zero, List.set_cons_succ])
          refine wpAnyT_one (i := 7) (by kernel_rfl) rfl (fun K hK => ?_)
          rw [if_pos (by rfl)]
          go_simp
          refine hK.out _ _ (HS0.out _ (HB2.out _ _)) (fun hHeld => ?_)
          clear hK K
          (try simp only [Act.put, List.setIfInBounds_toArray, List.set_cons_zero, List.set_cons_succ])
          refine wpAnyT_one (i := 8) (by kernel_rfl) rfl (fun K hK => ?_)
          refine step_append_i64 (by rfl) _ _ (by rfl) B (.slice g.K.1 g.K.2.1 g.K.2.2) t.keys (by rfl) (HO0.out _ (HB2.out (.cells #[.int .i64 n] 2) (.cells #[.int .i64 key] 2))).1 (HO0.out _ (HB2.out (.cells #[.int .i64 n] 2) (.cells #[.int .i64 key] 2))).2 _ _ key (by rfl) ((cell_of_row _ _ 0 _ _ _ (two_new W.drew (.cells #[.int .i64 n] 2) (.cells #[.int .i64 key] 2)).2.1).trans rfl) HSZ.out.1 ?_
          intro ya yn yc w1 ho1 hg1 hw1
          have HAK : RowKit.Hid (AfterK W.drew w1 B g.K (ya, yn, yc) (t.keys ++ [key])) := Lib.hid (AfterK.mk' (HB2.out (.cells #[.int .i64 n] 2) (.cells #[.int .i64 key] 2)) ho1 hg1 hw1)
          have HXN : RowKit.Hid (w1.cell? ⟨W.drew.heap.size, 0, none⟩ = some (.int .i64 n)) := Lib.hid (hg1.cell (a := ⟨W.drew.heap.size, 0, none⟩) ((cell_of_row _ _ 0 _ _ _ (two_new W.drew (.cells #[.int .i64 n] 2) (.cells #[.int .i64 key] 2)).1).trans rfl) (fun e => absurd (show W.drew.heap.size < W.drew.heap.size from HKW.out.2 _ e.symm) (by omega)))
          clear ho1 hg1 hw1
          refine hK.out _ _ (HA0.out _ _ _ HAK.out) (fun hHeld => ?_)
          clear hK K
          (try simp only [Act.put, List.setIfInBounds_toArray, List.set_cons_zero, List.set_cons_succ])
          refine wpAnyT_one (i := 15) (by kernel_rfl) rfl (fun K hK => ?_)
          refine step_append_i64 (by rfl) _ _ (by rfl) B (.slice g.U.1 g.U.2.1 g.U.2.2) t.under (by rfl) (HO1.out _ _ _ (HAK.out)).1 (HO1.out _ _ _ (HAK.out)).2 _ _ n (by rfl) (HXN.out) HSZ.out.2 ?_
          intro za zn zc w2 ho2 hg2 hw2
          have HG2 : RowKit.Hid (Grown2 W.drew w2 B g.K g.U (ya, yn, yc) (za, zn, zc) (t.keys ++ [key]) (t.under ++ [n])) := Lib.hid (AfterK.ends (HAK.out) ho2 hg2 hw2 HKW.out.1)
          clear ho2 hg2 hw2
          have HC2 : RowKit.Hid (w2.cell? ⟨lb, k * 6 + 2, none⟩ = some (.slice g.K.1 g.K.2.1 g.K.2.2) ∧ w2.cell? ⟨lb, k * 6 + 3, none⟩ = some (.slice g.U.1 g.U.2.1 g.U.2.2)) := Lib.hid ⟨(HG2.out.off.cell (p := ⟨lb, k * 6 + 2, none⟩) HLB.out.2 (fun e => e.elim HNE.out.1 HNE.out.2)).trans HD0.out.1, (HG2.out.off.cell (p := ⟨lb, k * 6 + 3, none⟩) HLB.out.2 (fun e => e.elim HNE.out.1 HNE.out.2)).trans HD0.out.2⟩
          refine hK.out _ _ HC2.out (fun hHeld => ?_)
          clear hK K
          (try simp only [Act.put, List.setIfInBounds_toArray, List.set_cons_zero, List.set_cons_succ])
          refine wpAnyT_end (i := 16) (by kernel_rfl) (by kernel_rfl) rfl (fun K hK => ?_)
          rw [if_pos (by rfl)]
          go_simp
          refine hK.out _ _ ?_
          clear hK K
          (try simp only [Act.put, List.setIfInBounds_toArray, List.set_cons_zero, List.set_cons_succ])
          refine wpAnyT_end (i := 17) (by kernel_rfl) (by kernel_rfl) rfl (fun K hK => ?_)
          rw [if_pos (by rfl)]
          go_simp
          refine hK.out _ _ ?_
          clear hK K
          (try simp only [Act.put, List.setIfInBounds_toArray, List.set_cons_zero, List.set_cons_succ])
          have hX := HH.out.mem.putNew (w2 := w2) (key := key) (n := n) (K' := (ya, yn, yc)) (U' := (za, zn, zc)) HH.out.k1 HH.out.k2 HH.out.la (by rw [HH.out.t, HH.out.g]; exact HG2.out)
          have HX := Lib.hid hX
          obtain ⟨fz2, fz3⟩ := hX.1
          obtain ⟨cz2, cz3⟩ := HC2.out
          clear hX hHeld
          refine wpAnyT_end (i := 18) (by kernel_rfl) (by kernel_rfl) rfl (fun K hK => ?_)
          rw [if_pos (by rfl)]
          go_simp
          refine hK.out _ _ ?_
          clear hK K
          (try simp only [Act.put, List.setIfInBounds_toArray, List.set_cons_zero, List.set_cons_succ])
          refine wpAnyT_end (i := 19) (by kernel_rfl) (by kernel_rfl) rfl (fun K hK => ?_)
          rw [if_pos (by rfl)]
          go_simp
          refine hK.out _ _ ?_
          clear hK K
          (try simp only [Act.put, List.setIfInBounds_toArray, List.set_cons_zero, List.set_cons_succ])
          refine wpAnyT_end (i := 20) (by kernel_rfl) (by kernel_rfl) rfl (fun K hK => ?_)
          rw [if_pos (by rfl)]
          go_simp
          refine hK.out _ _ ?_
          clear hK K
          (try simp only [Act.put, List.setIfInBounds_toArray, List.set_cons_zero, List.set_cons_succ])
          refine wpAnyT_end (i := 21) (by kernel_rfl) (by kernel_rfl) rfl (fun K hK => ?_)
          rw [if_pos (by rfl)]
          go_simp
          refine hK.out _ _ ?_
          clear hK K
          (try simp only [Act.put, List.setIfInBounds_toArray, List.set_cons_zero, List.set_cons_succ])
          refine wpAnyT_done (by kernel_rfl) ?_
          go_wp2_with fail
          go_ret
          obtain ⟨G', q1, q2, q3, q4⟩ := HX.out.2
          rw [HV.out, HPT.out]
          rw [HH.out.t] at q1
          exact ⟨rfl, G', q1, q2, HPB.out.1.trans q3, HPB.out.2.trans q4⟩
end Go.Proofs.Ytgnfinojnmkkkaa
