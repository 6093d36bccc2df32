/- Layer 10: the document's Make, Object, Slice and Table. -/
import Derived.Test.YtgnfinojnmkkkaaQT3
import Derived.BigQuiet
namespace Go.Proofs.Ytgnfinojnmkkkaa
open Go.RowKit (wrap64 intOf Below)
set_option linter.unusedVariables false
set_option linter.unusedSimpArgs false

theorem info_th : (Try.prog.info? 63).map (fun i => (i.zero, i.size, i.bytes)) = some (some (.agg #[.int .i64 0, .slice none 0 0, .slice none 0 0, .slice none 0 0, .int .i64 0, .bool false]), 6, 96) := by kernel_rfl
/-- 'append(l, t)' of a thing, as a step of a region. -/
theorem step_append_th {u : World} {ops : Array Oper} {o : Oper} {a : Act} {K : Act → World → Prop} {Q : Exit → Act → World → Prop} {E : Prop} (hgd : Region.wanted o (yielded ops a.tmps) = true) (s x : Operand)
    (ho : o.op = .call { callee := .builtin .append, args := #[s, x], argTypes := #[33, 33] })
    (B : Nat) (v : Value) (l : List (RT × GT)) (hs : a.eval s = v) (hown : OwnsTh u B v l) (hB : B ≤ u.heap.size)
    (C : Array Value) (c g : Nat) (z : RT × GT) (hx : a.eval x = .slice (some ⟨g, 0, none⟩) 1 c) (hg : g = u.heap.size) (hC : C = (thV z).toArray)
    (hlen : (l.length + 1) * 96 ≤ 140737488355328)
    (h : ∀ va vn vc w', OwnsTh w' B (.slice va vn vc) (l ++ [z]) → (u.alloc (.cells C 63)).grownBy w' v.ownBlock → (∀ k, (Value.slice va vn vc).ownBlock = some k → v.ownBlock = some k ∨ u.heap.size ≤ k) → K (a.put o.dst (.slice va vn vc)) w') :
    if Region.wanted o (yielded ops a.tmps) = true then Oper.wp Try.prog o a (u.alloc (.cells C 63)) K Q else E := by
  rw [if_pos hgd]
  obtain ⟨i0, hi, hz0, hz1, hz2⟩ := info_parts info_th
  subst hC hg
  obtain ⟨v', w', hrun, r1, r2, _, r3⟩ := run_append_own_at (P := Try.prog) (u.alloc (.cells (thV z).toArray 63)) B 33 o.type 63 i0 (.agg #[.int .i64 0, .slice none 0 0, .slice none 0 0, .slice none 0 0, .int .i64 0, .bool false]) 6 96 Try.underlying33 hi hz0 hz1 hz2 rfl (by decide) v l.length (l.flatMap thV) (World.ownsRow.alloc hown _) ⟨u.heap.size, 0, none⟩ 1 c (thV z) rfl (fun j y hu => by
    rw [addr_plain, Nat.zero_add, World.cell?_alloc_mark]
    simpa using hu) (by intro y hu; simp only [thV, sv, List.mem_cons, List.not_mem_nil, or_false] at hu; rcases hu with rfl | rfl | rfl | rfl | rfl | rfl <;> rfl) (by unfold maxLen; omega) (by omega) (by simp; omega)
  have h2 : OwnsTh w' B v' (l ++ [z]) := by
    show w'.ownsRow B _ 6 v' (l ++ [z]).length ((l ++ [z]).flatMap thV)
    rw [show (l ++ [z]).flatMap thV = l.flatMap thV ++ thV z by simp, List.length_append]
    exact r1
  obtain ⟨va, vn, vc, rfl⟩ : ∃ va vn vc, v' = .slice va vn vc := by
    rcases h2.2 with ⟨e, _⟩ | ⟨_, _, _, e, _⟩
    · exact ⟨_, _, _, e⟩
    · exact ⟨_, _, _, e⟩
  have hk := h va vn vc w' h2 r2 (fun k hk => by
      rcases r3 with e' | e'
      · exact .inl (e' ▸ hk)
      · rw [e'] at hk; cases hk; simp)
  unfold Oper.wp
  simp only [execOp, ho, resolve, invoke, builtin, List.map_toArray, List.map_cons, List.map_nil, hs, hx, Sem.run_bind, Sem.run_pure, Result.andThen_ok, hrun]
  exact hk
section
variable {W w1 : World} {B cap : Nat} {R : RM} {G : GR}
/-- A new thing's part. -/
structure NewTh (W : World) (B : Nat) (ρ : Rho) (t : RT) (v : Option Addr × Nat × Nat) : Prop where
  V : OwnsV W B (sv v) t.V
  fr : ∀ b, (sv v).ownBlock = some b → ¬ dom ρ b
  keys : t.keys = [] ∧ t.under = []
  num : (t.kind = 0 ∨ t.kind = 1) ∧ t.V.length ≤ 1048576
def newG (v : Option Addr × Nat × Nat) : GT := ⟨v, (none, 0, 0), (none, 0, 0)⟩
/-- One thing more. -/
theorem RefAt.push (h : RefAt W B cap R G) {t : RT} {v : Option Addr × Nat × Nat} (hn : NewTh W B G.ρ t v) (hfr : 0 ≤ t.frame ∧ t.frame ≤ R.frames) (hol : R.L.length + 1 ≤ cap) {C : Array Value} {ya : Option Addr} {yn yc : Nat}
    (hg : (W.alloc (.cells C 63)).grownBy w1 (Value.slice G.la G.ln G.lc).ownBlock) (ho : OwnsTh w1 B (.slice ya yn yc) (R.L.zip G.gts ++ [(t, newG v)])) (hw : ∀ b, (Value.slice ya yn yc).ownBlock = some b → (Value.slice G.la G.ln G.lc).ownBlock = some b ∨ W.heap.size ≤ b) :
    w1.frozen? ⟨G.p, 0, none⟩ = false ∧ w1.cell? ⟨G.p, 0, none⟩ = some (.slice G.la G.ln G.lc) ∧ Off (dom G.ρ) W (w1.setCell ⟨G.p, 0, none⟩ (.slice ya yn yc)) ∧ Below B W (w1.setCell ⟨G.p, 0, none⟩ (.slice ya yn yc)) ∧ yn = R.L.length + 1 ∧
    ∃ G', G'.p = G.p ∧ RefAt (w1.setCell ⟨G.p, 0, none⟩ (.slice ya yn yc)) B cap (pushR R t) G' ∧ ∀ b r, G'.ρ b = some r → dom G.ρ b ∨ W.heap.size ≤ b ∨ (sv v).ownBlock = some b := by
  have hoff : Off (fun b => (Value.slice G.la G.ln G.lc).ownBlock = some b) W w1 := ((Off.refl _ W).alloc _).grown hg (fun b hb => .inl hb)
  have hplt := h.plt.2
  have hpB := h.plt.1
  have hpne : (Value.slice G.la G.ln G.lc).ownBlock ≠ some G.p := fun e => by
    have := h.rl _ e; rw [h.rm] at this; simp at this
  have hp1 : w1.heap[G.p]? = _ := (hoff.block G.p hplt hpne).trans h.blk
  have hoff2 : Off (fun b => (Value.slice G.la G.ln G.lc).ownBlock = some b ∨ b = G.p) W (w1.setCell ⟨G.p, 0, none⟩ (.slice ya yn yc)) := (hoff.mono (fun b _ hb => .inl hb)).setCell (.inl (.inr rfl)) _
  have hex1 : Ex G.ρ (rhoSet G.ρ (.slice ya yn yc) (1, 0)) := rhoSet_ex h.range h.rl hw
  have hvb : ∀ b, (sv v).ownBlock = some b → B ≤ b ∧ b < W.heap.size := fun b hb => hn.V.lt b hb
  have hne1 : ∀ b, (sv v).ownBlock = some b → ¬ dom (rhoSet G.ρ (.slice ya yn yc) (1, 0)) b := fun b hb hd => by
    obtain ⟨r, hr⟩ := hd
    rcases rhoSet_new h.rl hw hr with h1 | ⟨h1, _⟩
    · exact hn.fr b hb ⟨r, h1⟩
    · have := (hvb b hb).2; omega
  have hex2 : Ex (rhoSet G.ρ (.slice ya yn yc) (1, 0)) (rhoSet (rhoSet G.ρ (.slice ya yn yc) (1, 0)) (sv v) (2, R.L.length)) := fun b r hbr => by
    show (if (sv v).ownBlock = some b then some (2, R.L.length) else rhoSet G.ρ (.slice ya yn yc) (1, 0) b) = some r
    rw [if_neg (fun e => hne1 b e ⟨r, hbr⟩)]; exact hbr
  have hex : Ex G.ρ (rhoSet (rhoSet G.ρ (.slice ya yn yc) (1, 0)) (sv v) (2, R.L.length)) := fun b r hbr => hex2 b r (hex1 b r hbr)
  have hnew : ∀ b r, rhoSet (rhoSet G.ρ (.slice ya yn yc) (1, 0)) (sv v) (2, R.L.length) b = some r → G.ρ b = some r ∨ (W.heap.size ≤ b ∧ (Value.slice ya yn yc).ownBlock = some b) ∨ (sv v).ownBlock = some b := fun b r hbr => by
    by_cases e : (sv v).ownBlock = some b
    · exact .inr (.inr e)
    · have hbr2 : (if (sv v).ownBlock = some b then some (2, R.L.length) else rhoSet G.ρ (.slice ya yn yc) (1, 0) b) = some r := hbr
      rw [if_neg e] at hbr2
      rcases rhoSet_new h.rl hw hbr2 with h1 | h1
      · exact .inl h1
      · exact .inr (.inl h1)
  have hkp : Kp G.ρ (fun r => r ≠ (0, 0) ∧ r ≠ (1, 0)) W (w1.setCell ⟨G.p, 0, none⟩ (.slice ya yn yc)) := kp_of_off h.range hoff2 fun b r hx hbr hR => by
    rcases hx with hx | hx
    · have := h.rl _ hx; rw [hbr] at this; exact hR.2 (Option.some.inj this)
    · rw [hx, h.rm] at hbr; exact hR.1 (Option.some.inj hbr).symm
  have hyp : ∀ b, (Value.slice ya yn yc).ownBlock = some b → b ≠ G.p := fun b hb e => by
    rcases hw b hb with h1 | h1
    · exact hpne (e ▸ h1)
    · omega
  have hbel : Below B W (w1.setCell ⟨G.p, 0, none⟩ (.slice ya yn yc)) := hoff2.below (by omega) fun b hb => by
    rcases hb with hb | hb
    · exact (h.range _ _ (h.rl b hb)).1
    · rw [hb]; exact hpB
  have hzl : (R.L.zip G.gts).length = R.L.length := by rw [List.length_zip, h.glen]; exact Nat.min_self _
  have hyn : yn = R.L.length + 1 := by
    have := (row_cells ho).1
    rw [this, List.length_append, hzl]; rfl
  have hVk : OwnsV (w1.setCell ⟨G.p, 0, none⟩ (.slice ya yn yc)) B (sv v) t.V := by
    refine ⟨hn.V.1, ?_⟩
    rcases hn.V.2 with h1 | ⟨gg, cp, cur, e, hB, hgg, rest⟩
    · exact .inl h1
    · have hgb : (sv v).ownBlock = some gg := by rw [e]; rfl
      refine .inr ⟨gg, cp, cur, e, hB, (hoff2.block gg (hvb gg hgb).2 (fun hx => ?_)).trans hgg, rest⟩
      rcases hx with hx | hx
      · exact hn.fr gg hgb ⟨_, h.rl gg hx⟩
      · exact hn.fr gg hgb ⟨_, by rw [hx]; exact h.rm⟩
  have num := h.num
  refine ⟨by simp [World.frozen?, hp1], by simp [World.cell?, hp1], hoff2.mono (fun b _ hb => hb.elim (fun h' => ⟨_, h.rl b h'⟩) (fun h' => ⟨(0, 0), by rw [h']; exact h.rm⟩)), hbel, hyn, {G with la := ya, ln := yn, lc := yc, gts := G.gts ++ [newG v], ρ := rhoSet (rhoSet G.ρ (.slice ya yn yc) (1, 0)) (sv v) (2, R.L.length)}, rfl, ⟨fun b r hbr => ?_, hex _ _ h.rm, ?_, ?_, fun b hb => hex2 b _ (rhoSet_role _ _ _ b hb), by simp [pushR, h.glen], fun j k1 k2 => ?_, ⟨num.frames, num.limit, num.used, num.makes, by show (R.L ++ [t]).length ≤ cap; simp; exact hol, fun x hx => ?_⟩⟩, fun b r hbr => ?_⟩
  · rcases hnew b r hbr with h1 | ⟨h1, h2⟩ | h1
    · have := h.range b r h1; have := hbel.size; omega
    · have := (ho.lt b h2).2
      simp [World.setCell]
      omega
    · have := hvb b h1; have := hbel.size; omega
  · rw [heap_setCell_same w1 G.p 0 _ _ _ hp1]; rfl
  · show OwnsTh _ B _ ((R.L ++ [t]).zip (G.gts ++ [newG v]))
    rw [List.zip_append h.glen.symm]
    refine ⟨ho.1, ?_⟩
    rcases ho.2 with hnn | ⟨gg, cp, cur, e, hB, hgg, rest⟩
    · exact .inl hnn
    · exact .inr ⟨gg, cp, cur, e, hB, (Below.heap_setCell _ _ _ _ (hyp gg (by rw [e]; rfl))).trans hgg, rest⟩
  · have k1' : j < (R.L ++ [t]).length := k1
    show ThAt _ B _ j (R.L ++ [t])[j] (G.gts ++ [newG v])[j]
    by_cases e : j < R.L.length
    · rw [List.getElem_append_left e, List.getElem_append_left (by rw [h.glen]; exact e)]
      exact (h.th j e (by rw [h.glen]; exact e)).kept hkp (fun k _ _ => ⟨by simp; omega, by simp; omega⟩) hex
    · have e2 : j = R.L.length := by simp at k1'; omega
      subst e2
      rw [List.getElem_append_right (by omega), List.getElem_append_right (by rw [h.glen]; omega)]
      simp only [Nat.sub_self, h.glen, List.getElem_cons_zero]
      refine ⟨hVk, rhoSet_role _ _ _, ?_, (fun b hb => by cases hb), ?_, fun b hb => by cases hb⟩
      · rw [hn.keys.1]; exact World.ownsRow_nil _ _ _ 1
      · rw [hn.keys.2]; exact World.ownsRow_nil _ _ _ 1
  · have hx' : x ∈ R.L ++ [t] := hx
    rcases List.mem_append.1 hx' with h3 | h3
    · exact num.one x h3
    · rw [List.mem_singleton.1 h3]
      have hf2 := num.frames.2
      exact ⟨hn.num.1, hn.num.2, by rw [hn.keys.1]; exact Nat.zero_le _, by rw [hn.keys.1, hn.keys.2], hfr.1, by omega⟩
  · rcases hnew b r hbr with h1 | ⟨h1, _⟩ | h1
    · exact .inl ⟨r, h1⟩
    · exact .inr (.inl h1)
    · exact .inr (.inr h1)
end
def MakePost (W : World) (B cap : Nat) (G : GR) (v : Option Addr × Nat × Nat) (X : RM × Int × Int) (e : Ending) (w' : World) : Prop := e = .returned (.tuple #[.int .i64 X.2.1, .int .i64 X.2.2]) ∧ ∃ G', RefAt w' B (cap + 1) X.1 G' ∧ G'.p = G.p ∧ Below B W w' ∧ Off (dom G.ρ) W w' ∧ ∀ b r, G'.ρ b = some r → dom G.ρ b ∨ W.heap.size ≤ b ∨ (sv v).ownBlock = some b
/-- The last part of Make: what is known ahead of it, and what comes. -/
structure MakeHd (W u : World) (B cap : Nat) (R : RM) (G : GR) (t : RT) (v : Option Addr × Nat × Nat) (k : Nat) : Prop where
  mem : RefAt u B (cap + 1) R G
  new : NewTh u B G.ρ t v
  fr : 0 ≤ t.frame ∧ t.frame ≤ R.frames
  len : R.L.length ≤ cap
  bel : Below B W u
  off : Off (dom G.ρ) W u
  box : u.heap[k]? = some (.cells (thV (t, newG v)).toArray 63 (0, 0)) ∧ ¬ dom G.ρ k
theorem MakeHd.ends {W u : World} {B cap : Nat} {R : RM} {G : GR} {t : RT} {v : Option Addr × Nat × Nat} {k : Nat} (h : MakeHd W u B cap R G t v k) (C : Array Value) (ya : Option Addr) (yn yc : Nat) (w1 : World)
    (hg : (u.alloc (.cells C 63)).grownBy w1 (Value.slice G.la G.ln G.lc).ownBlock) (ho : OwnsTh w1 B (.slice ya yn yc) (R.L.zip G.gts ++ [(t, newG v)])) (hw : ∀ b, (Value.slice ya yn yc).ownBlock = some b → (Value.slice G.la G.ln G.lc).ownBlock = some b ∨ u.heap.size ≤ b) :
    w1.frozen? ⟨G.p, 0, none⟩ = false ∧ w1.cell? ⟨G.p, 0, none⟩ = some (.slice G.la G.ln G.lc) ∧ w1.heap[k]? = some (.cells (thV (t, newG v)).toArray 63 (0, 0)) ∧ (w1.setCell ⟨G.p, 0, none⟩ (.slice ya yn yc)).cell? ⟨G.p, 0, none⟩ = some (.slice ya (R.L.length + 1) yc) ∧ yn = R.L.length + 1 ∧ MakePost W B cap G v (pushR R t, (R.L.length : Int) + 1, 0) (.returned (.tuple #[.int .i64 ((R.L.length : Int) + 1), .int .i64 0])) (w1.setCell ⟨G.p, 0, none⟩ (.slice ya yn yc)) := by
  obtain ⟨k1, k2, k3, k4, k5, G', k6, k7, k8⟩ := h.mem.push h.new h.fr (Nat.succ_le_succ h.len) hg ho hw
  have hkl : k < u.heap.size := (Array.getElem?_eq_some_iff.1 h.box.1).1
  have hoff : Off (fun b => (Value.slice G.la G.ln G.lc).ownBlock = some b) u w1 := ((Off.refl _ u).alloc _).grown hg (fun b hb => .inl hb)
  refine ⟨k1, k2, (hoff.block k hkl (fun e => h.box.2 ⟨_, h.mem.rl k e⟩)).trans h.box.1, ?_, k5, rfl, G', k7, k6, h.bel.trans k4, h.off.trans k3, fun b r hbr => ?_⟩
  · rw [← k5]
    have hp1 : w1.heap[G.p]? = _ := (hoff.block G.p h.mem.plt.2 (fun e => by have := h.mem.rl _ e; rw [h.mem.rm] at this; simp at this)).trans h.mem.blk
    have hp2 := heap_setCell_same w1 G.p 0 _ _ (.slice ya yn yc) hp1
    simp [World.cell?, hp2]
  · rcases k8 b r hbr with h1 | h1 | h1
    · exact .inl h1
    · exact .inr (.inl (by have := h.bel.size; omega))
    · exact .inr (.inr h1)
theorem box_cells {u : World} {k : Nat} {t : RT} {v : Option Addr × Nat × Nat} (h : u.heap[k]? = some (.cells (thV (t, newG v)).toArray 63 (0, 0))) : u.cell? ⟨k, 0, none⟩ = some (.int .i64 t.kind) ∧ u.cell? ⟨k, 1, none⟩ = some (.slice v.1 v.2.1 v.2.2) ∧ u.cell? ⟨k, 2, none⟩ = some (.slice none 0 0) ∧ u.cell? ⟨k, 3, none⟩ = some (.slice none 0 0) ∧ u.cell? ⟨k, 4, none⟩ = some (.int .i64 t.frame) ∧ u.cell? ⟨k, 5, none⟩ = some (.bool t.gone) := by
  simp only [World.cell?, h]
  exact ⟨rfl, rfl, rfl, rfl, rfl, rfl⟩
theorem box_alloc {u : World} {k : Nat} {t : RT} {v : Option Addr × Nat × Nat} (h : u.heap[k]? = some (.cells (thV (t, newG v)).toArray 63 (0, 0))) (X : Obj) : (u.alloc X).heap[k]? = some (.cells (thV (t, newG v)).toArray 63 (0, 0)) := by
  exact (heap_alloc_old u X (Array.getElem?_eq_some_iff.1 h).1).trans h
set_option maxRecDepth 100000 in
set_option maxHeartbeats 1000000 in
theorem refmake_stack {W : World} {B cap : Nat} {R : RM} {G : GR} (h : RefAt W B cap R G) (hcap : cap ≤ 1099511627776) {t : RT} {v : Option Addr × Nat × Nat} (hn : NewTh W B G.ρ t v) (hg0 : t.gone = false) (hf0 : t.frame = 0) :
    Calls Try.prog 32 #[.pointer (some ⟨G.p, 0, none⟩), .agg #[.int .i64 t.kind, .slice v.1 v.2.1 v.2.2, .slice none 0 0, .slice none 0 0, .int .i64 0, .bool false], .bool true] W (MakePost W B cap G v (makeR R t true)) := by
  have HR : RowKit.Hid (makeR R t true = (pushR R {t with frame := R.frames}, (R.L.length : Int) + 1, 0)) := Lib.hid (by unfold makeR; rw [if_pos rfl])
  obtain ⟨U, hU⟩ : ∃ U, W.alloc (.cells #[.int .i64 t.kind, .slice v.1 v.2.1 v.2.2, .slice none 0 0, .slice none 0 0, .int .i64 R.frames, .bool false] 63) = U := ⟨_, rfl⟩
  have bU : Below W.heap.size W U.drew := by rw [← hU]; exact ((Below.refl _ W).alloc (Nat.le_refl _) _).drew
  have hBW := h.plt
  have num := h.num
  obtain ⟨t', ht'⟩ : ∃ t' : RT, {t with frame := R.frames} = t' := ⟨_, rfl⟩
  have HH : RowKit.Hid (MakeHd W U.drew B cap R G t' v W.heap.size) := Lib.hid (by
    rw [← ht']
    refine ⟨(h.since bU).mono (Nat.le_succ _), ⟨?_, hn.fr, hn.keys, hn.num⟩, ⟨by show 0 ≤ R.frames; have := num.frames.1; omega, Int.le_refl _⟩, num.len, bU.mono (by omega), Off.since bU, ?_, fun ⟨r, hr⟩ => by have := (h.range _ _ hr).2; omega⟩
    · refine ⟨hn.V.1, ?_⟩
      rcases hn.V.2 with h1 | ⟨gg, cp, cur, e, hB, hgg, rest⟩
      · exact .inl h1
      · exact .inr ⟨gg, cp, cur, e, hB, (bU.block gg (Array.getElem?_eq_some_iff.1 hgg).1).trans hgg, rest⟩
    · rw [← hU]
      have e := World.alloc_heap_new W (.cells #[.int .i64 t.kind, .slice v.1 v.2.1 v.2.2, .slice none 0 0, .slice none 0 0, .int .i64 R.frames, .bool false] 63)
      show (W.alloc _).heap[W.heap.size]? = _
      rw [e]
      simp only [thV, newG, sv, hg0])
  have c1 : (W.alloc (.cells #[.int .i64 t.kind, .slice v.1 v.2.1 v.2.2, .slice none 0 0, .slice none 0 0, .int .i64 0, .bool false] 63)).cell? ⟨G.p, 1, none⟩ = some (.int .i64 R.frames) := by
    have := h.cell 1
    simp only [List.getElem?_toArray, List.getElem?_cons_succ, List.getElem?_cons_zero] at this
    exact (((Below.refl W.heap.size W).alloc (Nat.le_refl _) _).cell (p := ⟨G.p, 1, none⟩) hBW.2).trans this
  have hkk : t.kind = t'.kind := by rw [← ht']
  have HRT := Lib.hid (show (makeR R t true) = (pushR R t', (R.L.length : Int) + 1, 0) by rw [HR.out, ht'])
  rw [hkk] at hU c1 ⊢
  have HLN : RowKit.Hid (((R.L.zip G.gts).length + 1) * 96 ≤ 140737488355328 ∧ wrap64 ((R.L.length : Int) + 1) = (R.L.length : Int) + 1) := Lib.hid (by have := num.len; rw [List.length_zip]; refine ⟨by omega, by unfold wrap64; omega⟩)
  clear h num hn hg0 hf0 ht' hkk HR bU
  go_enter Try.func32, Try.ntmps32
  go_upto_region 7 with fail
  try rw [hU]
  clear hU c1
  have k0 : U.drew.cell? ⟨G.p, 0, none⟩ = some (.slice G.la G.ln G.lc) := by
    have := HH.out.mem.cell 0
    simp only [List.getElem?_toArray, List.getElem?_cons_zero] at this
    exact this
  have HPL := Lib.hid HH.out.mem.plt
  refine wp_region_T (S := (fun u : World => u.cell? ⟨G.p, 0, none⟩ = some (.slice G.la G.ln G.lc) ∧ u.cell? ⟨W.heap.size, 0, none⟩ = some (.int .i64 t'.kind) ∧ u.cell? ⟨W.heap.size, 1, none⟩ = some (.slice v.1 v.2.1 v.2.2) ∧ u.cell? ⟨W.heap.size, 2, none⟩ = some (.slice none 0 0) ∧ u.cell? ⟨W.heap.size, 3, none⟩ = some (.slice none 0 0) ∧ u.cell? ⟨W.heap.size, 4, none⟩ = some (.int .i64 t'.frame) ∧ u.cell? ⟨W.heap.size, 5, none⟩ = some (.bool t'.gone))) 8 (by kernel_rfl) ⟨k0, box_cells HH.out.box.1⟩ (fun hHeld => ?_)
  refine wpAnyT_takeW (i := 0) (oi := ⟨some 48, _, _, _, _, _⟩) (v := ?_) rfl (by kernel_rfl) (by kernel_rfl) (by kernel_rfl) (fun _ _ _ h => h) (Or.inl ⟨by rfl, ?_⟩) ?_
  rotate_left
  · ((intro w _; go_simp); try with_reducible rfl)
  (try simp only [Act.put, List.setIfInBounds_toArray, List.set_cons_zero, List.set_cons_succ])
  refine wpAnyT_takeW (i := 1) (oi := ⟨some 49, _, _, _, _, _⟩) (v := ?_) rfl (by kernel_rfl) (by kernel_rfl) (by kernel_rfl) (fun _ _ _ h => h) (Or.inl ⟨by rfl, ?_⟩) ?_
  rotate_left
  · ((intro w _; go_simp); try with_reducible rfl)
  (try simp only [Act.put, List.setIfInBounds_toArray, List.set_cons_zero, List.set_cons_succ])
  refine wpAnyT_takeW (i := 2) (oi := ⟨some 50, _, _, _, _, _⟩) (v := ?_) rfl (by kernel_rfl) (by kernel_rfl) (by kernel_rfl) (fun _ _ _ h => h) (Or.inl ⟨by rfl, ?_⟩) ?_
  rotate_left
  · ((intro w _; go_simp); try with_reducible rfl)
  (try simp only [Act.put, List.setIfInBounds_toArray, List.set_cons_zero, List.set_cons_succ])
  refine wpAnyT_takeW (i := 3) (oi := ⟨some 51, _, _, _, _, _⟩) (v := ?_) rfl (by kernel_rfl) (by kernel_rfl) (by kernel_rfl) (fun _ _ _ h => h) (Or.inl ⟨by rfl, ?_⟩) ?_
  rotate_left
  · ((intro w _; go_simp); try with_reducible rfl)
  (try simp only [Act.put, List.setIfInBounds_toArray, List.set_cons_zero, List.set_cons_succ])
  refine wpAnyT_take (i := 4) (oi := ⟨some 52, _, _, _, _, _⟩) (v := ?_) 8 rfl (by kernel_rfl) (by kernel_rfl) (by kernel_rfl) (by kernel_rfl) (by kernel_rfl) (fun _ _ _ h => h) (Or.inl ⟨by rfl, ?_⟩) (by assumption) ?_
  rotate_left
  · ((intro w hSw; (try dsimp only at hSw); go_simp); try with_reducible rfl)
  (try simp only [Act.put, List.setIfInBounds_toArray, List.set_cons_zero, List.set_cons_succ])
  refine wpAnyT_take (i := 5) (oi := ⟨some 53, _, _, _, _, _⟩) (v := ?_) 8 rfl (by kernel_rfl) (by kernel_rfl) (by kernel_rfl) (by kernel_rfl) (by kernel_rfl) (fun _ _ _ h => h) (Or.inl ⟨by rfl, ?_⟩) (by assumption) ?_
  rotate_left
  · ((intro w hSw; (try dsimp only at hSw); go_simp); try with_reducible rfl)
  (try simp only [Act.put, List.setIfInBounds_toArray, List.set_cons_zero, List.set_cons_succ])
  refine wpAnyT_one (i := 6) (by kernel_rfl) rfl (fun K hK => ?_)
  rw [if_pos (by rfl)]
  go_simp
  refine hK.out _ _ ⟨(((Below.refl _ U.drew).alloc (Nat.le_refl _) _).cell (p := ⟨G.p, 0, none⟩) HPL.out.2).trans k0, box_cells (box_alloc HH.out.box.1 _)⟩ (fun hHeld => ?_)
  clear hK K
  (try simp only [Act.put, List.setIfInBounds_toArray, List.set_cons_zero, List.set_cons_succ])
  refine wpAnyT_one (i := 7) (by kernel_rfl) rfl (fun K hK => ?_)
  refine step_append_th (u := U.drew) (by rfl) _ _ (by rfl) B (.slice G.la G.ln G.lc) (R.L.zip G.gts) (by rfl) HH.out.mem.lv (by have := HPL.out; omega) _ 1 _ (t', newG v) (by rfl) rfl rfl HLN.out.1 ?_; intro ya yn yc w1 ho1 hg1 hw1; have HP := Lib.hid (HH.out.ends _ ya yn yc w1 hg1 ho1 hw1); clear ho1 hg1 hw1
  refine hK.out _ _ ⟨HP.out.2.1, box_cells HP.out.2.2.1⟩ (fun hHeld => ?_)
  clear hK K
  (try simp only [Act.put, List.setIfInBounds_toArray, List.set_cons_zero, List.set_cons_succ])
  refine wpAnyT_end (i := 8) (by kernel_rfl) (by kernel_rfl) rfl (fun K hK => ?_)
  rw [if_pos (by rfl)]
  go_simp
  refine hK.out _ _ ?_
  clear hK K
  (try simp only [Act.put, List.setIfInBounds_toArray, List.set_cons_zero, List.set_cons_succ])
  refine wpAnyT_end (i := 9) (by kernel_rfl) (by kernel_rfl) rfl (fun K hK => ?_)
  rw [if_pos (by rfl)]
  go_simp
  refine hK.out _ _ ?_
  clear hK K
  (try simp only [Act.put, List.setIfInBounds_toArray, List.set_cons_zero, List.set_cons_succ])
  have hf1 := HP.out.1
  have hc1 := HP.out.2.1
  refine wpAnyT_end (i := 10) (by kernel_rfl) (by kernel_rfl) rfl (fun K hK => ?_)
  rw [if_pos (by rfl)]
  go_simp
  refine hK.out _ _ ?_
  clear hK K
  (try simp only [Act.put, List.setIfInBounds_toArray, List.set_cons_zero, List.set_cons_succ])
  refine wpAnyT_done (by kernel_rfl) ?_
  have c9 := HP.out.2.2.2.1
  obtain rfl : yn = R.L.length + 1 := HP.out.2.2.2.2.1
  clear hHeld hf1 hc1 k0
  go_wp2_with fail
  go_ret2
  rw [HRT.out]
  exact HP.out.2.2.2.2.2
set_option maxRecDepth 100000 in
set_option maxHeartbeats 1000000 in
theorem refmake_heap {W : World} {B cap : Nat} {R : RM} {G : GR} (h : RefAt W B cap R G) (hcap : cap ≤ 1099511627776) {t : RT} {v : Option Addr × Nat × Nat} (hn : NewTh W B G.ρ t v) (hg0 : t.gone = false) (hf0 : t.frame = 0) :
    Calls Try.prog 32 #[.pointer (some ⟨G.p, 0, none⟩), .agg #[.int .i64 t.kind, .slice v.1 v.2.1 v.2.2, .slice none 0 0, .slice none 0 0, .int .i64 0, .bool false], .bool false] W (MakePost W B cap G v (makeR R t false)) := by
  have hBW := h.plt
  have num := h.num
  have hvn : v.2.1 = t.V.length := hn.V.cells.1
  obtain ⟨U, hU⟩ : ∃ U, W.alloc (.cells #[.int .i64 t.kind, .slice v.1 v.2.1 v.2.2, .slice none 0 0, .slice none 0 0, .int .i64 0, .bool false] 63) = U := ⟨_, rfl⟩
  have bU : Below W.heap.size W U := by rw [← hU]; exact (Below.refl _ W).alloc (Nat.le_refl _) _
  have hVl := hn.num.2
  have hbx : U.heap[W.heap.size]? = some (.cells (thV (t, newG v)).toArray 63 (0, 0)) := by
    rw [← hU, World.alloc_heap_new]
    simp only [thV, newG, sv, hg0, hf0]
  have b1 : U.cell? ⟨W.heap.size, 1, none⟩ = some (.slice v.1 v.2.1 v.2.2) := (box_cells hbx).2.1
  have c2 : U.cell? ⟨G.p, 2, none⟩ = some (.int .i64 R.limit) := by
    have := h.cell 2
    simp only [List.getElem?_toArray, List.getElem?_cons_succ, List.getElem?_cons_zero] at this
    exact (bU.cell (p := ⟨G.p, 2, none⟩) hBW.2).trans this
  have c3 : U.cell? ⟨G.p, 3, none⟩ = some (.int .i64 R.used) := by
    have := h.cell 3
    simp only [List.getElem?_toArray, List.getElem?_cons_succ, List.getElem?_cons_zero] at this
    exact (bU.cell (p := ⟨G.p, 3, none⟩) hBW.2).trans this
  have c4 : U.cell? ⟨G.p, 4, none⟩ = some (.int .i64 R.makes) := by
    have := h.cell 4
    simp only [List.getElem?_toArray, List.getElem?_cons_succ, List.getElem?_cons_zero] at this
    exact (bU.cell (p := ⟨G.p, 4, none⟩) hBW.2).trans this
  have hw1 : wrap64 (8 * (v.2.1 : Int)) = 8 * (v.2.1 : Int) := by unfold wrap64; omega
  have hw2 : wrap64 (8 + 8 * (v.2.1 : Int)) = 8 + 8 * (v.2.1 : Int) := by unfold wrap64; omega
  have hl := num.limit
  have hu := num.used
  have hm := num.makes
  have hw3 : wrap64 (R.limit - R.used) = R.limit - R.used := by unfold wrap64; omega
  by_cases hf : R.used + (8 + 8 * (t.V.length : Int)) ≤ R.limit
  · have hlt : ¬ (R.limit - R.used < 8 + 8 * (v.2.1 : Int)) := by omega
    have hdec : decide (R.limit - R.used < 8 + 8 * (v.2.1 : Int)) = false := decide_eq_false hlt
    have hw4 : wrap64 (R.used + (8 + 8 * (v.2.1 : Int))) = R.used + (8 + 8 * (v.2.1 : Int)) := by unfold wrap64; omega
    have hw5 : wrap64 (R.makes + 1) = R.makes + 1 := by unfold wrap64; omega
    have HN2 : RowKit.Hid (∀ q, ∀ U2, U2 = ((U.drewN q).setCell ⟨G.p, 3, none⟩ (.int .i64 (R.used + (8 + 8 * (v.2.1 : Int))))).setCell ⟨G.p, 4, none⟩ (.int .i64 (R.makes + 1)) → MakeHd W U2.drew.drew B cap {R with used := R.used + (8 + 8 * (t.V.length : Int)), makes := R.makes + 1} G t v W.heap.size) := Lib.hid (by
      intro q U2 hU2
      have bq : Below W.heap.size W (U.drewN q) := below_drewN q bU
      have hq := h.since bq
      have hk1 : (U.drewN q).heap[G.p]? = _ := hq.blk
      have hk2 := heap_setCell_same (U.drewN q) G.p 3 _ _ (.int .i64 (R.used + (8 + 8 * (v.2.1 : Int)))) hk1
      have hk3 := heap_setCell_same _ G.p 4 _ _ (.int .i64 (R.makes + 1)) hk2
      rw [← hU2] at hk3
      have o1 : Off (fun b => b = G.p) (U.drewN q) U2.drew.drew := by
        rw [hU2]
        exact (((Off.refl (fun b => b = G.p) (U.drewN q)).setCell (p := ⟨G.p, 3, none⟩) (.inl rfl) _).setCell (p := ⟨G.p, 4, none⟩) (.inl rfl) _).drew.drew
      have kq : Kp G.ρ (fun r => r ≠ (0, 0)) (U.drewN q) U2.drew.drew := kp_of_off hq.range o1 fun b r hx hbr hR => by
        rw [hx, hq.rm] at hbr; exact hR (Option.some.inj hbr).symm
      have hoW : Off (dom G.ρ) W U2.drew.drew := (Off.since bq).trans (o1.mono fun b _ hb => ⟨(0, 0), by rw [hb]; exact h.rm⟩)
      have hbl : Below B W U2.drew.drew := (bq.mono (by omega)).trans (o1.below (by have := bq.size; omega) (fun b hb => by rw [hb]; exact hBW.1))
      have hkb : W.heap.size < (U.drewN q).heap.size := (Array.getElem?_eq_some_iff.1 hbx).1
      refine ⟨hq.head (a := R.frames) (b := R.limit) (c := R.used + (8 + 8 * (t.V.length : Int))) (d := R.makes + 1) kq o1.size ?_ ⟨⟨num.frames.1, by have := num.frames.2; show R.frames ≤ _; simp; omega⟩, hl, ⟨by show 0 ≤ R.used + (8 + 8 * (t.V.length : Int)); omega, hf⟩, ⟨by show 0 ≤ R.makes + 1; omega, by show R.makes + 1 ≤ _; simp; omega⟩, Nat.le_succ_of_le num.len, fun x hx => (num.one x hx).mono (Nat.le_succ _)⟩, ⟨?_, hn.fr, hn.keys, hn.num⟩, ⟨by rw [hf0]; omega, by rw [hf0]; have := num.frames.1; show 0 ≤ R.frames; omega⟩, num.len, hbl, hoW, ?_, fun ⟨r, hr⟩ => by have := (h.range _ _ hr).2; omega⟩
      · have e := hk3
        rw [← hvn]
        show U2.heap[G.p]? = _
        rw [e]; rfl
      · refine ⟨hn.V.1, ?_⟩
        rcases hn.V.2 with h1 | ⟨gg, cp, cur, e, hB, hgg, rest⟩
        · exact .inl h1
        · have hgb : (sv v).ownBlock = some gg := by rw [e]; rfl
          refine .inr ⟨gg, cp, cur, e, hB, (hoW.block gg (Array.getElem?_eq_some_iff.1 hgg).1 (hn.fr gg hgb)).trans hgg, rest⟩
      · exact (o1.block W.heap.size hkb (fun e => by omega)).trans hbx)
    obtain ⟨R2, hR2⟩ : ∃ R2 : RM, {R with used := R.used + (8 + 8 * (t.V.length : Int)), makes := R.makes + 1} = R2 := ⟨_, rfl⟩
    have HRT : RowKit.Hid (makeR R t false = (pushR R2 t, (R2.L.length : Int) + 1, 0)) := Lib.hid (by unfold makeR; rw [if_neg (by simp), if_pos hf, ← hR2])
    rw [hR2] at HN2
    have HLN : RowKit.Hid (((R2.L.zip G.gts).length + 1) * 96 ≤ 140737488355328 ∧ wrap64 ((R2.L.length : Int) + 1) = (R2.L.length : Int) + 1) := Lib.hid (by rw [← hR2]; have := num.len; rw [List.length_zip]; refine ⟨by show (min R.L.length _ + 1) * 96 ≤ _; omega, by show wrap64 ((R.L.length : Int) + 1) = (R.L.length : Int) + 1; unfold wrap64; omega⟩)
    have hv4 : IntKind.i64.wrap (R.used + (8 + 8 * (v.2.1 : Int))) = R.used + (8 + 8 * (v.2.1 : Int)) := wrap_small _ (by omega) (by omega)
    have hv5 : IntKind.i64.wrap (R.makes + 1) = R.makes + 1 := wrap_small _ (by omega) (by omega)
    have f3 : U.frozen? ⟨G.p, 3, none⟩ = false := by
      have : U.heap[G.p]? = _ := (h.since bU).blk
      simp [World.frozen?, this]
    have f4 : U.frozen? ⟨G.p, 4, none⟩ = false := by
      have : U.heap[G.p]? = _ := (h.since bU).blk
      simp [World.frozen?, this]
    clear h num hn hg0 hf0 hVl hl hu hm hf hlt bU hbx hvn hR2
    go_enter Try.func32, Try.ntmps32
    go_upto_region 4 with fail
    try rw [hU]
    clear hU
    go_quiet (fail)
    go_upto_region 6 with fail
    generalize hq : U.drewN _ = Uq
    have d3 : Uq.cell? ⟨G.p, 3, none⟩ = some (.int .i64 R.used) := by rw [← hq]; exact c3
    have d4 : Uq.cell? ⟨G.p, 4, none⟩ = some (.int .i64 R.makes) := by rw [← hq]; exact c4
    have g3 : Uq.frozen? ⟨G.p, 3, none⟩ = false := by rw [← hq]; exact f3
    have g4 : Uq.frozen? ⟨G.p, 4, none⟩ = false := by rw [← hq]; exact f4
    refine wp_region_T (S := (fun u : World => u.cell? ⟨G.p, 3, none⟩ = some (.int .i64 R.used) ∧ u.cell? ⟨G.p, 4, none⟩ = some (.int .i64 R.makes))) 13 (by kernel_rfl) ⟨d3, d4⟩ (fun hHeld => ?_)
    refine wpAnyT_takeW (i := 0) (oi := ⟨some 31, _, _, _, _, _⟩) (v := ?_) rfl (by kernel_rfl) (by kernel_rfl) (by kernel_rfl) (fun _ _ _ h => h) (Or.inl ⟨by rfl, ?_⟩) ?_
    rotate_left
    · ((intro w _; go_simp); try with_reducible rfl)
    (try simp only [Act.put, List.setIfInBounds_toArray, List.set_cons_zero, List.set_cons_succ])
    refine wpAnyT_takeW (i := 1) (oi := ⟨some 32, _, _, _, _, _⟩) (v := ?_) rfl (by kernel_rfl) (by kernel_rfl) (by kernel_rfl) (fun _ _ _ h => h) (Or.inl ⟨by rfl, ?_⟩) ?_
    rotate_left
    · ((intro w _; go_simp); try with_reducible rfl)
    (try simp only [Act.put, List.setIfInBounds_toArray, List.set_cons_zero, List.set_cons_succ])
    refine wpAnyT_takeW (i := 2) (oi := ⟨some 33, _, _, _, _, _⟩) (v := ?_) rfl (by kernel_rfl) (by kernel_rfl) (by kernel_rfl) (fun _ _ _ h => h) (Or.inl ⟨by rfl, ?_⟩) ?_
    rotate_left
    · ((intro w _; go_simp); try with_reducible rfl)
    (try simp only [Act.put, List.setIfInBounds_toArray, List.set_cons_zero, List.set_cons_succ])
    refine wpAnyT_takeW (i := 3) (oi := ⟨some 34, _, _, _, _, _⟩) (v := ?_) rfl (by kernel_rfl) (by kernel_rfl) (by kernel_rfl) (fun _ _ _ h => h) (Or.inl ⟨by rfl, ?_⟩) ?_
    rotate_left
    · ((intro w _; go_simp); try with_reducible rfl)
    (try simp only [Act.put, List.setIfInBounds_toArray, List.set_cons_zero, List.set_cons_succ])
    refine wpAnyT_takeW (i := 4) (oi := ⟨some 35, _, _, _, _, _⟩) (v := ?_) rfl (by kernel_rfl) (by kernel_rfl) (by kernel_rfl) (fun _ _ _ h => h) (Or.inl ⟨by rfl, ?_⟩) ?_
    rotate_left
    · ((intro w _; go_simp); try with_reducible rfl)
    (try simp only [Act.put, List.setIfInBounds_toArray, List.set_cons_zero, List.set_cons_succ])
    refine wpAnyT_take (i := 5) (oi := ⟨some 36, _, _, _, _, _⟩) (v := ?_) 8 rfl (by kernel_rfl) (by kernel_rfl) (by kernel_rfl) (by kernel_rfl) (by kernel_rfl) (fun _ _ _ h => h) (Or.inl ⟨by rfl, ?_⟩) (by assumption) ?_
    rotate_left
    · ((intro w hSw; (try dsimp only at hSw); go_simp); try with_reducible rfl)
    (try simp only [Act.put, List.setIfInBounds_toArray, List.set_cons_zero, List.set_cons_succ])
    refine wpAnyT_takeW (i := 6) (oi := ⟨some 37, _, _, _, _, _⟩) (v := ?_) rfl (by kernel_rfl) (by kernel_rfl) (by kernel_rfl) (fun _ _ _ h => h) (Or.inl ⟨by rfl, ?_⟩) ?_
    rotate_left
    · ((intro w _; go_simp); try with_reducible rfl)
    (try simp only [Act.put, List.setIfInBounds_toArray, List.set_cons_zero, List.set_cons_succ])
    refine wpAnyT_takeW (i := 7) (oi := ⟨some 38, _, _, _, _, _⟩) (v := ?_) rfl (by kernel_rfl) (by kernel_rfl) (by kernel_rfl) (fun _ _ _ h => h) (Or.inl ⟨by rfl, ?_⟩) ?_
    rotate_left
    · ((intro w _; go_simp); try with_reducible rfl)
    (try simp only [Act.put, List.setIfInBounds_toArray, List.set_cons_zero, List.set_cons_succ])
    refine wpAnyT_takeW (i := 8) (oi := ⟨some 39, _, _, _, _, _⟩) (v := ?_) rfl (by kernel_rfl) (by kernel_rfl) (by kernel_rfl) (fun _ _ _ h => h) (Or.inl ⟨by rfl, ?_⟩) ?_
    rotate_left
    · ((intro w _; go_simp); try with_reducible rfl)
    (try simp only [Act.put, List.setIfInBounds_toArray, List.set_cons_zero, List.set_cons_succ])
    refine wpAnyT_takeW (i := 9) (oi := ⟨some 40, _, _, _, _, _⟩) (v := ?_) rfl (by kernel_rfl) (by kernel_rfl) (by kernel_rfl) (fun _ _ _ h => h) (Or.inl ⟨by rfl, ?_⟩) ?_
    rotate_left
    · ((intro w _; go_simp); try with_reducible rfl)
    (try simp only [Act.put, List.setIfInBounds_toArray, List.set_cons_zero, List.set_cons_succ])
    refine wpAnyT_takeW (i := 10) (oi := ⟨some 41, _, _, _, _, _⟩) (v := ?_) rfl (by kernel_rfl) (by kernel_rfl) (by kernel_rfl) (fun _ _ _ h => h) (Or.inl ⟨by rfl, ?_⟩) ?_
    rotate_left
    · ((intro w _; go_simp); try with_reducible rfl)
    (try simp only [Act.put, List.setIfInBounds_toArray, List.set_cons_zero, List.set_cons_succ])
    refine wpAnyT_take (i := 11) (oi := ⟨some 42, _, _, _, _, _⟩) (v := ?_) 8 rfl (by kernel_rfl) (by kernel_rfl) (by kernel_rfl) (by kernel_rfl) (by kernel_rfl) (fun _ _ _ h => h) (Or.inl ⟨by rfl, ?_⟩) (by assumption) ?_
    rotate_left
    · ((intro w hSw; (try dsimp only at hSw); go_simp); try with_reducible rfl)
    (try simp only [Act.put, List.setIfInBounds_toArray, List.set_cons_zero, List.set_cons_succ])
    refine wpAnyT_takeW (i := 12) (oi := ⟨some 43, _, _, _, _, _⟩) (v := ?_) rfl (by kernel_rfl) (by kernel_rfl) (by kernel_rfl) (fun _ _ _ h => h) (Or.inl ⟨by rfl, ?_⟩) ?_
    rotate_left
    · ((intro w _; go_simp); try with_reducible rfl)
    (try simp only [Act.put, List.setIfInBounds_toArray, List.set_cons_zero, List.set_cons_succ])
    refine wpAnyT_end (i := 13) (by kernel_rfl) (by kernel_rfl) rfl (fun K hK => ?_)
    rw [if_pos (by rfl)]
    go_simp
    refine hK.out _ _ ?_
    clear hK K
    (try simp only [Act.put, List.setIfInBounds_toArray, List.set_cons_zero, List.set_cons_succ])
    refine wpAnyT_end (i := 14) (by kernel_rfl) (by kernel_rfl) rfl (fun K hK => ?_)
    rw [if_pos (by rfl)]
    go_simp
    refine hK.out _ _ ?_
    clear hK K
    (try simp only [Act.put, List.setIfInBounds_toArray, List.set_cons_zero, List.set_cons_succ])
    refine wpAnyT_end (i := 15) (by kernel_rfl) (by kernel_rfl) rfl (fun K hK => ?_)
    rw [if_pos (by rfl)]
    go_simp
    refine hK.out _ _ ?_
    clear hK K
    (try simp only [Act.put, List.setIfInBounds_toArray, List.set_cons_zero, List.set_cons_succ])
    refine wpAnyT_end (i := 16) (by kernel_rfl) (by kernel_rfl) rfl (fun K hK => ?_)
    rw [if_pos (by rfl)]
    go_simp
    refine hK.out _ _ ?_
    clear hK K
    (try simp only [Act.put, List.setIfInBounds_toArray, List.set_cons_zero, List.set_cons_succ])
    refine wpAnyT_end (i := 17) (by kernel_rfl) (by kernel_rfl) rfl (fun K hK => ?_)
    rw [if_pos (by rfl)]
    go_simp
    refine hK.out _ _ ?_
    clear hK K
    (try simp only [Act.put, List.setIfInBounds_toArray, List.set_cons_zero, List.set_cons_succ])
    refine wpAnyT_end (i := 18) (by kernel_rfl) (by kernel_rfl) rfl (fun K hK => ?_)
    rw [if_pos (by rfl)]
    go_simp
    refine hK.out _ _ ?_
    clear hK K
    (try simp only [Act.put, List.setIfInBounds_toArray, List.set_cons_zero, List.set_cons_succ])
    refine wpAnyT_done (by kernel_rfl) ?_
    go_upto_region 7 with fail
    obtain ⟨U2, hU2⟩ : ∃ U2, U2 = ((Uq.setCell ⟨G.p, 3, none⟩ (.int .i64 (R.used + (8 + 8 * (v.2.1 : Int))))).setCell ⟨G.p, 4, none⟩ (.int .i64 (R.makes + 1))).drew := ⟨_, rfl⟩
    have HH : RowKit.Hid (MakeHd W U2.drew B cap R2 G t v W.heap.size) := Lib.hid (by
      rw [hU2]
      exact HN2.out _ _ (by rw [← hq]))
    rw [← hU2]
    clear hU2 hHeld d3 d4 g3 g4 hq
    have k0 : U2.drew.cell? ⟨G.p, 0, none⟩ = some (.slice G.la G.ln G.lc) := by
      have := HH.out.mem.cell 0
      simp only [List.getElem?_toArray, List.getElem?_cons_zero] at this
      exact this
    have HPL := Lib.hid HH.out.mem.plt
    refine wp_region_T (S := (fun u : World => u.cell? ⟨G.p, 0, none⟩ = some (.slice G.la G.ln G.lc) ∧ u.cell? ⟨W.heap.size, 0, none⟩ = some (.int .i64 t.kind) ∧ u.cell? ⟨W.heap.size, 1, none⟩ = some (.slice v.1 v.2.1 v.2.2) ∧ u.cell? ⟨W.heap.size, 2, none⟩ = some (.slice none 0 0) ∧ u.cell? ⟨W.heap.size, 3, none⟩ = some (.slice none 0 0) ∧ u.cell? ⟨W.heap.size, 4, none⟩ = some (.int .i64 t.frame) ∧ u.cell? ⟨W.heap.size, 5, none⟩ = some (.bool t.gone))) 8 (by kernel_rfl) ⟨k0, box_cells HH.out.box.1⟩ (fun hHeld => ?_)
    refine wpAnyT_takeW (i := 0) (oi := ⟨some 48, _, _, _, _, _⟩) (v := ?_) rfl (by kernel_rfl) (by kernel_rfl) (by kernel_rfl) (fun _ _ _ h => h) (Or.inl ⟨by rfl, ?_⟩) ?_
    rotate_left
    · ((intro w _; go_simp); try with_reducible rfl)
    (try simp only [Act.put, List.setIfInBounds_toArray, List.set_cons_zero, List.set_cons_succ])
    refine wpAnyT_takeW (i := 1) (oi := ⟨some 49, _, _, _, _, _⟩) (v := ?_) rfl (by kernel_rfl) (by kernel_rfl) (by kernel_rfl) (fun _ _ _ h => h) (Or.inl ⟨by rfl, ?_⟩) ?_
    rotate_left
    · ((intro w _; go_simp); try with_reducible rfl)
    (try simp only [Act.put, List.setIfInBounds_toArray, List.set_cons_zero, List.set_cons_succ])
    refine wpAnyT_takeW (i := 2) (oi := ⟨some 50, _, _, _, _, _⟩) (v := ?_) rfl (by kernel_rfl) (by kernel_rfl) (by kernel_rfl) (fun _ _ _ h => h) (Or.inl ⟨by rfl, ?_⟩) ?_
    rotate_left
    · ((intro w _; go_simp); try with_reducible rfl)
    (try simp only [Act.put, List.setIfInBounds_toArray, List.set_cons_zero, List.set_cons_succ])
    refine wpAnyT_takeW (i := 3) (oi := ⟨some 51, _, _, _, _, _⟩) (v := ?_) rfl (by kernel_rfl) (by kernel_rfl) (by kernel_rfl) (fun _ _ _ h => h) (Or.inl ⟨by rfl, ?_⟩) ?_
    rotate_left
    · ((intro w _; go_simp); try with_reducible rfl)
    (try simp only [Act.put, List.setIfInBounds_toArray, List.set_cons_zero, List.set_cons_succ])
    refine wpAnyT_take (i := 4) (oi := ⟨some 52, _, _, _, _, _⟩) (v := ?_) 8 rfl (by kernel_rfl) (by kernel_rfl) (by kernel_rfl) (by kernel_rfl) (by kernel_rfl) (fun _ _ _ h => h) (Or.inl ⟨by rfl, ?_⟩) (by assumption) ?_
    rotate_left
    · ((intro w hSw; (try dsimp only at hSw); go_simp); try with_reducible rfl)
    (try simp only [Act.put, List.setIfInBounds_toArray, List.set_cons_zero, List.set_cons_succ])
    refine wpAnyT_take (i := 5) (oi := ⟨some 53, _, _, _, _, _⟩) (v := ?_) 8 rfl (by kernel_rfl) (by kernel_rfl) (by kernel_rfl) (by kernel_rfl) (by kernel_rfl) (fun _ _ _ h => h) (Or.inl ⟨by rfl, ?_⟩) (by assumption) ?_
    rotate_left
    · ((intro w hSw; (try dsimp only at hSw); go_simp); try with_reducible rfl)
    (try simp only [Act.put, List.setIfInBounds_toArray, List.set_cons_zero, List.set_cons_succ])
    refine wpAnyT_one (i := 6) (by kernel_rfl) rfl (fun K hK => ?_)
    rw [if_pos (by rfl)]
    go_simp
    refine hK.out _ _ ⟨(((Below.refl _ U2.drew).alloc (Nat.le_refl _) _).cell (p := ⟨G.p, 0, none⟩) HPL.out.2).trans k0, box_cells (box_alloc HH.out.box.1 _)⟩ (fun hHeld => ?_)
    clear hK K
    (try simp only [Act.put, List.setIfInBounds_toArray, List.set_cons_zero, List.set_cons_succ])
    refine wpAnyT_one (i := 7) (by kernel_rfl) rfl (fun K hK => ?_)
    refine step_append_th (u := U2.drew) (by rfl) _ _ (by rfl) B (.slice G.la G.ln G.lc) (R2.L.zip G.gts) (by rfl) HH.out.mem.lv (by have := HPL.out; omega) _ 1 _ (t, newG v) (by rfl) rfl rfl HLN.out.1 ?_; intro ya yn yc w1 ho1 hg1 hw1; have HP := Lib.hid (HH.out.ends _ ya yn yc w1 hg1 ho1 hw1); clear ho1 hg1 hw1
    refine hK.out _ _ ⟨HP.out.2.1, box_cells HP.out.2.2.1⟩ (fun hHeld => ?_)
    clear hK K
    (try simp only [Act.put, List.setIfInBounds_toArray, List.set_cons_zero, List.set_cons_succ])
    refine wpAnyT_end (i := 8) (by kernel_rfl) (by kernel_rfl) rfl (fun K hK => ?_)
    rw [if_pos (by rfl)]
    go_simp
    refine hK.out _ _ ?_
    clear hK K
    (try simp only [Act.put, List.setIfInBounds_toArray, List.set_cons_zero, List.set_cons_succ])
    refine wpAnyT_end (i := 9) (by kernel_rfl) (by kernel_rfl) rfl (fun K hK => ?_)
    rw [if_pos (by rfl)]
    go_simp
    refine hK.out _ _ ?_
    clear hK K
    (try simp only [Act.put, List.setIfInBounds_toArray, List.set_cons_zero, List.set_cons_succ])
    have hf1 := HP.out.1
    have hc1 := HP.out.2.1
    refine wpAnyT_end (i := 10) (by kernel_rfl) (by kernel_rfl) rfl (fun K hK => ?_)
    rw [if_pos (by rfl)]
    go_simp
    refine hK.out _ _ ?_
    clear hK K
    (try simp only [Act.put, List.setIfInBounds_toArray, List.set_cons_zero, List.set_cons_succ])
    refine wpAnyT_done (by kernel_rfl) ?_
    have c9 := HP.out.2.2.2.1
    obtain rfl : yn = R2.L.length + 1 := HP.out.2.2.2.2.1
    clear hHeld hf1 hc1 k0
    go_wp2_with fail
    go_ret2
    rw [HRT.out]
    exact HP.out.2.2.2.2.2
  · have hlt : R.limit - R.used < 8 + 8 * (v.2.1 : Int) := by omega
    have hdec : decide (R.limit - R.used < 8 + 8 * (v.2.1 : Int)) = true := decide_eq_true hlt
    have HRT : RowKit.Hid (makeR R t false = (R, 0, 4)) := Lib.hid (by unfold makeR; rw [if_neg (by simp), if_neg hf])
    have HE : RowKit.Hid (∀ q, MakePost W B cap G v (R, 0, 4) (.returned (.tuple #[.int .i64 0, .int .i64 4])) (U.drewN q)) := Lib.hid fun q => ⟨rfl, G, (h.since (below_drewN q bU)).mono (Nat.le_succ _), rfl, (below_drewN q bU).mono (by omega), Off.since (below_drewN q bU), fun b r hr => .inl ⟨r, hr⟩⟩
    clear h num hn hg0 hf0 hVl hl hu hm hf bU hbx c4 hvn
    go_enter Try.func32, Try.ntmps32
    go_upto_region 4 with fail
    try rw [hU]
    clear hU
    go_quiet (fail)
    go_wp2_with fail
    go_ret2
    rw [HRT.out]
    exact HE.out _
end Go.Proofs.Ytgnfinojnmkkkaa
