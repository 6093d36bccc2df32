/- Layer 13: package uses' spread: two sets side by side, and the list of blocks that were reached: what is kept while one of them grows; plain: the rows. -/
import Derived.Test.YtdchhfdmingnaaaDoorWUsesG
import Derived.Deep.LoopGhost
import Derived.Sort.QuietIn
namespace Go.Proofs.YtdchhfdmingnaaaDoor
open Go.RowKit (wrap64 intOf Below)
set_option linter.unusedVariables false
set_option linter.unusedSimpArgs false
def putB (M : Nat → Bool) (b : Nat) : Nat → Bool := fun i => M i || i == b
def rowU (p : Nat → Nat → Bool) (v : Nat) (M : Nat → Bool) (b : Nat) : List Int := risingU (fun u => p u b) v ++ (if M b = true then [(v : Int)] else [])
def rowsU (p : Nat → Nat → Bool) (v : Nat) (M : Nat → Bool) (n : Nat) : List (List Int) := (List.range n).map (rowU p v M)
theorem rowsU_at {p : Nat → Nat → Bool} {v : Nat} {M : Nat → Bool} {n b : Nat} (h : b < n) : (rowsU p v M n)[b]? = some (rowU p v M b) := by simp [rowsU, h]
theorem rowU_last (p : Nat → Nat → Bool) (v : Nat) (M : Nat → Bool) (b : Nat) : (rowU p v M b).getLast? = some (v : Int) ↔ M b = true := by
  unfold rowU
  cases hm : M b with
  | true => simp
  | false =>
    simp only [Bool.false_eq_true, if_false, List.append_nil, iff_false]
    intro h
    obtain ⟨u, hu, h1, _⟩ := mem_risingU.1 (List.mem_of_getLast? h)
    omega
theorem rowU_fresh (p : Nat → Nat → Bool) (v : Nat) (M : Nat → Bool) (b : Nat) : freshB (rowU p v M b) (v : Int) = !M b := by
  unfold freshB
  have h := rowU_last p v M b
  cases hm : M b with
  | true => simp [h.2 hm]
  | false =>
    have : (rowU p v M b).getLast? ≠ some (v : Int) := fun e => by rw [h.1 e] at hm; cases hm
    simp [this]
theorem rowU_grow (p : Nat → Nat → Bool) (v : Nat) (M : Nat → Bool) (b : Nat) : growL (rowU p v M b) (v : Int) = rowU p v (putB M b) b := by
  unfold growL
  have h := rowU_last p v M b
  cases hm : M b with
  | true => rw [if_pos (h.2 hm)]; simp [rowU, putB, hm]
  | false =>
    rw [if_neg (fun e => by rw [h.1 e] at hm; cases hm)]
    simp [rowU, putB, hm]
theorem rowsU_grow {p : Nat → Nat → Bool} {v : Nat} {M : Nat → Bool} {n b : Nat} (h : b < n) : (rowsU p v M n).set b (growL (rowU p v M b) (v : Int)) = rowsU p v (putB M b) n := by
  apply List.ext_getElem
  · simp [rowsU]
  · intro i h1 h2
    rw [List.getElem_set]
    have hi : i < n := by simpa [rowsU] using h2
    by_cases e : b = i
    · subst e
      rw [if_pos rfl, rowU_grow]
      simp [rowsU]
    · rw [if_neg e]
      simp only [rowsU, List.getElem_map, List.getElem_range, rowU, putB]
      have : (i == b) = false := by simpa using fun h => e h.symm
      rw [this, Bool.or_false]
theorem rowsU_len_le {p : Nat → Nat → Bool} {v : Nat} {M : Nat → Bool} {n : Nat} : ∀ Z ∈ rowsU p v M n, Z.length ≤ v + 1 := by
  intro Z hZ
  unfold rowsU at hZ
  obtain ⟨b, _, rfl⟩ := List.mem_map.1 hZ
  unfold rowU
  rw [List.length_append]
  have := risingU_len (fun u => p u b) v
  split <;> simp <;> omega
theorem rowsU_next (p : Nat → Nat → Bool) (v : Nat) (M : Nat → Bool) (n : Nat) (h : ∀ b, b < n → M b = p v b) : rowsU p v M n = rowsU p (v + 1) (fun _ => false) n := by
  unfold rowsU
  apply List.map_congr_left
  intro b hb
  rw [List.mem_range] at hb
  unfold rowU
  rw [risingU_more, h b hb]
  simp
theorem rowsU_start (p : Nat → Nat → Bool) (n : Nat) : rowsU p 0 (fun _ => false) n = List.replicate n [] := by
  apply List.ext_getElem
  · simp [rowsU]
  · intro i h1 h2
    simp [rowsU, rowU, risingU]
theorem rowsU_end (p : Nat → Nat → Bool) (v : Nat) (n : Nat) : rowsU p v (fun _ => false) n = (List.range n).map fun b => risingU (fun u => p u b) v := by
  unfold rowsU rowU
  simp
theorem OwnsI.offX {X : Nat → Prop} {W W' : World} {B : Nat} {e : TypeId} {v : Value} {Z : List Int} (h : OwnsI W B e v Z) (hoff : Off X W W') (hk : ∀ k, v.ownBlock = some k → ¬ X k) : OwnsI W' B e v Z := by
  refine ⟨h.1, ?_⟩
  rcases h.2 with hn | ⟨g, cap, cur, rfl, hB, hh, rest⟩
  · exact .inl hn
  · exact .inr ⟨g, cap, cur, rfl, hB, (hoff.block g (Array.getElem?_eq_some_iff.1 hh).1 (hk g rfl)).trans hh, rest⟩
section
variable {B bx g n i : Nat} {X : Nat → Prop} {W W' : World} {vs : List Value} {Zs : List (List Int)}
theorem SetU.offX (h : SetU B bx g n W vs Zs) (hoff : Off X W W') (hX : ∀ k, X k → ¬ OG g n W k ∧ k ≠ bx) : SetU B bx g n W' vs Zs := by
  have hg : ¬ X g := fun e => (hX g e).1 (.inl rfl)
  refine ⟨(hoff.block bx h.box.lt (fun e => (hX bx e).2 rfl)).trans h.box, ⟨?_, h.row.len, fun j h1 h2 => ?_, h.row.apart⟩, h.len⟩
  · refine ⟨h.row.row.1, ?_⟩
    rcases h.row.row.2 with hn | ⟨g', cap, cur, e, hB, hh, rest⟩
    · exact .inl hn
    · cases e
      exact .inr ⟨_, _, cur, rfl, hB, (hoff.block _ (Array.getElem?_eq_some_iff.1 hh).1 hg).trans hh, rest⟩
  · exact (h.row.own j h1 h2).offX hoff (fun k hk e => (hX k e).1 (h.og.2 (.inr ⟨j, h1, hk⟩)))
theorem SetU.elem_lt (h : SetU B bx g n W vs Zs) {j : Nat} (hj : j < vs.length) {k : Nat} (hk : (vs[j]).ownBlock = some k) : ∃ cur, W.heap[k]? = some (.cells cur 3 (0, 0)) ∧ k < W.heap.size := by
  obtain ⟨cur, hc, _⟩ := ownsI_blk (h.row.own j hj (by rw [← h.row.len]; exact hj)) hk
  exact ⟨cur, hc, (Array.getElem?_eq_some_iff.1 hc).1⟩
end
structure Duo (W0 W : World) (n Bn bn gn Bl bl gl : Nat) (vsN : List Value) (ZN : List (List Int)) (vsL : List Value) (ZL : List (List Int)) : Prop where
  nd : SetU Bn bn gn n W vsN ZN
  lf : SetU Bl bl gl n W vsL ZL
  off : Off (fun k => k = gn ∨ k = gl) W0 W
  newN : ∀ j (h : j < vsN.length) k, (vsN[j]).ownBlock = some k → W0.heap.size ≤ k
  newL : ∀ j (h : j < vsL.length) k, (vsL[j]).ownBlock = some k → W0.heap.size ≤ k
  apart : ∀ j (h : j < vsN.length) q (h' : q < vsL.length) k, (vsN[j]).ownBlock = some k → (vsL[q]).ownBlock ≠ some k
  low : gn < W0.heap.size ∧ gl < W0.heap.size ∧ bn < W0.heap.size ∧ bl < W0.heap.size ∧ gn ≠ gl ∧ Bn ≤ W0.heap.size ∧ Bl ≤ W0.heap.size
section
variable {W0 W W' : World} {n Bn bn gn Bl bl gl : Nat} {vsN : List Value} {ZN ZN' : List (List Int)} {vsL : List Value} {ZL : List (List Int)}
theorem Duo.swap (h : Duo W0 W n Bn bn gn Bl bl gl vsN ZN vsL ZL) : Duo W0 W n Bl bl gl Bn bn gn vsL ZL vsN ZN :=
  ⟨h.lf, h.nd, h.off.mono (fun k _ hk => hk.symm), h.newL, h.newN, fun j hj q hq k hk e => h.apart q hq j hj k e hk, ⟨h.low.2.1, h.low.1, h.low.2.2.2.1, h.low.2.2.1, fun e => h.low.2.2.2.2.1 e.symm, h.low.2.2.2.2.2.2, h.low.2.2.2.2.2.1⟩⟩
theorem Duo.offX {X : Nat → Prop} (h : Duo W0 W n Bn bn gn Bl bl gl vsN ZN vsL ZL) (hoff : Off X W W') (hX : ∀ k, X k → W0.heap.size ≤ k ∧ (∀ j (hj : j < vsN.length), (vsN[j]).ownBlock ≠ some k) ∧ ∀ j (hj : j < vsL.length), (vsL[j]).ownBlock ≠ some k) : Duo W0 W' n Bn bn gn Bl bl gl vsN ZN vsL ZL := by
  refine ⟨h.nd.offX hoff (fun k hk => ⟨fun e => ?_, ?_⟩), h.lf.offX hoff (fun k hk => ⟨fun e => ?_, ?_⟩), h.off.trans_new hoff (fun k hk => .inr (hX k hk).1), h.newN, h.newL, h.apart, h.low⟩
  · rcases h.nd.og.1 e with e | ⟨j, hj, e⟩
    · have := (hX k hk).1; have := h.low.1; omega
    · exact (hX k hk).2.1 j hj e
  · have := (hX k hk).1; have := h.low.2.2.1; omega
  · rcases h.lf.og.1 e with e | ⟨j, hj, e⟩
    · have := (hX k hk).1; have := h.low.2.1; omega
    · exact (hX k hk).2.2 j hj e
  · have := (hX k hk).1; have := h.low.2.2.2.1; omega
theorem Duo.since (h : Duo W0 W n Bn bn gn Bl bl gl vsN ZN vsL ZL) (hb : Below W.heap.size W W') : Duo W0 W' n Bn bn gn Bl bl gl vsN ZN vsL ZL :=
  h.offX (X := fun _ => False) (Off.since hb) (fun k hk => hk.elim)
theorem Duo.grow {b : Nat} {v' : Value} (h : Duo W0 W n Bn bn gn Bl bl gl vsN ZN vsL ZL) (hs : SetU Bn bn gn n W' (vsN.set b v') ZN') (hoff : Off (GrowX gn vsN b) W W') (hw : ∀ k, v'.ownBlock = some k → (∃ h : b < vsN.length, (vsN[b]).ownBlock = some k) ∨ W.heap.size ≤ k) : Duo W0 W' n Bn bn gn Bl bl gl (vsN.set b v') ZN' vsL ZL := by
  have hX : ∀ k, GrowX gn vsN b k → k = gn ∨ (W0.heap.size ≤ k ∧ ∃ hb : b < vsN.length, (vsN[b]).ownBlock = some k) := fun k hk => by
    rcases hk with ⟨hb, hk⟩ | e
    · exact .inr ⟨h.newN b hb k hk, hb, hk⟩
    · exact .inl e
  refine ⟨hs, h.lf.offX hoff (fun k hk => ⟨fun e => ?_, fun e => ?_⟩), h.off.trans_new hoff (fun k hk => ?_), fun j hj k hk => ?_, h.newL, fun j hj q hq k hk e => ?_, h.low⟩
  · rcases hX k hk with e1 | ⟨h1, hb, h2⟩
    · rcases h.lf.og.1 e with e2 | ⟨j, hj, e2⟩
      · exact h.low.2.2.2.2.1 (e1.symm.trans e2)
      · have := h.newL j hj k e2; have := h.low.1; omega
    · rcases h.lf.og.1 e with e2 | ⟨j, hj, e2⟩
      · have := h.low.2.1; omega
      · exact h.apart b hb j hj k h2 e2
  · rcases hX k hk with e1 | ⟨h1, hb, h2⟩
    · obtain ⟨cur, hc, _⟩ := h.nd.blk
      have hb : W.heap[bl]? = _ := h.lf.box
      rw [← e, e1, hc] at hb
      cases hb
    · have := h.low.2.2.2.1; omega
  · rcases hX k hk with e1 | ⟨h1, _⟩
    · exact .inl (.inl e1)
    · exact .inr h1
  · rw [List.length_set] at hj
    rw [List.getElem_set] at hk
    split at hk
    · rcases hw k hk with ⟨hb, h1⟩ | h1
      · exact h.newN b hb k h1
      · exact Nat.le_trans h.off.size h1
    · exact h.newN j hj k hk
  · rw [List.length_set] at hj
    rw [List.getElem_set] at hk
    split at hk
    · rcases hw k hk with ⟨hb, h1⟩ | h1
      · exact h.apart b hb q hq k h1 e
      · obtain ⟨_, _, h2⟩ := h.lf.elem_lt hq e; omega
    · exact h.apart j hj q hq k hk e
end
structure Rch (W0 W : World) (bv br v : Nat) (rv : Value) (R : List Int) (vsN vsL : List Value) : Prop where
  val : Boxed W bv 3 (.int .i64 (v : Int))
  box : Boxed W br 34 rv
  own : OwnsI W W0.heap.size 3 rv R
  ge : W0.heap.size ≤ bv ∧ W0.heap.size ≤ br
  aN : ∀ j (h : j < vsN.length) k, (vsN[j]).ownBlock = some k → rv.ownBlock ≠ some k ∧ k ≠ bv
  aL : ∀ j (h : j < vsL.length) k, (vsL[j]).ownBlock = some k → rv.ownBlock ≠ some k ∧ k ≠ bv
  ne : rv.ownBlock ≠ some bv
section
variable {W0 W W' : World} {n Bn bn gn Bl bl gl bv br v b : Nat} {vsN : List Value} {ZN : List (List Int)} {vsL : List Value} {ZL : List (List Int)} {rv v' : Value} {R : List Int}
theorem Rch.swap (h : Rch W0 W bv br v rv R vsN vsL) : Rch W0 W bv br v rv R vsL vsN := ⟨h.val, h.box, h.own, h.ge, h.aL, h.aN, h.ne⟩
theorem Rch.since (h : Rch W0 W bv br v rv R vsN vsL) (hb : Below W.heap.size W W') : Rch W0 W' bv br v rv R vsN vsL :=
  ⟨(hb.block _ h.val.lt).trans h.val, (hb.block _ h.box.lt).trans h.box, h.own.below hb, h.ge, h.aN, h.aL, h.ne⟩
theorem Rch.bne (h : Rch W0 W bv br v rv R vsN vsL) : rv.ownBlock ≠ some br ∧ br ≠ bv := by
  have hb : W.heap[br]? = _ := h.box
  refine ⟨fun e => ?_, fun e => ?_⟩
  · obtain ⟨cur, hc, _⟩ := ownsI_blk h.own e
    rw [hb] at hc; cases hc
  · have hv : W.heap[bv]? = _ := h.val
    rw [← e, hb] at hv; cases hv
theorem Rch.grow (h : Rch W0 W bv br v rv R vsN vsL) (hd : Duo W0 W n Bn bn gn Bl bl gl vsN ZN vsL ZL) (hoff : Off (GrowX gn vsN b) W W') (hw : ∀ k, v'.ownBlock = some k → (∃ h : b < vsN.length, (vsN[b]).ownBlock = some k) ∨ W.heap.size ≤ k) : Rch W0 W' bv br v rv R (vsN.set b v') vsL := by
  have hX : ∀ k, GrowX gn vsN b k → k ≠ bv ∧ k ≠ br ∧ rv.ownBlock ≠ some k := fun k hk => by
    rcases hk with ⟨hb, hk⟩ | e
    · refine ⟨(h.aN b hb k hk).2, fun e => ?_, (h.aN b hb k hk).1⟩
      obtain ⟨cur, hc, _⟩ := hd.nd.elem_lt hb hk
      have hbx : W.heap[br]? = _ := h.box
      rw [← e, hc] at hbx; cases hbx
    · have h1 := hd.low.1
      have h2 := h.ge
      refine ⟨by omega, by omega, fun e' => ?_⟩
      have := (h.own.lt k e').1
      omega
  refine ⟨(hoff.block _ h.val.lt (fun e => (hX _ e).1 rfl)).trans h.val, (hoff.block _ h.box.lt (fun e => (hX _ e).2.1 rfl)).trans h.box, h.own.offX hoff (fun k hk e => (hX k e).2.2 hk), h.ge, fun j hj k hk => ?_, h.aL, h.ne⟩
  rw [List.length_set] at hj
  rw [List.getElem_set] at hk
  split at hk
  · rcases hw k hk with ⟨hb, h1⟩ | h1
    · exact h.aN b hb k h1
    · refine ⟨fun e => ?_, fun e => ?_⟩
      · have := (h.own.lt k e).2; omega
      · have := h.val.lt; omega
  · exact h.aN j hj k hk
theorem Rch.push {U w1 : World} {R' : List Int} (h : Rch W0 W bv br v rv R vsN vsL) (hd : Duo W0 W n Bn bn gn Bl bl gl vsN ZN vsL ZL) (hU : Below W.heap.size W U) (hg : U.grownBy w1 rv.ownBlock) (ho : OwnsI w1 W0.heap.size 3 v' R') (hw : ∀ k, v'.ownBlock = some k → rv.ownBlock = some k ∨ W.heap.size ≤ k) :
    w1.cell? ⟨br, 0, none⟩ = some rv ∧ w1.frozen? ⟨br, 0, none⟩ = false ∧ Duo W0 (w1.setCell ⟨br, 0, none⟩ v') n Bn bn gn Bl bl gl vsN ZN vsL ZL ∧ Rch W0 (w1.setCell ⟨br, 0, none⟩ v') bv br v v' R' vsN vsL := by
  have hoff : Off (fun k => rv.ownBlock = some k) W w1 := (Off.since hU).grown hg (fun k hk => .inl hk)
  have hb1 : Boxed w1 br 34 rv := (hoff.block _ h.box.lt h.bne.1).trans h.box
  have hoff2 : Off (fun k => rv.ownBlock = some k ∨ k = br) W (w1.setCell ⟨br, 0, none⟩ v') := (hoff.mono (fun k _ hk => .inl hk)).setCell (.inl (.inr rfl)) v'
  have hnb : ∀ k, v'.ownBlock = some k → k ≠ br := fun k hk e => by
    subst e
    rcases hw k hk with h1 | h1
    · exact h.bne.1 h1
    · have := h.box.lt; omega
  refine ⟨hb1.cell, hb1.frozen, hd.offX hoff2 (fun k hk => ?_), ?_⟩
  · rcases hk with hk | hk
    · exact ⟨(h.own.lt k hk).1, fun j hj e => (h.aN j hj k e).1 hk, fun j hj e => (h.aL j hj k e).1 hk⟩
    · subst hk
      have hb : W.heap[k]? = _ := h.box
      refine ⟨h.ge.2, fun j hj e => ?_, fun j hj e => ?_⟩
      · obtain ⟨cur, hc, _⟩ := hd.nd.elem_lt hj e
        rw [hb] at hc; cases hc
      · obtain ⟨cur, hc, _⟩ := hd.lf.elem_lt hj e
        rw [hb] at hc; cases hc
  · have hlt : ∀ {k : Nat}, v'.ownBlock = some k → ∀ {vs : List Value} {Zs : List (List Int)} {B' bx' g' : Nat}, SetU B' bx' g' n W vs Zs → (∀ j (hj : j < vs.length) q, (vs[j]).ownBlock = some q → rv.ownBlock ≠ some q) → ∀ j (hj : j < vs.length), (vs[j]).ownBlock ≠ some k := by
      intro k hk vs Zs B' bx' g' hs ha j hj e
      rcases hw k hk with h1 | h1
      · exact ha j hj k e h1
      · obtain ⟨_, _, h2⟩ := hs.elem_lt hj e; omega
    refine ⟨(hoff2.block _ h.val.lt (fun e => ?_)).trans h.val, hb1.set v', ?_, h.ge, fun j hj k hk => ⟨fun e => hlt e hd.nd (fun j hj q hq => (h.aN j hj q hq).1) j hj hk, (h.aN j hj k hk).2⟩, fun j hj k hk => ⟨fun e => hlt e hd.lf (fun j hj q hq => (h.aL j hj q hq).1) j hj hk, (h.aL j hj k hk).2⟩, fun e => ?_⟩
    · rcases e with e | e
      · exact h.ne e
      · exact h.bne.2 e.symm
    · exact ho.offX (X := fun k => k = br) ((Off.refl (fun k => k = br) w1).setCell (p := ⟨br, 0, none⟩) (.inl rfl) v') (fun k hk => hnb k hk)
    · rcases hw bv e with h1 | h1
      · exact h.ne h1
      · have := h.val.lt; omega
end
end Go.Proofs.YtdchhfdmingnaaaDoor

/- Layer 13: package uses' spread: one more block is reached. -/
namespace Go.Proofs.YtdchhfdmingnaaaDoor
open Go.RowKit (wrap64 intOf Below)
set_option linter.unusedVariables false
set_option linter.unusedSimpArgs false
def nextM (f : FuncD) (v b : Nat) (M : Nat → Bool) : Nat → Bool := if MakesU f b (v : Int) then M else putB M b
def nextR (f : FuncD) (v b : Nat) (M : Nat → Bool) (R : List Int) : List Int := if MakesU f b (v : Int) ∨ M b = true then R else R ++ [(b : Int)]
def ReachPost (f : FuncD) (W0 W : World) (n Bn bn gn Bl bl gl bv br v b : Nat) (p : Nat → Nat → Bool) (M : Nat → Bool) (vsL : List Value) (ZL : List (List Int)) (R : List Int) (e : Ending) (w' : World) : Prop :=
  (∃ x, e = .returned x) ∧ ∃ vsN rv, Duo W0 w' n Bn bn gn Bl bl gl vsN (rowsU p v (nextM f v b M) n) vsL ZL ∧ Rch W0 w' bv br v rv (nextR f v b M R) vsN vsL
set_option maxRecDepth 100000 in
set_option maxHeartbeats 4000000 in
theorem reach_any (f : FuncD) (W0 W : World) (n Bn bn gn Bl bl gl bv br v b bf b4 : Nat) (p : Nat → Nat → Bool) (M : Nat → Bool) (vsN : List Value) (vsL : List Value) (ZL : List (List Int)) (rv : Value) (R : List Int) (va : Option Addr) (vc : Nat)
    (hd : Duo W0 W n Bn bn gn Bl bl gl vsN (rowsU p v M n) vsL ZL) (hr : Rch W0 W bv br v rv R vsN vsL) (hb : b < n) (hn : n = f.blocks.length) (hsm : SmU f) (hv : v < valU f) (hR : R.length ≤ 200000)
    (hcf : W.cell? ⟨bf, 0, none⟩ = some (.slice va (n + 1) vc)) (hfl : NumsAt W va (n + 1) (firstUL f)) (hc4 : W.cell? ⟨b4, 0, none⟩ = some (.func (.func 61) #[] #[.pointer (some ⟨bn, 0, none⟩)])) :
    Calls Tryd.prog 46 #[.int .i64 (b : Int), .pointer (some ⟨bf, 0, none⟩), .pointer (some ⟨bv, 0, none⟩), .pointer (some ⟨b4, 0, none⟩), .pointer (some ⟨br, 0, none⟩)] W (ReachPost f W0 W n Bn bn gn Bl bl gl bv br v b p M vsL ZL R) := by
  have hlen : (firstUL f).length = n + 1 := by simp [firstUL, hn]
  obtain ⟨g0, off0, had, hg0, hcel⟩ := hfl.2 (by omega)
  subst had
  have c0 : W.cell? ⟨g0, off0 + b, none⟩ = some (.int .i64 (fstU f b : Int)) := by
    have h1 := hcel b (by omega)
    rw [h1]
    simp [firstUL, numV]
  have c1 : W.cell? ⟨g0, off0 + (b + 1), none⟩ = some (.int .i64 (fstU f (b + 1) : Int)) := by
    have h1 := hcel (b + 1) (by omega)
    rw [h1]
    simp [firstUL, numV]
  have cv : W.cell? ⟨bv, 0, none⟩ = some (.int .i64 (v : Int)) := hr.val.cell
  have HF0 : RowKit.Hid (fstU f b ≤ 100000 ∧ fstU f (b + 1) ≤ 100000 ∧ v ≤ 100000 ∧ n ≤ 100000) := Lib.hid ⟨Nat.le_trans (fstU_le f _) hsm.vals, Nat.le_trans (fstU_le f _) hsm.vals, by have := hsm.vals; omega, by rw [hn]; exact hsm.blocks⟩
  have HMK : RowKit.Hid (MakesU f b (v : Int) ↔ (fstU f b : Int) ≤ (v : Int) ∧ (v : Int) < (fstU f (b + 1) : Int)) := Lib.hid Iff.rfl
  have HD := Lib.hid hd
  have HR := Lib.hid hr
  have HRL := Lib.hid hR
  have hb1 : (b : Int) < ((n + 1 : Nat) : Int) := by omega
  have hb2 : (b : Int) < (n : Int) + 1 := by omega
  have hb3 : (0 : Int) ≤ (b : Int) := by omega
  have hb4 : (b : Int) + 1 < ((n + 1 : Nat) : Int) := by omega
  have hb5 : (0 : Int) ≤ (b : Int) + 1 := by omega
  have hw1 : wrap64 ((b : Int) + 1) = (b : Int) + 1 := wrap_id (by omega) (by have := HF0.out; omega)
  have hw2 : IntKind.i64.wrap ((b : Int) + 1) = (b : Int) + 1 := wrap_small _ (by omega) (by have := HF0.out; omega)
  have hb6 : (b : Int) < (n : Int) := by omega
  have hb7 : ((b : Int) + 1).toNat = b + 1 := by omega
  have hb8 : ¬ ((b : Int) + 1 < 0) := by omega
  have HDQ : RowKit.Hid (∀ q, Duo W0 (W.drewN q) n Bn bn gn Bl bl gl vsN (rowsU p v M n) vsL ZL ∧ Rch W0 (W.drewN q) bv br v rv R vsN vsL) := Lib.hid fun q => ⟨hd.since (below_drewN q (Below.refl _ _)), hr.since (below_drewN q (Below.refl _ _))⟩
  have HBN := Lib.hid hb
  have CG : RowKit.Hid (∀ u, Duo W0 u n Bn bn gn Bl bl gl vsN (rowsU p v M n) vsL ZL → Calls Tryd.prog 61 #[.int .i64 (b : Int), .int .i64 (v : Int), .pointer (some ⟨bn, 0, none⟩)] u (GrowPost Bn bn gn n u vsN (rowsU p v M n) b (v : Int))) := Lib.hid fun u hu =>
    grow_any Bn bn gn n u vsN (rowsU p v M n) b (v : Int) hu.nd hb (by have := HF0.out; omega) (fun Z hZ => by have := rowsU_len_le Z hZ; have := HF0.out; omega) (Nat.le_trans hu.low.2.2.2.2.2.1 hu.off.size)
  have hmix : Tryd.prog.follows .mixedOrders = true := by kernel_rfl
  clear hd hr hfl hcel hsm hlen hn hR
  obtain ⟨q0, hq0⟩ : ∃ q, q = fstU f b := ⟨_, rfl⟩
  obtain ⟨q1, hq1⟩ : ∃ q, q = fstU f (b + 1) := ⟨_, rfl⟩
  rw [← hq0] at c0 HF0 HMK
  rw [← hq1] at c1 HF0 HMK
  clear hq0 hq1
  by_cases h0 : (q0 : Int) ≤ (v : Int)
  · by_cases h1 : (v : Int) < (q1 : Int)
    · have HM : RowKit.Hid (MakesU f b (v : Int)) := Lib.hid (HMK.out.2 ⟨h0, h1⟩)
      go_enter Tryd.func46, Tryd.ntmps46
      go_wp2_with fail
      go_quiet (fail)
      go_wp2_with fail
      go_end0
      refine ⟨⟨_, rfl⟩, vsN, rv, by unfold nextM; rw [if_pos HM.out]; exact (HDQ.out _).1, ?_⟩
      unfold nextR
      rw [if_pos (.inl HM.out)]
      exact (HDQ.out _).2
    · have h1d : decide (v < q1) = false := by simp; omega
      have HM : RowKit.Hid (¬ MakesU f b (v : Int)) := Lib.hid (fun e => by have := HMK.out.1 e; omega)
      cases hmb : M b with
      | true =>
        have HMB := Lib.hid hmb
        clear hmb
        go_enter Tryd.func46, Tryd.ntmps46
        go_wp2_with fail
        go_quiet (fail)
        go_wp2_with (go_at_call 61; refine (CG.out _ (HDQ.out _).1).mono ?_; rintro e w3 ⟨v', Z, hz, rfl, hset, hoff, hw⟩; rw [rowsU_at HBN.out] at hz; cases hz; rw [rowU_fresh, HMB.out]; rw [rowsU_grow HBN.out] at hset; have HD3 := Lib.hid ((HDQ.out _).1.grow hset hoff hw); have HR3 := Lib.hid ((HDQ.out _).2.grow (HDQ.out _).1 hoff hw); have k0 := HR3.out.box.cell; have k1 := HR3.out.box.frozen; clear hset hoff hw)
        go_end0
        refine ⟨⟨_, rfl⟩, vsN.set b v', rv, by unfold nextM; rw [if_neg HM.out]; exact HD3.out, ?_⟩
        unfold nextR
        rw [if_pos (.inr HMB.out)]
        exact HR3.out
      | false =>
        have HMB := Lib.hid hmb
        clear hmb
        obtain ⟨ra, rn, rc, rfl, _⟩ := HR.out.own.nums
        go_enter Tryd.func46, Tryd.ntmps46
        go_wp2_with fail
        go_quiet (fail)
        go_wp2_with (first
          | (go_at_call 61; refine (CG.out _ (HDQ.out _).1).mono ?_; rintro e w3 ⟨v', Z, hz, rfl, hset, hoff, hw⟩; rw [rowsU_at HBN.out] at hz; cases hz; rw [rowU_fresh, HMB.out]; rw [rowsU_grow HBN.out] at hset; have HD3 := Lib.hid ((HDQ.out _).1.grow hset hoff hw); have HR3 := Lib.hid ((HDQ.out _).2.grow (HDQ.out _).1 hoff hw); have k0 := HR3.out.box.cell; have k1 := HR3.out.box.frozen; clear hset hoff hw)
          | ((with_reducible refine wpList_append_numA _ rfl _ _ 34 rfl 3 Tryd.underlying34 info_int W0.heap.size (.slice ra rn rc) R ?_ ?_ ?_ _ 1 w3.heap.size (b : Int) ?_ ?_ ?_ ?_ ?_); (next => rfl); (next => exact HR3.out.own); (next => exact HD3.out.off.size); (next => rfl); (next => rfl); (next => rfl); (next => have := HRL.out; omega); intro xa xn xc w5 ho5 hg5 hw5; have HP := Lib.hid (HR3.out.push HD3.out ((Below.refl _ w3).alloc (Nat.le_refl _) _) hg5 ho5 hw5); have k2 := HP.out.1; have k3 := HP.out.2.1; clear ho5 hg5 hw5))
        go_end0
        refine ⟨⟨_, rfl⟩, vsN.set b v', .slice xa xn xc, by unfold nextM; rw [if_neg HM.out]; exact HP.out.2.2.1, ?_⟩
        unfold nextR
        rw [if_neg (fun e => e.elim HM.out (fun e => by rw [HMB.out] at e; cases e))]
        exact HP.out.2.2.2
  · have h0' : (v : Int) < (q0 : Int) := by omega
    have h0n : v < q0 := by omega
    have h0d : decide (q0 ≤ v) = false := by simp; omega
    have HM : RowKit.Hid (¬ MakesU f b (v : Int)) := Lib.hid (fun e => by have := HMK.out.1 e; omega)
    cases hmb : M b with
    | true =>
      have HMB := Lib.hid hmb
      clear hmb
      go_enter Tryd.func46, Tryd.ntmps46
      go_wp2_with fail
      go_quiet (fail)
      go_wp2_with (go_at_call 61; refine (CG.out _ (HDQ.out _).1).mono ?_; rintro e w3 ⟨v', Z, hz, rfl, hset, hoff, hw⟩; rw [rowsU_at HBN.out] at hz; cases hz; rw [rowU_fresh, HMB.out]; rw [rowsU_grow HBN.out] at hset; have HD3 := Lib.hid ((HDQ.out _).1.grow hset hoff hw); have HR3 := Lib.hid ((HDQ.out _).2.grow (HDQ.out _).1 hoff hw); have k0 := HR3.out.box.cell; have k1 := HR3.out.box.frozen; clear hset hoff hw)
      go_end0
      refine ⟨⟨_, rfl⟩, vsN.set b v', rv, by unfold nextM; rw [if_neg HM.out]; exact HD3.out, ?_⟩
      unfold nextR
      rw [if_pos (.inr HMB.out)]
      exact HR3.out
    | false =>
      have HMB := Lib.hid hmb
      clear hmb
      obtain ⟨ra, rn, rc, rfl, _⟩ := HR.out.own.nums
      go_enter Tryd.func46, Tryd.ntmps46
      go_wp2_with fail
      go_quiet (fail)
      go_wp2_with (first
        | (go_at_call 61; refine (CG.out _ (HDQ.out _).1).mono ?_; rintro e w3 ⟨v', Z, hz, rfl, hset, hoff, hw⟩; rw [rowsU_at HBN.out] at hz; cases hz; rw [rowU_fresh, HMB.out]; rw [rowsU_grow HBN.out] at hset; have HD3 := Lib.hid ((HDQ.out _).1.grow hset hoff hw); have HR3 := Lib.hid ((HDQ.out _).2.grow (HDQ.out _).1 hoff hw); have k0 := HR3.out.box.cell; have k1 := HR3.out.box.frozen; clear hset hoff hw)
        | ((with_reducible refine wpList_append_numA _ rfl _ _ 34 rfl 3 Tryd.underlying34 info_int W0.heap.size (.slice ra rn rc) R ?_ ?_ ?_ _ 1 w3.heap.size (b : Int) ?_ ?_ ?_ ?_ ?_); (next => rfl); (next => exact HR3.out.own); (next => exact HD3.out.off.size); (next => rfl); (next => rfl); (next => rfl); (next => have := HRL.out; omega); intro xa xn xc w5 ho5 hg5 hw5; have HP := Lib.hid (HR3.out.push HD3.out ((Below.refl _ w3).alloc (Nat.le_refl _) _) hg5 ho5 hw5); have k2 := HP.out.1; have k3 := HP.out.2.1; clear ho5 hg5 hw5))
      go_end0
      refine ⟨⟨_, rfl⟩, vsN.set b v', .slice xa xn xc, by unfold nextM; rw [if_neg HM.out]; exact HP.out.2.2.1, ?_⟩
      unfold nextR
      rw [if_neg (fun e => e.elim HM.out (fun e => by rw [HMB.out] at e; cases e))]
      exact HP.out.2.2.2
end Go.Proofs.YtdchhfdmingnaaaDoor

/- Layer 13: package uses' spread: one value, carried against the ways: the plain words. -/
namespace Go.Proofs.YtdchhfdmingnaaaDoor
open Go.RowKit (wrap64 intOf Below)
set_option linter.unusedVariables false
set_option linter.unusedSimpArgs false
def cntM (n : Nat) (M : Nat → Bool) : Nat := (List.range n).countP M
theorem cntM_le (n : Nat) (M : Nat → Bool) : cntM n M ≤ n := by
  have := List.countP_le_length (p := M) (l := List.range n)
  rwa [List.length_range] at this
theorem cntM_put {n b : Nat} {M : Nat → Bool} (hb : b < n) (hm : M b = false) : cntM n (putB M b) = cntM n M + 1 := by
  unfold cntM
  induction n with
  | zero => omega
  | succ n ih =>
    rw [List.range_succ, List.countP_append, List.countP_append]
    by_cases e : b = n
    · subst e
      have h1 : (List.range b).countP (putB M b) = (List.range b).countP M := List.countP_congr (fun x hx => by
        rw [List.mem_range] at hx
        unfold putB
        have : (x == b) = false := by simp; omega
        rw [this, Bool.or_false])
      rw [h1]
      simp [putB, hm]
    · have h2 : putB M b n = M n := by
        unfold putB
        have : (n == b) = false := by simpa using fun h => e h.symm
        rw [this, Bool.or_false]
      rw [ih (by omega)]
      simp [List.countP_singleton, h2]
      omega
theorem putB_iff {M : Nat → Bool} {b i : Nat} : putB M b i = true ↔ M i = true ∨ i = b := by unfold putB; simp
structure Spr (f : FuncD) (n v : Nat) (M L : Nat → Bool) (R : List Int) (D : Nat → Nat → Prop) : Prop where
  sound : ∀ b, M b = true → NeedU f (v : Int) b
  sub : ∀ z ∈ R, ∃ b : Nat, z = (b : Int) ∧ M b = true
  nodup : R.Nodup
  closed : ∀ c, M c = true → (c : Int) ∉ R → ∀ a, a < n → (c : Int) ∈ nxF f a → D c a ∨ (L a = true ∧ (MakesU f a (v : Int) ∨ M a = true))
  left : ∀ a, L a = true → ∃ c : Nat, (c : Int) ∈ nxF f a ∧ M c = true
theorem Spr.start (f : FuncD) (n v : Nat) (D : Nat → Nat → Prop) : Spr f n v (fun _ => false) (fun _ => false) [] D :=
  ⟨fun b h => by simp at h, fun z h => by simp at h, List.nodup_nil, fun c h => by simp at h, fun a h => by simp at h⟩
theorem Spr.lt {f : FuncD} {n v : Nat} {M L : Nat → Bool} {R : List Int} {D : Nat → Nat → Prop} (h : Spr f n v M L R D) {b : Nat} (hb : M b = true) : b < f.blocks.length := (h.sound b hb).lt
theorem Spr.len {f : FuncD} {n v : Nat} {M L : Nat → Bool} {R : List Int} {D : Nat → Nat → Prop} (h : Spr f n v M L R D) (hn : n = f.blocks.length) : R.length ≤ n := by
  have h1 : R ⊆ (List.range n).map Int.ofNat := fun z hz => by
    obtain ⟨b, rfl, hm⟩ := h.sub z hz
    exact List.mem_map.2 ⟨b, List.mem_range.2 (by rw [hn]; exact h.lt hm), rfl⟩
  have h2 := h.nodup.length_le_of_subset h1
  simpa using h2
theorem Spr.reach {f : FuncD} {n v b : Nat} {M L : Nat → Bool} {R : List Int} {D : Nat → Nat → Prop} (h : Spr f n v M L R D) (hneed : ¬ MakesU f b (v : Int) → NeedU f (v : Int) b) :
    Spr f n v (nextM f v b M) L (nextR f v b M R) D ∧ (MakesU f b (v : Int) ∨ nextM f v b M b = true) ∧ (∀ i, M i = true → nextM f v b M i = true) := by
  by_cases hm : MakesU f b (v : Int)
  · have e1 : nextM f v b M = M := by unfold nextM; rw [if_pos hm]
    have e2 : nextR f v b M R = R := by unfold nextR; rw [if_pos (.inl hm)]
    rw [e1, e2]
    exact ⟨h, .inl hm, fun _ h => h⟩
  · have e1 : nextM f v b M = putB M b := by unfold nextM; rw [if_neg hm]
    rw [e1]
    cases hb : M b with
    | true =>
      have e2 : nextR f v b M R = R := by unfold nextR; rw [if_pos (.inr hb)]
      have e3 : ∀ i, putB M b i = M i := fun i => by
        rw [Bool.eq_iff_iff, putB_iff]
        exact ⟨fun h => h.elim id (fun e => e ▸ hb), .inl⟩
      have e4 : putB M b = M := funext e3
      rw [e2, e4]
      exact ⟨h, .inr hb, fun _ h => h⟩
    | false =>
      have e2 : nextR f v b M R = R ++ [(b : Int)] := by unfold nextR; rw [if_neg (fun e => e.elim hm (fun e => by rw [hb] at e; cases e))]
      rw [e2]
      refine ⟨⟨fun i hi => ?_, fun z hz => ?_, ?_, fun c hc hcR a ha hnx => ?_, fun a ha => ?_⟩, .inr (putB_iff.2 (.inr rfl)), fun i hi => putB_iff.2 (.inl hi)⟩
      · rcases putB_iff.1 hi with hi | rfl
        · exact h.sound i hi
        · exact hneed hm
      · rw [List.mem_append, List.mem_singleton] at hz
        rcases hz with hz | rfl
        · obtain ⟨i, e, hi⟩ := h.sub z hz
          exact ⟨i, e, putB_iff.2 (.inl hi)⟩
        · exact ⟨b, rfl, putB_iff.2 (.inr rfl)⟩
      · rw [List.nodup_append]
        refine ⟨h.nodup, by simp, fun x hx y hy e => ?_⟩
        rw [List.mem_singleton] at hy
        obtain ⟨i, e', hi⟩ := h.sub x hx
        have : i = b := by omega
        rw [this, hb] at hi; cases hi
      · rw [List.mem_append, List.mem_singleton] at hcR
        have hcb : c ≠ b := fun e => hcR (.inr (by rw [e]))
        have hcM : M c = true := (putB_iff.1 hc).resolve_right hcb
        rcases h.closed c hcM (fun e => hcR (.inl e)) a ha hnx with hD | ⟨h1, h2⟩
        · exact .inl hD
        · exact .inr ⟨h1, h2.imp id (fun e => putB_iff.2 (.inl e))⟩
      · obtain ⟨c, h1, h2⟩ := h.left a ha
        exact ⟨c, h1, putB_iff.2 (.inl h2)⟩
theorem Spr.leave {f : FuncD} {n v a c : Nat} {M L : Nat → Bool} {R : List Int} {D : Nat → Nat → Prop} (h : Spr f n v M L R D) (hc : (c : Int) ∈ nxF f a) (hm : M c = true) : Spr f n v M (putB L a) R D :=
  ⟨h.sound, h.sub, h.nodup, fun c hc hcR a ha hnx => (h.closed c hc hcR a ha hnx).imp id (fun e => ⟨putB_iff.2 (.inl e.1), e.2⟩), fun i hi => by
    rcases putB_iff.1 hi with hi | rfl
    · exact h.left i hi
    · exact ⟨c, hc, hm⟩⟩
theorem Spr.pop {f : FuncD} {n v b : Nat} {M L : Nat → Bool} {R : List Int} (h : Spr f n v M L (R ++ [(b : Int)]) (fun _ _ => False)) : Spr f n v M L R (fun c a => c = b) ∧ M b = true := by
  have hb : M b = true := by
    obtain ⟨i, e, hi⟩ := h.sub (b : Int) (by simp)
    have : i = b := by omega
    rw [← this]; exact hi
  refine ⟨⟨h.sound, fun z hz => h.sub z (by simp [hz]), (List.nodup_append.1 h.nodup).1, fun c hc hcR a ha hnx => ?_, h.left⟩, hb⟩
  by_cases e : c = b
  · exact .inl e
  · refine .inr ((h.closed c hc (fun hm => ?_) a ha hnx).resolve_left id)
    rw [List.mem_append, List.mem_singleton] at hm
    rcases hm with hm | hm
    · exact hcR hm
    · exact e (by omega)
theorem Spr.done {f : FuncD} {n v : Nat} {M L : Nat → Bool} {R : List Int} {D : Nat → Nat → Prop} (h : Spr f n v M L R D) (hD : ∀ c a : Nat, a < n → (c : Int) ∈ nxF f a → D c a → L a = true ∧ (MakesU f a (v : Int) ∨ M a = true)) : Spr f n v M L R (fun _ _ => False) :=
  ⟨h.sound, h.sub, h.nodup, fun c hc hcR a ha hnx => .inr ((h.closed c hc hcR a ha hnx).elim (fun e => hD c a ha hnx e) id), h.left⟩
theorem Spr.all {f : FuncD} {n v : Nat} {M L : Nat → Bool} (h : Spr f n v M L [] (fun _ _ => False)) (hn : n = f.blocks.length) (hs : ∀ b, b < n → InU f (v : Int) b → MakesU f b (v : Int) ∨ M b = true) :
    (∀ b, b < n → M b = needB f (v : Int) b) ∧ ∀ b, b < n → L b = leftB f (v : Int) b := by
  have hc : ∀ c, M c = true → ∀ a, a < n → (c : Int) ∈ nxF f a → L a = true ∧ (MakesU f a (v : Int) ∨ M a = true) := fun c hm a ha hnx => (h.closed c hm (by simp) a ha hnx).resolve_left id
  have hN : ∀ b, (M b = true) ↔ NeedU f (v : Int) b := need_all (M := fun b => M b = true) h.sound (fun b hb hu hm => (hs b (by omega) hu).resolve_left hm) (fun c hm b hb hnx hk => (hc c hm b (by omega) hnx).2.resolve_left hk)
  refine ⟨fun b _ => ?_, fun b hb => ?_⟩
  · rw [Bool.eq_iff_iff, hN, need_iff]
  · rw [Bool.eq_iff_iff, left_iff]
    constructor
    · intro hl
      obtain ⟨c, h1, h2⟩ := h.left b hl
      exact ⟨c, h1, (hN c).1 h2⟩
    · rintro ⟨c, h1, h2⟩
      exact (hc c ((hN c).2 h2) b hb h1).1
def todoU (n : Nat) (M : Nat → Bool) (R : List Int) : Nat := 2 * (n - cntM n M) + R.length
theorem todo_next {f : FuncD} {n v b : Nat} {M : Nat → Bool} {R : List Int} (hb : b < n) : todoU n (nextM f v b M) (nextR f v b M R) ≤ todoU n M R := by
  unfold todoU
  by_cases hm : MakesU f b (v : Int)
  · unfold nextM nextR
    rw [if_pos hm, if_pos (.inl hm)]
    exact Nat.le_refl _
  · cases hb' : M b with
    | true =>
      have e4 : putB M b = M := funext fun i => by
        rw [Bool.eq_iff_iff, putB_iff]
        exact ⟨fun h => h.elim id (fun e => e ▸ hb'), .inl⟩
      unfold nextM nextR
      rw [if_neg hm, if_pos (.inr hb'), e4]
      exact Nat.le_refl _
    | false =>
      unfold nextM nextR
      rw [if_neg hm, if_neg (fun e => e.elim hm (fun e => by rw [hb'] at e; cases e)), cntM_put hb hb', List.length_append]
      have h1 := cntM_le n (putB M b)
      rw [cntM_put hb hb'] at h1
      simp only [List.length_singleton]
      omega
end Go.Proofs.YtdchhfdmingnaaaDoor

/- Layer 13: package uses' spread, walked. -/
namespace Go.Proofs.YtdchhfdmingnaaaDoor
open Go.RowKit (wrap64 intOf Below)
set_option linter.unusedVariables false
set_option linter.unusedSimpArgs false
attribute [local go_sem] run_store_func
structure Bsd (f : FuncD) (n bf b4 bn : Nat) (va : Option Addr) (vc : Nat) (u : World) : Prop where
  first : u.cell? ⟨bf, 0, none⟩ = some (.slice va (n + 1) vc)
  nums : NumsAt u va (n + 1) (firstUL f)
  clo : u.cell? ⟨b4, 0, none⟩ = some (.func (.func 61) #[] #[.pointer (some ⟨bn, 0, none⟩)])
structure F3 (w3 : World) (f : FuncD) (n bf : Nat) (bv : Value) (va : Option Addr) (vc ga : Nat) (asl : List Value) (u : World) : Prop where
  ge : w3.heap.size ≤ bf
  box : Boxed u bf 34 bv
  own : OwnsI u w3.heap.size 3 (.slice va (n + 1) vc) (firstUL f)
  row : Rows2 u w3.heap.size 34 3 (.slice (some ⟨ga, 0, none⟩) n n) asl (ahRow f n 0)
  len : asl.length = n
  bel : Below w3.heap.size w3 u
  ne : va.map (·.block) ≠ some bf ∧ ga ≠ bf ∧ ∀ j (h : j < asl.length), (asl[j]).ownBlock ≠ some bf
theorem F3.set {w3 u : World} {f : FuncD} {n bf : Nat} {bv v' : Value} {va : Option Addr} {vc ga : Nat} {asl : List Value} (h : F3 w3 f n bf bv va vc ga asl u) : F3 w3 f n bf v' va vc ga asl (u.setCell ⟨bf, 0, none⟩ v') := by
  have hoff : Off (fun k => k = bf) u (u.setCell ⟨bf, 0, none⟩ v') := (Off.refl (fun k => k = bf) u).setCell (p := ⟨bf, 0, none⟩) (.inl rfl) v'
  have hbx : u.heap[bf]? = _ := h.box
  refine ⟨h.ge, h.box.set v', h.own.offX hoff (fun k hk e => ?_), ⟨?_, h.row.len, fun j h1 h2 => (h.row.own j h1 h2).offX hoff (fun k hk e => h.ne.2.2 j h1 (e ▸ hk)), h.row.apart⟩, h.len, h.bel.setCell h.ge _, h.ne⟩
  · subst e
    cases va with
    | none => cases hk
    | some ad =>
      have : ad.block = k := by
        rcases h.own.2 with ⟨he, _⟩ | ⟨g, cap, cur, he, _⟩
        · simp only [Value.slice.injEq] at he; cases he.1
        · simp only [Value.slice.injEq] at he
          have h1 := he.1
          cases h1
          simpa [Value.ownBlock] using hk
      exact h.ne.1 (by rw [Option.map_some, this])
  · refine ⟨h.row.row.1, ?_⟩
    rcases h.row.row.2 with hn | ⟨g', cap, cur, e, hB, hh, rest⟩
    · exact .inl hn
    · cases e
      exact .inr ⟨_, _, cur, rfl, hB, (hoff.block _ (Array.getElem?_eq_some_iff.1 hh).1 h.ne.2.1).trans hh, rest⟩
theorem F3.mk' {w3 u : World} {f : FuncD} {n bf : Nat} {bv : Value} {va : Option Addr} {vc ga : Nat} {asl : List Value} (ge : w3.heap.size ≤ bf) (box : Boxed u bf 34 bv) (own : OwnsI u w3.heap.size 3 (.slice va (n + 1) vc) (firstUL f))
    (row : Rows2 u w3.heap.size 34 3 (.slice (some ⟨ga, 0, none⟩) n n) asl (ahRow f n 0)) (len : asl.length = n) (bel : Below w3.heap.size w3 u) (hga : ga ≠ bf) : F3 w3 f n bf bv va vc ga asl u := by
  have hbx : u.heap[bf]? = _ := box
  refine ⟨ge, box, own, row, len, bel, fun e => ?_, hga, fun j h e => ?_⟩
  · rcases own.2 with ⟨he, h0⟩ | ⟨g, cap, cur, he, _, hh, _⟩
    · simp only [Value.slice.injEq] at he; rw [he.1] at e; cases e
    · simp only [Value.slice.injEq] at he
      rw [he.1] at e
      simp at e
      rw [e, hbx] at hh
      cases hh
  · obtain ⟨cur, hc, _⟩ := ownsI_blk (row.own j h (by rw [← row.len]; exact h)) e
    rw [hbx] at hc
    cases hc
def Abv (gn gl : Nat) (w6 : World) (u : World) : Prop := Off (fun k => k = gn ∨ k = gl) w6 u
section
variable {w3 wc w6 : World} {f : FuncD} {n bf b4 bn gn gl : Nat} {va : Option Addr} {vc ga : Nat} {asl : List Value} {Bu bxu gu : Nat} {us : List Value} {ZU : List (List Int)}
theorem abv_cell {u : World} (h6 : Below wc.heap.size wc w6) (hgn : gn < w3.heap.size) (hgl : gl < w3.heap.size) (hoff : Abv gn gl w6 u) {g o : Nat} {v : Value} (hc : wc.cell? ⟨g, o, none⟩ = some v) (hg : w3.heap.size ≤ g) : u.cell? ⟨g, o, none⟩ = some v := by
  have hl : g < wc.heap.size := World.block_lt_of_cell? (a := ⟨g, o, none⟩) _ hc
  exact (Off.cell hoff (p := ⟨g, o, none⟩) (Nat.lt_of_lt_of_le hl h6.size) (fun e => by rcases e with e | e <;> (simp only at e; omega))).trans ((h6.cell (p := ⟨g, o, none⟩) hl).trans hc)
theorem abv_own {u : World} (h6 : Below wc.heap.size wc w6) (hgn : gn < w3.heap.size) (hgl : gl < w3.heap.size) (hoff : Abv gn gl w6 u) {v : Value} {Z : List Int} (ho : OwnsI wc w3.heap.size 3 v Z) : OwnsI u w3.heap.size 3 v Z :=
  (ho.below h6).offX hoff (fun k hk e => by have := (ho.lt k hk).1; rcases e with e | e <;> omega)
theorem bsd_of {u : World} (h3 : F3 w3 f n bf (.slice va (n + 1) vc) va vc ga asl wc) (h6 : Below wc.heap.size wc w6)
    (hc4 : w6.cell? ⟨b4, 0, none⟩ = some (.func (.func 61) #[] #[.pointer (some ⟨bn, 0, none⟩)])) (hb4 : b4 ≠ gn ∧ b4 ≠ gl) (hoff : Abv gn gl w6 u) (hgn : gn < w3.heap.size) (hgl : gl < w3.heap.size) : Bsd f n bf b4 bn va vc u :=
  ⟨abv_cell h6 hgn hgl hoff h3.box.cell h3.ge, (abv_own h6 hgn hgl hoff h3.own).read, (Off.cell hoff (p := ⟨b4, 0, none⟩) (World.block_lt_of_cell? (a := ⟨b4, 0, none⟩) _ hc4) (fun e => e.elim hb4.1 hb4.2)).trans hc4⟩
theorem ahead_of (h3 : F3 w3 f n bf (.slice va (n + 1) vc) va vc ga asl wc) (h6 : Below wc.heap.size wc w6) (hgn : gn < w3.heap.size) (hgl : gl < w3.heap.size) {b : Nat} (hb : b < n) :
    ∃ (xa : Option Addr) (xn xc : Nat), ∀ u, Abv gn gl w6 u → NumsAt u xa xn (ahL f n (b : Int)) ∧ u.cell? ⟨ga, b, none⟩ = some (.slice xa xn xc) := by
  have h1 : b < asl.length := by rw [h3.len]; exact hb
  have h2 : b < (ahRow f n 0).length := by rw [← h3.row.len]; exact h1
  have ho := h3.row.own b h1 h2
  rw [ahRow_at h2] at ho
  simp only [List.take_zero, List.not_mem_nil, if_false, List.append_nil] at ho
  obtain ⟨xa, xn, xc, e, _⟩ := ho.nums
  have hc := h3.row.cell h1
  rw [e] at hc ho
  have hgb : w3.heap.size ≤ ga := (ownsRow_blk h3.row.row (i := ga) rfl).choose_spec.2
  exact ⟨xa, xn, xc, fun u hu => ⟨(abv_own h6 hgn hgl hu ho).read, abv_cell h6 hgn hgl hu hc hgb⟩⟩
theorem users_of (hu : SetU Bu bxu gu (valU f) w6 us ZU) (hBu : w3.heap.size ≤ Bu) (hgn : gn < w3.heap.size) (hgl : gl < w3.heap.size) {v : Nat} (hv : v < valU f) :
    ∃ (xa : Option Addr) (xn xc : Nat) (Z : List Int), ZU[v]? = some Z ∧ ∀ u, Abv gn gl w6 u → NumsAt u xa xn Z ∧ u.cell? ⟨gu, v, none⟩ = some (.slice xa xn xc) := by
  have h1 : v < us.length := by rw [hu.len]; exact hv
  have h2 : v < ZU.length := by rw [← hu.row.len]; exact h1
  have ho := hu.row.own v h1 h2
  have hc := hu.row.cell h1
  obtain ⟨xa, xn, xc, e, _⟩ := ho.nums
  rw [e] at hc ho
  have hgb := hu.blk.choose_spec.2
  refine ⟨xa, xn, xc, ZU[v], List.getElem?_eq_getElem h2, fun u hoff => ⟨(ho.offX hoff (fun k hk e => by have := (ho.lt k hk).1; rcases e with e | e <;> omega)).read, (Off.cell hoff (p := ⟨gu, v, none⟩) (World.block_lt_of_cell? (a := ⟨gu, v, none⟩) _ hc) (fun e => by rcases e with e | e <;> (simp only at e; omega))).trans hc⟩⟩
end
theorem uown_cut {W : World} {B : Nat} {e : TypeId} {g n c : Nat} {L : List Int} (h : OwnsI W B e (.slice (some ⟨g, 0, none⟩) n c) L) {i : Nat} (hi : i ≤ n) : OwnsI W B e (.slice (some ⟨g, 0, none⟩) i c) (L.take i) := by
  have hl := h.read.1
  refine ⟨by simp, ?_⟩
  rcases h.2 with ⟨e, _⟩ | ⟨g', cap, cur, e, hB, hg, h1, h2, h3, h4⟩
  · cases e
  · cases e
    have hll : (L.take i).length = i := by simp; omega
    refine .inr ⟨g, c, cur, by rw [hll], hB, hg, by rw [hll]; omega, h2, h3, ?_⟩
    rw [hll, List.map_take, ← h4, hl, List.take_take]
    congr 1
    omega
def SpreadPost (f : FuncD) (n : Nat) (w : World) (e : Ending) (w' : World) : Prop := ∃ Bn bn gn Bl bl gl vsN vsL, e = .returned (.tuple #[.slice (some ⟨gn, 0, none⟩) n n, .slice (some ⟨gl, 0, none⟩) n n]) ∧
  SetU Bn bn gn n w' vsN ((List.range n).map (neededU f)) ∧ SetU Bl bl gl n w' vsL ((List.range n).map (leftU f)) ∧ Below w.heap.size w w'
theorem mem_users {f : FuncD} {v : Nat} {ZU : List (List Int)} (h : UsersR (valU f) (usesU f) ZU) (hv : v < valU f) {Z : List Int} (hz : ZU[v]? = some Z) : (∀ z ∈ Z, ∃ b : Nat, z = (b : Int) ∧ b < f.blocks.length ∧ InU f (v : Int) b) ∧ ∀ b, b < f.blocks.length → InU f (v : Int) b → (b : Int) ∈ Z := by
  obtain ⟨hl, hZ⟩ := List.getElem?_eq_some_iff.1 hz
  have hm := h.mem v hl
  rw [hZ] at hm
  refine ⟨fun z hz => ?_, fun b hb hu => ?_⟩
  · obtain ⟨x, hx, h1, rfl⟩ := (hm z).1 hz
    obtain ⟨h2, h3, h4, _⟩ := mem_usesU.1 hx
    exact ⟨x.1.1, rfl, h2, x.1.2, h3, h1 ▸ h4⟩
  · obtain ⟨k, hk, hu⟩ := hu
    exact (hm _).2 ⟨((b, k), (v : Int)), mem_usesU.2 ⟨hb, hk, hu, by unfold inU; simp; omega⟩, rfl, rfl⟩
set_option maxRecDepth 100000 in
set_option maxHeartbeats 8000000 in
theorem spread_any (r : Int) (a : Option Addr) (n c : Nat) (f : FuncD) (w : World) (hq : FuncQ w [.int .i64 r, .slice a n c] f) (hft : FT w) (hsm : SmU f) (hN : (usesU f).length ≤ 900000) :
    Calls Tryd.prog 27 #[.agg #[.int .i64 r, .slice a n c]] w (SpreadPost f n w) := by
  have hrow : RowV BlockQ 8 w (.slice a n c) f.blocks := by
    obtain ⟨bv, he, _, hr⟩ := hq
    simp only [List.cons.injEq, and_true] at he
    obtain ⟨_, rfl⟩ := he
    exact hr
  have hn : n = f.blocks.length := by obtain ⟨_, _, _, e, h, _⟩ := hrow; cases e; exact h.symm
  have hnb : n ≤ 100000 := by rw [hn]; exact hsm.blocks
  have HQ := Lib.hid hq
  have HROW := Lib.hid hrow
  have HFT := Lib.hid hft
  have HSM := Lib.hid hsm
  have HN := Lib.hid hN
  have HNN := Lib.hid hn
  clear hq hft hsm hN hrow hn
  obtain ⟨wf, hwf⟩ : ∃ u, u = w.alloc (.cells #[.int .i64 r, .slice a n c] 30) := ⟨_, rfl⟩
  have HBF : RowKit.Hid (Below w.heap.size w wf ∧ w.heap.size < wf.heap.size) := Lib.hid (by rw [hwf]; exact ⟨(Below.refl _ w).alloc (Nat.le_refl _) _, by simp⟩)
  have HCF : RowKit.Hid (∀ u, Below wf.heap.size wf u → u.cell? ⟨w.heap.size, 0, none⟩ = some (.int .i64 r) ∧ u.cell? ⟨w.heap.size, 1, none⟩ = some (.slice a n c)) := Lib.hid fun u hu => by
    have h1 : ∀ j, wf.cell? ⟨w.heap.size, j, none⟩ = (#[.int .i64 r, .slice a n c] : Array Value)[j]? := fun j => by rw [hwf]; exact World.cell?_alloc_mark _ _ _ _ _
    exact ⟨(hu.cell (p := ⟨w.heap.size, 0, none⟩) HBF.out.2).trans (h1 0), (hu.cell (p := ⟨w.heap.size, 1, none⟩) HBF.out.2).trans (h1 1)⟩
  obtain ⟨d0, d1⟩ := HCF.out wf (Below.refl _ _)
  go_enter Tryd.func27, Tryd.ntmps27
  go_upto_region 1 with fail
  try rw [← hwf]
  clear hwf
  go_upto_region 2 with (go_at_call 42; (with_reducible refine (sets_any n (by omega) _).mono ?_); rintro e w1 ⟨rfl, hs1, hb1⟩; have HS1 := Lib.hid hs1; have HB1 := Lib.hid hb1; clear hs1 hb1)
  obtain ⟨w2, hw2⟩ : ∃ u, u = w1.alloc (.cells #[.func (.func 61) #[] #[.pointer (some ⟨wf.heap.size, 0, none⟩)]] 84) := ⟨_, rfl⟩
  rw [← hw2]
  have HB2 : RowKit.Hid (Below w1.heap.size w1 w2 ∧ w2.heap.size = w1.heap.size + 1 ∧ w2.cell? ⟨w1.heap.size, 0, none⟩ = some (.func (.func 61) #[] #[.pointer (some ⟨wf.heap.size, 0, none⟩)])) := Lib.hid (by
    rw [hw2]
    exact ⟨(Below.refl _ w1).alloc (Nat.le_refl _) _, by simp, World.cell?_alloc_mark _ _ _ _ _⟩)
  clear hw2 d0 d1
  obtain ⟨d0, d1⟩ := HCF.out w2 (HB1.out.trans (HB2.out.1.mono HB1.out.size))
  go_upto_region 3 with (go_at_call 42; (with_reducible refine (sets_any n (by omega) _).mono ?_); rintro e w3 ⟨rfl, hs3, hb3⟩; have HS3 := Lib.hid hs3; have HB3 := Lib.hid hb3; clear hs3 hb3)
  have HW3 : RowKit.Hid (Below w.heap.size w w3 ∧ w.heap.size < w3.heap.size) := Lib.hid (by
    have h1 := HBF.out.1.trans (HB1.out.mono HBF.out.1.size)
    have h2 := h1.trans (HB2.out.1.mono h1.size)
    have h3 := h2.trans (HB3.out.mono h2.size)
    exact ⟨h3, Nat.lt_of_lt_of_le HBF.out.2 (Nat.le_trans HB1.out.size (Nat.le_trans HB2.out.1.size HB3.out.size))⟩)
  have HCW : RowKit.Hid (∀ u, Below w3.heap.size w3 u → u.cell? ⟨w.heap.size, 0, none⟩ = some (.int .i64 r) ∧ u.cell? ⟨w.heap.size, 1, none⟩ = some (.slice a n c)) := Lib.hid fun u hu => by
    have h2 := HB1.out.trans (HB2.out.1.mono HB1.out.size)
    have h3 := h2.trans (HB3.out.mono h2.size)
    exact HCF.out u (h3.trans (hu.mono h3.size))
  have HROW3 : RowKit.Hid (∀ u, Below w3.heap.size w3 u → RowV BlockQ 8 u (.slice a n c) f.blocks) := Lib.hid fun u hu => HROW.out.since BlockQ.lasts (HW3.out.1.trans (hu.mono HW3.out.1.size))
  have HBA : RowKit.Hid (∀ o : Obj, Below w3.heap.size w3 ((w3.alloc o).drew)) := Lib.hid fun o => ((Below.refl _ w3).alloc (Nat.le_refl _) o).drew
  clear d0 d1
  obtain ⟨d0, d1⟩ := HCW.out w3 (Below.refl _ _)
  have hvv : valU f ≤ 1099511627776 := by have := HSM.out.vals; omega
  have HVV := Lib.hid hvv
  clear hvv
  go_cut [6, 7] (fun v6 v7 wc => RowKit.Hid (∃ bf va vc ga asl, v6 = .pointer (some ⟨bf, 0, none⟩) ∧ v7 = .slice (some ⟨ga, 0, none⟩) n n ∧ F3 w3 f n bf (.slice va (n + 1) vc) va vc ga asl wc))
  case first =>
   go_region_held3 (fun u => u.cell? ⟨w.heap.size, 0, none⟩ = some (.int .i64 r) ∧ u.cell? ⟨w.heap.size, 1, none⟩ = some (.slice a n c)) (first | exact HCW.out _ (HBA.out _) | exact HCW.out _ ((Below.refl _ w3).drew) | exact HCW.out _ (HB4W.out) | exact HCW.out _ (HB4W.out.alloc HB4W.out.size _) | exact HCW.out _ (HB4W.out.setCell (Nat.le_refl _) _) | exact HCW.out _ ((HB4W.out.alloc HB4W.out.size _).setCell HB4W.out.size _) | exact HCW.out _ (HB5W.out) | exact HCW.out _ (HB5W.out.alloc HB5W.out.size _) | exact HCW.out _ (HB5W.out.setCell (Nat.le_refl _) _) | exact HCW.out _ (HB5W.out.setCell HB4W.out.size _) | exact HCW.out _ ((HB5W.out.alloc HB5W.out.size _).setCell HB5W.out.size _) | go_keep) (first
    | (go_at_call 43; refine (ufirsts_any r a n c f _ (HROW3.out _ (by first | exact HBA.out _ | exact (Below.refl _ w3).drew | exact HB4W.out | exact HB4W.out.alloc HB4W.out.size _ | exact HB4W.out.setCell (Nat.le_refl _) _ | exact (HB4W.out.alloc HB4W.out.size _).setCell HB4W.out.size _ | exact HB5W.out | exact HB5W.out.alloc HB5W.out.size _ | exact HB5W.out.setCell (Nat.le_refl _) _ | exact HB5W.out.setCell HB4W.out.size _ | exact (HB5W.out.alloc HB5W.out.size _).setCell HB5W.out.size _)) (by omega) HVV.out).mono ?_; rintro e w4 ⟨va, vc, rfl, ho4, hb4⟩; have HO4 := Lib.hid ho4; have HB4 := Lib.hid hb4; have HB4W : RowKit.Hid (Below w3.heap.size w3 w4) := Lib.hid (by first | exact (HBA.out _).trans (hb4.mono (HBA.out _).size) | exact ((Below.refl _ w3).drew).trans hb4); have HL4 : RowKit.Hid (w3.heap.size ≤ w4.heap.size) := Lib.hid HB4W.out.size; have HM4 : RowKit.Hid (OwnsI w4 w3.heap.size 3 (.slice va (n + 1) vc) (firstUL f)) := Lib.hid (HO4.out.mono (by first | exact (HBA.out _).size | exact Nat.le_refl _)); (try (have zb : Boxed w4 w3.heap.size 34 (.slice none 0 0) := (hb4.block w3.heap.size (show w3.heap.size < (w3.alloc _).heap.size by simp)).trans (Boxed.new w3 34 (.slice none 0 0)); have z0 := zb.cell; have z1 := zb.frozen; have HG4 : RowKit.Hid (w3.heap.size < w4.heap.size) := Lib.hid zb.lt)); clear ho4 hb4)
    | (go_at_call 44; refine (ahead_any r a n c f _ (HROW3.out _ (by first | exact HBA.out _ | exact (Below.refl _ w3).drew | exact HB4W.out | exact HB4W.out.alloc HB4W.out.size _ | exact HB4W.out.setCell (Nat.le_refl _) _ | exact (HB4W.out.alloc HB4W.out.size _).setCell HB4W.out.size _ | exact HB5W.out | exact HB5W.out.alloc HB5W.out.size _ | exact HB5W.out.setCell (Nat.le_refl _) _ | exact HB5W.out.setCell HB4W.out.size _ | exact (HB5W.out.alloc HB5W.out.size _).setCell HB5W.out.size _)) (by omega)).mono ?_; rintro e w5 ⟨asl, rfl, hah⟩; have HAH := Lib.hid hah; have HB5W : RowKit.Hid (Below w3.heap.size w3 w5) := Lib.hid (by first | exact HB4W.out.trans (hah.bel.mono HB4W.out.size) | exact (HB4W.out.alloc HB4W.out.size _).trans (hah.bel.mono (HB4W.out.alloc HB4W.out.size _).size) | exact (HB4W.out.setCell (Nat.le_refl _) _).trans (hah.bel.mono (HB4W.out.setCell (Nat.le_refl _) _).size) | exact ((HB4W.out.alloc HB4W.out.size _).setCell HB4W.out.size _).trans (hah.bel.mono ((HB4W.out.alloc HB4W.out.size _).setCell HB4W.out.size _).size)); (first
        | (have zc : Boxed w5 w3.heap.size 34 (.slice va (n + 1) vc) := (hah.bel.block w3.heap.size (by rw [setCell_size]; exact zb.lt)).trans (zb.set _); have hx5 : F3 w3 f n w3.heap.size (.slice va (n + 1) vc) va vc _ asl w5 := F3.mk' (Nat.le_refl _) zc ((HO4.out.setCell ⟨w3.heap.size, 0, none⟩ _ (show w3.heap.size < (w3.alloc _).heap.size by simp)).below hah.bel |>.mono (HBA.out _).size) (hah.row.mono (by rw [setCell_size]; have := HL4.out; omega)) hah.len HB5W.out (by rw [setCell_size]; have := zb.lt; omega))
        | (have zc : Boxed w5 w3.heap.size 34 (.slice none 0 0) := (hah.bel.block w3.heap.size zb.lt).trans zb; have hx5 : F3 w3 f n w3.heap.size (.slice none 0 0) va vc _ asl w5 := F3.mk' (Nat.le_refl _) zc (HM4.out.below hah.bel) (hah.row.mono (by have := HL4.out; omega)) hah.len HB5W.out (by have := zb.lt; omega))
        | (have zc : Boxed w5 w4.heap.size 34 (.slice none 0 0) := (hah.bel.block w4.heap.size (by simp)).trans (Boxed.new w4 34 (.slice none 0 0)); have hx5 : F3 w3 f n w4.heap.size (.slice none 0 0) va vc _ asl w5 := F3.mk' HL4.out zc ((HM4.out.below ((Below.refl _ w4).alloc (Nat.le_refl _) _)).below hah.bel) (hah.row.mono (by have := HL4.out; simp; omega)) hah.len HB5W.out (by simp; omega))
        | (have zc : Boxed w5 w4.heap.size 34 (.slice va (n + 1) vc) := (hah.bel.block w4.heap.size (by simp)).trans (Boxed.new w4 34 (.slice va (n + 1) vc)); have hx5 : F3 w3 f n w4.heap.size (.slice va (n + 1) vc) va vc _ asl w5 := F3.mk' HL4.out zc ((HM4.out.below ((Below.refl _ w4).alloc (Nat.le_refl _) _)).below hah.bel) (hah.row.mono (by have := HL4.out; simp; omega)) hah.len HB5W.out (by simp; omega))
        | skip); (try (have y0 := zc.cell; have y1 := zc.frozen)); clear hah))
   all_goals
    go_wp2_with fail
    go_meet
    first
      | exact Lib.hid ⟨_, va, vc, _, asl, rfl, rfl, hx5⟩
      | exact Lib.hid ⟨_, va, vc, _, asl, rfl, rfl, hx5.set⟩
      | (have hx6 := hx5; simp only [World.size_alloc] at hx6; exact Lib.hid ⟨_, va, vc, _, asl, rfl, rfl, hx6⟩)
      | (have hx6 := hx5; simp only [World.size_alloc] at hx6; exact Lib.hid ⟨_, va, vc, _, asl, rfl, rfl, hx6.set⟩)
      | exact Lib.hid ⟨_, va, vc, _, asl, rfl, rfl, F3.mk' HB5W.out.size (Boxed.new w5 _ _) ((HM4.out.below HAH.out.bel).below ((Below.refl _ w5).alloc (Nat.le_refl _) _)) ((HAH.out.row.since ((Below.refl _ w5).alloc (Nat.le_refl _) _)).mono (by have := HL4.out; omega)) HAH.out.len (HB5W.out.alloc HB5W.out.size _) (by have := HAH.out.siz; omega)⟩
  case rest =>
    obtain ⟨bf, va, vc, ga, asl, rfl, rfl, H3⟩ := hcut.out
    have HF3 := Lib.hid H3
    have HQU : RowKit.Hid (FuncQ wc [.int .i64 r, .slice a n c] f ∧ FT wc) := Lib.hid ⟨FuncQ.lasts _ _ _ _ (HW3.out.1.trans (H3.bel.mono HW3.out.1.size)) HQ.out, HFT.out.since (HW3.out.1.trans (H3.bel.mono HW3.out.1.size))⟩
    clear hcut d0 d1 H3
    obtain ⟨d0, d1⟩ := HCW.out wc HF3.out.bel
    go_upto_region 5 with (go_at_call 45; refine (users_any r a n c f _ HQU.out.1 HQU.out.2 HSM.out HN.out).mono ?_; rintro e w6 ⟨Bu, bxu, gu, us, ZU, rfl, hsu, hur, hb6, hlow⟩; have HSU := Lib.hid hsu; have HUR := Lib.hid hur; have HB6 := Lib.hid hb6; have HLU := Lib.hid hlow; clear hsu hur hb6 hlow)
    clear d0 d1
    have h12 : Below w1.heap.size w1 w2 := HB2.out.1
    have h23 : Below w2.heap.size w2 w3 := HB3.out
    have h3c : Below w3.heap.size w3 wc := HF3.out.bel
    have h36 : Below w3.heap.size w3 w6 := h3c.trans (HB6.out.mono h3c.size)
    have h26 : Below w2.heap.size w2 w6 := h23.trans (h36.mono h23.size)
    have h16 : Below w1.heap.size w1 w6 := h12.trans (h26.mono h12.size)
    have hg1 : wf.heap.size + 1 < w1.heap.size := by
      obtain ⟨cur, hc, _⟩ := HS1.out.blk
      exact (Array.getElem?_eq_some_iff.1 hc).1
    have hg3 : w2.heap.size + 1 < w3.heap.size := by
      obtain ⟨cur, hc, _⟩ := HS3.out.blk
      exact (Array.getElem?_eq_some_iff.1 hc).1
    have hs2 : w2.heap.size = w1.heap.size + 1 := HB2.out.2.1
    have hnil : ∀ {j k : Nat} (h : j < (List.replicate n (Value.slice none 0 0)).length), ((List.replicate n (Value.slice none 0 0))[j]).ownBlock = some k → False := fun {j k} h e => by
      simp at e
      cases e
    have HD0 : RowKit.Hid (Duo w6 w6 n wf.heap.size wf.heap.size (wf.heap.size + 1) w2.heap.size w2.heap.size (w2.heap.size + 1) (List.replicate n (.slice none 0 0)) (rowsU (fun u b => needB f (u : Int) b) 0 (fun _ => false) n) (List.replicate n (.slice none 0 0)) (rowsU (fun u b => leftB f (u : Int) b) 0 (fun _ => false) n)) := Lib.hid (by
      rw [rowsU_start, rowsU_start]
      have z1 := h16.size
      have z2 := h36.size
      have z3 := h23.size
      exact ⟨HS1.out.since h16, HS3.out.since h36, Off.refl _ _, fun j h k e => (hnil h e).elim, fun j h k e => (hnil h e).elim, fun j h q h' k e => (hnil h e).elim, by omega, by omega, by omega, by omega, by omega, by omega, by omega⟩)
    have hg1' : wf.heap.size + 1 < w3.heap.size := by have := h12.size; have := h23.size; omega
    have HBS : RowKit.Hid (∀ u, Abv (wf.heap.size + 1) (w2.heap.size + 1) w6 u → Bsd f n bf w1.heap.size wf.heap.size va vc u) := Lib.hid fun u hu =>
      bsd_of HF3.out HB6.out ((h26.cell (p := ⟨w1.heap.size, 0, none⟩) (by show w1.heap.size < w2.heap.size; omega)).trans HB2.out.2.2) ⟨by omega, by omega⟩ hu hg1' hg3
    have HAH : RowKit.Hid (∀ b, b < n → ∃ (xa : Option Addr) (xn xc : Nat), ∀ u, Abv (wf.heap.size + 1) (w2.heap.size + 1) w6 u → NumsAt u xa xn (ahL f n (b : Int)) ∧ u.cell? ⟨ga, b, none⟩ = some (.slice xa xn xc)) := Lib.hid fun b hb => ahead_of HF3.out HB6.out hg1' hg3 hb
    have HUS : RowKit.Hid (∀ v, v < valU f → ∃ (xa : Option Addr) (xn xc : Nat) (Z : List Int), ZU[v]? = some Z ∧ ∀ u, Abv (wf.heap.size + 1) (w2.heap.size + 1) w6 u → NumsAt u xa xn Z ∧ u.cell? ⟨gu, v, none⟩ = some (.slice xa xn xc)) := Lib.hid fun v hv => users_of HSU.out (Nat.le_trans h3c.size HLU.out) hg1' hg3 hv
    clear hg1'
    have HWW : RowKit.Hid (Below w.heap.size w w6 ∧ w.heap.size ≤ wf.heap.size ∧ w.heap.size ≤ w2.heap.size) := Lib.hid (by
      have z1 := HW3.out.1.trans (h36.mono HW3.out.1.size)
      have z2 := HBF.out.1.size
      have z3 := HB1.out.size
      exact ⟨z1, z2, by omega⟩)
    have HV0 : RowKit.Hid (valU f ≤ 100000) := Lib.hid HSM.out.vals
    clear h12 h23 h3c h36 h26 h16 hg1 hg3 hs2 hnil HS1 HS3 HB1 HB2 HB3 HB6 HF3 HSU HLU HBF HCF HCW HROW3 HBA HW3 HQU HROW HQ HFT
    generalize wf.heap.size = bn at *
    generalize w2.heap.size = bl at *
    generalize w1.heap.size = b4 at *
    go_loopw [39] (fun v39 wr => ∃ v : Nat, v ≤ valU f ∧ v39 = .int .i64 (v : Int) ∧ RowKit.Hid (∃ vsN vsL, Duo w6 wr n bn bn (bn + 1) bl bl (bl + 1) vsN (rowsU (fun u b => needB f (u : Int) b) v (fun _ => false) n) vsL (rowsU (fun u b => leftB f (u : Int) b) v (fun _ => false) n))) (fun iv _ => valU f - (intOf iv).toNat)
    case atStart => exact ⟨0, Nat.zero_le _, rfl, Lib.hid ⟨_, _, HD0.out⟩⟩
    case round =>
      obtain ⟨v, hv, rfl, HI⟩ := hrel
      clear HD0
      obtain ⟨vsN, vsL, hD⟩ := HI.out
      have HD := Lib.hid hD
      clear HI hD
      by_cases hlt : v < valU f
      · obtain ⟨ua, un, uc, Z, hZ, hun⟩ := HUS.out v hlt
        have huc := (hun wr HD.out.off).2
        have HZM := Lib.hid (mem_users HUR.out hlt hZ)
        have HUN := Lib.hid hun
        have hlv : (v : Int) < (valU f : Int) := by omega
        have hvb : v ≤ 100000 := by have := HV0.out; omega
        have hun9 : un ≤ 900000 := by
          have h1 := HUR.out.le Z (List.mem_of_getElem? hZ)
          have h2 := (hun wr HD.out.off).1.1
          have h3 := HN.out
          omega
        clear hZ hun
        go_upto_region 9 with fail
        clear huc
        obtain ⟨X1, hX1⟩ : ∃ u, u = (wr.alloc (.cells #[.int .i64 (v : Int)] 3)).alloc (.cells #[.slice none 0 0] 34) := ⟨_, rfl⟩
        have hbX : Below wr.heap.size wr X1 := by rw [hX1]; exact ((Below.refl _ wr).alloc (Nat.le_refl _) _).alloc (by simp) _
        have hwr : w6.heap.size ≤ wr.heap.size := HD.out.off.size
        have hlow : ∀ {vs : List Value} {Zs : List (List Int)} {B bx g j k : Nat} (hs : SetU B bx g n wr vs Zs) (hj : j < vs.length), (vs[j]).ownBlock = some k → k < wr.heap.size := fun hs hj hk => (hs.elem_lt hj hk).choose_spec.2
        have HR1 : RowKit.Hid (Duo w6 X1 n bn bn (bn + 1) bl bl (bl + 1) vsN (rowsU (fun u b => needB f (u : Int) b) v (fun _ => false) n) vsL (rowsU (fun u b => leftB f (u : Int) b) v (fun _ => false) n) ∧ Rch w6 X1 wr.heap.size (wr.heap.size + 1) v (.slice none 0 0) [] vsN vsL) := Lib.hid (by
          refine ⟨HD.out.since hbX, ?_, ?_, World.ownsRow_nil _ _ _ 1, ⟨hwr, by omega⟩, fun j hj k hk => ⟨(fun e => by cases e), ?_⟩, fun j hj k hk => ⟨(fun e => by cases e), ?_⟩, (fun e => by cases e)⟩
          · rw [hX1]; exact (Boxed.new wr 3 _).alloc _
          · have h := Boxed.new (wr.alloc (.cells #[.int .i64 (v : Int)] 3)) 34 (.slice none 0 0)
            rw [World.size_alloc] at h
            rw [hX1]; exact h
          · have := hlow HD.out.nd hj hk; omega
          · have := hlow HD.out.lf hj hk; omega)
        have HWR := Lib.hid hwr
        rw [← hX1]
        clear hX1 hbX hlow hwr HD
        generalize wr.heap.size = bv at *
        go_upto_region 10 with fail
        go_loopw [47] (fun v47 wr => ∃ k : Nat, k ≤ un ∧ v47 = .int .i64 (k : Int) ∧ RowKit.Hid (∃ vsN rv M R, Duo w6 wr n bn bn (bn + 1) bl bl (bl + 1) vsN (rowsU (fun u b => needB f (u : Int) b) v M n) vsL (rowsU (fun u b => leftB f (u : Int) b) v (fun _ => false) n) ∧ Rch w6 wr bv (bv + 1) v rv R vsN vsL ∧ Spr f n v M (fun _ => false) R (fun _ _ => False) ∧ ∀ z ∈ Z.take k, ∀ b : Nat, z = (b : Int) → MakesU f b (v : Int) ∨ M b = true)) (fun iv _ => un - (intOf iv).toNat)
        case atStart => exact ⟨0, Nat.zero_le _, rfl, Lib.hid ⟨vsN, _, fun _ => false, [], HR1.out.1, HR1.out.2, Spr.start f n v _, fun z hz => by simp at hz⟩⟩
        case round =>
          obtain ⟨k, hk, rfl, HI⟩ := hrel
          clear HR1
          obtain ⟨vsN, rv, M, R, hD, hR, hS, hsd⟩ := HI.out
          have HD := Lib.hid hD
          have HR := Lib.hid hR
          have HS := Lib.hid hS
          have HSD := Lib.hid hsd
          clear HI hD hR hS hsd
          by_cases hlk : k < un
          · have hbs := HBS.out wr HD.out.off
            have hzl : k < Z.length := by rw [(HUN.out wr HD.out.off).1.1]; exact hlk
            obtain ⟨ad, had, hcel⟩ := (HUN.out wr HD.out.off).1.at (by omega)
            subst had
            have hc0 := hcel k hzl
            obtain ⟨b, hzb, hbn, hin⟩ := HZM.out.1 _ (List.getElem_mem hzl)
            rw [hzb] at hc0
            unfold numV at hc0
            have hlki : (k : Int) < (un : Int) := by omega
            have HTK : RowKit.Hid (Z.take (k + 1) = Z.take k ++ [(b : Int)]) := Lib.hid (by rw [List.take_succ_eq_append_getElem hzl, hzb])
            have HBI : RowKit.Hid (b < f.blocks.length ∧ InU f (v : Int) b) := Lib.hid ⟨hbn, hin⟩
            have HSR := Lib.hid (HS.out.reach (b := b) (fun hm => .here b hbn hm hin))
            have CR := Lib.hid (reach_any f w6 wr n bn bn (bn + 1) bl bl (bl + 1) bv (bv + 1) v b bf b4 (fun u b => needB f (u : Int) b) M vsN vsL _ rv R va vc HD.out HR.out (by have := HNN.out; omega) HNN.out HSM.out hlt (by have := HS.out.len HNN.out; omega) hbs.first hbs.nums hbs.clo)
            clear hcel hzb hbn hin hzl hbs
            go_upto_region 13 with (go_at_call 46; refine CR.out.mono ?_; rintro e w8 ⟨⟨x, rfl⟩, vsN', rv', hd', hr'⟩; have HD' := Lib.hid hd'; have HR' := Lib.hid hr'; clear hd' hr')
            go_wp2_with fail
            go_roundw
            case rel =>
              refine ⟨k + 1, by omega, by go_num, Lib.hid ⟨vsN', rv', _, _, HD'.out, HR'.out, HSR.out.1, fun z hz q hq => ?_⟩⟩
              rw [HTK.out, List.mem_append, List.mem_singleton] at hz
              rcases hz with hz | hz
              · exact (HSD.out z hz q hq).imp id (HSR.out.2.2 q)
              · have : q = b := by omega
                rw [this]; exact HSR.out.2.1
            case measure => simp [intOf]; omega
          · obtain rfl : k = un := by omega
            have hge : ¬ ((k : Int) < (k : Int)) := by omega
            have HSB : RowKit.Hid (∀ b, b < n → InU f (v : Int) b → MakesU f b (v : Int) ∨ M b = true) := Lib.hid fun b hb hu => by
              have hzk : Z.take k = Z := List.take_of_length_le (by rw [(HUN.out wr HD.out.off).1.1]; exact Nat.le_refl _)
              have h := HSD.out
              rw [hzk] at h
              exact h _ (HZM.out.2 b (by rw [← HNN.out]; exact hb) hu) b rfl
            go_upto_region 14 with fail
            go_loopg [] (todoU n M R) (fun gk wr => RowKit.Hid (∃ vsN vsL rv M L R, Duo w6 wr n bn bn (bn + 1) bl bl (bl + 1) vsN (rowsU (fun u b => needB f (u : Int) b) v M n) vsL (rowsU (fun u b => leftB f (u : Int) b) v L n) ∧ Rch w6 wr bv (bv + 1) v rv R vsN vsL ∧ Spr f n v M L R (fun _ _ => False) ∧ (∀ b, b < n → InU f (v : Int) b → MakesU f b (v : Int) ∨ M b = true) ∧ todoU n M R ≤ gk))
            case atStart => exact Lib.hid ⟨vsN, vsL, rv, M, _, R, HD.out, HR.out, HS.out, HSB.out, Nat.le_refl _⟩
            case round =>
              clear HD HR HS HSB HSD
              obtain ⟨vsN, vsL, rv, M, L, R, hD, hR, hS, hSB, hgk⟩ := hrel.out
              have HD := Lib.hid hD
              have HR := Lib.hid hR
              have HS := Lib.hid hS
              have HSB := Lib.hid hSB
              have HGK := Lib.hid hgk
              have hbx := hR.box.cell
              have hbf := hR.box.frozen
              have hlenR : R.length ≤ n := hS.len HNN.out
              have hown := hR.own
              clear hrel hD hR hS hSB hgk
              rcases hown.2 with ⟨hrv, hr0⟩ | ⟨gr, cap, cur, hrv, hgr, hgb, hle, hmx, _⟩
              · -- nothing is left to look at
                have hR0 : R = [] := List.eq_nil_of_length_eq_zero hr0
                have HALL := Lib.hid ((hR0 ▸ HS.out).all HNN.out HSB.out)
                rw [hrv] at hbx
                clear hown hbf hrv hr0 hR0
                go_wp2_with fail
                go_roundw
                case rel =>
                  refine ⟨v + 1, by omega, by go_num, Lib.hid ⟨vsN, vsL, ?_⟩⟩
                  have h := HD.out
                  rw [rowsU_next _ v M n HALL.out.1, rowsU_next _ v L n HALL.out.2] at h
                  exact h
                case measure => simp [intOf]; omega
              · rw [hrv] at hbx hown
                by_cases hr0 : R.length = 0
                · have hR0 : R = [] := List.eq_nil_of_length_eq_zero hr0
                  have HALL := Lib.hid ((hR0 ▸ HS.out).all HNN.out HSB.out)
                  rw [hr0] at hbx
                  clear hown hbf hrv hr0 hR0
                  go_wp2_with fail
                  go_roundw
                  case rel =>
                    refine ⟨v + 1, by omega, by go_num, Lib.hid ⟨vsN, vsL, ?_⟩⟩
                    have h := HD.out
                    rw [rowsU_next _ v M n HALL.out.1, rowsU_next _ v L n HALL.out.2] at h
                    exact h
                  case measure => simp [intOf]; omega
                · obtain ⟨R0, z, hRz⟩ : ∃ R0 z, R = R0 ++ [z] := ⟨R.dropLast, R.getLast (by intro e; rw [e] at hr0; exact hr0 rfl), (List.dropLast_concat_getLast _).symm⟩
                  obtain ⟨b, hzb, hmb⟩ := HS.out.sub z (by rw [hRz]; simp)
                  subst hzb
                  have hbn : b < f.blocks.length := HS.out.lt hmb
                  have hl0 : R.length = R0.length + 1 := by rw [hRz]; simp
                  have HP := Lib.hid (Spr.pop (hRz ▸ HS.out))
                  have hcl : wr.cell? ⟨gr, R0.length, none⟩ = some (.int .i64 (b : Int)) := by
                    have h1 := hown.read.2 (by omega)
                    obtain ⟨g1, o1, he, _, hc⟩ := h1
                    cases he
                    have h2 := hc R0.length (by omega)
                    rw [Nat.zero_add] at h2
                    rw [h2, numV]
                    congr 2
                    simp [hRz]
                  have HOC : RowKit.Hid (OwnsI wr w6.heap.size 3 (.slice (some ⟨gr, 0, none⟩) R0.length cap) R0) := Lib.hid (by
                    have h := uown_cut hown (i := R0.length) (by omega)
                    rw [hRz] at h
                    simpa using h)
                  have HTD : RowKit.Hid (todoU n M R0 + 1 ≤ gk) := Lib.hid (by have h := HGK.out; unfold todoU at *; rw [hl0] at h; omega)
                  rw [hl0] at hbx hle
                  obtain ⟨ln, hln⟩ : ∃ l, l = R0.length := ⟨_, rfl⟩
                  rw [← hln] at hbx hcl HOC hle
                  have hw1 : wrap64 (((ln + 1 : Nat) : Int) - 1) = (ln : Int) := by rw [wrap_id (by omega) (by omega)]; omega
                  have hw2 : wrap64 ((ln : Int) + 1 - 1) = (ln : Int) := by rw [wrap_id (by omega) (by omega)]; omega
                  have hlnn : ln ≤ 100000 := by omega
                  obtain ⟨xa, xn, xc, hax⟩ := HAH.out b (by rw [HNN.out]; exact hbn)
                  have HAX := Lib.hid hax
                  have hbi : (b : Int) < (n : Int) := by rw [HNN.out]; omega
                  have HMB := Lib.hid hmb
                  have HBB : RowKit.Hid (b < n) := Lib.hid (by rw [HNN.out]; exact hbn)
                  have hga0 := (hax wr HD.out.off).2
                  have HLN := Lib.hid hln
                  have HRV := Lib.hid hrv
                  clear hown hrv hgr hgb hmx hr0 hRz hmb hbn hl0 hax hlenR HGK HS hln
                  go_upto_region 18 with fail
                  clear hga0 hcl hbx hbf hle hw1 hw2
                  obtain ⟨X2, hX2⟩ : ∃ u, u = wr.setCell ⟨bv + 1, 0, none⟩ (.slice (some ⟨gr, 0, none⟩) ln cap) := ⟨_, rfl⟩
                  have HP2 : RowKit.Hid (Duo w6 X2 n bn bn (bn + 1) bl bl (bl + 1) vsN (rowsU (fun u b => needB f (u : Int) b) v M n) vsL (rowsU (fun u b => leftB f (u : Int) b) v L n) ∧ Rch w6 X2 bv (bv + 1) v (.slice (some ⟨gr, 0, none⟩) ln cap) R0 vsN vsL) := Lib.hid (by
                    rw [hX2]
                    exact (HR.out.push HD.out (Below.refl _ _) (World.grownBy.refl wr _) HOC.out (fun k hk => .inl (by rw [HRV.out]; exact hk))).2.2)
                  rw [← hX2]
                  clear hX2 HD HR HOC HRV
                  have hga := (HAX.out X2 HP2.out.1.off).2
                  have hxl : (ahL f n (b : Int)).length = xn := (HAX.out X2 HP2.out.1.off).1.1
                  have hxn : xn ≤ 100000 := by have := ahL_len f n (b : Int); omega
                  have HXL := Lib.hid hxl
                  clear hxl
                  go_upto_region 19 with fail
                  clear hga
                  go_loopw [73] (fun v73 wr => ∃ j : Nat, j ≤ xn ∧ v73 = .int .i64 (j : Int) ∧ RowKit.Hid (∃ vsN vsL rv M L R, Duo w6 wr n bn bn (bn + 1) bl bl (bl + 1) vsN (rowsU (fun u b => needB f (u : Int) b) v M n) vsL (rowsU (fun u b => leftB f (u : Int) b) v L n) ∧ Rch w6 wr bv (bv + 1) v rv R vsN vsL ∧ Spr f n v M L R (fun c _ => c = b) ∧ (∀ b, b < n → InU f (v : Int) b → MakesU f b (v : Int) ∨ M b = true) ∧ M b = true ∧ (∀ q : Nat, (q : Int) ∈ (ahL f n (b : Int)).take j → L q = true ∧ (MakesU f q (v : Int) ∨ M q = true)) ∧ todoU n M R + 1 ≤ gk)) (fun iv _ => xn - (intOf iv).toNat)
                  case atStart => exact ⟨0, Nat.zero_le _, rfl, Lib.hid ⟨vsN, vsL, _, M, L, R0, HP2.out.1, HP2.out.2, HP.out.1, HSB.out, HMB.out, fun q hq => by simp at hq, HTD.out⟩⟩
                  case round =>
                    obtain ⟨j, hj, rfl, HI⟩ := hrel
                    clear HP2 HP HSB HMB HTD
                    obtain ⟨vsN, vsL, rv, M, L, R, hD, hR, hS, hSB, hMb, hq, htd⟩ := HI.out
                    have HD := Lib.hid hD
                    have HR := Lib.hid hR
                    have HS := Lib.hid hS
                    have HSB := Lib.hid hSB
                    have HMB := Lib.hid hMb
                    have HQ4 := Lib.hid hq
                    have HTD := Lib.hid htd
                    clear HI hD hR hS hSB hMb hq htd
                    by_cases hjl : j < xn
                    · have hjz : j < (ahL f n (b : Int)).length := by rw [HXL.out]; exact hjl
                      obtain ⟨ad, had, hcel⟩ := (HAX.out wr HD.out.off).1.at (by omega)
                      subst had
                      have hc0 := hcel j hjz
                      obtain ⟨z, hz⟩ : ∃ z, z = (ahL f n (b : Int))[j] := ⟨_, rfl⟩
                      have hzm := ahL_mem.1 (show z ∈ ahL f n (b : Int) by rw [hz]; exact List.getElem_mem hjz)
                      obtain ⟨q, hqz⟩ : ∃ q : Nat, z = (q : Int) := ⟨z.toNat, by have := hzm.1.1; omega⟩
                      rw [← hz, hqz] at hc0
                      unfold numV at hc0
                      have hqn : q < n := by have := hzm.1.2; omega
                      have hnx : (b : Int) ∈ nxF f q := by have h := hzm.2; rw [hqz] at h; simpa using h
                      have HTK : RowKit.Hid ((ahL f n (b : Int)).take (j + 1) = (ahL f n (b : Int)).take j ++ [(q : Int)]) := Lib.hid (by rw [List.take_succ_eq_append_getElem hjz, ← hz, hqz])
                      have HQN : RowKit.Hid (q < n ∧ (b : Int) ∈ nxF f q) := Lib.hid ⟨hqn, hnx⟩
                      have hcv := HR.out.val.cell
                      have hjli : (j : Int) < (xn : Int) := by omega
                      have CL := Lib.hid (grow_any bl bl (bl + 1) n wr vsL (rowsU (fun u b => leftB f (u : Int) b) v L n) q (v : Int) HD.out.lf hqn (by omega) (fun Z hZ => by have := rowsU_len_le Z hZ; omega) (Nat.le_trans HD.out.low.2.2.2.2.2.2 HD.out.off.size))
                      clear hcel hjz hz hzm hqz hqn hnx
                      go_upto_region 23 with (first
                        | (go_at_call 61; refine CL.out.mono ?_; rintro e w8 ⟨v', Z', hz', rfl, hset, hoff, hw⟩; rw [rowsU_at HQN.out.1] at hz'; cases hz'; rw [rowsU_grow HQN.out.1] at hset; have HD8 := Lib.hid (HD.out.swap.grow hset hoff hw).swap; have HR8 := Lib.hid (HR.out.swap.grow HD.out.swap hoff hw).swap; have HS8 := Lib.hid (HS.out.leave HQN.out.2 HMB.out); have CR := Lib.hid (reach_any f w6 w8 n bn bn (bn + 1) bl bl (bl + 1) bv (bv + 1) v q bf b4 (fun u b => needB f (u : Int) b) M vsN _ _ rv R va vc HD8.out HR8.out HQN.out.1 HNN.out HSM.out hlt (by have := HS8.out.len HNN.out; omega) (HBS.out w8 HD8.out.off).first (HBS.out w8 HD8.out.off).nums (HBS.out w8 HD8.out.off).clo); clear hset hoff hw)
                        | (go_at_call 46; refine CR.out.mono ?_; rintro e w9 ⟨⟨x, rfl⟩, vsN', rv', hd', hr'⟩; have HD' := Lib.hid hd'; have HR' := Lib.hid hr'; clear hd' hr'))
                      have HS9 := Lib.hid (HS8.out.reach (b := q) (fun hm => .on q b (by have h1 := HQN.out.1; have h2 := HNN.out; omega) hm HQN.out.2 (HS8.out.sound b HMB.out)))
                      go_wp2_with fail
                      go_roundw
                      case rel =>
                        refine ⟨j + 1, by omega, by go_num, Lib.hid ⟨vsN', vsL.set q v', rv', nextM f v q M, putB L q, nextR f v q M R, HD'.out, HR'.out, HS9.out.1, fun i hi hu => (HSB.out i hi hu).imp id (HS9.out.2.2 i), HS9.out.2.2 b HMB.out, fun i hi => ?_, Nat.le_trans (Nat.add_le_add_right (todo_next HQN.out.1) 1) HTD.out⟩⟩
                        rw [HTK.out, List.mem_append, List.mem_singleton] at hi
                        rcases hi with hi | hi
                        · exact ⟨putB_iff.2 (.inl (HQ4.out i hi).1), (HQ4.out i hi).2.imp id (HS9.out.2.2 i)⟩
                        · have : i = q := by omega
                          subst this
                          exact ⟨putB_iff.2 (.inr rfl), HS9.out.2.1⟩
                      case measure => simp [intOf]; omega
                    · obtain rfl : j = xn := by omega
                      have hge : ¬ ((j : Int) < (j : Int)) := by omega
                      have HDN : RowKit.Hid (Spr f n v M L R (fun _ _ => False)) := Lib.hid (HS.out.done (fun c i hi hnx hc => by
                        subst hc
                        refine HQ4.out i ?_
                        rw [List.take_of_length_le (by rw [HXL.out]; exact Nat.le_refl _)]
                        exact ahL_mem.2 ⟨⟨by omega, by omega⟩, by simpa using hnx⟩))
                      go_wp2_with fail
                      go_roundg (todoU n M R)
                      case rel => exact Lib.hid ⟨vsN, vsL, rv, M, L, R, HD.out, HR.out, HDN.out, HSB.out, Nat.le_refl _⟩
                      all_goals (have := HTD.out; omega)
      · obtain rfl : v = valU f := by omega
        have hge : ¬ ((valU f : Int) < (valU f : Int)) := by omega
        go_wp2_with fail
        refine bodyPost_ret (v := .tuple #[.slice (some ⟨bn + 1, 0, none⟩) n n, .slice (some ⟨bl + 1, 0, none⟩) n n]) (by simp [results, Tryd.results27, go_sem]) rfl ⟨bn, bn, bn + 1, bl, bl, bl + 1, vsN, vsL, rfl, ?_, ?_, ?_⟩
        · have h := HD.out.nd; rw [rowsU_end] at h; exact h
        · have h := HD.out.lf; rw [rowsU_end] at h; exact h
        · exact HWW.out.1.trans (HD.out.off.below (by have := HWW.out.1.size; exact this) (fun k hk => by have h1 := HWW.out.2; rcases hk with e | e <;> omega))
end Go.Proofs.YtdchhfdmingnaaaDoor

/- Layer 13: package uses' Needed and Left. -/
namespace Go.Proofs.YtdchhfdmingnaaaDoor
open Go.RowKit (wrap64 intOf Below)
set_option linter.unusedVariables false
set_option linter.unusedSimpArgs false
def RowsPost (n : Nat) (Zs : List (List Int)) (w : World) (e : Ending) (w' : World) : Prop := ∃ B bx g vs, e = .returned (.slice (some ⟨g, 0, none⟩) n n) ∧ SetU B bx g n w' vs Zs ∧ Below w.heap.size w w'
set_option maxRecDepth 100000 in
theorem needed_any (r : Int) (a : Option Addr) (n c : Nat) (f : FuncD) (w : World) (hq : FuncQ w [.int .i64 r, .slice a n c] f) (hft : FT w) (hsm : SmU f) (hN : (usesU f).length ≤ 900000) :
    Calls Tryd.prog 14 #[.agg #[.int .i64 r, .slice a n c]] w (RowsPost n ((List.range n).map (neededU f)) w) := by
  obtain ⟨wf, hwf⟩ : ∃ u, u = w.alloc (.cells #[.int .i64 r, .slice a n c] 30) := ⟨_, rfl⟩
  have HB : RowKit.Hid (Below w.heap.size w wf) := Lib.hid (by rw [hwf]; exact (Below.refl _ w).alloc (Nat.le_refl _) _)
  have CS := Lib.hid (spread_any r a n c f wf (FuncQ.lasts _ _ _ _ HB.out hq) (hft.since HB.out) hsm hN)
  clear hq hft hsm hN
  go_enter Tryd.func14, Tryd.ntmps14
  go_upto_region 1 with fail
  try rw [← hwf]
  have d0 : wf.cell? ⟨w.heap.size, 0, none⟩ = some (.int .i64 r) := by rw [hwf]; exact World.cell?_alloc_mark _ _ _ _ _
  have d1 : wf.cell? ⟨w.heap.size, 1, none⟩ = some (.slice a n c) := by rw [hwf]; exact World.cell?_alloc_mark _ _ _ _ _
  clear hwf
  go_wp2_with (go_at_call 27; refine CS.out.mono ?_; rintro e w1 ⟨Bn, bn, gn, Bl, bl, gl, vsN, vsL, rfl, h1, h2, h3⟩; have H1 := Lib.hid h1; have H3 := Lib.hid h3; clear h1 h2 h3)
  go_ret
  exact ⟨_, _, _, _, rfl, H1.out, HB.out.trans (H3.out.mono HB.out.size)⟩
end Go.Proofs.YtdchhfdmingnaaaDoor

/- Layer 13: package uses' Of: where a value is used. -/
namespace Go.Proofs.YtdchhfdmingnaaaDoor
open Go.RowKit
set_option linter.unusedVariables false
set_option linter.unusedSimpArgs false
attribute [local go_sem] Oper.semAt_some
def flatSi (l : List SiteU) : List Value := l.flatMap fun s => [.int .i64 0, .int .i64 (s.1 : Int), .int .i64 (s.2 : Int)]
def OwnsSi (w : World) (B : Nat) (v : Value) (l : List SiteU) : Prop := w.ownsRow B 41 3 v l.length (flatSi l)
theorem info_site : (Tryd.prog.info? 41).map (fun i => (i.zero, i.size, i.bytes)) = some (some (.agg #[.int .i64 0, .int .i64 0, .int .i64 0]), 3, 24) := by kernel_rfl
theorem flatSi_len (l : List SiteU) : (flatSi l).length = l.length * 3 := by
  induction l with
  | nil => rfl
  | cons x l ih => simp only [flatSi, List.flatMap_cons, List.length_append, List.length_cons, List.length_nil] at *; omega
theorem flatSi_more (l : List SiteU) (s : SiteU) : flatSi (l ++ [s]) = flatSi l ++ [.int .i64 0, .int .i64 (s.1 : Int), .int .i64 (s.2 : Int)] := by simp [flatSi]
theorem OwnsSi.slice {w : World} {B : Nat} {v : Value} {l : List SiteU} (h : OwnsSi w B v l) : ∃ va vc, v = .slice va l.length vc := by
  rcases h.2 with ⟨e, h0⟩ | ⟨g, cap, cur, e, _⟩
  · exact ⟨none, 0, by rw [h0]; exact e⟩
  · exact ⟨_, _, e⟩
theorem wpListIn_append_site {F : Fence} {n : Nat} (w : World) {ops : Array Oper} {rest : List Oper} {o : Oper} {a : Act} {Q : Exit → Act → World → Prop} (hgd : o.guard = none) (s x : Operand)
    (ho : o.op = .call { callee := .builtin .append, args := #[s, x], argTypes := #[37, 37] })
    (B : Nat) (v : Value) (l : List SiteU) (hs : a.eval s = v) (hown : OwnsSi w B v l) (hB : B ≤ w.heap.size)
    (C : Array Value) (c g : Nat) (z : SiteU) (hx : a.eval x = .slice (some ⟨g, 0, none⟩) 1 c) (hg : g = w.heap.size) (hC : C = #[.int .i64 0, .int .i64 (z.1 : Int), .int .i64 (z.2 : Int)])
    (hlen : l.length ≤ 1000000)
    (h : ∀ va vn vc w', OwnsSi w' B (.slice va vn vc) (l ++ [z]) → (w.alloc (.cells C 41)).grownBy w' v.ownBlock → (∀ i, (Value.slice va vn vc).ownBlock = some i → v.ownBlock = some i ∨ w.heap.size ≤ i) → wpListIn F n Tryd.prog ops Q rest (a.put o.dst (.slice va vn vc)) w') : wpListIn F n Tryd.prog ops Q (o :: rest) a (w.alloc (.cells C 41)) := by
  obtain ⟨i0, hi, hz0, hz1, hz2⟩ := info_parts info_site
  subst hC hg
  have hown1 : (w.alloc (.cells #[.int .i64 0, .int .i64 (z.1 : Int), .int .i64 (z.2 : Int)] 41)).ownsRow B 41 3 v l.length (flatSi l) := World.ownsRow.alloc hown _
  refine wpListIn_plain hgd fun K hK' => ?_
  obtain ⟨v', w', hrun, r1, r2, _, r4⟩ := run_append_own_at (P := Tryd.prog) (w := w.alloc (.cells #[.int .i64 0, .int .i64 (z.1 : Int), .int .i64 (z.2 : Int)] 41)) B 37 o.type 41 i0 (.agg #[.int .i64 0, .int .i64 0, .int .i64 0]) 3 24 Tryd.underlying37 hi hz0 hz1 hz2 rfl (by decide) v l.length (flatSi l) hown1 ⟨w.heap.size, 0, none⟩ 1 c [.int .i64 0, .int .i64 (z.1 : Int), .int .i64 (z.2 : Int)] rfl (fun j u hu => by
    rw [addr_plain, Nat.zero_add, World.cell?_alloc_mark]
    simpa using hu) (by intro u hu; simp at hu; rcases hu with rfl | rfl | rfl <;> rfl) (by unfold maxLen; omega) (by omega) (by simp; omega)
  have hown2 : OwnsSi w' B v' (l ++ [z]) := by
    show w'.ownsRow B _ 3 v' (l ++ [z]).length (flatSi (l ++ [z]))
    rw [flatSi_more, List.length_append]
    exact r1
  obtain ⟨va, vc, rfl⟩ := hown2.slice
  unfold Oper.wpIn
  refine ⟨?_, ?_⟩
  · simp [Oper.about, ho, resolve, Target.leads, Sem.run_pure]
  · rw [Oper.semAt_plain F _ _ (by rw [ho]; intro c hc'; cases hc')]
    simp [execOp, ho, resolve, invoke, builtin, hs, hx, hrun, Result.andThen]
    refine hK' _ _ ?_
    have := h va (l ++ [z]).length vc w' hown2 r2 (fun i hi' => by
      rcases r4 with e | e
      · exact .inl (e ▸ hi')
      · rw [e] at hi'; cases hi'; exact .inr (by simp))
    simpa using this
def OB (B : Nat) (W : World) (i : Nat) : Prop := i = B ∨ ∃ v, W.cell? ⟨B, 0, none⟩ = some v ∧ v.ownBlock = some i
theorem steady_OB (B : Nat) : SteadyO (OB B) := by
  intro W W' row hg hl hr i
  have hc : W'.cell? ⟨B, 0, none⟩ = W.cell? ⟨B, 0, none⟩ := World.cell?_of_block (hg.block B (hl.lt (.inl rfl)) (fun e => hr B e.symm (.inl rfl)))
  unfold OB
  rw [hc]
structure OfSt (w : World) (bx b3 : Nat) (x : Int) (W : World) (v : Value) (l : List SiteU) : Prop where
  box : Boxed W bx 37 v
  own : OwnsSi W w.heap.size v l
  val : W.cell? ⟨b3, 0, none⟩ = some (.int .i64 x)
  bel : Below w.heap.size w W
  ne : b3 ≠ bx ∧ v.ownBlock ≠ some b3 ∧ v.ownBlock ≠ some bx ∧ w.heap.size ≤ bx
theorem OfSt.ob {w W : World} {bx b3 : Nat} {x : Int} {v : Value} {l : List SiteU} (h : OfSt w bx b3 x W v l) {k : Nat} : OB bx W k ↔ k = bx ∨ v.ownBlock = some k := by
  unfold OB
  rw [h.box.cell]
  simp
theorem OfSt.blk {w W : World} {bx b3 : Nat} {x : Int} {v : Value} {l : List SiteU} (h : OfSt w bx b3 x W v l) {k : Nat} (hk : v.ownBlock = some k) : (∃ cur, W.heap[k]? = some (.cells cur 41 (0, 0))) ∧ w.heap.size ≤ k ∧ k < W.heap.size := by
  rcases h.own.2 with ⟨e, _⟩ | ⟨g, cap, cur, e, hB, hh, _⟩
  · subst e; cases hk
  · subst e; cases hk; exact ⟨⟨cur, hh⟩, hB, (Array.getElem?_eq_some_iff.1 hh).1⟩
theorem OfSt.lies {w W : World} {bx b3 : Nat} {x : Int} {v : Value} {l : List SiteU} (h : OfSt w bx b3 x W v l) : LiesO (OB bx) W := by
  intro k hk
  rcases h.ob.1 hk with rfl | hk
  · exact ⟨_, h.box, rfl⟩
  · obtain ⟨⟨cur, hc⟩, _⟩ := h.blk hk
    exact ⟨_, hc, rfl⟩
theorem OfSt.grown {w W W' : World} {bx b3 : Nat} {x : Int} {v : Value} {l : List SiteU} (h : OfSt w bx b3 x W v l) {row : Option Nat} (hg : W.grownBy W' row) (hr : ∀ r, row = some r → ¬ OB bx W r ∧ r ≠ b3 ∧ w.heap.size ≤ r) : OfSt w bx b3 x W' v l := by
  have h3 : b3 < W.heap.size := World.block_lt_of_cell? (a := ⟨b3, 0, none⟩) _ h.val
  refine ⟨(hg.block bx h.box.lt (fun e => (hr bx e.symm).1 (.inl rfl))).trans h.box, ?_, (World.cell?_of_block (a := ⟨b3, 0, none⟩) (hg.block b3 h3 (fun e => (hr b3 e.symm).2.1 rfl))).trans h.val, Below.grown h.bel hg h.bel.size (fun k hk => (hr k hk).2.2), h.ne⟩
  refine World.ownsRow.kept h.own hg ?_
  by_cases hv : v.ownBlock = none
  · exact .inl hv
  · refine .inr fun e => ?_
    obtain ⟨k, hk⟩ := Option.ne_none_iff_exists'.1 hv
    exact (hr k (by rw [← e]; exact hk)).1 (h.ob.2 (.inr hk))
end Go.Proofs.YtdchhfdmingnaaaDoor

/- Layer 13: package uses' Counts, walked. -/
namespace Go.Proofs.YtdchhfdmingnaaaDoor
open Go.RowKit
set_option linter.unusedVariables false
set_option linter.unusedSimpArgs false
attribute [local go_sem] Oper.semAt_some
def cntRow (V : Nat) (xs : List UseU) : List Int := (List.range V).map fun v : Nat => ((cntL (v : Int) xs : Nat) : Int)
theorem cntRow_len (V : Nat) (xs : List UseU) : (cntRow V xs).length = V := by simp [cntRow]
theorem cntRow_at {V : Nat} {xs : List UseU} {j : Nat} (h : j < (cntRow V xs).length) : (cntRow V xs)[j] = ((cntL (j : Int) xs : Nat) : Int) := by simp [cntRow]
theorem cntL_le (v : Int) (xs : List UseU) : cntL v xs ≤ xs.length := List.countP_le_length
theorem cntRow_more (V : Nat) (xs : List UseU) (x : UseU) (j : Nat) (hx : x.2 = (j : Int)) : (cntRow V xs).set j ((cntL (j : Int) xs : Int) + 1) = cntRow V (xs ++ [x]) := by
  refine List.ext_getElem (by simp [cntRow]) fun k h1 h2 => ?_
  rw [List.getElem_set, cntRow_at h2, cntL_more]
  by_cases hk : j = k
  · rw [if_pos hk, ← hk, if_pos hx]; omega
  · rw [if_neg hk, if_neg (by rw [hx]; omega), cntRow_at (by simpa using h1)]; omega
theorem make_cnt (q : Int) (Q : Nat) (hq : q = Q) (hQ : Q ≤ 1099511627776) (u : World) : (Instr.makeSlice 34 (.int .i64 q) (.int .i64 q)).run Tryd.prog u = .ok (.slice (some ⟨u.heap.size, 0, none⟩) Q Q) (u.alloc (.cells (madeCells #[.int .i64 0] Q) 3)) := by
  obtain ⟨i0, hi, hz0, hz1, hz2⟩ := info_parts info_int
  subst hq
  have h := run_make (P := Tryd.prog) u 34 3 i0 (.int .i64 0) Tryd.underlying34 hi hz0 .i64 .i64 (Q : Int) (Q : Int) (by omega) (by omega) (by rw [hz2]; omega) (by omega)
  simpa [hz1, Value.cells] using h
theorem own_cnt {W : World} {B m : Nat} (hB : B ≤ W.heap.size) (hm : m ≤ maxLen) : OwnsI (W.alloc (.cells (madeCells #[.int .i64 0] m) 3)) B 3 (.slice (some ⟨W.heap.size, 0, none⟩) m m) (cntRow m []) := by
  have h := World.ownsRow_lit (base := B) (e := 3) (size := 1) W (madeCells #[Value.int .i64 0] m) m hB hm (by simp [size_madeCells])
  have e : (madeCells #[Value.int .i64 0] m).toList = (cntRow m []).map numV := by
    refine List.ext_getElem (by simp [size_madeCells, cntRow]) fun k h1 h2 => ?_
    simp [madeCells, cntRow, cntL, numV, Nat.mod_one]
  rw [e] at h
  show World.ownsRow _ B _ 1 _ (cntRow m []).length _
  rw [cntRow_len]
  exact h
structure CntSt (w : World) (bx g V : Nat) (W : World) (L : List Int) : Prop where
  box : Boxed W bx 34 (.slice (some ⟨g, 0, none⟩) V V)
  own : OwnsI W w.heap.size 3 (.slice (some ⟨g, 0, none⟩) V V) L
  bel : Below w.heap.size w W
  ne : g ≠ bx ∧ w.heap.size ≤ bx
section
variable {w W W' : World} {bx g V : Nat} {L : List Int}
theorem CntSt.ob (h : CntSt w bx g V W L) {k : Nat} : OB bx W k ↔ k = bx ∨ k = g := by
  unfold OB
  rw [h.box.cell]
  constructor
  · rintro (e | ⟨v, hv, e⟩)
    · exact .inl e
    · cases hv; simp [Value.ownBlock] at e; exact .inr e.symm
  · rintro (e | e)
    · exact .inl e
    · exact .inr ⟨_, rfl, by rw [e]; rfl⟩
theorem CntSt.blk (h : CntSt w bx g V W L) : (∃ cur, W.heap[g]? = some (.cells cur 3 (0, 0))) ∧ w.heap.size ≤ g := by
  rcases h.own.2 with ⟨e, _⟩ | ⟨g', cap, cur, e, hB, hh, _⟩
  · cases e
  · cases e; exact ⟨⟨cur, hh⟩, hB⟩
theorem CntSt.lies (h : CntSt w bx g V W L) : LiesO (OB bx) W := by
  intro k hk
  rcases h.ob.1 hk with rfl | rfl
  · exact ⟨_, h.box, rfl⟩
  · obtain ⟨⟨cur, hc⟩, _⟩ := h.blk
    exact ⟨_, hc, rfl⟩
theorem CntSt.grown (h : CntSt w bx g V W L) {row : Option Nat} (hg : W.grownBy W' row) (hr : ∀ r, row = some r → ¬ OB bx W r ∧ w.heap.size ≤ r) : CntSt w bx g V W' L := by
  refine ⟨(hg.block bx h.box.lt (fun e => (hr bx e.symm).1 (.inl rfl))).trans h.box, ?_, Below.grown h.bel hg h.bel.size (fun k hk => (hr k hk).2), h.ne⟩
  refine World.ownsRow.kept h.own hg (.inr fun e => (hr g (by rw [← e]; rfl)).1 (h.ob.2 (.inr rfl)))
theorem CntSt.cellAt (h : CntSt w bx g V W L) {j : Nat} (hj : j < L.length) : W.cell? ⟨g, j, none⟩ = some (.int .i64 L[j]) := by
  have := World.ownsRow.cells h.own rfl j (numV L[j]) (by rw [List.getElem?_map, List.getElem?_eq_getElem hj]; rfl)
  rwa [addr_plain, Nat.zero_add] at this
theorem CntSt.frozenAt (h : CntSt w bx g V W L) (j : Nat) : W.frozen? ⟨g, j, none⟩ = false := by
  obtain ⟨⟨cur, hc⟩, _⟩ := h.blk
  simp [World.frozen?, hc]
theorem CntSt.store (h : CntSt w bx g V W L) (j : Nat) (z : Int) : CntSt w bx g V (W.setCell ⟨g, j, none⟩ (.int .i64 z)) (L.set j z) ∧ KeepO (OB bx) W (W.setCell ⟨g, j, none⟩ (.int .i64 z)) := by
  have hoff : Off (fun k => k = g) W (W.setCell ⟨g, j, none⟩ (.int .i64 z)) := (Off.refl (fun k => k = g) W).setCell (p := ⟨g, j, none⟩) (.inl rfl) _
  have hown : OwnsI (W.setCell ⟨g, j, none⟩ (.int .i64 z)) w.heap.size 3 (.slice (some ⟨g, 0, none⟩) V V) (L.set j z) := by
    have hn : L.length = V := h.own.read.1
    have h0 := h.own
    subst hn
    have := (World.ownsRow.stored h0 j (.int .i64 z)).1
    show World.ownsRow _ _ _ 1 _ (L.set j z).length ((L.set j z).map numV)
    rw [List.length_set, List.map_set]
    exact this
  have hfin : CntSt w bx g V (W.setCell ⟨g, j, none⟩ (.int .i64 z)) (L.set j z) :=
    ⟨(hoff.block _ h.box.lt (fun e => h.ne.1 e.symm)).trans h.box, hown, h.bel.trans (hoff.below h.bel.size (fun k hk => by rw [hk]; exact h.blk.2)), h.ne⟩
  refine ⟨hfin, hoff.size, fun k hk hno => hoff.block k hk (fun e => hno (h.ob.2 (.inr e))), fun k hk _ => h.ob.2 (hfin.ob.1 hk), hoff.os, hoff.tape, hoff.output⟩
end
set_option maxRecDepth 100000 in
set_option maxHeartbeats 4000000 in
theorem counts_any (r : Int) (a : Option Addr) (n c : Nat) (f : FuncD) (w : World) (hq : FuncQ w [.int .i64 r, .slice a n c] f) (hft : FT w) (hsm : SmU f) (hN : (usesU f).length ≤ 900000) :
    Calls Tryd.prog 9 #[.agg #[.int .i64 r, .slice a n c]] w (ListPostU (cntRow (valU f) (usesU f)) w) := by
  have HQ := Lib.hid hq
  have HFT := Lib.hid hft
  have HSM := Lib.hid hsm
  have HN := Lib.hid hN
  obtain ⟨V, hV⟩ : ∃ V, V = valU f := ⟨_, rfl⟩
  have HVAL : RowKit.Hid (valuesOf f = (V : Int)) := Lib.hid (by rw [hV]; exact valuesOf_small (by have := hsm.vals; omega))
  have HVE := Lib.hid hV
  have hvb : V ≤ 100000 := by rw [hV]; exact hsm.vals
  have hmk := make_cnt (V : Int) V rfl (by omega)
  rw [← hV]
  clear hq hft hsm hN hV
  refine (callsIn_wide (n := 9)).1 ?_
  refine callsIn_of_wp_marks Tryd.func9 rfl trivial ?_ rfl
  simp only [Tryd.ntmps9, List.size_toArray, List.length_cons, List.length_nil, Nat.reduceAdd, Nat.reduceSub, Array.replicate_succ, Array.replicate_zero, List.push_toArray, List.append_toArray, List.nil_append, List.cons_append]
  obtain ⟨wf, hwf⟩ : ∃ u, u = w.alloc (.cells #[.int .i64 r, .slice a n c] 30) := ⟨_, rfl⟩
  have HBF : RowKit.Hid (Below w.heap.size w wf ∧ w.heap.size < wf.heap.size) := Lib.hid (by rw [hwf]; exact ⟨(Below.refl _ w).alloc (Nat.le_refl _) _, by simp⟩)
  have HCF : RowKit.Hid (∀ u, Below wf.heap.size wf u → u.cell? ⟨w.heap.size, 0, none⟩ = some (.int .i64 r) ∧ u.cell? ⟨w.heap.size, 1, none⟩ = some (.slice a n c)) := Lib.hid fun u hu => by
    have h1 : ∀ j, wf.cell? ⟨w.heap.size, j, none⟩ = (#[.int .i64 r, .slice a n c] : Array Value)[j]? := fun j => by rw [hwf]; exact World.cell?_alloc_mark _ _ _ _ _
    exact ⟨(hu.cell (p := ⟨w.heap.size, 0, none⟩) HBF.out.2).trans (h1 0), (hu.cell (p := ⟨w.heap.size, 1, none⟩) HBF.out.2).trans (h1 1)⟩
  obtain ⟨d0, d1⟩ := HCF.out wf (Below.refl _ _)
  gi_upto_region 1 with fail
  try rw [← hwf]
  clear hwf
  gi_wp2_with (first
    | (refine ⟨trivial, ?_⟩; gi_at_call 24; refine (callsIn_wide.2 (code_values r a n c f _ (FuncQ.lasts _ _ _ _ HBF.out.1 HQ.out))).mono ?_; rintro e w1 ⟨rfl, hb1⟩; have HB1 := Lib.hid hb1; obtain ⟨e0, e1⟩ := HCF.out ((w1.alloc (.cells (madeCells #[.int .i64 0] V) 3)).alloc (.cells #[.slice (some ⟨w1.heap.size, 0, none⟩) V V] 34)) ((hb1.alloc hb1.size _).alloc (by simp; have := hb1.size; omega) _); clear hb1; rw [HVAL.out])
    | (refine ⟨trivial, ?_⟩; gi_at_call 25; refine (callsIn_wide.2 (uuses_any r a n c _)).mono ?_; rintro e w' ⟨rfl, rfl⟩))
  obtain ⟨W0, hW0⟩ : ∃ W0, ((w1.alloc (.cells (madeCells #[.int .i64 0] V) 3)).alloc (.cells #[.slice (some ⟨w1.heap.size, 0, none⟩) V V] 34)).alloc (.cells #[.int .i64 r, .slice a n c] 30) = W0 := ⟨_, rfl⟩
  have hz0 : W0.heap.size = w1.heap.size + 3 := by rw [← hW0]; simp
  have hb10 : Below w1.heap.size w1 W0 := by rw [← hW0]; exact (((Below.refl _ w1).alloc (Nat.le_refl _) _).alloc (by simp) _).alloc (by simp <;> omega) _
  have hcb : ∀ j, W0.cell? ⟨w1.heap.size + 1 + 1, j, none⟩ = (#[.int .i64 r, .slice a n c] : Array Value)[j]? := by
    intro j
    rw [← hW0, show w1.heap.size + 1 + 1 = ((w1.alloc (.cells (madeCells #[.int .i64 0] V) 3)).alloc (.cells #[.slice (some ⟨w1.heap.size, 0, none⟩) V V] 34)).heap.size by simp]
    exact World.cell?_alloc_mark _ _ _ _ _
  have hbx : Boxed W0 (w1.heap.size + 1) 34 (.slice (some ⟨w1.heap.size, 0, none⟩) V V) := by
    rw [← hW0]
    have h := (Boxed.new (w1.alloc (.cells (madeCells #[.int .i64 0] V) 3)) 34 (.slice (some ⟨w1.heap.size, 0, none⟩) V V)).alloc (.cells #[.int .i64 r, .slice a n c] 30)
    rw [World.size_alloc] at h
    exact h
  have hw01 : w.heap.size ≤ w1.heap.size := Nat.le_trans HBF.out.1.size HB1.out.size
  have hbw : Below w.heap.size w W0 := (HBF.out.1.trans (HB1.out.mono HBF.out.1.size)).trans (hb10.mono hw01)
  have hown : OwnsI W0 w.heap.size 3 (.slice (some ⟨w1.heap.size, 0, none⟩) V V) (cntRow V []) := by
    have h := own_cnt (W := w1) (B := w.heap.size) (m := V) hw01 (by unfold maxLen; omega)
    rw [← hW0]
    exact (h.below ((Below.refl _ _).alloc (Nat.le_refl _) _)).below ((Below.refl _ _).alloc (Nat.le_refl _) _)
  have HS0 : RowKit.Hid (CntSt w (w1.heap.size + 1) w1.heap.size V W0 (cntRow V [])) := Lib.hid ⟨hbx, hown, hbw, by omega, by omega⟩
  rw [hW0]
  clear hW0
  have hogn : ∀ k, OB (w1.heap.size + 1) W0 k → k = w1.heap.size + 1 ∨ k = w1.heap.size := fun k hk => HS0.out.ob.1 hk
  have HZ0 := Lib.hid hz0
  have HW01 := Lib.hid hw01
  have hseq := uses_seq (steady_OB (w1.heap.size + 1)) r a n c f (w1.heap.size + 1 + 1) w W0 HQ.out HFT.out HSM.out hbw hcb (fun e => by have := hogn _ e; omega) (fun i hi => by have := hogn i hi; omega) HS0.out.lies 8
  clear hbx hcb hbw hogn hz0 hb10 hown hw01 d0 d1 HB1 HCF
  refine wpIn_rangeFunc_O (steady_OB (w1.heap.size + 1)) rfl (by omega) (gf := 36) (lb := #[.pointer (some ⟨w1.heap.size + 1 + 1, 0, none⟩)]) rfl trivial (enters_of Tryd.func36 (by kernel_rfl) rfl) hseq (Below.refl _ _) (fun _ => rfl)
    (fun pre W => CntSt w (w1.heap.size + 1) w1.heap.size V W (cntRow V pre)) (fun s W h => h.lies) ?hI HS0.out
    (fun y a' W => a' = { tmps := #[.agg #[.int .i64 r, .slice a n c], .pointer (some ⟨w.heap.size, 0, none⟩), .slice none 0 0, .pointer (some ⟨w1.heap.size + 1, 0, none⟩), undef, .int .i64 y.2, .agg #[.int .i64 r, .slice a n c], .int .i64 (V : Int), .slice (some ⟨w1.heap.size, 0, none⟩) V V, .agg #[.int .i64 r, .slice a n c], .func (.func 36) #[] #[.pointer (some ⟨w1.heap.size + 1 + 1, 0, none⟩)], siteV y.1, .int .i64 y.2, undef, undef, undef, undef, undef, undef, undef], defers := [] }) ?hAx ?assign ?body ?ran
  case hI =>
    rintro s W W' row h hg hr
    exact h.grown hg (fun r e => by have h1 := (hr r e).1; have h2 := HZ0.out; have h3 := HW01.out; exact ⟨(hr r e).2, by omega⟩)
  case hAx =>
    rintro y a' W W' row rfl hg hr
    rfl
  case assign =>
    rintro l pre y W K' hS hK'
    have HS := Lib.hid hS
    clear hS hmk
    gi_wp2
    exact hK' _ _ (KeepO.refl _ _) HS.out rfl
  case body =>
    rintro l pre y a' W hl0 _ hS rfl hV hlen
    have HS := Lib.hid hS
    obtain ⟨y1, y3⟩ := y
    have hy := (mem_usesU.1 hV).2.2.2
    obtain ⟨hy0, hyV⟩ := of_decide_eq_true hy
    simp only at hy0 hyV
    obtain ⟨j, rfl⟩ := Int.eq_ofNat_of_zero_le hy0
    have hjV : j < V := by rw [HVE.out]; omega
    have hjl : j < (cntRow V pre).length := by rw [cntRow_len]; exact hjV
    have hbc := hS.box.cell
    have hrc := hS.cellAt hjl
    have hfz := hS.frozenAt j
    rw [cntRow_at hjl] at hrc
    have hcl := cntL_le (j : Int) pre
    have hN := HN.out
    have HM : RowKit.Hid ((cntRow V pre).set j ((cntL (j : Int) pre : Int) + 1) = cntRow V (pre ++ [(y1, (j : Int))])) := Lib.hid (cntRow_more V pre (y1, (j : Int)) j rfl)
    obtain ⟨k, hk⟩ : ∃ k, k = cntL (j : Int) pre := ⟨_, rfl⟩
    rw [← hk] at hrc hcl HM
    have HST := Lib.hid (hS.store j ((k : Int) + 1))
    have hw : wrap64 ((k : Int) + 1) = (k : Int) + 1 := by unfold wrap64; omega
    have hjz : (j : Int) < (V : Int) := by omega
    have hj0 : (0 : Int) ≤ (j : Int) := by omega
    clear hS hV hlen hl0 hseq HQ HFT HSM HN HS0 hy hy0 hyV hjl hcl hN hk hmk
    simp only
    gi_wp2
    exact ⟨HST.out.2, by show CntSt _ _ _ _ _ (cntRow V _); rw [← HM.out]; exact HST.out.1⟩
  case ran =>
    rintro D ys U hD rfl hS hK
    have HS := Lib.hid hS
    have HK := Lib.hid hK
    have hv := hS.box.cell
    clear hS hK hmk
    gi_wp2
    refine ⟨by simp, .inl ⟨_, _, rfl, run_takeDeferred HK.out, ?_⟩⟩
    have h1 := HS.out.grown (grownBy_putObj' U D (.deferred none)) (fun r e => by
      cases e
      refine ⟨fun ho => ?_, by have := HZ0.out; have := HW01.out; omega⟩
      obtain ⟨o, h2, h3⟩ := HS.out.lies _ ho
      rw [HK.out] at h2
      cases h2
      cases h3)
    exact ⟨_, results_tmp rfl _ _ _, _, _, _, rfl, h1.own, h1.bel⟩
end Go.Proofs.YtdchhfdmingnaaaDoor
