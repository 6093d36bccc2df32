/- Layer 13: package uses' spread: two sets side by side, and the list of blocks that were reached: what is kept while one of them grows; plain: the rows. -/
import Derived.Test.YtdchhfdmingnaaaDoorFCodeFi
import Derived.Test.YtdchhfdmingnaaaDoorFCodeSq
import Derived.Test.YtdchhfdmingnaaaDoorFCodeSs
import Derived.Test.YtdchhfdmingnaaaDoorFT0
import Derived.Test.YtdchhfdmingnaaaDoorFT5
import Derived.Test.YtdchhfdmingnaaaDoorFUsesG
import Derived.Sort.QuietIn
import Derived.BigQuiet
import Derived.DeepKeys
namespace Go.Proofs.YtdchhfdmingnaaaDoor
open Go.RowKit (wrap64 intOf Below)
set_option linter.unusedVariables false
set_option linter.unusedSimpArgs false
def putB (M : Nat → Bool) (b : Nat) : Nat → Bool := fun i => M i || i == b
def rowU (p : Nat → Nat → Bool) (v : Nat) (M : Nat → Bool) (b : Nat) : List Int := risingU (fun u => p u b) v ++ (if M b = true then [(v : Int)] else [])
def rowsU (p : Nat → Nat → Bool) (v : Nat) (M : Nat → Bool) (n : Nat) : List (List Int) := (List.range n).map (rowU p v M)
theorem rowsU_at {p : Nat → Nat → Bool} {v : Nat} {M : Nat → Bool} {n b : Nat} (h : b < n) : (rowsU p v M n)[b]? = some (rowU p v M b) := by simp [rowsU, h]
theorem rowU_last (p : Nat → Nat → Bool) (v : Nat) (M : Nat → Bool) (b : Nat) : (rowU p v M b).getLast? = some (v : Int) ↔ M b = true := by
  unfold rowU
  cases hm : M b with
  | true => simp
  | false =>
    simp only [Bool.false_eq_true, if_false, List.append_nil, iff_false]
    intro h
    obtain ⟨u, hu, h1, _⟩ := mem_risingU.1 (List.mem_of_getLast? h)
    omega
theorem rowU_fresh (p : Nat → Nat → Bool) (v : Nat) (M : Nat → Bool) (b : Nat) : freshB (rowU p v M b) (v : Int) = !M b := by
  unfold freshB
  have h := rowU_last p v M b
  cases hm : M b with
  | true => simp [h.2 hm]
  | false =>
    have : (rowU p v M b).getLast? ≠ some (v : Int) := fun e => by rw [h.1 e] at hm; cases hm
    simp [this]
theorem rowU_grow (p : Nat → Nat → Bool) (v : Nat) (M : Nat → Bool) (b : Nat) : growL (rowU p v M b) (v : Int) = rowU p v (putB M b) b := by
  unfold growL
  have h := rowU_last p v M b
  cases hm : M b with
  | true => rw [if_pos (h.2 hm)]; simp [rowU, putB, hm]
  | false =>
    rw [if_neg (fun e => by rw [h.1 e] at hm; cases hm)]
    simp [rowU, putB, hm]
theorem rowsU_grow {p : Nat → Nat → Bool} {v : Nat} {M : Nat → Bool} {n b : Nat} (h : b < n) : (rowsU p v M n).set b (growL (rowU p v M b) (v : Int)) = rowsU p v (putB M b) n := by
  apply List.ext_getElem
  · simp [rowsU]
  · intro i h1 h2
    rw [List.getElem_set]
    have hi : i < n := by simpa [rowsU] using h2
    by_cases e : b = i
    · subst e
      rw [if_pos rfl, rowU_grow]
      simp [rowsU]
    · rw [if_neg e]
      simp only [rowsU, List.getElem_map, List.getElem_range, rowU, putB]
      have : (i == b) = false := by simpa using fun h => e h.symm
      rw [this, Bool.or_false]
theorem rowsU_len_le {p : Nat → Nat → Bool} {v : Nat} {M : Nat → Bool} {n : Nat} : ∀ Z ∈ rowsU p v M n, Z.length ≤ v + 1 := by
  intro Z hZ
  unfold rowsU at hZ
  obtain ⟨b, _, rfl⟩ := List.mem_map.1 hZ
  unfold rowU
  rw [List.length_append]
  have := risingU_len (fun u => p u b) v
  split <;> simp <;> omega
theorem rowsU_next (p : Nat → Nat → Bool) (v : Nat) (M : Nat → Bool) (n : Nat) (h : ∀ b, b < n → M b = p v b) : rowsU p v M n = rowsU p (v + 1) (fun _ => false) n := by
  unfold rowsU
  apply List.map_congr_left
  intro b hb
  rw [List.mem_range] at hb
  unfold rowU
  rw [risingU_more, h b hb]
  simp
theorem rowsU_start (p : Nat → Nat → Bool) (n : Nat) : rowsU p 0 (fun _ => false) n = List.replicate n [] := by
  apply List.ext_getElem
  · simp [rowsU]
  · intro i h1 h2
    simp [rowsU, rowU, risingU]
theorem rowsU_end (p : Nat → Nat → Bool) (v : Nat) (n : Nat) : rowsU p v (fun _ => false) n = (List.range n).map fun b => risingU (fun u => p u b) v := by
  unfold rowsU rowU
  simp
theorem OwnsI.offX {X : Nat → Prop} {W W' : World} {B : Nat} {e : TypeId} {v : Value} {Z : List Int} (h : OwnsI W B e v Z) (hoff : Off X W W') (hk : ∀ k, v.ownBlock = some k → ¬ X k) : OwnsI W' B e v Z := by
  refine ⟨h.1, ?_⟩
  rcases h.2 with hn | ⟨g, cap, cur, rfl, hB, hh, rest⟩
  · exact .inl hn
  · exact .inr ⟨g, cap, cur, rfl, hB, (hoff.block g (Array.getElem?_eq_some_iff.1 hh).1 (hk g rfl)).trans hh, rest⟩
section
variable {B bx g n i : Nat} {X : Nat → Prop} {W W' : World} {vs : List Value} {Zs : List (List Int)}
theorem SetU.offX (h : SetU B bx g n W vs Zs) (hoff : Off X W W') (hX : ∀ k, X k → ¬ OG g n W k ∧ k ≠ bx) : SetU B bx g n W' vs Zs := by
  have hg : ¬ X g := fun e => (hX g e).1 (.inl rfl)
  refine ⟨(hoff.block bx h.box.lt (fun e => (hX bx e).2 rfl)).trans h.box, ⟨?_, h.row.len, fun j h1 h2 => ?_, h.row.apart⟩, h.len⟩
  · refine ⟨h.row.row.1, ?_⟩
    rcases h.row.row.2 with hn | ⟨g', cap, cur, e, hB, hh, rest⟩
    · exact .inl hn
    · cases e
      exact .inr ⟨_, _, cur, rfl, hB, (hoff.block _ (Array.getElem?_eq_some_iff.1 hh).1 hg).trans hh, rest⟩
  · exact (h.row.own j h1 h2).offX hoff (fun k hk e => (hX k e).1 (h.og.2 (.inr ⟨j, h1, hk⟩)))
theorem SetU.elem_lt (h : SetU B bx g n W vs Zs) {j : Nat} (hj : j < vs.length) {k : Nat} (hk : (vs[j]).ownBlock = some k) : ∃ cur, W.heap[k]? = some (.cells cur 3 (0, 0)) ∧ k < W.heap.size := by
  obtain ⟨cur, hc, _⟩ := ownsI_blk (h.row.own j hj (by rw [← h.row.len]; exact hj)) hk
  exact ⟨cur, hc, (Array.getElem?_eq_some_iff.1 hc).1⟩
end
structure Duo (W0 W : World) (n Bn bn gn Bl bl gl : Nat) (vsN : List Value) (ZN : List (List Int)) (vsL : List Value) (ZL : List (List Int)) : Prop where
  nd : SetU Bn bn gn n W vsN ZN
  lf : SetU Bl bl gl n W vsL ZL
  off : Off (fun k => k = gn ∨ k = gl) W0 W
  newN : ∀ j (h : j < vsN.length) k, (vsN[j]).ownBlock = some k → W0.heap.size ≤ k
  newL : ∀ j (h : j < vsL.length) k, (vsL[j]).ownBlock = some k → W0.heap.size ≤ k
  apart : ∀ j (h : j < vsN.length) q (h' : q < vsL.length) k, (vsN[j]).ownBlock = some k → (vsL[q]).ownBlock ≠ some k
  low : gn < W0.heap.size ∧ gl < W0.heap.size ∧ bn < W0.heap.size ∧ bl < W0.heap.size ∧ gn ≠ gl ∧ Bn ≤ W0.heap.size ∧ Bl ≤ W0.heap.size
section
variable {W0 W W' : World} {n Bn bn gn Bl bl gl : Nat} {vsN : List Value} {ZN ZN' : List (List Int)} {vsL : List Value} {ZL : List (List Int)}
theorem Duo.swap (h : Duo W0 W n Bn bn gn Bl bl gl vsN ZN vsL ZL) : Duo W0 W n Bl bl gl Bn bn gn vsL ZL vsN ZN :=
  ⟨h.lf, h.nd, h.off.mono (fun k _ hk => hk.symm), h.newL, h.newN, fun j hj q hq k hk e => h.apart q hq j hj k e hk, ⟨h.low.2.1, h.low.1, h.low.2.2.2.1, h.low.2.2.1, fun e => h.low.2.2.2.2.1 e.symm, h.low.2.2.2.2.2.2, h.low.2.2.2.2.2.1⟩⟩
theorem Duo.offX {X : Nat → Prop} (h : Duo W0 W n Bn bn gn Bl bl gl vsN ZN vsL ZL) (hoff : Off X W W') (hX : ∀ k, X k → W0.heap.size ≤ k ∧ (∀ j (hj : j < vsN.length), (vsN[j]).ownBlock ≠ some k) ∧ ∀ j (hj : j < vsL.length), (vsL[j]).ownBlock ≠ some k) : Duo W0 W' n Bn bn gn Bl bl gl vsN ZN vsL ZL := by
  refine ⟨h.nd.offX hoff (fun k hk => ⟨fun e => ?_, ?_⟩), h.lf.offX hoff (fun k hk => ⟨fun e => ?_, ?_⟩), h.off.trans_new hoff (fun k hk => .inr (hX k hk).1), h.newN, h.newL, h.apart, h.low⟩
  · rcases h.nd.og.1 e with e | ⟨j, hj, e⟩
    · have := (hX k hk).1; have := h.low.1; omega
    · exact (hX k hk).2.1 j hj e
  · have := (hX k hk).1; have := h.low.2.2.1; omega
  · rcases h.lf.og.1 e with e | ⟨j, hj, e⟩
    · have := (hX k hk).1; have := h.low.2.1; omega
    · exact (hX k hk).2.2 j hj e
  · have := (hX k hk).1; have := h.low.2.2.2.1; omega
theorem Duo.since (h : Duo W0 W n Bn bn gn Bl bl gl vsN ZN vsL ZL) (hb : Below W.heap.size W W') : Duo W0 W' n Bn bn gn Bl bl gl vsN ZN vsL ZL :=
  h.offX (X := fun _ => False) (Off.since hb) (fun k hk => hk.elim)
theorem Duo.grow {b : Nat} {v' : Value} (h : Duo W0 W n Bn bn gn Bl bl gl vsN ZN vsL ZL) (hs : SetU Bn bn gn n W' (vsN.set b v') ZN') (hoff : Off (GrowX gn vsN b) W W') (hw : ∀ k, v'.ownBlock = some k → (∃ h : b < vsN.length, (vsN[b]).ownBlock = some k) ∨ W.heap.size ≤ k) : Duo W0 W' n Bn bn gn Bl bl gl (vsN.set b v') ZN' vsL ZL := by
  have hX : ∀ k, GrowX gn vsN b k → k = gn ∨ (W0.heap.size ≤ k ∧ ∃ hb : b < vsN.length, (vsN[b]).ownBlock = some k) := fun k hk => by
    rcases hk with ⟨hb, hk⟩ | e
    · exact .inr ⟨h.newN b hb k hk, hb, hk⟩
    · exact .inl e
  refine ⟨hs, h.lf.offX hoff (fun k hk => ⟨fun e => ?_, fun e => ?_⟩), h.off.trans_new hoff (fun k hk => ?_), fun j hj k hk => ?_, h.newL, fun j hj q hq k hk e => ?_, h.low⟩
  · rcases hX k hk with e1 | ⟨h1, hb, h2⟩
    · rcases h.lf.og.1 e with e2 | ⟨j, hj, e2⟩
      · exact h.low.2.2.2.2.1 (e1.symm.trans e2)
      · have := h.newL j hj k e2; have := h.low.1; omega
    · rcases h.lf.og.1 e with e2 | ⟨j, hj, e2⟩
      · have := h.low.2.1; omega
      · exact h.apart b hb j hj k h2 e2
  · rcases hX k hk with e1 | ⟨h1, hb, h2⟩
    · obtain ⟨cur, hc, _⟩ := h.nd.blk
      have hb : W.heap[bl]? = _ := h.lf.box
      rw [← e, e1, hc] at hb
      cases hb
    · have := h.low.2.2.2.1; omega
  · rcases hX k hk with e1 | ⟨h1, _⟩
    · exact .inl (.inl e1)
    · exact .inr h1
  · rw [List.length_set] at hj
    rw [List.getElem_set] at hk
    split at hk
    · rcases hw k hk with ⟨hb, h1⟩ | h1
      · exact h.newN b hb k h1
      · exact Nat.le_trans h.off.size h1
    · exact h.newN j hj k hk
  · rw [List.length_set] at hj
    rw [List.getElem_set] at hk
    split at hk
    · rcases hw k hk with ⟨hb, h1⟩ | h1
      · exact h.apart b hb q hq k h1 e
      · obtain ⟨_, _, h2⟩ := h.lf.elem_lt hq e; omega
    · exact h.apart j hj q hq k hk e
end
structure Rch (W0 W : World) (bv br v : Nat) (rv : Value) (R : List Int) (vsN vsL : List Value) : Prop where
  val : Boxed W bv 3 (.int .i64 (v : Int))
  box : Boxed W br 34 rv
  own : OwnsI W W0.heap.size 3 rv R
  ge : W0.heap.size ≤ bv ∧ W0.heap.size ≤ br
  aN : ∀ j (h : j < vsN.length) k, (vsN[j]).ownBlock = some k → rv.ownBlock ≠ some k ∧ k ≠ bv
  aL : ∀ j (h : j < vsL.length) k, (vsL[j]).ownBlock = some k → rv.ownBlock ≠ some k ∧ k ≠ bv
  ne : rv.ownBlock ≠ some bv
section
variable {W0 W W' : World} {n Bn bn gn Bl bl gl bv br v b : Nat} {vsN : List Value} {ZN : List (List Int)} {vsL : List Value} {ZL : List (List Int)} {rv v' : Value} {R : List Int}
theorem Rch.swap (h : Rch W0 W bv br v rv R vsN vsL) : Rch W0 W bv br v rv R vsL vsN := ⟨h.val, h.box, h.own, h.ge, h.aL, h.aN, h.ne⟩
theorem Rch.since (h : Rch W0 W bv br v rv R vsN vsL) (hb : Below W.heap.size W W') : Rch W0 W' bv br v rv R vsN vsL :=
  ⟨(hb.block _ h.val.lt).trans h.val, (hb.block _ h.box.lt).trans h.box, h.own.below hb, h.ge, h.aN, h.aL, h.ne⟩
theorem Rch.bne (h : Rch W0 W bv br v rv R vsN vsL) : rv.ownBlock ≠ some br ∧ br ≠ bv := by
  have hb : W.heap[br]? = _ := h.box
  refine ⟨fun e => ?_, fun e => ?_⟩
  · obtain ⟨cur, hc, _⟩ := ownsI_blk h.own e
    rw [hb] at hc; cases hc
  · have hv : W.heap[bv]? = _ := h.val
    rw [← e, hb] at hv; cases hv
theorem Rch.grow (h : Rch W0 W bv br v rv R vsN vsL) (hd : Duo W0 W n Bn bn gn Bl bl gl vsN ZN vsL ZL) (hoff : Off (GrowX gn vsN b) W W') (hw : ∀ k, v'.ownBlock = some k → (∃ h : b < vsN.length, (vsN[b]).ownBlock = some k) ∨ W.heap.size ≤ k) : Rch W0 W' bv br v rv R (vsN.set b v') vsL := by
  have hX : ∀ k, GrowX gn vsN b k → k ≠ bv ∧ k ≠ br ∧ rv.ownBlock ≠ some k := fun k hk => by
    rcases hk with ⟨hb, hk⟩ | e
    · refine ⟨(h.aN b hb k hk).2, fun e => ?_, (h.aN b hb k hk).1⟩
      obtain ⟨cur, hc, _⟩ := hd.nd.elem_lt hb hk
      have hbx : W.heap[br]? = _ := h.box
      rw [← e, hc] at hbx; cases hbx
    · have h1 := hd.low.1
      have h2 := h.ge
      refine ⟨by omega, by omega, fun e' => ?_⟩
      have := (h.own.lt k e').1
      omega
  refine ⟨(hoff.block _ h.val.lt (fun e => (hX _ e).1 rfl)).trans h.val, (hoff.block _ h.box.lt (fun e => (hX _ e).2.1 rfl)).trans h.box, h.own.offX hoff (fun k hk e => (hX k e).2.2 hk), h.ge, fun j hj k hk => ?_, h.aL, h.ne⟩
  rw [List.length_set] at hj
  rw [List.getElem_set] at hk
  split at hk
  · rcases hw k hk with ⟨hb, h1⟩ | h1
    · exact h.aN b hb k h1
    · refine ⟨fun e => ?_, fun e => ?_⟩
      · have := (h.own.lt k e).2; omega
      · have := h.val.lt; omega
  · exact h.aN j hj k hk
theorem Rch.push {U w1 : World} {R' : List Int} (h : Rch W0 W bv br v rv R vsN vsL) (hd : Duo W0 W n Bn bn gn Bl bl gl vsN ZN vsL ZL) (hU : Below W.heap.size W U) (hg : U.grownBy w1 rv.ownBlock) (ho : OwnsI w1 W0.heap.size 3 v' R') (hw : ∀ k, v'.ownBlock = some k → rv.ownBlock = some k ∨ W.heap.size ≤ k) :
    w1.cell? ⟨br, 0, none⟩ = some rv ∧ w1.frozen? ⟨br, 0, none⟩ = false ∧ Duo W0 (w1.setCell ⟨br, 0, none⟩ v') n Bn bn gn Bl bl gl vsN ZN vsL ZL ∧ Rch W0 (w1.setCell ⟨br, 0, none⟩ v') bv br v v' R' vsN vsL := by
  have hoff : Off (fun k => rv.ownBlock = some k) W w1 := (Off.since hU).grown hg (fun k hk => .inl hk)
  have hb1 : Boxed w1 br 34 rv := (hoff.block _ h.box.lt h.bne.1).trans h.box
  have hoff2 : Off (fun k => rv.ownBlock = some k ∨ k = br) W (w1.setCell ⟨br, 0, none⟩ v') := (hoff.mono (fun k _ hk => .inl hk)).setCell (.inl (.inr rfl)) v'
  have hnb : ∀ k, v'.ownBlock = some k → k ≠ br := fun k hk e => by
    subst e
    rcases hw k hk with h1 | h1
    · exact h.bne.1 h1
    · have := h.box.lt; omega
  refine ⟨hb1.cell, hb1.frozen, hd.offX hoff2 (fun k hk => ?_), ?_⟩
  · rcases hk with hk | hk
    · exact ⟨(h.own.lt k hk).1, fun j hj e => (h.aN j hj k e).1 hk, fun j hj e => (h.aL j hj k e).1 hk⟩
    · subst hk
      have hb : W.heap[k]? = _ := h.box
      refine ⟨h.ge.2, fun j hj e => ?_, fun j hj e => ?_⟩
      · obtain ⟨cur, hc, _⟩ := hd.nd.elem_lt hj e
        rw [hb] at hc; cases hc
      · obtain ⟨cur, hc, _⟩ := hd.lf.elem_lt hj e
        rw [hb] at hc; cases hc
  · have hlt : ∀ {k : Nat}, v'.ownBlock = some k → ∀ {vs : List Value} {Zs : List (List Int)} {B' bx' g' : Nat}, SetU B' bx' g' n W vs Zs → (∀ j (hj : j < vs.length) q, (vs[j]).ownBlock = some q → rv.ownBlock ≠ some q) → ∀ j (hj : j < vs.length), (vs[j]).ownBlock ≠ some k := by
      intro k hk vs Zs B' bx' g' hs ha j hj e
      rcases hw k hk with h1 | h1
      · exact ha j hj k e h1
      · obtain ⟨_, _, h2⟩ := hs.elem_lt hj e; omega
    refine ⟨(hoff2.block _ h.val.lt (fun e => ?_)).trans h.val, hb1.set v', ?_, h.ge, fun j hj k hk => ⟨fun e => hlt e hd.nd (fun j hj q hq => (h.aN j hj q hq).1) j hj hk, (h.aN j hj k hk).2⟩, fun j hj k hk => ⟨fun e => hlt e hd.lf (fun j hj q hq => (h.aL j hj q hq).1) j hj hk, (h.aL j hj k hk).2⟩, fun e => ?_⟩
    · rcases e with e | e
      · exact h.ne e
      · exact h.bne.2 e.symm
    · exact ho.offX (X := fun k => k = br) ((Off.refl (fun k => k = br) w1).setCell (p := ⟨br, 0, none⟩) (.inl rfl) v') (fun k hk => hnb k hk)
    · rcases hw bv e with h1 | h1
      · exact h.ne h1
      · have := h.val.lt; omega
end
end Go.Proofs.YtdchhfdmingnaaaDoor

/- Layer 13: package uses' Of: where a value is used. -/
namespace Go.Proofs.YtdchhfdmingnaaaDoor
open Go.RowKit
set_option linter.unusedVariables false
set_option linter.unusedSimpArgs false
attribute [local go_sem] Oper.semAt_some
def flatSi (l : List SiteU) : List Value := l.flatMap fun s => [.int .i64 0, .int .i64 (s.1 : Int), .int .i64 (s.2 : Int)]
def OwnsSi (w : World) (B : Nat) (v : Value) (l : List SiteU) : Prop := w.ownsRow B 41 3 v l.length (flatSi l)
theorem info_site : (Tryd.prog.info? 41).map (fun i => (i.zero, i.size, i.bytes)) = some (some (.agg #[.int .i64 0, .int .i64 0, .int .i64 0]), 3, 24) := by kernel_rfl
theorem flatSi_len (l : List SiteU) : (flatSi l).length = l.length * 3 := by
  induction l with
  | nil => rfl
  | cons x l ih => simp only [flatSi, List.flatMap_cons, List.length_append, List.length_cons, List.length_nil] at *; omega
theorem flatSi_more (l : List SiteU) (s : SiteU) : flatSi (l ++ [s]) = flatSi l ++ [.int .i64 0, .int .i64 (s.1 : Int), .int .i64 (s.2 : Int)] := by simp [flatSi]
theorem OwnsSi.slice {w : World} {B : Nat} {v : Value} {l : List SiteU} (h : OwnsSi w B v l) : ∃ va vc, v = .slice va l.length vc := by
  rcases h.2 with ⟨e, h0⟩ | ⟨g, cap, cur, e, _⟩
  · exact ⟨none, 0, by rw [h0]; exact e⟩
  · exact ⟨_, _, e⟩
theorem wpListIn_append_site {F : Fence} {n : Nat} (w : World) {ops : Array Oper} {rest : List Oper} {o : Oper} {a : Act} {Q : Exit → Act → World → Prop} (hgd : o.guard = none) (s x : Operand)
    (ho : o.op = .call { callee := .builtin .append, args := #[s, x], argTypes := #[37, 37] })
    (B : Nat) (v : Value) (l : List SiteU) (hs : a.eval s = v) (hown : OwnsSi w B v l) (hB : B ≤ w.heap.size)
    (C : Array Value) (c g : Nat) (z : SiteU) (hx : a.eval x = .slice (some ⟨g, 0, none⟩) 1 c) (hg : g = w.heap.size) (hC : C = #[.int .i64 0, .int .i64 (z.1 : Int), .int .i64 (z.2 : Int)])
    (hlen : l.length ≤ 1000000)
    (h : ∀ va vn vc w', OwnsSi w' B (.slice va vn vc) (l ++ [z]) → (w.alloc (.cells C 41)).grownBy w' v.ownBlock → (∀ i, (Value.slice va vn vc).ownBlock = some i → v.ownBlock = some i ∨ w.heap.size ≤ i) → wpListIn F n Tryd.prog ops Q rest (a.put o.dst (.slice va vn vc)) w') : wpListIn F n Tryd.prog ops Q (o :: rest) a (w.alloc (.cells C 41)) := by
  obtain ⟨i0, hi, hz0, hz1, hz2⟩ := info_parts info_site
  subst hC hg
  have hown1 : (w.alloc (.cells #[.int .i64 0, .int .i64 (z.1 : Int), .int .i64 (z.2 : Int)] 41)).ownsRow B 41 3 v l.length (flatSi l) := World.ownsRow.alloc hown _
  refine wpListIn_plain hgd fun K hK' => ?_
  obtain ⟨v', w', hrun, r1, r2, _, r4⟩ := run_append_own_at (P := Tryd.prog) (w := w.alloc (.cells #[.int .i64 0, .int .i64 (z.1 : Int), .int .i64 (z.2 : Int)] 41)) B 37 o.type 41 i0 (.agg #[.int .i64 0, .int .i64 0, .int .i64 0]) 3 24 Tryd.underlying37 hi hz0 hz1 hz2 rfl (by decide) v l.length (flatSi l) hown1 ⟨w.heap.size, 0, none⟩ 1 c [.int .i64 0, .int .i64 (z.1 : Int), .int .i64 (z.2 : Int)] rfl (fun j u hu => by
    rw [addr_plain, Nat.zero_add, World.cell?_alloc_mark]
    simpa using hu) (by intro u hu; simp at hu; rcases hu with rfl | rfl | rfl <;> rfl) (by unfold maxLen; omega) (by omega) (by simp; omega)
  have hown2 : OwnsSi w' B v' (l ++ [z]) := by
    show w'.ownsRow B _ 3 v' (l ++ [z]).length (flatSi (l ++ [z]))
    rw [flatSi_more, List.length_append]
    exact r1
  obtain ⟨va, vc, rfl⟩ := hown2.slice
  unfold Oper.wpIn
  refine ⟨?_, ?_⟩
  · simp [Oper.about, ho, resolve, Target.leads, Sem.run_pure]
  · rw [Oper.semAt_plain F _ _ (by rw [ho]; intro c hc'; cases hc')]
    simp [execOp, ho, resolve, invoke, builtin, hs, hx, hrun, Result.andThen]
    refine hK' _ _ ?_
    have := h va (l ++ [z]).length vc w' hown2 r2 (fun i hi' => by
      rcases r4 with e | e
      · exact .inl (e ▸ hi')
      · rw [e] at hi'; cases hi'; exact .inr (by simp))
    simpa using this
def OB (B : Nat) (W : World) (i : Nat) : Prop := i = B ∨ ∃ v, W.cell? ⟨B, 0, none⟩ = some v ∧ v.ownBlock = some i
theorem steady_OB (B : Nat) : SteadyO (OB B) := by
  intro W W' row hg hl hr i
  have hc : W'.cell? ⟨B, 0, none⟩ = W.cell? ⟨B, 0, none⟩ := World.cell?_of_block (hg.block B (hl.lt (.inl rfl)) (fun e => hr B e.symm (.inl rfl)))
  unfold OB
  rw [hc]
structure OfSt (w : World) (bx b3 : Nat) (x : Int) (W : World) (v : Value) (l : List SiteU) : Prop where
  box : Boxed W bx 37 v
  own : OwnsSi W w.heap.size v l
  val : W.cell? ⟨b3, 0, none⟩ = some (.int .i64 x)
  bel : Below w.heap.size w W
  ne : b3 ≠ bx ∧ v.ownBlock ≠ some b3 ∧ v.ownBlock ≠ some bx ∧ w.heap.size ≤ bx
theorem OfSt.ob {w W : World} {bx b3 : Nat} {x : Int} {v : Value} {l : List SiteU} (h : OfSt w bx b3 x W v l) {k : Nat} : OB bx W k ↔ k = bx ∨ v.ownBlock = some k := by
  unfold OB
  rw [h.box.cell]
  simp
theorem OfSt.blk {w W : World} {bx b3 : Nat} {x : Int} {v : Value} {l : List SiteU} (h : OfSt w bx b3 x W v l) {k : Nat} (hk : v.ownBlock = some k) : (∃ cur, W.heap[k]? = some (.cells cur 41 (0, 0))) ∧ w.heap.size ≤ k ∧ k < W.heap.size := by
  rcases h.own.2 with ⟨e, _⟩ | ⟨g, cap, cur, e, hB, hh, _⟩
  · subst e; cases hk
  · subst e; cases hk; exact ⟨⟨cur, hh⟩, hB, (Array.getElem?_eq_some_iff.1 hh).1⟩
theorem OfSt.lies {w W : World} {bx b3 : Nat} {x : Int} {v : Value} {l : List SiteU} (h : OfSt w bx b3 x W v l) : LiesO (OB bx) W := by
  intro k hk
  rcases h.ob.1 hk with rfl | hk
  · exact ⟨_, h.box, rfl⟩
  · obtain ⟨⟨cur, hc⟩, _⟩ := h.blk hk
    exact ⟨_, hc, rfl⟩
theorem OfSt.grown {w W W' : World} {bx b3 : Nat} {x : Int} {v : Value} {l : List SiteU} (h : OfSt w bx b3 x W v l) {row : Option Nat} (hg : W.grownBy W' row) (hr : ∀ r, row = some r → ¬ OB bx W r ∧ r ≠ b3 ∧ w.heap.size ≤ r) : OfSt w bx b3 x W' v l := by
  have h3 : b3 < W.heap.size := World.block_lt_of_cell? (a := ⟨b3, 0, none⟩) _ h.val
  refine ⟨(hg.block bx h.box.lt (fun e => (hr bx e.symm).1 (.inl rfl))).trans h.box, ?_, (World.cell?_of_block (a := ⟨b3, 0, none⟩) (hg.block b3 h3 (fun e => (hr b3 e.symm).2.1 rfl))).trans h.val, Below.grown h.bel hg h.bel.size (fun k hk => (hr k hk).2.2), h.ne⟩
  refine World.ownsRow.kept h.own hg ?_
  by_cases hv : v.ownBlock = none
  · exact .inl hv
  · refine .inr fun e => ?_
    obtain ⟨k, hk⟩ := Option.ne_none_iff_exists'.1 hv
    exact (hr k (by rw [← e]; exact hk)).1 (h.ob.2 (.inr hk))
end Go.Proofs.YtdchhfdmingnaaaDoor

/- Layer 13: package uses' Of, walked. -/
namespace Go.Proofs.YtdchhfdmingnaaaDoor
open Go.RowKit
set_option linter.unusedVariables false
set_option linter.unusedSimpArgs false
attribute [local go_sem] Oper.semAt_some
theorem ofL_len (x : Int) : ∀ (xs : List UseU) (s : List SiteU), (xs.foldl (ofStep x) s).length ≤ s.length + xs.length
  | [], s => by simp
  | y :: xs, s => by
    rw [List.foldl_cons]
    have h1 := ofL_len x xs (ofStep x s y)
    have h2 : (ofStep x s y).length ≤ s.length + 1 := by unfold ofStep; split <;> simp
    rw [List.length_cons]
    omega
theorem OfSt.push {w W U w1 : World} {bx b3 : Nat} {x : Int} {v v' : Value} {l l' : List SiteU} (h : OfSt w bx b3 x W v l) (hU : Below W.heap.size W U) (hg : U.grownBy w1 v.ownBlock) (ho : OwnsSi w1 w.heap.size v' l') (hw : ∀ k, v'.ownBlock = some k → v.ownBlock = some k ∨ W.heap.size ≤ k) :
    w1.cell? ⟨bx, 0, none⟩ = some v ∧ w1.frozen? ⟨bx, 0, none⟩ = false ∧ KeepO (OB bx) W (w1.setCell ⟨bx, 0, none⟩ v') ∧ OfSt w bx b3 x (w1.setCell ⟨bx, 0, none⟩ v') v' l' := by
  have hoff : Off (fun k => v.ownBlock = some k) W w1 := (Off.since hU).grown hg (fun k hk => .inl hk)
  have hb1 : Boxed w1 bx 37 v := (hoff.block _ h.box.lt h.ne.2.2.1).trans h.box
  have hoff2 : Off (fun k => v.ownBlock = some k ∨ k = bx) W (w1.setCell ⟨bx, 0, none⟩ v') := (hoff.mono (fun k _ hk => .inl hk)).setCell (p := ⟨bx, 0, none⟩) (.inl (.inr rfl)) v'
  have h3 : b3 < W.heap.size := World.block_lt_of_cell? (a := ⟨b3, 0, none⟩) _ h.val
  have hn : b3 ≠ bx ∧ v'.ownBlock ≠ some b3 ∧ v'.ownBlock ≠ some bx ∧ w.heap.size ≤ bx := by
    refine ⟨h.ne.1, fun e => ?_, fun e => ?_, h.ne.2.2.2⟩
    · rcases hw _ e with h1 | h1
      · exact h.ne.2.1 h1
      · omega
    · rcases hw _ e with h1 | h1
      · exact h.ne.2.2.1 h1
      · have := h.box.lt; omega
  have hown : OwnsSi (w1.setCell ⟨bx, 0, none⟩ v') w.heap.size v' l' := by
    refine ⟨ho.1, ?_⟩
    rcases ho.2 with hn' | ⟨g, cap, cur, e, hB, hh, rest⟩
    · exact .inl hn'
    · refine .inr ⟨g, cap, cur, e, hB, ?_, rest⟩
      rw [Below.heap_setCell _ _ _ _ (fun e' => hn.2.2.1 (by rw [e]; show some g = some bx; rw [show g = bx from e']))]
      exact hh
  have hX : ∀ k, (v.ownBlock = some k ∨ k = bx) → w.heap.size ≤ k := fun k hk => by
    rcases hk with hk | hk
    · exact (h.blk hk).2.1
    · rw [hk]; exact h.ne.2.2.2
  have hfin : OfSt w bx b3 x (w1.setCell ⟨bx, 0, none⟩ v') v' l' :=
    ⟨hb1.set v', hown, (hoff2.cell (p := ⟨b3, 0, none⟩) h3 (fun e => by rcases e with e | e; exact h.ne.2.1 e; exact h.ne.1 e)).trans h.val, h.bel.trans (hoff2.below h.bel.size hX), hn⟩
  refine ⟨hb1.cell, hb1.frozen, ⟨hoff2.size, fun k hk hno => hoff2.block k hk (fun e => hno (h.ob.2 (e.elim .inr .inl))), fun k hk hlt => ?_, hoff2.os, hoff2.tape, hoff2.output⟩, hfin⟩
  rcases hfin.ob.1 hk with e | e
  · exact h.ob.2 (.inl e)
  · rcases hw k e with h1 | h1
    · exact h.ob.2 (.inr h1)
    · omega
theorem site_in (w : World) (d : Nat) (a b c e : Int) : (Op.equalIn (d + 2) 41 (.agg #[.int .i64 0, .int .i64 a, .int .i64 b]) (.agg #[.int .i64 0, .int .i64 c, .int .i64 e])).run Tryd.prog w = .ok (decide (a = c ∧ b = e)) w := by
  rw [show d + 2 = (d + 1) + 1 from rfl, run_equalIn_struct w (d + 1) 41 _ _ (by kernel_rfl) (by kernel_rfl)]
  have hf : (Tryd.prog.fieldsOf 41).toList = [⟨"Fun", 3, 0, false, "", "", 0⟩, ⟨"Block", 3, 1, false, "", "", 8⟩, ⟨"At", 3, 2, false, "", "", 16⟩] := by simp [Program.fieldsOf, Tryd.underlying41]
  rw [hf]
  simp [Op.eqFields, go_sem]
  by_cases h1 : a = c <;> by_cases h2 : b = e <;> simp [h1, h2]
theorem site_ne (w : World) (a b c e : Int) : (binOp .neq 41 (.agg #[.int .i64 0, .int .i64 a, .int .i64 b]) (.agg #[.int .i64 0, .int .i64 c, .int .i64 e])).run Tryd.prog w = .ok (.bool (!decide (a = c ∧ b = e))) w := by
  simp only [binOp]
  simp [Op.equal, Op.maxDepth, site_in w 9998]
theorem siteCells {w : World} {B : Nat} {va : Option Addr} {n vc : Nat} {L0 : List SiteU} {s : SiteU} (h : OwnsSi w B (.slice va n vc) (L0 ++ [s])) : ∃ g, va = some ⟨g, 0, none⟩ ∧ w.cell? ⟨g, L0.length * 3, none⟩ = some (.int .i64 0) ∧ w.cell? ⟨g, L0.length * 3 + 1, none⟩ = some (.int .i64 (s.1 : Int)) ∧ w.cell? ⟨g, L0.length * 3 + 2, none⟩ = some (.int .i64 (s.2 : Int)) := by
  have h0 : w.ownsRow B 41 3 (.slice va n vc) (L0 ++ [s]).length (flatSi (L0 ++ [s])) := h
  rcases h.2 with ⟨e, h1⟩ | ⟨g, cap, cur, e, _⟩
  · simp at h1
  · simp only [Value.slice.injEq] at e
    have hva := e.1
    subst hva
    have hl := flatSi_len L0
    have hc : ∀ j, j < 3 → (flatSi (L0 ++ [s]))[L0.length * 3 + j]? = ([.int .i64 0, .int .i64 (s.1 : Int), .int .i64 (s.2 : Int)] : List Value)[j]? := fun j hj => by
      rw [flatSi_more, List.getElem?_append_right (by omega), hl]
      congr 1
      omega
    have hk : ∀ j v, ([.int .i64 0, .int .i64 (s.1 : Int), .int .i64 (s.2 : Int)] : List Value)[j]? = some v → j < 3 → w.cell? ⟨g, L0.length * 3 + j, none⟩ = some v := fun j v hv hj => by
      have := World.ownsRow.cells h0 rfl _ _ ((hc j hj).trans hv)
      rwa [addr_plain, Nat.zero_add] at this
    exact ⟨g, rfl, hk 0 _ rfl (by omega), hk 1 _ rfl (by omega), hk 2 _ rfl (by omega)⟩
def SitesPost (l : List SiteU) (w : World) (e : Ending) (w' : World) : Prop := ∃ va vc, e = .returned (.slice va l.length vc) ∧ OwnsSi w' w.heap.size (.slice va l.length vc) l ∧ Below w.heap.size w w'
set_option maxRecDepth 100000 in
set_option maxHeartbeats 4000000 in
theorem of_any (r : Int) (a : Option Addr) (n c : Nat) (f : FuncD) (x : Int) (w : World) (hq : FuncQ w [.int .i64 r, .slice a n c] f) (hft : FT w) (hsm : SmU f) (hN : (usesU f).length ≤ 900000) :
    Calls Tryd.prog 11 #[.agg #[.int .i64 r, .slice a n c], .int .i64 x] w (SitesPost (ofL x (usesU f)) w) := by
  have HQ := Lib.hid hq
  have HFT := Lib.hid hft
  have HSM := Lib.hid hsm
  have HN := Lib.hid hN
  clear hq hft hsm hN
  refine (callsIn_wide (n := 9)).1 ?_
  refine callsIn_of_wp_marks Tryd.func11 rfl trivial ?_ rfl
  simp only [Tryd.ntmps11, List.size_toArray, List.length_cons, List.length_nil, Nat.reduceAdd, Nat.reduceSub, Array.replicate_succ, Array.replicate_zero, List.push_toArray, List.append_toArray, List.nil_append, List.cons_append]
  gi_wp2_with (refine ⟨trivial, ?_⟩; gi_at_call 25; refine (callsIn_wide.2 (uuses_any r a n c _)).mono ?_; rintro e w' ⟨rfl, rfl⟩)
  obtain ⟨W0, hW0⟩ : ∃ W0, (((w.alloc (.cells #[.int .i64 r, .slice a n c] 30)).alloc (.cells #[.int .i64 x] 3)).alloc (.cells #[.slice none 0 0] 37)).alloc (.cells #[.int .i64 r, .slice a n c] 30) = W0 := ⟨_, rfl⟩
  have hz0 : W0.heap.size = w.heap.size + 4 := by rw [← hW0]; simp
  have hbw : Below w.heap.size w W0 := by rw [← hW0]; exact ((((Below.refl _ w).alloc (Nat.le_refl _) _).alloc (by simp) _).alloc (by simp <;> omega) _).alloc (by simp <;> omega) _
  have hcb : ∀ j, W0.cell? ⟨w.heap.size + 1 + 1 + 1, j, none⟩ = (#[.int .i64 r, .slice a n c] : Array Value)[j]? := by
    intro j
    rw [← hW0, show w.heap.size + 1 + 1 + 1 = (((w.alloc (.cells #[.int .i64 r, .slice a n c] 30)).alloc (.cells #[.int .i64 x] 3)).alloc (.cells #[.slice none 0 0] 37)).heap.size by simp]
    exact World.cell?_alloc_mark _ _ _ _ _
  have hbx : Boxed W0 (w.heap.size + 1 + 1) 37 (.slice none 0 0) := by
    rw [← hW0]
    have h := (Boxed.new ((w.alloc (.cells #[.int .i64 r, .slice a n c] 30)).alloc (.cells #[.int .i64 x] 3)) 37 (.slice none 0 0)).alloc (.cells #[.int .i64 r, .slice a n c] 30)
    rw [World.size_alloc, World.size_alloc] at h
    exact h
  have hvx : W0.cell? ⟨w.heap.size + 1, 0, none⟩ = some (.int .i64 x) := by
    have h : Boxed W0 (w.heap.size + 1) 3 (.int .i64 x) := by
      rw [← hW0]
      have h := ((Boxed.new (w.alloc (.cells #[.int .i64 r, .slice a n c] 30)) 3 (.int .i64 x)).alloc (.cells #[.slice none 0 0] 37)).alloc (.cells #[.int .i64 r, .slice a n c] 30)
      rw [World.size_alloc] at h
      exact h
    exact h.cell
  have HS0 : RowKit.Hid (OfSt w (w.heap.size + 1 + 1) (w.heap.size + 1) x W0 (.slice none 0 0) (ofL x [])) := Lib.hid
    ⟨hbx, World.ownsRow_nil _ _ _ 3, hvx, hbw, by omega, (fun e => by cases e), (fun e => by cases e), by omega⟩
  rw [hW0]
  clear hW0
  have hogn : ∀ k, OB (w.heap.size + 1 + 1) W0 k → k = w.heap.size + 1 + 1 := fun k hk => by
    rcases HS0.out.ob.1 hk with e | e
    · exact e
    · cases e
  have HZ0 := Lib.hid hz0
  have hseq := uses_seq (steady_OB (w.heap.size + 1 + 1)) r a n c f (w.heap.size + 1 + 1 + 1) w W0 HQ.out HFT.out HSM.out hbw hcb (fun e => by have := hogn _ e; omega) (fun i hi => by have := hogn i hi; omega) HS0.out.lies 8
  clear hbx hcb hbw hogn hz0 hvx
  refine wpIn_rangeFunc_O (steady_OB (w.heap.size + 1 + 1)) rfl (by omega) (gf := 36) (lb := #[.pointer (some ⟨w.heap.size + 1 + 1 + 1, 0, none⟩)]) rfl trivial (enters_of Tryd.func36 (by kernel_rfl) rfl) hseq (Below.refl _ _) (fun _ => rfl)
    (fun pre W => ∃ v, OfSt w (w.heap.size + 1 + 1) (w.heap.size + 1) x W v (ofL x pre)) (fun s W ⟨_, h⟩ => h.lies) ?hI ⟨_, HS0.out⟩
    (fun y a' W => ∃ p, a' = { tmps := #[.agg #[.int .i64 r, .slice a n c], .int .i64 x, .pointer (some ⟨w.heap.size, 0, none⟩), .pointer (some ⟨w.heap.size + 1, 0, none⟩), .slice none 0 0, .pointer (some ⟨w.heap.size + 1 + 1, 0, none⟩), .pointer (some ⟨p, 0, none⟩), .int .i64 y.2, undef, .agg #[.int .i64 r, .slice a n c], .func (.func 36) #[] #[.pointer (some ⟨w.heap.size + 1 + 1 + 1, 0, none⟩)], siteV y.1, .int .i64 y.2, undef, undef, undef, undef, undef, undef, undef, undef, undef, undef, undef, undef, undef, undef, undef, undef, undef, undef, undef, undef, undef, undef, undef], defers := [] } ∧ W.heap[p]? = some (.cells #[.int .i64 0, .int .i64 (y.1.1 : Int), .int .i64 (y.1.2 : Int)] 41 (0, 0))) ?hAx ?assign ?body ?ran
  case hI =>
    rintro s W W' row ⟨v, h⟩ hg hr
    exact ⟨v, h.grown hg (fun r e => by have h1 := (hr r e).1; have h2 := HZ0.out; exact ⟨(hr r e).2, by omega, by omega⟩)⟩
  case hAx =>
    rintro y a' W W' row ⟨p, rfl, hp⟩ hg hr
    refine ⟨p, rfl, (hg.block p (Array.getElem?_eq_some_iff.1 hp).1 (fun e => ?_)).trans hp⟩
    obtain ⟨o, ho, hc⟩ := hr p e.symm
    rw [hp] at ho
    cases ho
    cases hc
  case assign =>
    rintro l pre y W K' ⟨v, hS⟩ hK'
    have HS := Lib.hid hS
    clear hS
    gi_wp2
    refine hK' _ _ (KeepO.alloc (steady_OB _) HS.out.lies _) ⟨v, HS.out.grown (World.grownBy_alloc W _ none) (fun r e => by cases e)⟩ ⟨W.heap.size, rfl, World.alloc_heap_new _ _⟩
  case body =>
    rintro l pre y a' W hl0 _ ⟨v, hS⟩ ⟨p, rfl, hp⟩ hV hlen
    obtain ⟨va, vc, rfl⟩ := hS.own.slice
    have hll : (ofL x pre).length ≤ 900000 := by have h1 := ofL_len x pre []; have h2 := HN.out; unfold ofL; simp only [List.length_nil] at h1; omega
    have HMORE := Lib.hid (ofL_more x pre y)
    have hbc := hS.box.cell
    have hbf := hS.box.frozen
    have hvc := hS.val
    have hp0 : W.cell? ⟨p, 0, none⟩ = some (.int .i64 0) := by simp [World.cell?, hp]
    have hp1 : W.cell? ⟨p, 1, none⟩ = some (.int .i64 (y.1.1 : Int)) := by simp [World.cell?, hp]
    have hp2 : W.cell? ⟨p, 2, none⟩ = some (.int .i64 (y.1.2 : Int)) := by simp [World.cell?, hp]
    have HLL0 := Lib.hid hll
    have HS := Lib.hid hS
    clear hS hV hlen hl0 hp hseq HQ HFT HSM HN HS0
    generalize ofL x pre = L at *
    obtain ⟨⟨y1, y2⟩, y3⟩ := y
    simp only at hp1 hp2 HMORE ⊢
    have hmix : Tryd.prog.follows .mixedOrders = true := by kernel_rfl
    have hw1 : wrap64 ((L.length : Int) - 1) = (L.length : Int) - 1 := wrap_id (by omega) (by omega)
    by_cases hyx : y3 = x
    · have hne : (y3 == x) = true := by simpa using hyx
      rcases List.eq_nil_or_concat L with hL | ⟨L0, s, hL⟩
      · subst hL
        have HM : RowKit.Hid (ofL x (pre ++ [((y1, y2), y3)]) = [] ++ [(y1, y2)]) := Lib.hid (by rw [HMORE.out]; unfold ofStep; rw [if_pos ⟨hyx, by simp⟩])
        have HLL : RowKit.Hid (([] : List SiteU).length ≤ 1000000) := Lib.hid (by simp)
        simp only [List.length_nil] at hbc hw1
        have hw5 : wrap64 (0 - 1) = -1 := wrap_id (by omega) (by omega)
        have hw6 : wrap64 (-1) = -1 := wrap_id (by omega) (by omega)
        have HOU : RowKit.Hid (OwnsSi W w.heap.size (.slice va 0 vc) []) := Lib.hid HS.out.own
        clear hyx HMORE hll hw1
        gi_upto_region 6 with fail
        refine wpIn_region_quietC hmix (by kernel_rfl) (by kernel_rfl) ?_
        clear hmix
        repeat (go_big_quiet_step (fail))
        refine wpQuiet_nil ?_
        intro _ hw'
        obtain ⟨nq, hw''⟩ := hw'
        subst hw''
        have HUQ : RowKit.Hid (OwnsSi (W.drewN nq) w.heap.size (.slice va 0 vc) [] ∧ w.heap.size ≤ (W.drewN nq).heap.size) := Lib.hid ⟨HOU.out, HS.out.bel.size⟩
        gi_wp2_with (gi_at_builtin; refine wpListIn_append_site _ rfl _ _ rfl w.heap.size (.slice va 0 vc) [] ?_ ?_ ?_ _ 1 W.heap.size (y1, y2) ?_ ?_ ?_ ?_ ?_; (next => rfl); (next => exact (HUQ.out.1)); (next => exact HUQ.out.2); (next => rfl); (next => rfl); (next => rfl); (next => exact HLL.out); intro xa xn xc w5 ho5 hg5 hw5; have HP := Lib.hid (HS.out.push (((below_drewN nq (Below.refl _ _)).alloc (Nat.le_refl _) _)) hg5 ho5 hw5); have k0 := HP.out.1; have k1 := HP.out.2.1; clear ho5 hg5 hw5)
        exact ⟨HP.out.2.2.1, _, by rw [HM.out]; exact HP.out.2.2.2⟩
      · rw [List.concat_eq_append] at hL
        subst hL
        obtain ⟨gs, hga, s0, s1, s2⟩ := siteCells HS.out.own
        subst hga
        have hlen1 : (L0 ++ [s]).length = L0.length + 1 := by simp
        obtain ⟨ln, hln⟩ : ∃ k, k = L0.length := ⟨_, rfl⟩
        rw [hlen1, ← hln] at hbc hw1
        rw [← hln] at s0 s1 s2
        have hll2 : ln ≤ 900000 := by rw [hlen1] at hll; omega
        have hw2 : ((ln + 1 : Nat) : Int) - 1 = (ln : Int) := by omega
        have hw3 : wrap64 (((ln + 1 : Nat) : Int) - 1) = (ln : Int) := by rw [hw1, hw2]
        have hw4 : wrap64 ((ln : Int) + 1 - 1) = (ln : Int) := by rw [wrap_id (by omega) (by omega)]; omega
        have hi1 : (ln : Int) < ((ln + 1 : Nat) : Int) := by omega
        have hi2 : ¬ ((ln : Int) < 0) := by omega
        have hi3 : (ln : Int) < (ln : Int) + 1 := by omega
        have HLL : RowKit.Hid ((L0 ++ [s]).length ≤ 1000000) := Lib.hid (by omega)
        have HOU : RowKit.Hid (OwnsSi W w.heap.size (.slice (some ⟨gs, 0, none⟩) (ln + 1) vc) (L0 ++ [s])) := Lib.hid (by have h := HS.out.own; rw [hlen1, ← hln] at h; exact h)
        clear hlen1 hln hll hw1 hw2
        by_cases hs : s = (y1, y2)
        · have HM : RowKit.Hid (ofL x (pre ++ [((y1, y2), y3)]) = L0 ++ [s]) := Lib.hid (by rw [HMORE.out]; unfold ofStep; rw [if_neg (fun e => e.2 (by simp [hs]))])
          have hcmp : ∀ u : World, (binOp .neq 41 (.agg #[.int .i64 0, .int .i64 (s.1 : Int), .int .i64 (s.2 : Int)]) (.agg #[.int .i64 0, .int .i64 (y1 : Int), .int .i64 (y2 : Int)])).run Tryd.prog u = .ok (.bool false) u := fun u => by rw [site_ne, hs]; simp
          clear hyx HMORE hs
          gi_upto_region 6 with fail
          refine wpIn_region_quietC hmix (by kernel_rfl) (by kernel_rfl) ?_
          clear hmix
          repeat (go_big_quiet_step (fail))
          refine wpQuiet_nil ?_
          intro _ hw'
          obtain ⟨nq, hw''⟩ := hw'
          subst hw''
          gi_wp2
          have hb : Below W.heap.size W (W.drewN nq) := below_drewN nq (Below.refl _ _)
          exact ⟨KeepO.grown (steady_OB _) (grownBy_of_below hb) HS.out.lies (fun r e => by cases e), _, by rw [HM.out]; exact HS.out.grown (grownBy_of_below hb) (fun r e => by cases e)⟩
        · have HM : RowKit.Hid (ofL x (pre ++ [((y1, y2), y3)]) = L0 ++ [s] ++ [(y1, y2)]) := Lib.hid (by rw [HMORE.out]; unfold ofStep; rw [if_pos ⟨hyx, by simpa using fun e => hs e⟩])
          have hcmp : ∀ u : World, (binOp .neq 41 (.agg #[.int .i64 0, .int .i64 (s.1 : Int), .int .i64 (s.2 : Int)]) (.agg #[.int .i64 0, .int .i64 (y1 : Int), .int .i64 (y2 : Int)])).run Tryd.prog u = .ok (.bool true) u := fun u => by
            rw [site_ne]
            have : ¬ ((s.1 : Int) = (y1 : Int) ∧ (s.2 : Int) = (y2 : Int)) := fun e => hs (by ext <;> simp <;> omega)
            simp [this]
          clear hyx HMORE hs
          gi_upto_region 6 with fail
          refine wpIn_region_quietC hmix (by kernel_rfl) (by kernel_rfl) ?_
          clear hmix
          repeat (go_big_quiet_step (fail))
          refine wpQuiet_nil ?_
          intro _ hw'
          obtain ⟨nq, hw''⟩ := hw'
          subst hw''
          have HUQ : RowKit.Hid (OwnsSi (W.drewN nq) w.heap.size (.slice (some ⟨gs, 0, none⟩) (ln + 1) vc) (L0 ++ [s]) ∧ w.heap.size ≤ (W.drewN nq).heap.size) := Lib.hid ⟨HOU.out, HS.out.bel.size⟩
          gi_wp2_with (gi_at_builtin; refine wpListIn_append_site _ rfl _ _ rfl w.heap.size (.slice (some ⟨gs, 0, none⟩) (ln + 1) vc) (L0 ++ [s]) ?_ ?_ ?_ _ 1 W.heap.size (y1, y2) ?_ ?_ ?_ ?_ ?_; (next => rfl); (next => exact (HUQ.out.1)); (next => exact HUQ.out.2); (next => rfl); (next => rfl); (next => rfl); (next => exact HLL.out); intro xa xn xc w5 ho5 hg5 hw5; have HP := Lib.hid (HS.out.push (((below_drewN nq (Below.refl _ _)).alloc (Nat.le_refl _) _)) hg5 ho5 hw5); have k0 := HP.out.1; have k1 := HP.out.2.1; clear ho5 hg5 hw5)
          exact ⟨HP.out.2.2.1, _, by rw [HM.out]; exact HP.out.2.2.2⟩
    · have hne : (y3 == x) = false := by simpa using hyx
      have HM : RowKit.Hid (ofL x (pre ++ [((y1, y2), y3)]) = L) := Lib.hid (by rw [HMORE.out]; unfold ofStep; rw [if_neg (fun e => hyx e.1)])
      clear hyx HMORE
      gi_upto_region 6 with fail
      refine wpIn_region_quietC hmix (by kernel_rfl) (by kernel_rfl) ?_
      clear hmix hbf hw1 hp0 hp1 hp2 hll hbc
      repeat (go_big_quiet_step (fail))
      refine wpQuiet_nil ?_
      intro _ hw'
      obtain ⟨nq, hw''⟩ := hw'
      subst hw''
      gi_wp2
      have hb : Below W.heap.size W (W.drewN nq) := below_drewN nq (Below.refl _ _)
      exact ⟨KeepO.grown (steady_OB _) (grownBy_of_below hb) HS.out.lies (fun r e => by cases e), _, by rw [HM.out]; exact HS.out.grown (grownBy_of_below hb) (fun r e => by cases e)⟩
  case ran =>
    rintro D ys U hD rfl ⟨v, hS⟩ hK
    have HS := Lib.hid hS
    have HK := Lib.hid hK
    obtain ⟨va, vc, rfl⟩ := hS.own.slice
    have hv := hS.box.cell
    clear hS hK
    gi_wp2
    refine ⟨by simp, .inl ⟨_, _, rfl, run_takeDeferred HK.out, ?_⟩⟩
    have h1 := HS.out.grown (grownBy_putObj' U D (.deferred none)) (fun r e => by
      cases e
      refine ⟨fun ho => ?_, by have := HZ0.out; omega, by have := HZ0.out; omega⟩
      obtain ⟨o, h2, h3⟩ := HS.out.lies _ ho
      rw [HK.out] at h2
      cases h2
      cases h3)
    exact ⟨_, results_tmp rfl _ _ _, _, _, rfl, h1.own, h1.bel⟩
end Go.Proofs.YtdchhfdmingnaaaDoor

/- Layer 5: the statements' own living call: a small program becomes bytes, and comes back. -/
namespace Go.Proofs.YtdchhfdmingnaaaDoor
open Go.RowKit (wrap64 intOf Below)
set_option linter.unusedVariables false
set_option linter.unusedSimpArgs false
theorem ProgQ.rng {W : World} {cs : List Value} {P : ProgD} (h : ProgQ W cs P) : RngProg P := by
  have key : ∀ {α : Type} {Q : World → List Value → α → Prop} {k : Nat} {v : Value} {xs : List α} {R : α → Prop}, (∀ cs x, Q W cs x → R x) → RowV Q k W v xs → ∀ x ∈ xs, R x := by
    intro α Q k v xs R hR hrow x hx
    obtain ⟨a, n, c, _, hl, _, _, hpos⟩ := hrow
    obtain ⟨i, hi, rfl⟩ := List.getElem_of_mem hx
    obtain ⟨g, off, _, _, hcs⟩ := hpos (by omega)
    obtain ⟨cs, _, _, hq⟩ := hcs i hi
    exact hR _ _ hq
  have nums : ∀ {v : Value} {Z : List Int}, NumsV W v Z → ∀ z ∈ Z, InR z := fun ⟨_, _, _, _, _, _, _, h⟩ => h
  obtain ⟨s, c, f, rfl, hs, hc, hf⟩ := h
  refine ⟨key (fun cs x hx => ?_) hs, key (fun cs x hx => ?_) hc, key (fun cs x hx => ?_) hf⟩
  · obtain ⟨p, _, h1, h2⟩ := hx; exact ⟨nums h1, h2⟩
  · obtain ⟨p, q, _, h1, h2⟩ := hx; exact ⟨nums h1, nums h2⟩
  · obtain ⟨b, _, h1, h2⟩ := hx
    refine ⟨h1, key (fun cs x hx => ?_) h2⟩
    obtain ⟨p, o, es, _, h3, h4, l, m, _, r1, r2, r3, r4, h5, h6⟩ := hx
    refine ⟨nums h3, key (fun cs x hx => ?_) h4, r1, r2, r3, r4, nums h5, nums h6⟩
    obtain ⟨l, _, r1, r2, r3, r4, r5, _, h⟩ := hx
    exact ⟨r1, r2, r3, r4, r5, nums h⟩
theorem ProgQ.form {W : World} {s c f : Value} {P : ProgD} (h : ProgQ W [s, c, f] P) : ∃ sa sn sc ca cn cc fa fn fc, s = .slice sa sn sc ∧ c = .slice ca cn cc ∧ f = .slice fa fn fc := by
  obtain ⟨_, _, _, e, ⟨sa, sn, sc, rfl, _⟩, ⟨ca, cn, cc, rfl, _⟩, ⟨fa, fn, fc, rfl, _⟩⟩ := h
  simp only [List.cons.injEq, and_true] at e
  obtain ⟨rfl, rfl, rfl⟩ := e
  exact ⟨_, _, _, _, _, _, _, _, _, rfl, rfl, rfl⟩
end Go.Proofs.YtdchhfdmingnaaaDoor

/- Layer 5, plain: what a program's bytes are as an answer: no error is 0, there is a byte, of a beginning and with a byte more they are none (P5.5). -/
namespace Go.Proofs.YtdchhfdmingnaaaDoor
open Go.RowKit (wrap64 intOf Below)
set_option linter.unusedVariables false
def OutNZ (o : Out) : Prop := ∀ e, o = .no e → e ≠ 0
theorem OutNZ.ok (l : List UInt8) : OutNZ (.ok l) := fun e h => by cases h
theorem OutNZ.and {a b : Out} (h : OutNZ a) (h' : OutNZ b) : OutNZ (a.and b) := by
  intro e he
  cases a with
  | no x => simp only [Out.no_and, Out.no.injEq] at he; subst he; exact h _ rfl
  | ok l => cases b with
    | no y => simp only [Out.and, Out.no.injEq] at he; subst he; exact h' _ rfl
    | ok m => simp only [Out.and] at he; cases he
theorem OutNZ.check (b : Bool) {e : Int} (h : e ≠ 0) : OutNZ (chk b e) := by
  intro x hx
  unfold chk at hx
  split at hx
  · cases hx
  · cases hx; exact h
theorem OutNZ.all {α : Type} {f : α → Out} (h : ∀ x, OutNZ (f x)) : ∀ xs, OutNZ (encAll f xs)
  | [] => OutNZ.ok _
  | x :: xs => (h x).and (OutNZ.all h xs)
theorem OutNZ.list {α : Type} {f : α → Out} (most : Nat) (h : ∀ x, OutNZ (f x)) (xs : List α) : OutNZ (encList most f xs) := ((OutNZ.ok _).and (OutNZ.check _ (by decide))).and (OutNZ.all h xs)
theorem OutNZ.num (z : Int) : OutNZ (encN z) := OutNZ.ok _
theorem OutNZ.nums (most : Nat) (Z : List Int) : OutNZ (encNums most Z) := OutNZ.list most OutNZ.num Z
theorem OutNZ.below (n b : Int) : OutNZ (outBelow n b) := (OutNZ.num n).and (OutNZ.check _ (by decide))
theorem OutNZ.op (o : OpD) : OutNZ (encOp o) := (OutNZ.below _ _).and (OutNZ.all (fun f => by
  unfold encField
  repeat' split
  all_goals first | exact OutNZ.num _ | exact OutNZ.nums _ _ | exact (OutNZ.check _ (by decide)).and (OutNZ.ok _)) _)
theorem OutNZ.fin (e : EndD) : OutNZ (encEnd e) := (OutNZ.below _ _).and (by
  unfold encRest
  repeat' split
  · exact (OutNZ.num _).and (OutNZ.nums _ _)
  · exact (OutNZ.num _).and ((OutNZ.num _).and ((OutNZ.nums _ _).and ((OutNZ.num _).and (OutNZ.nums _ _))))
  · exact OutNZ.num _)
theorem OutNZ.block (b : BlockD) : OutNZ (encBlock b) := (OutNZ.nums _ _).and ((OutNZ.list _ OutNZ.op _).and (OutNZ.fin _))
theorem OutNZ.func (f : FuncD) : OutNZ (encFunc f) := (OutNZ.num _).and (OutNZ.list _ OutNZ.block _)
theorem OutNZ.sig (s : SigD) : OutNZ (encSig s) := (OutNZ.nums _ _).and (OutNZ.num _)
theorem OutNZ.cls (s : ClassD) : OutNZ (encClass s) := (OutNZ.nums _ _).and (OutNZ.nums _ _)
theorem OutNZ.prog (p : ProgD) : OutNZ (encProg p) := (OutNZ.list _ OutNZ.sig _).and ((OutNZ.list _ OutNZ.cls _).and (OutNZ.list _ OutNZ.func _))
theorem out_nz (P : ProgD) : OutNZ (outBytes (encProg P)) := by
  intro e h
  unfold outBytes at h
  split at h
  · rename_i x hx
    cases h
    exact OutNZ.prog P _ hx
  · split at h
    · cases h; decide
    · cases h
theorem DecPost.no {p : PR ProgD} {er : Int} {w : World} {e : Ending} {w' : World} (h : DecPost p w e w') (hp : p = .no er) : e = .returned (.tuple #[.pointer none, .int .i64 er]) ∧ Below w.heap.size w w' := by
  rcases h with ⟨P', g, s, c, f, h1, _⟩ | ⟨er', h1, _, h3, h4⟩
  · rw [hp] at h1; cases h1
  · rw [hp] at h1; cases h1; exact ⟨h3, h4⟩
theorem EncPost.no {o : Out} {er : Int} {w : World} {e : Ending} {w' : World} (h : EncPost o w e w') (ho : o = .no er) : e = .returned (.tuple #[.slice none 0 0, .int .i64 er]) ∧ Below w.heap.size w w' := by
  rcases h with ⟨l', va, vn, vc, h1, _⟩ | ⟨er', h1, h2, h3⟩
  · rw [ho] at h1; cases h1
  · rw [ho] at h1; cases h1; exact ⟨h2, h3⟩
theorem OwnsB.before {w : World} {B : Nat} {e : TypeId} {a : Option Addr} {n c : Nat} {l : List UInt8} (h : OwnsB w B e (.slice a n c) l) : ∀ ad, a = some ad → ad.block < w.heap.size := by
  intro ad ha
  subst ha
  rcases h.2 with ⟨h1, _⟩ | ⟨g, cap, cur, h1, _, hg, _⟩
  · cases h1
  · cases h1
    exact (Array.getElem?_eq_some_iff.1 hg).1
end Go.Proofs.YtdchhfdmingnaaaDoor

/- Layer 5: the document's writer (W): where it stands, and its calls bad, num, list. -/
namespace Go.Proofs.YtdchhfdmingnaaaDoor
open Go.RowKit (wrap64 intOf Below)
set_option linter.unusedVariables false
set_option linter.unusedSimpArgs false
attribute [local go_sem ↓] Go.wp_at_zero Go.wp_at_succ
structure VSt (d : Nat) (va : Option Addr) (vn vc : Nat) (l : List UInt8) (w : World) (y : Int) : Prop where
  box : w.heap[d]? = some (.cells #[.slice va vn vc, .int .i64 y] 90 (0, 0))
  own : OwnsB w (d + 1) 5 (.slice va vn vc) l
section
variable {d : Nat} {va : Option Addr} {vn vc : Nat} {l : List UInt8} {w u : World} {y : Int}
theorem VSt.lt (h : VSt d va vn vc l w y) : d < w.heap.size := (Array.getElem?_eq_some_iff.1 h.box).1
theorem VSt.c0 (h : VSt d va vn vc l w y) : w.cell? ⟨d, 0, none⟩ = some (.slice va vn vc) := by simp [World.cell?, h.box]
theorem VSt.c1 (h : VSt d va vn vc l w y) : w.cell? ⟨d, 1, none⟩ = some (.int .i64 y) := by simp [World.cell?, h.box]
theorem VSt.free (h : VSt d va vn vc l w y) (j : Nat) : w.frozen? ⟨d, j, none⟩ = false := by simp [World.frozen?, h.box]
theorem VSt.since (h : VSt d va vn vc l w y) (hb : Below w.heap.size w u) : VSt d va vn vc l u y := ⟨(hb.block d h.lt).trans h.box, h.own.below hb⟩
theorem VSt.note (h : VSt d va vn vc l w y) (z : Int) : VSt d va vn vc l (w.setCell ⟨d, 1, none⟩ (.int .i64 z)) z :=
  ⟨by have := heap_setCell_same w d 1 _ _ (.int .i64 z) h.box; simpa using this, ownsRow_heap h.own (fun b hb hlt => Below.heap_setCell _ _ _ _ (fun he => by have := (h.own.lt b hb).1; simp only at he; omega))⟩
theorem VSt.put {ua : Option Addr} {un uc : Nat} {m : List UInt8} (h : VSt d va vn vc l w y) (ho : OwnsB w (d + 1) 5 (.slice ua un uc) m) : VSt d ua un uc m (w.setCell ⟨d, 0, none⟩ (.slice ua un uc)) y :=
  ⟨by have := heap_setCell_same w d 0 _ _ (.slice ua un uc) h.box; simpa using this, ownsRow_heap ho (fun b hb hlt => Below.heap_setCell _ _ _ _ (fun he => by have := (ho.lt b hb).1; simp only at he; omega))⟩
end
def Wrote (o : Out) (l : List UInt8) (y : Int) (l' : List UInt8) (y' : Int) : Prop :=
  (y ≠ 0 → y' = y) ∧ (y = 0 → (∀ m, o = .ok m → y' = 0 ∧ l' = l ++ m) ∧ (∀ e, o = .no e → y' = e ∧ e ≠ 0))
section
variable {l l1 l2 : List UInt8} {y y1 y2 : Int} {a b : Out}
theorem Wrote.and (h : Wrote a l y l1 y1) (k : Wrote b l1 y1 l2 y2) : Wrote (a.and b) l y l2 y2 := by
  refine ⟨fun hy => (k.1 (by rw [h.1 hy]; exact hy)).trans (h.1 hy), fun hy => ?_⟩
  cases a with
  | no e =>
    obtain ⟨h1, h2⟩ := (h.2 hy).2 e rfl
    refine ⟨fun m hm => by simp at hm, fun e' he => ?_⟩
    simp only [Out.no_and, Out.no.injEq] at he
    subst he
    exact ⟨(k.1 (by rw [h1]; exact h2)).trans h1, h2⟩
  | ok m =>
    obtain ⟨h1, h2⟩ := (h.2 hy).1 m rfl
    cases b with
    | no e =>
      refine ⟨fun m hm => by simp [Out.and] at hm, fun e' he => ?_⟩
      simp only [Out.and, Out.no.injEq] at he
      subst he
      exact (k.2 h1).2 e rfl
    | ok m2 =>
      refine ⟨fun m' hm => ?_, fun e' he => by simp [Out.and] at he⟩
      simp only [Out.and, Out.ok.injEq] at hm
      subst hm
      obtain ⟨k1, k2⟩ := (k.2 h1).1 m2 rfl
      exact ⟨k1, by rw [k2, h2, List.append_assoc]⟩
theorem Wrote.none_ : Wrote (.ok []) l y l y := ⟨fun _ => rfl, fun hy => ⟨fun m hm => by cases hm; exact ⟨hy, by simp⟩, fun e he => by cases he⟩⟩
theorem Wrote.went (h : Wrote a l y l1 y1) (h1 : y1 = 0) : y = 0 ∧ ∃ m, a = .ok m ∧ l1 = l ++ m := by
  have hy : y = 0 := Classical.byContradiction fun hy => hy ((h.1 hy).symm.trans h1)
  refine ⟨hy, ?_⟩
  cases a with
  | no e => obtain ⟨e1, e2⟩ := (h.2 hy).2 e rfl; exact absurd (e1.symm.trans h1) e2
  | ok m => exact ⟨m, rfl, ((h.2 hy).1 m rfl).2⟩
theorem Wrote.len {k : Nat} (h : Wrote a l y l1 y1) (h1 : y1 = 0) (hu : Upto a k) : l1.length ≤ l.length + k := by
  obtain ⟨_, m, rfl, rfl⟩ := h.went h1
  rw [List.length_append]
  have := hu m rfl
  omega
theorem Wrote.of (h : Wrote a l y l1 y1) (he : a = b) : Wrote b l y l1 y1 := he ▸ h
theorem Wrote.all0 {α : Type} {f : α → Out} (xs : List α) : Wrote (encAll f (xs.take 0)) l y l y := Wrote.none_
theorem Wrote.more {α : Type} {f : α → Out} {xs : List α} {i : Nat} (hi : i < xs.length) (h : Wrote (encAll f (xs.take i)) l y l1 y1) (k : Wrote (f xs[i]) l1 y1 l2 y2) : Wrote (encAll f (xs.take (i + 1))) l y l2 y2 :=
  (h.and k).of (encAll_take f xs i hi).symm
theorem Wrote.enough {α : Type} {f : α → Out} {xs : List α} {i : Nat} (h : Wrote (encAll f (xs.take i)) l y l1 y1) (hn : xs.length ≤ i ∨ y1 ≠ 0) : Wrote (encAll f xs) l y l1 y1 := by
  rcases hn with hn | hn
  · rwa [List.take_of_length_le hn] at h
  · refine ⟨h.1, fun hy => ?_⟩
    have hx : ∃ e, encAll f (xs.take i) = .no e := by
      cases ho : encAll f (xs.take i) with
      | no e => exact ⟨e, rfl⟩
      | ok m => exact absurd ((h.2 hy).1 m ho).1 hn
    obtain ⟨e, he⟩ := hx
    have hall : encAll f xs = .no e := by
      conv => lhs; rw [← List.take_append_drop i xs]
      rw [encAll_append, he, Out.no_and]
    rw [hall]
    exact ⟨fun m hm => (by cases hm), fun e' he' => by cases he'; exact (h.2 hy).2 e he⟩
end
theorem chk_num (b : Bool) (e : Int) (m : List UInt8) : (chk b e).and (.ok m) = (Out.ok m).and (chk b e) := by
  unfold chk
  cases b
  · simp [Out.and]
  · simp
def VPost (d : Nat) (l : List UInt8) (y : Int) (o : Out) (w : World) (e : Ending) (w' : World) : Prop :=
  ∃ ua un uc l' y', e = .returned (.tuple #[]) ∧ VSt d ua un uc l' w' y' ∧ Off (fun k => k = d) w w' ∧ Wrote o l y l' y'
set_option maxRecDepth 100000 in
set_option maxHeartbeats 2000000 in
theorem w_bad (d : Nat) (va : Option Addr) (vn vc : Nat) (l : List UInt8) (y : Int) (is : Bool) (er : Int) (her : er ≠ 0) (w : World) (h : VSt d va vn vc l w y) :
    Calls Tryd.prog 48 #[.pointer (some ⟨d, 0, none⟩), .bool is, .int .i64 er] w (VPost d l y (chk (!is) er) w) := by
  have hc1 := h.c1
  have hfr := h.free 1
  have H := Lib.hid h
  have HER := Lib.hid her
  clear h her
  cases is
  · go_enter Tryd.func48, Tryd.ntmps48
    go_wp2_with fail
    go_end0
    exact ⟨_, _, _, l, y, rfl, H.out, Off.refl _ _, Wrote.none_⟩
  by_cases hy : y = 0
  · subst hy
    go_enter Tryd.func48, Tryd.ntmps48
    go_wp2_with fail
    go_end0
    exact ⟨_, _, _, l, er, rfl, H.out.note er, Off.setCell (p := ⟨d, 1, none⟩) (Off.refl (fun k => k = d) w) (.inl rfl) _, fun hh => absurd rfl hh, fun _ => ⟨fun m hm => (by cases hm), fun e he => by cases he; exact ⟨rfl, HER.out⟩⟩⟩
  · have hyb : (y == 0) = false := by rw [beq_eq_false_iff_ne]; exact hy
    have HY := Lib.hid hy
    clear hy
    go_enter Tryd.func48, Tryd.ntmps48
    go_wp2_with fail
    go_end0
    exact ⟨_, _, _, l, y, rfl, H.out, Off.refl _ _, fun _ => rfl, fun hh => absurd hh HY.out⟩
set_option maxRecDepth 100000 in
set_option maxHeartbeats 2000000 in
theorem w_num (d : Nat) (va : Option Addr) (vn vc : Nat) (l : List UInt8) (y : Int) (z : Int) (hz : InR z) (w : World) (h : VSt d va vn vc l w y) (hl : y = 0 → l.length ≤ 100000000000000) :
    Calls Tryd.prog 49 #[.pointer (some ⟨d, 0, none⟩), .int .i64 z] w (VPost d l y (encN z) w) := by
  have hc0 := h.c0
  have hc1 := h.c1
  have hfr := h.free 0
  have H := Lib.hid h
  by_cases hy : y = 0
  · subst hy
    have hlen := h.own.len
    have hll := hl rfl
    have CP := Lib.hid (ref_put va vn vc l z w h.own.read (by omega) hz.1 hz.2)
    clear h hl hz hlen hll
    go_enter Tryd.func49, Tryd.ntmps49
    go_wp2_with fail
    refine CP.out.mono ?_
    rintro e w1 ⟨ua, un, uc, rfl, hown, hb⟩
    have H1 := Lib.hid (H.out.since hb)
    have HO := Lib.hid (hown.mono (B' := d + 1) H.out.lt)
    have HB := Lib.hid hb
    have f1 := H1.out.free 0
    have x1 := H1.out.c0
    clear hown hb hc0 hc1 hfr
    go_wp2_with fail
    go_end0
    exact ⟨_, _, _, l ++ putL z, 0, rfl, H1.out.put HO.out, Off.setCell (p := ⟨d, 0, none⟩) (Off.since (X := fun k => k = d) HB.out) (.inl rfl) _, fun hh => absurd rfl hh, fun _ => ⟨fun m hm => by cases hm; exact ⟨rfl, rfl⟩, fun e he => by cases he⟩⟩
  · have hyb : (y == 0) = false := by rw [beq_eq_false_iff_ne]; exact hy
    have HY := Lib.hid hy
    clear hy h hl
    go_enter Tryd.func49, Tryd.ntmps49
    go_wp2_with fail
    go_end0
    exact ⟨_, _, _, l, y, rfl, H.out, Off.refl _ _, fun _ => rfl, fun hh => absurd hh HY.out⟩
set_option maxRecDepth 100000 in
set_option maxHeartbeats 4000000 in
theorem w_list (d : Nat) (va : Option Addr) (vn vc : Nat) (l : List UInt8) (y : Int) (a : Option Addr) (n c : Nat) (Z : List Int) (most : Nat) (hmo : most ≤ 1000) (w : World) (h : VSt d va vn vc l w y) (hZ : NumsAt w a n Z) (hn : n ≤ 140737488355328) (hr : ∀ z ∈ Z, InR z) (hd : 0 < n → ∀ ad, a = some ad → ad.block ≠ d) (hl : y = 0 → l.length ≤ 90000000000000) :
    Calls Tryd.prog 50 #[.pointer (some ⟨d, 0, none⟩), .slice a n c, .int .i64 (most : Int)] w (VPost d l y (encNums most Z) w) := by
  have CB := Lib.hid (w_bad d va vn vc l y (decide (most < n)) 2 (by decide) w h)
  have HLN : RowKit.Hid (Z.length = n) := Lib.hid hZ.1
  have HRG := Lib.hid hr
  have HL := Lib.hid hl
  have HZ := Lib.hid hZ.2
  have HDD := Lib.hid hd
  have HN : RowKit.Hid (InR (n : Int)) := Lib.hid ⟨by omega, by omega⟩
  clear h hZ hr hl hd
  go_enter Tryd.func50, Tryd.ntmps50
  go_wp2_with fail
  refine CB.out.mono ?_
  rintro e w1 ⟨ua, un, uc, l1, y1, rfl, hv1, ho1, hw1⟩
  have HV1 := Lib.hid hv1
  have HO1 := Lib.hid ho1
  have HW1 := Lib.hid hw1
  clear CB hv1 ho1 hw1
  go_wp2_with fail
  refine (w_num d ua un uc l1 y1 (n : Int) HN.out w1 HV1.out (fun h0 => by have := HW1.out.len h0 (Upto.check _ _); have := HL.out (HW1.out.went h0).1; omega)).mono ?_
  rintro e w2 ⟨ub, um, ud, l2, y2, rfl, hv2, ho2, hw2⟩
  have HW2 : RowKit.Hid (Wrote (outCount n most) l y l2 y2) := Lib.hid ((HW1.out.and hw2).of (by unfold outCount encN; rw [chk_num]; congr 2; by_cases hh : most < n; rw [decide_eq_true hh, decide_eq_false (show ¬ n ≤ most by omega)]; rfl; rw [decide_eq_false hh, decide_eq_true (show n ≤ most by omega)]; rfl))
  have HO2 := Lib.hid (HO1.out.trans ho2)
  have HV2 := Lib.hid hv2
  clear hv2 ho2 hw2
  go_wp2_with fail
  go_loopw [6] (fun iv wr => ∃ (i : Nat) (ua : Option Addr) (un uc : Nat) (l3 : List UInt8) (y3 : Int), i ≤ n ∧ iv = .int .i64 (i : Int) ∧ wr.cell? ⟨d, 1, none⟩ = some (.int .i64 y3) ∧ RowKit.Hid (VSt d ua un uc l3 wr y3 ∧ Off (fun k => k = d) w wr ∧ Wrote (encAll encN (Z.take i)) l2 y2 l3 y3)) (fun iv _ => n - (intOf iv).toNat)
  case atStart => exact ⟨0, ub, um, ud, l2, y2, Nat.zero_le _, rfl, HV2.out.c1, Lib.hid ⟨HV2.out, HO2.out, Wrote.all0 Z⟩⟩
  case round =>
    obtain ⟨i, ua, un, uc, l3, y3, hi, rfl, hc1, HI⟩ := hrel
    have HFIN : RowKit.Hid (n ≤ i ∨ y3 ≠ 0 → Wrote (encNums most Z) l y l3 y3) := Lib.hid fun hn => by
      unfold encNums encList
      rw [HLN.out]
      exact HW2.out.and (HI.out.2.2.enough (by rw [HLN.out]; exact hn))
    by_cases hlt : i < n
    · by_cases hy : y3 = 0
      · subst hy
        obtain ⟨g, off, rfl, hg, hcell⟩ := HZ.out (by omega)
        have hil : i < Z.length := by rw [HLN.out]; exact hlt
        obtain ⟨z, hz⟩ : ∃ z, z = Z[i] := ⟨_, rfl⟩
        have hne := HDD.out (by omega) _ rfl
        have hcz : wr.cell? ⟨g, off + i, none⟩ = some (.int .i64 z) := (HI.out.2.1.cell (p := ⟨g, off + i, none⟩) hg hne).trans (by rw [hcell i hil, hz]; rfl)
        have HZI : RowKit.Hid (z = Z[i]) := Lib.hid hz
        have HIR : RowKit.Hid (InR z) := Lib.hid (by rw [hz]; exact HRG.out _ (List.getElem_mem hil))
        have HIL := Lib.hid hil
        have HLB : RowKit.Hid (l3.length ≤ 100000000000000) := Lib.hid (by
          obtain ⟨h2, m, hm, h3⟩ := HI.out.2.2.went rfl
          obtain ⟨h0, m0, hm0, h4⟩ := HW2.out.went h2
          have hu := (Upto.all (f := encN) (n := 10) (Z.take i) (fun z _ => Upto.num z)) m hm
          have hu0 := ((Upto.num (n : Int)).and (Upto.check (decide (n ≤ most)) 2)) m0 hm0
          have hnm : n ≤ most := Classical.byContradiction fun hh => by rw [outCount_no (by omega)] at hm0; cases hm0
          have := HL.out h0
          rw [h3, h4, List.length_append, List.length_append]
          rw [List.length_take] at hu
          have : min i Z.length ≤ 1000 := by omega
          omega)
        clear hz hcell
        go_wp2_with fail
        refine (w_num d ua un uc l3 0 z HIR.out wr HI.out.1 (fun _ => HLB.out)).mono ?_
        rintro e w5 ⟨ub5, um5, ud5, l5, y5, rfl, hv5, ho5, hw5⟩
        have HV5 := Lib.hid hv5
        have HO5 := Lib.hid (HI.out.2.1.trans ho5)
        have HW5 := Lib.hid (HI.out.2.2.more HIL.out (by rw [← HZI.out]; exact hw5))
        clear hv5 ho5 hw5
        go_wp2_with fail
        go_roundw
        case rel => exact ⟨i + 1, ub5, um5, ud5, l5, y5, by omega, by go_num, HV5.out.c1, Lib.hid ⟨HV5.out, HO5.out, HW5.out⟩⟩
        case measure => simp [intOf]; omega
      · have hyb : (y3 == 0) = false := by rw [beq_eq_false_iff_ne]; exact hy
        have HY := Lib.hid hy
        clear hy
        go_wp2_with fail
        go_end0
        exact ⟨_, _, _, l3, y3, rfl, HI.out.1, HI.out.2.1, HFIN.out (.inr HY.out)⟩
    · obtain rfl : i = n := by omega
      go_wp2_with fail
      go_end0
      exact ⟨_, _, _, l3, y3, rfl, HI.out.1, HI.out.2.1, HFIN.out (.inl (Nat.le_refl _))⟩
end Go.Proofs.YtdchhfdmingnaaaDoor
