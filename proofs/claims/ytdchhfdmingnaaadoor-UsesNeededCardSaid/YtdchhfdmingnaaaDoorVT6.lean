/- Layer 13: package uses' spread: two sets side by side, and the list of blocks that were reached: what is kept while one of them grows; plain: the rows. -/
import Derived.Test.YtdchhfdmingnaaaDoorVCfgB
import Derived.Test.YtdchhfdmingnaaaDoorVT0
import Derived.Test.YtdchhfdmingnaaaDoorVUsesG
import Derived.Test.YtdchhfdmingnaaaDoorVUsesT
import Derived.Sort.QuietIn
import Derived.BigQuiet
import Derived.DeepKeys
import Derived.Deep.DeepCutAuto
namespace Go.Proofs.YtdchhfdmingnaaaDoor
open Go.RowKit (wrap64 intOf Below)
set_option linter.unusedVariables false
set_option linter.unusedSimpArgs false
def putB (M : Nat → Bool) (b : Nat) : Nat → Bool := fun i => M i || i == b
def rowU (p : Nat → Nat → Bool) (v : Nat) (M : Nat → Bool) (b : Nat) : List Int := risingU (fun u => p u b) v ++ (if M b = true then [(v : Int)] else [])
def rowsU (p : Nat → Nat → Bool) (v : Nat) (M : Nat → Bool) (n : Nat) : List (List Int) := (List.range n).map (rowU p v M)
theorem rowsU_at {p : Nat → Nat → Bool} {v : Nat} {M : Nat → Bool} {n b : Nat} (h : b < n) : (rowsU p v M n)[b]? = some (rowU p v M b) := by simp [rowsU, h]
theorem rowU_last (p : Nat → Nat → Bool) (v : Nat) (M : Nat → Bool) (b : Nat) : (rowU p v M b).getLast? = some (v : Int) ↔ M b = true := by
  unfold rowU
  cases hm : M b with
  | true => simp
  | false =>
    simp only [Bool.false_eq_true, if_false, List.append_nil, iff_false]
    intro h
    obtain ⟨u, hu, h1, _⟩ := mem_risingU.1 (List.mem_of_getLast? h)
    omega
theorem rowU_fresh (p : Nat → Nat → Bool) (v : Nat) (M : Nat → Bool) (b : Nat) : freshB (rowU p v M b) (v : Int) = !M b := by
  unfold freshB
  have h := rowU_last p v M b
  cases hm : M b with
  | true => simp [h.2 hm]
  | false =>
    have : (rowU p v M b).getLast? ≠ some (v : Int) := fun e => by rw [h.1 e] at hm; cases hm
    simp [this]
theorem rowU_grow (p : Nat → Nat → Bool) (v : Nat) (M : Nat → Bool) (b : Nat) : growL (rowU p v M b) (v : Int) = rowU p v (putB M b) b := by
  unfold growL
  have h := rowU_last p v M b
  cases hm : M b with
  | true => rw [if_pos (h.2 hm)]; simp [rowU, putB, hm]
  | false =>
    rw [if_neg (fun e => by rw [h.1 e] at hm; cases hm)]
    simp [rowU, putB, hm]
theorem rowsU_grow {p : Nat → Nat → Bool} {v : Nat} {M : Nat → Bool} {n b : Nat} (h : b < n) : (rowsU p v M n).set b (growL (rowU p v M b) (v : Int)) = rowsU p v (putB M b) n := by
  apply List.ext_getElem
  · simp [rowsU]
  · intro i h1 h2
    rw [List.getElem_set]
    have hi : i < n := by simpa [rowsU] using h2
    by_cases e : b = i
    · subst e
      rw [if_pos rfl, rowU_grow]
      simp [rowsU]
    · rw [if_neg e]
      simp only [rowsU, List.getElem_map, List.getElem_range, rowU, putB]
      have : (i == b) = false := by simpa using fun h => e h.symm
      rw [this, Bool.or_false]
theorem rowsU_len_le {p : Nat → Nat → Bool} {v : Nat} {M : Nat → Bool} {n : Nat} : ∀ Z ∈ rowsU p v M n, Z.length ≤ v + 1 := by
  intro Z hZ
  unfold rowsU at hZ
  obtain ⟨b, _, rfl⟩ := List.mem_map.1 hZ
  unfold rowU
  rw [List.length_append]
  have := risingU_len (fun u => p u b) v
  split <;> simp <;> omega
theorem rowsU_next (p : Nat → Nat → Bool) (v : Nat) (M : Nat → Bool) (n : Nat) (h : ∀ b, b < n → M b = p v b) : rowsU p v M n = rowsU p (v + 1) (fun _ => false) n := by
  unfold rowsU
  apply List.map_congr_left
  intro b hb
  rw [List.mem_range] at hb
  unfold rowU
  rw [risingU_more, h b hb]
  simp
theorem rowsU_start (p : Nat → Nat → Bool) (n : Nat) : rowsU p 0 (fun _ => false) n = List.replicate n [] := by
  apply List.ext_getElem
  · simp [rowsU]
  · intro i h1 h2
    simp [rowsU, rowU, risingU]
theorem rowsU_end (p : Nat → Nat → Bool) (v : Nat) (n : Nat) : rowsU p v (fun _ => false) n = (List.range n).map fun b => risingU (fun u => p u b) v := by
  unfold rowsU rowU
  simp
theorem OwnsI.offX {X : Nat → Prop} {W W' : World} {B : Nat} {e : TypeId} {v : Value} {Z : List Int} (h : OwnsI W B e v Z) (hoff : Off X W W') (hk : ∀ k, v.ownBlock = some k → ¬ X k) : OwnsI W' B e v Z := by
  refine ⟨h.1, ?_⟩
  rcases h.2 with hn | ⟨g, cap, cur, rfl, hB, hh, rest⟩
  · exact .inl hn
  · exact .inr ⟨g, cap, cur, rfl, hB, (hoff.block g (Array.getElem?_eq_some_iff.1 hh).1 (hk g rfl)).trans hh, rest⟩
section
variable {B bx g n i : Nat} {X : Nat → Prop} {W W' : World} {vs : List Value} {Zs : List (List Int)}
theorem SetU.offX (h : SetU B bx g n W vs Zs) (hoff : Off X W W') (hX : ∀ k, X k → ¬ OG g n W k ∧ k ≠ bx) : SetU B bx g n W' vs Zs := by
  have hg : ¬ X g := fun e => (hX g e).1 (.inl rfl)
  refine ⟨(hoff.block bx h.box.lt (fun e => (hX bx e).2 rfl)).trans h.box, ⟨?_, h.row.len, fun j h1 h2 => ?_, h.row.apart⟩, h.len⟩
  · refine ⟨h.row.row.1, ?_⟩
    rcases h.row.row.2 with hn | ⟨g', cap, cur, e, hB, hh, rest⟩
    · exact .inl hn
    · cases e
      exact .inr ⟨_, _, cur, rfl, hB, (hoff.block _ (Array.getElem?_eq_some_iff.1 hh).1 hg).trans hh, rest⟩
  · exact (h.row.own j h1 h2).offX hoff (fun k hk e => (hX k e).1 (h.og.2 (.inr ⟨j, h1, hk⟩)))
theorem SetU.elem_lt (h : SetU B bx g n W vs Zs) {j : Nat} (hj : j < vs.length) {k : Nat} (hk : (vs[j]).ownBlock = some k) : ∃ cur, W.heap[k]? = some (.cells cur 3 (0, 0)) ∧ k < W.heap.size := by
  obtain ⟨cur, hc, _⟩ := ownsI_blk (h.row.own j hj (by rw [← h.row.len]; exact hj)) hk
  exact ⟨cur, hc, (Array.getElem?_eq_some_iff.1 hc).1⟩
end
structure Duo (W0 W : World) (n Bn bn gn Bl bl gl : Nat) (vsN : List Value) (ZN : List (List Int)) (vsL : List Value) (ZL : List (List Int)) : Prop where
  nd : SetU Bn bn gn n W vsN ZN
  lf : SetU Bl bl gl n W vsL ZL
  off : Off (fun k => k = gn ∨ k = gl) W0 W
  newN : ∀ j (h : j < vsN.length) k, (vsN[j]).ownBlock = some k → W0.heap.size ≤ k
  newL : ∀ j (h : j < vsL.length) k, (vsL[j]).ownBlock = some k → W0.heap.size ≤ k
  apart : ∀ j (h : j < vsN.length) q (h' : q < vsL.length) k, (vsN[j]).ownBlock = some k → (vsL[q]).ownBlock ≠ some k
  low : gn < W0.heap.size ∧ gl < W0.heap.size ∧ bn < W0.heap.size ∧ bl < W0.heap.size ∧ gn ≠ gl ∧ Bn ≤ W0.heap.size ∧ Bl ≤ W0.heap.size
section
variable {W0 W W' : World} {n Bn bn gn Bl bl gl : Nat} {vsN : List Value} {ZN ZN' : List (List Int)} {vsL : List Value} {ZL : List (List Int)}
theorem Duo.swap (h : Duo W0 W n Bn bn gn Bl bl gl vsN ZN vsL ZL) : Duo W0 W n Bl bl gl Bn bn gn vsL ZL vsN ZN :=
  ⟨h.lf, h.nd, h.off.mono (fun k _ hk => hk.symm), h.newL, h.newN, fun j hj q hq k hk e => h.apart q hq j hj k e hk, ⟨h.low.2.1, h.low.1, h.low.2.2.2.1, h.low.2.2.1, fun e => h.low.2.2.2.2.1 e.symm, h.low.2.2.2.2.2.2, h.low.2.2.2.2.2.1⟩⟩
theorem Duo.offX {X : Nat → Prop} (h : Duo W0 W n Bn bn gn Bl bl gl vsN ZN vsL ZL) (hoff : Off X W W') (hX : ∀ k, X k → W0.heap.size ≤ k ∧ (∀ j (hj : j < vsN.length), (vsN[j]).ownBlock ≠ some k) ∧ ∀ j (hj : j < vsL.length), (vsL[j]).ownBlock ≠ some k) : Duo W0 W' n Bn bn gn Bl bl gl vsN ZN vsL ZL := by
  refine ⟨h.nd.offX hoff (fun k hk => ⟨fun e => ?_, ?_⟩), h.lf.offX hoff (fun k hk => ⟨fun e => ?_, ?_⟩), h.off.trans_new hoff (fun k hk => .inr (hX k hk).1), h.newN, h.newL, h.apart, h.low⟩
  · rcases h.nd.og.1 e with e | ⟨j, hj, e⟩
    · have := (hX k hk).1; have := h.low.1; omega
    · exact (hX k hk).2.1 j hj e
  · have := (hX k hk).1; have := h.low.2.2.1; omega
  · rcases h.lf.og.1 e with e | ⟨j, hj, e⟩
    · have := (hX k hk).1; have := h.low.2.1; omega
    · exact (hX k hk).2.2 j hj e
  · have := (hX k hk).1; have := h.low.2.2.2.1; omega
theorem Duo.since (h : Duo W0 W n Bn bn gn Bl bl gl vsN ZN vsL ZL) (hb : Below W.heap.size W W') : Duo W0 W' n Bn bn gn Bl bl gl vsN ZN vsL ZL :=
  h.offX (X := fun _ => False) (Off.since hb) (fun k hk => hk.elim)
theorem Duo.grow {b : Nat} {v' : Value} (h : Duo W0 W n Bn bn gn Bl bl gl vsN ZN vsL ZL) (hs : SetU Bn bn gn n W' (vsN.set b v') ZN') (hoff : Off (GrowX gn vsN b) W W') (hw : ∀ k, v'.ownBlock = some k → (∃ h : b < vsN.length, (vsN[b]).ownBlock = some k) ∨ W.heap.size ≤ k) : Duo W0 W' n Bn bn gn Bl bl gl (vsN.set b v') ZN' vsL ZL := by
  have hX : ∀ k, GrowX gn vsN b k → k = gn ∨ (W0.heap.size ≤ k ∧ ∃ hb : b < vsN.length, (vsN[b]).ownBlock = some k) := fun k hk => by
    rcases hk with ⟨hb, hk⟩ | e
    · exact .inr ⟨h.newN b hb k hk, hb, hk⟩
    · exact .inl e
  refine ⟨hs, h.lf.offX hoff (fun k hk => ⟨fun e => ?_, fun e => ?_⟩), h.off.trans_new hoff (fun k hk => ?_), fun j hj k hk => ?_, h.newL, fun j hj q hq k hk e => ?_, h.low⟩
  · rcases hX k hk with e1 | ⟨h1, hb, h2⟩
    · rcases h.lf.og.1 e with e2 | ⟨j, hj, e2⟩
      · exact h.low.2.2.2.2.1 (e1.symm.trans e2)
      · have := h.newL j hj k e2; have := h.low.1; omega
    · rcases h.lf.og.1 e with e2 | ⟨j, hj, e2⟩
      · have := h.low.2.1; omega
      · exact h.apart b hb j hj k h2 e2
  · rcases hX k hk with e1 | ⟨h1, hb, h2⟩
    · obtain ⟨cur, hc, _⟩ := h.nd.blk
      have hb : W.heap[bl]? = _ := h.lf.box
      rw [← e, e1, hc] at hb
      cases hb
    · have := h.low.2.2.2.1; omega
  · rcases hX k hk with e1 | ⟨h1, _⟩
    · exact .inl (.inl e1)
    · exact .inr h1
  · rw [List.length_set] at hj
    rw [List.getElem_set] at hk
    split at hk
    · rcases hw k hk with ⟨hb, h1⟩ | h1
      · exact h.newN b hb k h1
      · exact Nat.le_trans h.off.size h1
    · exact h.newN j hj k hk
  · rw [List.length_set] at hj
    rw [List.getElem_set] at hk
    split at hk
    · rcases hw k hk with ⟨hb, h1⟩ | h1
      · exact h.apart b hb q hq k h1 e
      · obtain ⟨_, _, h2⟩ := h.lf.elem_lt hq e; omega
    · exact h.apart j hj q hq k hk e
end
structure Rch (W0 W : World) (bv br v : Nat) (rv : Value) (R : List Int) (vsN vsL : List Value) : Prop where
  val : Boxed W bv 3 (.int .i64 (v : Int))
  box : Boxed W br 34 rv
  own : OwnsI W W0.heap.size 3 rv R
  ge : W0.heap.size ≤ bv ∧ W0.heap.size ≤ br
  aN : ∀ j (h : j < vsN.length) k, (vsN[j]).ownBlock = some k → rv.ownBlock ≠ some k ∧ k ≠ bv
  aL : ∀ j (h : j < vsL.length) k, (vsL[j]).ownBlock = some k → rv.ownBlock ≠ some k ∧ k ≠ bv
  ne : rv.ownBlock ≠ some bv
section
variable {W0 W W' : World} {n Bn bn gn Bl bl gl bv br v b : Nat} {vsN : List Value} {ZN : List (List Int)} {vsL : List Value} {ZL : List (List Int)} {rv v' : Value} {R : List Int}
theorem Rch.swap (h : Rch W0 W bv br v rv R vsN vsL) : Rch W0 W bv br v rv R vsL vsN := ⟨h.val, h.box, h.own, h.ge, h.aL, h.aN, h.ne⟩
theorem Rch.since (h : Rch W0 W bv br v rv R vsN vsL) (hb : Below W.heap.size W W') : Rch W0 W' bv br v rv R vsN vsL :=
  ⟨(hb.block _ h.val.lt).trans h.val, (hb.block _ h.box.lt).trans h.box, h.own.below hb, h.ge, h.aN, h.aL, h.ne⟩
theorem Rch.bne (h : Rch W0 W bv br v rv R vsN vsL) : rv.ownBlock ≠ some br ∧ br ≠ bv := by
  have hb : W.heap[br]? = _ := h.box
  refine ⟨fun e => ?_, fun e => ?_⟩
  · obtain ⟨cur, hc, _⟩ := ownsI_blk h.own e
    rw [hb] at hc; cases hc
  · have hv : W.heap[bv]? = _ := h.val
    rw [← e, hb] at hv; cases hv
theorem Rch.grow (h : Rch W0 W bv br v rv R vsN vsL) (hd : Duo W0 W n Bn bn gn Bl bl gl vsN ZN vsL ZL) (hoff : Off (GrowX gn vsN b) W W') (hw : ∀ k, v'.ownBlock = some k → (∃ h : b < vsN.length, (vsN[b]).ownBlock = some k) ∨ W.heap.size ≤ k) : Rch W0 W' bv br v rv R (vsN.set b v') vsL := by
  have hX : ∀ k, GrowX gn vsN b k → k ≠ bv ∧ k ≠ br ∧ rv.ownBlock ≠ some k := fun k hk => by
    rcases hk with ⟨hb, hk⟩ | e
    · refine ⟨(h.aN b hb k hk).2, fun e => ?_, (h.aN b hb k hk).1⟩
      obtain ⟨cur, hc, _⟩ := hd.nd.elem_lt hb hk
      have hbx : W.heap[br]? = _ := h.box
      rw [← e, hc] at hbx; cases hbx
    · have h1 := hd.low.1
      have h2 := h.ge
      refine ⟨by omega, by omega, fun e' => ?_⟩
      have := (h.own.lt k e').1
      omega
  refine ⟨(hoff.block _ h.val.lt (fun e => (hX _ e).1 rfl)).trans h.val, (hoff.block _ h.box.lt (fun e => (hX _ e).2.1 rfl)).trans h.box, h.own.offX hoff (fun k hk e => (hX k e).2.2 hk), h.ge, fun j hj k hk => ?_, h.aL, h.ne⟩
  rw [List.length_set] at hj
  rw [List.getElem_set] at hk
  split at hk
  · rcases hw k hk with ⟨hb, h1⟩ | h1
    · exact h.aN b hb k h1
    · refine ⟨fun e => ?_, fun e => ?_⟩
      · have := (h.own.lt k e).2; omega
      · have := h.val.lt; omega
  · exact h.aN j hj k hk
theorem Rch.push {U w1 : World} {R' : List Int} (h : Rch W0 W bv br v rv R vsN vsL) (hd : Duo W0 W n Bn bn gn Bl bl gl vsN ZN vsL ZL) (hU : Below W.heap.size W U) (hg : U.grownBy w1 rv.ownBlock) (ho : OwnsI w1 W0.heap.size 3 v' R') (hw : ∀ k, v'.ownBlock = some k → rv.ownBlock = some k ∨ W.heap.size ≤ k) :
    w1.cell? ⟨br, 0, none⟩ = some rv ∧ w1.frozen? ⟨br, 0, none⟩ = false ∧ Duo W0 (w1.setCell ⟨br, 0, none⟩ v') n Bn bn gn Bl bl gl vsN ZN vsL ZL ∧ Rch W0 (w1.setCell ⟨br, 0, none⟩ v') bv br v v' R' vsN vsL := by
  have hoff : Off (fun k => rv.ownBlock = some k) W w1 := (Off.since hU).grown hg (fun k hk => .inl hk)
  have hb1 : Boxed w1 br 34 rv := (hoff.block _ h.box.lt h.bne.1).trans h.box
  have hoff2 : Off (fun k => rv.ownBlock = some k ∨ k = br) W (w1.setCell ⟨br, 0, none⟩ v') := (hoff.mono (fun k _ hk => .inl hk)).setCell (.inl (.inr rfl)) v'
  have hnb : ∀ k, v'.ownBlock = some k → k ≠ br := fun k hk e => by
    subst e
    rcases hw k hk with h1 | h1
    · exact h.bne.1 h1
    · have := h.box.lt; omega
  refine ⟨hb1.cell, hb1.frozen, hd.offX hoff2 (fun k hk => ?_), ?_⟩
  · rcases hk with hk | hk
    · exact ⟨(h.own.lt k hk).1, fun j hj e => (h.aN j hj k e).1 hk, fun j hj e => (h.aL j hj k e).1 hk⟩
    · subst hk
      have hb : W.heap[k]? = _ := h.box
      refine ⟨h.ge.2, fun j hj e => ?_, fun j hj e => ?_⟩
      · obtain ⟨cur, hc, _⟩ := hd.nd.elem_lt hj e
        rw [hb] at hc; cases hc
      · obtain ⟨cur, hc, _⟩ := hd.lf.elem_lt hj e
        rw [hb] at hc; cases hc
  · have hlt : ∀ {k : Nat}, v'.ownBlock = some k → ∀ {vs : List Value} {Zs : List (List Int)} {B' bx' g' : Nat}, SetU B' bx' g' n W vs Zs → (∀ j (hj : j < vs.length) q, (vs[j]).ownBlock = some q → rv.ownBlock ≠ some q) → ∀ j (hj : j < vs.length), (vs[j]).ownBlock ≠ some k := by
      intro k hk vs Zs B' bx' g' hs ha j hj e
      rcases hw k hk with h1 | h1
      · exact ha j hj k e h1
      · obtain ⟨_, _, h2⟩ := hs.elem_lt hj e; omega
    refine ⟨(hoff2.block _ h.val.lt (fun e => ?_)).trans h.val, hb1.set v', ?_, h.ge, fun j hj k hk => ⟨fun e => hlt e hd.nd (fun j hj q hq => (h.aN j hj q hq).1) j hj hk, (h.aN j hj k hk).2⟩, fun j hj k hk => ⟨fun e => hlt e hd.lf (fun j hj q hq => (h.aL j hj q hq).1) j hj hk, (h.aL j hj k hk).2⟩, fun e => ?_⟩
    · rcases e with e | e
      · exact h.ne e
      · exact h.bne.2 e.symm
    · exact ho.offX (X := fun k => k = br) ((Off.refl (fun k => k = br) w1).setCell (p := ⟨br, 0, none⟩) (.inl rfl) v') (fun k hk => hnb k hk)
    · rcases hw bv e with h1 | h1
      · exact h.ne h1
      · have := h.val.lt; omega
end
end Go.Proofs.YtdchhfdmingnaaaDoor

/- Layer 13: package uses' Of: where a value is used. -/
namespace Go.Proofs.YtdchhfdmingnaaaDoor
open Go.RowKit
set_option linter.unusedVariables false
set_option linter.unusedSimpArgs false
attribute [local go_sem] Oper.semAt_some
def flatSi (l : List SiteU) : List Value := l.flatMap fun s => [.int .i64 0, .int .i64 (s.1 : Int), .int .i64 (s.2 : Int)]
def OwnsSi (w : World) (B : Nat) (v : Value) (l : List SiteU) : Prop := w.ownsRow B 41 3 v l.length (flatSi l)
theorem info_site : (Tryd.prog.info? 41).map (fun i => (i.zero, i.size, i.bytes)) = some (some (.agg #[.int .i64 0, .int .i64 0, .int .i64 0]), 3, 24) := by kernel_rfl
theorem flatSi_len (l : List SiteU) : (flatSi l).length = l.length * 3 := by
  induction l with
  | nil => rfl
  | cons x l ih => simp only [flatSi, List.flatMap_cons, List.length_append, List.length_cons, List.length_nil] at *; omega
theorem flatSi_more (l : List SiteU) (s : SiteU) : flatSi (l ++ [s]) = flatSi l ++ [.int .i64 0, .int .i64 (s.1 : Int), .int .i64 (s.2 : Int)] := by simp [flatSi]
theorem OwnsSi.slice {w : World} {B : Nat} {v : Value} {l : List SiteU} (h : OwnsSi w B v l) : ∃ va vc, v = .slice va l.length vc := by
  rcases h.2 with ⟨e, h0⟩ | ⟨g, cap, cur, e, _⟩
  · exact ⟨none, 0, by rw [h0]; exact e⟩
  · exact ⟨_, _, e⟩
theorem wpListIn_append_site {F : Fence} {n : Nat} (w : World) {ops : Array Oper} {rest : List Oper} {o : Oper} {a : Act} {Q : Exit → Act → World → Prop} (hgd : o.guard = none) (s x : Operand)
    (ho : o.op = .call { callee := .builtin .append, args := #[s, x], argTypes := #[37, 37] })
    (B : Nat) (v : Value) (l : List SiteU) (hs : a.eval s = v) (hown : OwnsSi w B v l) (hB : B ≤ w.heap.size)
    (C : Array Value) (c g : Nat) (z : SiteU) (hx : a.eval x = .slice (some ⟨g, 0, none⟩) 1 c) (hg : g = w.heap.size) (hC : C = #[.int .i64 0, .int .i64 (z.1 : Int), .int .i64 (z.2 : Int)])
    (hlen : l.length ≤ 1000000)
    (h : ∀ va vn vc w', OwnsSi w' B (.slice va vn vc) (l ++ [z]) → (w.alloc (.cells C 41)).grownBy w' v.ownBlock → (∀ i, (Value.slice va vn vc).ownBlock = some i → v.ownBlock = some i ∨ w.heap.size ≤ i) → wpListIn F n Tryd.prog ops Q rest (a.put o.dst (.slice va vn vc)) w') : wpListIn F n Tryd.prog ops Q (o :: rest) a (w.alloc (.cells C 41)) := by
  obtain ⟨i0, hi, hz0, hz1, hz2⟩ := info_parts info_site
  subst hC hg
  have hown1 : (w.alloc (.cells #[.int .i64 0, .int .i64 (z.1 : Int), .int .i64 (z.2 : Int)] 41)).ownsRow B 41 3 v l.length (flatSi l) := World.ownsRow.alloc hown _
  refine wpListIn_plain hgd fun K hK' => ?_
  obtain ⟨v', w', hrun, r1, r2, _, r4⟩ := run_append_own_at (P := Tryd.prog) (w := w.alloc (.cells #[.int .i64 0, .int .i64 (z.1 : Int), .int .i64 (z.2 : Int)] 41)) B 37 o.type 41 i0 (.agg #[.int .i64 0, .int .i64 0, .int .i64 0]) 3 24 Tryd.underlying37 hi hz0 hz1 hz2 rfl (by decide) v l.length (flatSi l) hown1 ⟨w.heap.size, 0, none⟩ 1 c [.int .i64 0, .int .i64 (z.1 : Int), .int .i64 (z.2 : Int)] rfl (fun j u hu => by
    rw [addr_plain, Nat.zero_add, World.cell?_alloc_mark]
    simpa using hu) (by intro u hu; simp at hu; rcases hu with rfl | rfl | rfl <;> rfl) (by unfold maxLen; omega) (by omega) (by simp; omega)
  have hown2 : OwnsSi w' B v' (l ++ [z]) := by
    show w'.ownsRow B _ 3 v' (l ++ [z]).length (flatSi (l ++ [z]))
    rw [flatSi_more, List.length_append]
    exact r1
  obtain ⟨va, vc, rfl⟩ := hown2.slice
  unfold Oper.wpIn
  refine ⟨?_, ?_⟩
  · simp [Oper.about, ho, resolve, Target.leads, Sem.run_pure]
  · rw [Oper.semAt_plain F _ _ (by rw [ho]; intro c hc'; cases hc')]
    simp [execOp, ho, resolve, invoke, builtin, hs, hx, hrun, Result.andThen]
    refine hK' _ _ ?_
    have := h va (l ++ [z]).length vc w' hown2 r2 (fun i hi' => by
      rcases r4 with e | e
      · exact .inl (e ▸ hi')
      · rw [e] at hi'; cases hi'; exact .inr (by simp))
    simpa using this
def OB (B : Nat) (W : World) (i : Nat) : Prop := i = B ∨ ∃ v, W.cell? ⟨B, 0, none⟩ = some v ∧ v.ownBlock = some i
theorem steady_OB (B : Nat) : SteadyO (OB B) := by
  intro W W' row hg hl hr i
  have hc : W'.cell? ⟨B, 0, none⟩ = W.cell? ⟨B, 0, none⟩ := World.cell?_of_block (hg.block B (hl.lt (.inl rfl)) (fun e => hr B e.symm (.inl rfl)))
  unfold OB
  rw [hc]
structure OfSt (w : World) (bx b3 : Nat) (x : Int) (W : World) (v : Value) (l : List SiteU) : Prop where
  box : Boxed W bx 37 v
  own : OwnsSi W w.heap.size v l
  val : W.cell? ⟨b3, 0, none⟩ = some (.int .i64 x)
  bel : Below w.heap.size w W
  ne : b3 ≠ bx ∧ v.ownBlock ≠ some b3 ∧ v.ownBlock ≠ some bx ∧ w.heap.size ≤ bx
theorem OfSt.ob {w W : World} {bx b3 : Nat} {x : Int} {v : Value} {l : List SiteU} (h : OfSt w bx b3 x W v l) {k : Nat} : OB bx W k ↔ k = bx ∨ v.ownBlock = some k := by
  unfold OB
  rw [h.box.cell]
  simp
theorem OfSt.blk {w W : World} {bx b3 : Nat} {x : Int} {v : Value} {l : List SiteU} (h : OfSt w bx b3 x W v l) {k : Nat} (hk : v.ownBlock = some k) : (∃ cur, W.heap[k]? = some (.cells cur 41 (0, 0))) ∧ w.heap.size ≤ k ∧ k < W.heap.size := by
  rcases h.own.2 with ⟨e, _⟩ | ⟨g, cap, cur, e, hB, hh, _⟩
  · subst e; cases hk
  · subst e; cases hk; exact ⟨⟨cur, hh⟩, hB, (Array.getElem?_eq_some_iff.1 hh).1⟩
theorem OfSt.lies {w W : World} {bx b3 : Nat} {x : Int} {v : Value} {l : List SiteU} (h : OfSt w bx b3 x W v l) : LiesO (OB bx) W := by
  intro k hk
  rcases h.ob.1 hk with rfl | hk
  · exact ⟨_, h.box, rfl⟩
  · obtain ⟨⟨cur, hc⟩, _⟩ := h.blk hk
    exact ⟨_, hc, rfl⟩
theorem OfSt.grown {w W W' : World} {bx b3 : Nat} {x : Int} {v : Value} {l : List SiteU} (h : OfSt w bx b3 x W v l) {row : Option Nat} (hg : W.grownBy W' row) (hr : ∀ r, row = some r → ¬ OB bx W r ∧ r ≠ b3 ∧ w.heap.size ≤ r) : OfSt w bx b3 x W' v l := by
  have h3 : b3 < W.heap.size := World.block_lt_of_cell? (a := ⟨b3, 0, none⟩) _ h.val
  refine ⟨(hg.block bx h.box.lt (fun e => (hr bx e.symm).1 (.inl rfl))).trans h.box, ?_, (World.cell?_of_block (a := ⟨b3, 0, none⟩) (hg.block b3 h3 (fun e => (hr b3 e.symm).2.1 rfl))).trans h.val, Below.grown h.bel hg h.bel.size (fun k hk => (hr k hk).2.2), h.ne⟩
  refine World.ownsRow.kept h.own hg ?_
  by_cases hv : v.ownBlock = none
  · exact .inl hv
  · refine .inr fun e => ?_
    obtain ⟨k, hk⟩ := Option.ne_none_iff_exists'.1 hv
    exact (hr k (by rw [← e]; exact hk)).1 (h.ob.2 (.inr hk))
end Go.Proofs.YtdchhfdmingnaaaDoor

/- Layer 13: package uses' Of, walked. -/
namespace Go.Proofs.YtdchhfdmingnaaaDoor
open Go.RowKit
set_option linter.unusedVariables false
set_option linter.unusedSimpArgs false
attribute [local go_sem] Oper.semAt_some
theorem ofL_len (x : Int) : ∀ (xs : List UseU) (s : List SiteU), (xs.foldl (ofStep x) s).length ≤ s.length + xs.length
  | [], s => by simp
  | y :: xs, s => by
    rw [List.foldl_cons]
    have h1 := ofL_len x xs (ofStep x s y)
    have h2 : (ofStep x s y).length ≤ s.length + 1 := by unfold ofStep; split <;> simp
    rw [List.length_cons]
    omega
theorem OfSt.push {w W U w1 : World} {bx b3 : Nat} {x : Int} {v v' : Value} {l l' : List SiteU} (h : OfSt w bx b3 x W v l) (hU : Below W.heap.size W U) (hg : U.grownBy w1 v.ownBlock) (ho : OwnsSi w1 w.heap.size v' l') (hw : ∀ k, v'.ownBlock = some k → v.ownBlock = some k ∨ W.heap.size ≤ k) :
    w1.cell? ⟨bx, 0, none⟩ = some v ∧ w1.frozen? ⟨bx, 0, none⟩ = false ∧ KeepO (OB bx) W (w1.setCell ⟨bx, 0, none⟩ v') ∧ OfSt w bx b3 x (w1.setCell ⟨bx, 0, none⟩ v') v' l' := by
  have hoff : Off (fun k => v.ownBlock = some k) W w1 := (Off.since hU).grown hg (fun k hk => .inl hk)
  have hb1 : Boxed w1 bx 37 v := (hoff.block _ h.box.lt h.ne.2.2.1).trans h.box
  have hoff2 : Off (fun k => v.ownBlock = some k ∨ k = bx) W (w1.setCell ⟨bx, 0, none⟩ v') := (hoff.mono (fun k _ hk => .inl hk)).setCell (p := ⟨bx, 0, none⟩) (.inl (.inr rfl)) v'
  have h3 : b3 < W.heap.size := World.block_lt_of_cell? (a := ⟨b3, 0, none⟩) _ h.val
  have hn : b3 ≠ bx ∧ v'.ownBlock ≠ some b3 ∧ v'.ownBlock ≠ some bx ∧ w.heap.size ≤ bx := by
    refine ⟨h.ne.1, fun e => ?_, fun e => ?_, h.ne.2.2.2⟩
    · rcases hw _ e with h1 | h1
      · exact h.ne.2.1 h1
      · omega
    · rcases hw _ e with h1 | h1
      · exact h.ne.2.2.1 h1
      · have := h.box.lt; omega
  have hown : OwnsSi (w1.setCell ⟨bx, 0, none⟩ v') w.heap.size v' l' := by
    refine ⟨ho.1, ?_⟩
    rcases ho.2 with hn' | ⟨g, cap, cur, e, hB, hh, rest⟩
    · exact .inl hn'
    · refine .inr ⟨g, cap, cur, e, hB, ?_, rest⟩
      rw [Below.heap_setCell _ _ _ _ (fun e' => hn.2.2.1 (by rw [e]; show some g = some bx; rw [show g = bx from e']))]
      exact hh
  have hX : ∀ k, (v.ownBlock = some k ∨ k = bx) → w.heap.size ≤ k := fun k hk => by
    rcases hk with hk | hk
    · exact (h.blk hk).2.1
    · rw [hk]; exact h.ne.2.2.2
  have hfin : OfSt w bx b3 x (w1.setCell ⟨bx, 0, none⟩ v') v' l' :=
    ⟨hb1.set v', hown, (hoff2.cell (p := ⟨b3, 0, none⟩) h3 (fun e => by rcases e with e | e; exact h.ne.2.1 e; exact h.ne.1 e)).trans h.val, h.bel.trans (hoff2.below h.bel.size hX), hn⟩
  refine ⟨hb1.cell, hb1.frozen, ⟨hoff2.size, fun k hk hno => hoff2.block k hk (fun e => hno (h.ob.2 (e.elim .inr .inl))), fun k hk hlt => ?_, hoff2.os, hoff2.tape, hoff2.output⟩, hfin⟩
  rcases hfin.ob.1 hk with e | e
  · exact h.ob.2 (.inl e)
  · rcases hw k e with h1 | h1
    · exact h.ob.2 (.inr h1)
    · omega
theorem site_in (w : World) (d : Nat) (a b c e : Int) : (Op.equalIn (d + 2) 41 (.agg #[.int .i64 0, .int .i64 a, .int .i64 b]) (.agg #[.int .i64 0, .int .i64 c, .int .i64 e])).run Tryd.prog w = .ok (decide (a = c ∧ b = e)) w := by
  rw [show d + 2 = (d + 1) + 1 from rfl, run_equalIn_struct w (d + 1) 41 _ _ (by kernel_rfl) (by kernel_rfl)]
  have hf : (Tryd.prog.fieldsOf 41).toList = [⟨"Fun", 3, 0, false, "", "", 0⟩, ⟨"Block", 3, 1, false, "", "", 8⟩, ⟨"At", 3, 2, false, "", "", 16⟩] := by simp [Program.fieldsOf, Tryd.underlying41]
  rw [hf]
  simp [Op.eqFields, go_sem]
  by_cases h1 : a = c <;> by_cases h2 : b = e <;> simp [h1, h2]
theorem site_ne (w : World) (a b c e : Int) : (binOp .neq 41 (.agg #[.int .i64 0, .int .i64 a, .int .i64 b]) (.agg #[.int .i64 0, .int .i64 c, .int .i64 e])).run Tryd.prog w = .ok (.bool (!decide (a = c ∧ b = e))) w := by
  simp only [binOp]
  simp [Op.equal, Op.maxDepth, site_in w 9998]
theorem siteCells {w : World} {B : Nat} {va : Option Addr} {n vc : Nat} {L0 : List SiteU} {s : SiteU} (h : OwnsSi w B (.slice va n vc) (L0 ++ [s])) : ∃ g, va = some ⟨g, 0, none⟩ ∧ w.cell? ⟨g, L0.length * 3, none⟩ = some (.int .i64 0) ∧ w.cell? ⟨g, L0.length * 3 + 1, none⟩ = some (.int .i64 (s.1 : Int)) ∧ w.cell? ⟨g, L0.length * 3 + 2, none⟩ = some (.int .i64 (s.2 : Int)) := by
  have h0 : w.ownsRow B 41 3 (.slice va n vc) (L0 ++ [s]).length (flatSi (L0 ++ [s])) := h
  rcases h.2 with ⟨e, h1⟩ | ⟨g, cap, cur, e, _⟩
  · simp at h1
  · simp only [Value.slice.injEq] at e
    have hva := e.1
    subst hva
    have hl := flatSi_len L0
    have hc : ∀ j, j < 3 → (flatSi (L0 ++ [s]))[L0.length * 3 + j]? = ([.int .i64 0, .int .i64 (s.1 : Int), .int .i64 (s.2 : Int)] : List Value)[j]? := fun j hj => by
      rw [flatSi_more, List.getElem?_append_right (by omega), hl]
      congr 1
      omega
    have hk : ∀ j v, ([.int .i64 0, .int .i64 (s.1 : Int), .int .i64 (s.2 : Int)] : List Value)[j]? = some v → j < 3 → w.cell? ⟨g, L0.length * 3 + j, none⟩ = some v := fun j v hv hj => by
      have := World.ownsRow.cells h0 rfl _ _ ((hc j hj).trans hv)
      rwa [addr_plain, Nat.zero_add] at this
    exact ⟨g, rfl, hk 0 _ rfl (by omega), hk 1 _ rfl (by omega), hk 2 _ rfl (by omega)⟩
def SitesPost (l : List SiteU) (w : World) (e : Ending) (w' : World) : Prop := ∃ va vc, e = .returned (.slice va l.length vc) ∧ OwnsSi w' w.heap.size (.slice va l.length vc) l ∧ Below w.heap.size w w'
set_option maxRecDepth 100000 in
set_option maxHeartbeats 4000000 in
theorem of_any (r : Int) (a : Option Addr) (n c : Nat) (f : FuncD) (x : Int) (w : World) (hq : FuncQ w [.int .i64 r, .slice a n c] f) (hft : FT w) (hsm : SmU f) (hN : (usesU f).length ≤ 900000) :
    Calls Tryd.prog 11 #[.agg #[.int .i64 r, .slice a n c], .int .i64 x] w (SitesPost (ofL x (usesU f)) w) := by
  have HQ := Lib.hid hq
  have HFT := Lib.hid hft
  have HSM := Lib.hid hsm
  have HN := Lib.hid hN
  clear hq hft hsm hN
  refine (callsIn_wide (n := 9)).1 ?_
  refine callsIn_of_wp_marks Tryd.func11 rfl trivial ?_ rfl
  simp only [Tryd.ntmps11, List.size_toArray, List.length_cons, List.length_nil, Nat.reduceAdd, Nat.reduceSub, Array.replicate_succ, Array.replicate_zero, List.push_toArray, List.append_toArray, List.nil_append, List.cons_append]
  gi_wp2_with (refine ⟨trivial, ?_⟩; gi_at_call 25; refine (callsIn_wide.2 (uuses_any r a n c _)).mono ?_; rintro e w' ⟨rfl, rfl⟩)
  obtain ⟨W0, hW0⟩ : ∃ W0, (((w.alloc (.cells #[.int .i64 r, .slice a n c] 30)).alloc (.cells #[.int .i64 x] 3)).alloc (.cells #[.slice none 0 0] 37)).alloc (.cells #[.int .i64 r, .slice a n c] 30) = W0 := ⟨_, rfl⟩
  have hz0 : W0.heap.size = w.heap.size + 4 := by rw [← hW0]; simp
  have hbw : Below w.heap.size w W0 := by rw [← hW0]; exact ((((Below.refl _ w).alloc (Nat.le_refl _) _).alloc (by simp) _).alloc (by simp <;> omega) _).alloc (by simp <;> omega) _
  have hcb : ∀ j, W0.cell? ⟨w.heap.size + 1 + 1 + 1, j, none⟩ = (#[.int .i64 r, .slice a n c] : Array Value)[j]? := by
    intro j
    rw [← hW0, show w.heap.size + 1 + 1 + 1 = (((w.alloc (.cells #[.int .i64 r, .slice a n c] 30)).alloc (.cells #[.int .i64 x] 3)).alloc (.cells #[.slice none 0 0] 37)).heap.size by simp]
    exact World.cell?_alloc_mark _ _ _ _ _
  have hbx : Boxed W0 (w.heap.size + 1 + 1) 37 (.slice none 0 0) := by
    rw [← hW0]
    have h := (Boxed.new ((w.alloc (.cells #[.int .i64 r, .slice a n c] 30)).alloc (.cells #[.int .i64 x] 3)) 37 (.slice none 0 0)).alloc (.cells #[.int .i64 r, .slice a n c] 30)
    rw [World.size_alloc, World.size_alloc] at h
    exact h
  have hvx : W0.cell? ⟨w.heap.size + 1, 0, none⟩ = some (.int .i64 x) := by
    have h : Boxed W0 (w.heap.size + 1) 3 (.int .i64 x) := by
      rw [← hW0]
      have h := ((Boxed.new (w.alloc (.cells #[.int .i64 r, .slice a n c] 30)) 3 (.int .i64 x)).alloc (.cells #[.slice none 0 0] 37)).alloc (.cells #[.int .i64 r, .slice a n c] 30)
      rw [World.size_alloc] at h
      exact h
    exact h.cell
  have HS0 : RowKit.Hid (OfSt w (w.heap.size + 1 + 1) (w.heap.size + 1) x W0 (.slice none 0 0) (ofL x [])) := Lib.hid
    ⟨hbx, World.ownsRow_nil _ _ _ 3, hvx, hbw, by omega, (fun e => by cases e), (fun e => by cases e), by omega⟩
  rw [hW0]
  clear hW0
  have hogn : ∀ k, OB (w.heap.size + 1 + 1) W0 k → k = w.heap.size + 1 + 1 := fun k hk => by
    rcases HS0.out.ob.1 hk with e | e
    · exact e
    · cases e
  have HZ0 := Lib.hid hz0
  have hseq := uses_seq (steady_OB (w.heap.size + 1 + 1)) r a n c f (w.heap.size + 1 + 1 + 1) w W0 HQ.out HFT.out HSM.out hbw hcb (fun e => by have := hogn _ e; omega) (fun i hi => by have := hogn i hi; omega) HS0.out.lies 8
  clear hbx hcb hbw hogn hz0 hvx
  refine wpIn_rangeFunc_O (steady_OB (w.heap.size + 1 + 1)) rfl (by omega) (gf := 36) (lb := #[.pointer (some ⟨w.heap.size + 1 + 1 + 1, 0, none⟩)]) rfl trivial (enters_of Tryd.func36 (by kernel_rfl) rfl) hseq (Below.refl _ _) (fun _ => rfl)
    (fun pre W => ∃ v, OfSt w (w.heap.size + 1 + 1) (w.heap.size + 1) x W v (ofL x pre)) (fun s W ⟨_, h⟩ => h.lies) ?hI ⟨_, HS0.out⟩
    (fun y a' W => ∃ p, a' = { tmps := #[.agg #[.int .i64 r, .slice a n c], .int .i64 x, .pointer (some ⟨w.heap.size, 0, none⟩), .pointer (some ⟨w.heap.size + 1, 0, none⟩), .slice none 0 0, .pointer (some ⟨w.heap.size + 1 + 1, 0, none⟩), .pointer (some ⟨p, 0, none⟩), .int .i64 y.2, undef, .agg #[.int .i64 r, .slice a n c], .func (.func 36) #[] #[.pointer (some ⟨w.heap.size + 1 + 1 + 1, 0, none⟩)], siteV y.1, .int .i64 y.2, undef, undef, undef, undef, undef, undef, undef, undef, undef, undef, undef, undef, undef, undef, undef, undef, undef, undef, undef, undef, undef, undef, undef], defers := [] } ∧ W.heap[p]? = some (.cells #[.int .i64 0, .int .i64 (y.1.1 : Int), .int .i64 (y.1.2 : Int)] 41 (0, 0))) ?hAx ?assign ?body ?ran
  case hI =>
    rintro s W W' row ⟨v, h⟩ hg hr
    exact ⟨v, h.grown hg (fun r e => by have h1 := (hr r e).1; have h2 := HZ0.out; exact ⟨(hr r e).2, by omega, by omega⟩)⟩
  case hAx =>
    rintro y a' W W' row ⟨p, rfl, hp⟩ hg hr
    refine ⟨p, rfl, (hg.block p (Array.getElem?_eq_some_iff.1 hp).1 (fun e => ?_)).trans hp⟩
    obtain ⟨o, ho, hc⟩ := hr p e.symm
    rw [hp] at ho
    cases ho
    cases hc
  case assign =>
    rintro l pre y W K' ⟨v, hS⟩ hK'
    have HS := Lib.hid hS
    clear hS
    gi_wp2
    refine hK' _ _ (KeepO.alloc (steady_OB _) HS.out.lies _) ⟨v, HS.out.grown (World.grownBy_alloc W _ none) (fun r e => by cases e)⟩ ⟨W.heap.size, rfl, World.alloc_heap_new _ _⟩
  case body =>
    rintro l pre y a' W hl0 _ ⟨v, hS⟩ ⟨p, rfl, hp⟩ hV hlen
    obtain ⟨va, vc, rfl⟩ := hS.own.slice
    have hll : (ofL x pre).length ≤ 900000 := by have h1 := ofL_len x pre []; have h2 := HN.out; unfold ofL; simp only [List.length_nil] at h1; omega
    have HMORE := Lib.hid (ofL_more x pre y)
    have hbc := hS.box.cell
    have hbf := hS.box.frozen
    have hvc := hS.val
    have hp0 : W.cell? ⟨p, 0, none⟩ = some (.int .i64 0) := by simp [World.cell?, hp]
    have hp1 : W.cell? ⟨p, 1, none⟩ = some (.int .i64 (y.1.1 : Int)) := by simp [World.cell?, hp]
    have hp2 : W.cell? ⟨p, 2, none⟩ = some (.int .i64 (y.1.2 : Int)) := by simp [World.cell?, hp]
    have HLL0 := Lib.hid hll
    have HS := Lib.hid hS
    clear hS hV hlen hl0 hp hseq HQ HFT HSM HN HS0
    generalize ofL x pre = L at *
    obtain ⟨⟨y1, y2⟩, y3⟩ := y
    simp only at hp1 hp2 HMORE ⊢
    have hmix : Tryd.prog.follows .mixedOrders = true := by kernel_rfl
    have hw1 : wrap64 ((L.length : Int) - 1) = (L.length : Int) - 1 := wrap_id (by omega) (by omega)
    by_cases hyx : y3 = x
    · have hne : (y3 == x) = true := by simpa using hyx
      rcases List.eq_nil_or_concat L with hL | ⟨L0, s, hL⟩
      · subst hL
        have HM : RowKit.Hid (ofL x (pre ++ [((y1, y2), y3)]) = [] ++ [(y1, y2)]) := Lib.hid (by rw [HMORE.out]; unfold ofStep; rw [if_pos ⟨hyx, by simp⟩])
        have HLL : RowKit.Hid (([] : List SiteU).length ≤ 1000000) := Lib.hid (by simp)
        simp only [List.length_nil] at hbc hw1
        have hw5 : wrap64 (0 - 1) = -1 := wrap_id (by omega) (by omega)
        have hw6 : wrap64 (-1) = -1 := wrap_id (by omega) (by omega)
        have HOU : RowKit.Hid (OwnsSi W w.heap.size (.slice va 0 vc) []) := Lib.hid HS.out.own
        clear hyx HMORE hll hw1
        gi_upto_region 6 with fail
        refine wpIn_region_quietC hmix (by kernel_rfl) (by kernel_rfl) ?_
        clear hmix
        repeat (go_big_quiet_step (fail))
        refine wpQuiet_nil ?_
        intro _ hw'
        obtain ⟨nq, hw''⟩ := hw'
        subst hw''
        have HUQ : RowKit.Hid (OwnsSi (W.drewN nq) w.heap.size (.slice va 0 vc) [] ∧ w.heap.size ≤ (W.drewN nq).heap.size) := Lib.hid ⟨HOU.out, HS.out.bel.size⟩
        gi_wp2_with (gi_at_builtin; refine wpListIn_append_site _ rfl _ _ rfl w.heap.size (.slice va 0 vc) [] ?_ ?_ ?_ _ 1 W.heap.size (y1, y2) ?_ ?_ ?_ ?_ ?_; (next => rfl); (next => exact (HUQ.out.1)); (next => exact HUQ.out.2); (next => rfl); (next => rfl); (next => rfl); (next => exact HLL.out); intro xa xn xc w5 ho5 hg5 hw5; have HP := Lib.hid (HS.out.push (((below_drewN nq (Below.refl _ _)).alloc (Nat.le_refl _) _)) hg5 ho5 hw5); have k0 := HP.out.1; have k1 := HP.out.2.1; clear ho5 hg5 hw5)
        exact ⟨HP.out.2.2.1, _, by rw [HM.out]; exact HP.out.2.2.2⟩
      · rw [List.concat_eq_append] at hL
        subst hL
        obtain ⟨gs, hga, s0, s1, s2⟩ := siteCells HS.out.own
        subst hga
        have hlen1 : (L0 ++ [s]).length = L0.length + 1 := by simp
        obtain ⟨ln, hln⟩ : ∃ k, k = L0.length := ⟨_, rfl⟩
        rw [hlen1, ← hln] at hbc hw1
        rw [← hln] at s0 s1 s2
        have hll2 : ln ≤ 900000 := by rw [hlen1] at hll; omega
        have hw2 : ((ln + 1 : Nat) : Int) - 1 = (ln : Int) := by omega
        have hw3 : wrap64 (((ln + 1 : Nat) : Int) - 1) = (ln : Int) := by rw [hw1, hw2]
        have hw4 : wrap64 ((ln : Int) + 1 - 1) = (ln : Int) := by rw [wrap_id (by omega) (by omega)]; omega
        have hi1 : (ln : Int) < ((ln + 1 : Nat) : Int) := by omega
        have hi2 : ¬ ((ln : Int) < 0) := by omega
        have hi3 : (ln : Int) < (ln : Int) + 1 := by omega
        have HLL : RowKit.Hid ((L0 ++ [s]).length ≤ 1000000) := Lib.hid (by omega)
        have HOU : RowKit.Hid (OwnsSi W w.heap.size (.slice (some ⟨gs, 0, none⟩) (ln + 1) vc) (L0 ++ [s])) := Lib.hid (by have h := HS.out.own; rw [hlen1, ← hln] at h; exact h)
        clear hlen1 hln hll hw1 hw2
        by_cases hs : s = (y1, y2)
        · have HM : RowKit.Hid (ofL x (pre ++ [((y1, y2), y3)]) = L0 ++ [s]) := Lib.hid (by rw [HMORE.out]; unfold ofStep; rw [if_neg (fun e => e.2 (by simp [hs]))])
          have hcmp : ∀ u : World, (binOp .neq 41 (.agg #[.int .i64 0, .int .i64 (s.1 : Int), .int .i64 (s.2 : Int)]) (.agg #[.int .i64 0, .int .i64 (y1 : Int), .int .i64 (y2 : Int)])).run Tryd.prog u = .ok (.bool false) u := fun u => by rw [site_ne, hs]; simp
          clear hyx HMORE hs
          gi_upto_region 6 with fail
          refine wpIn_region_quietC hmix (by kernel_rfl) (by kernel_rfl) ?_
          clear hmix
          repeat (go_big_quiet_step (fail))
          refine wpQuiet_nil ?_
          intro _ hw'
          obtain ⟨nq, hw''⟩ := hw'
          subst hw''
          gi_wp2
          have hb : Below W.heap.size W (W.drewN nq) := below_drewN nq (Below.refl _ _)
          exact ⟨KeepO.grown (steady_OB _) (grownBy_of_below hb) HS.out.lies (fun r e => by cases e), _, by rw [HM.out]; exact HS.out.grown (grownBy_of_below hb) (fun r e => by cases e)⟩
        · have HM : RowKit.Hid (ofL x (pre ++ [((y1, y2), y3)]) = L0 ++ [s] ++ [(y1, y2)]) := Lib.hid (by rw [HMORE.out]; unfold ofStep; rw [if_pos ⟨hyx, by simpa using fun e => hs e⟩])
          have hcmp : ∀ u : World, (binOp .neq 41 (.agg #[.int .i64 0, .int .i64 (s.1 : Int), .int .i64 (s.2 : Int)]) (.agg #[.int .i64 0, .int .i64 (y1 : Int), .int .i64 (y2 : Int)])).run Tryd.prog u = .ok (.bool true) u := fun u => by
            rw [site_ne]
            have : ¬ ((s.1 : Int) = (y1 : Int) ∧ (s.2 : Int) = (y2 : Int)) := fun e => hs (by ext <;> simp <;> omega)
            simp [this]
          clear hyx HMORE hs
          gi_upto_region 6 with fail
          refine wpIn_region_quietC hmix (by kernel_rfl) (by kernel_rfl) ?_
          clear hmix
          repeat (go_big_quiet_step (fail))
          refine wpQuiet_nil ?_
          intro _ hw'
          obtain ⟨nq, hw''⟩ := hw'
          subst hw''
          have HUQ : RowKit.Hid (OwnsSi (W.drewN nq) w.heap.size (.slice (some ⟨gs, 0, none⟩) (ln + 1) vc) (L0 ++ [s]) ∧ w.heap.size ≤ (W.drewN nq).heap.size) := Lib.hid ⟨HOU.out, HS.out.bel.size⟩
          gi_wp2_with (gi_at_builtin; refine wpListIn_append_site _ rfl _ _ rfl w.heap.size (.slice (some ⟨gs, 0, none⟩) (ln + 1) vc) (L0 ++ [s]) ?_ ?_ ?_ _ 1 W.heap.size (y1, y2) ?_ ?_ ?_ ?_ ?_; (next => rfl); (next => exact (HUQ.out.1)); (next => exact HUQ.out.2); (next => rfl); (next => rfl); (next => rfl); (next => exact HLL.out); intro xa xn xc w5 ho5 hg5 hw5; have HP := Lib.hid (HS.out.push (((below_drewN nq (Below.refl _ _)).alloc (Nat.le_refl _) _)) hg5 ho5 hw5); have k0 := HP.out.1; have k1 := HP.out.2.1; clear ho5 hg5 hw5)
          exact ⟨HP.out.2.2.1, _, by rw [HM.out]; exact HP.out.2.2.2⟩
    · have hne : (y3 == x) = false := by simpa using hyx
      have HM : RowKit.Hid (ofL x (pre ++ [((y1, y2), y3)]) = L) := Lib.hid (by rw [HMORE.out]; unfold ofStep; rw [if_neg (fun e => hyx e.1)])
      clear hyx HMORE
      gi_upto_region 6 with fail
      refine wpIn_region_quietC hmix (by kernel_rfl) (by kernel_rfl) ?_
      clear hmix hbf hw1 hp0 hp1 hp2 hll hbc
      repeat (go_big_quiet_step (fail))
      refine wpQuiet_nil ?_
      intro _ hw'
      obtain ⟨nq, hw''⟩ := hw'
      subst hw''
      gi_wp2
      have hb : Below W.heap.size W (W.drewN nq) := below_drewN nq (Below.refl _ _)
      exact ⟨KeepO.grown (steady_OB _) (grownBy_of_below hb) HS.out.lies (fun r e => by cases e), _, by rw [HM.out]; exact HS.out.grown (grownBy_of_below hb) (fun r e => by cases e)⟩
  case ran =>
    rintro D ys U hD rfl ⟨v, hS⟩ hK
    have HS := Lib.hid hS
    have HK := Lib.hid hK
    obtain ⟨va, vc, rfl⟩ := hS.own.slice
    have hv := hS.box.cell
    clear hS hK
    gi_wp2
    refine ⟨by simp, .inl ⟨_, _, rfl, run_takeDeferred HK.out, ?_⟩⟩
    have h1 := HS.out.grown (grownBy_putObj' U D (.deferred none)) (fun r e => by
      cases e
      refine ⟨fun ho => ?_, by have := HZ0.out; omega, by have := HZ0.out; omega⟩
      obtain ⟨o, h2, h3⟩ := HS.out.lies _ ho
      rw [HK.out] at h2
      cases h2
      cases h3)
    exact ⟨_, results_tmp rfl _ _ _, _, _, rfl, h1.own, h1.bel⟩
end Go.Proofs.YtdchhfdmingnaaaDoor

/- Layer 13: the document's Of and Count: where, and how often, a value is used. -/
namespace Go.Proofs.YtdchhfdmingnaaaDoor
open Go.RowKit (wrap64 intOf Below)
set_option linter.unusedVariables false
set_option linter.unusedSimpArgs false
theorem lenU_le {f : FuncD} {i : Nat} (hi : i < f.blocks.length) : fstU f i + lenU f i ≤ fstU f (i + 1) := by
  rw [fstU_more hi]
  show _ + (blkU f i).ops.length ≤ _
  rw [blkU_at hi]
  omega
theorem atU_len {r : Int} {a : Option Addr} {n c : Nat} {f : FuncD} {i k : Nat} {w : World} (hq : FuncQ w [.int .i64 r, .slice a n c] f) (hsm : SmU f) (hi : i < n) (hk : k ≤ lenU f i) : (atU f i k).length ≤ 140737488355328 := by
  obtain ⟨bv, he, _, hr⟩ := hq
  simp only [List.cons.injEq, Value.int.injEq, true_and, and_true] at he
  obtain ⟨_, rfl⟩ := he
  obtain ⟨g, off, pa, pn, pc, oa, on, oc, la, ln, lc, ma, mn, mc, rfl, hg, hblk, hops, hla, hma⟩ := block_atO hr hi
  have hon : on = lenU f i := by obtain ⟨_, _, _, e, h, _⟩ := hops; cases e; exact h.symm
  by_cases hlk : k < on
  · obtain ⟨hx, go, oo, ka, kn, kc, rfl, hgo, hoc, hka⟩ := op_atO hops hlk
    rw [atU_op hx]
    have h1 := usesL_len (blkU f i).ops[k].K (blkU f i).ops[k].A (blkU f i).ops[k].B (blkU f i).ops[k].C (blkU f i).ops[k].L
    have h2 := hka.2.2
    have h3 : (blkU f i).ops[k].L.length = kn := hka.1.1
    show (usesL _ _ _ _ _).length ≤ _
    omega
  · rw [atU_end f i k (by show lenU f i ≤ k; omega), blkU_end]
    have := endU_len f.ret (hsm.l i) (hsm.m i)
    omega
theorem OwnsSi.below {w w' : World} {B : Nat} {v : Value} {l : List SiteU} (h : OwnsSi w B v l) (hb : Below w.heap.size w w') : OwnsSi w' B v l := by
  refine ⟨h.1, ?_⟩
  rcases h.2 with hn | ⟨g, cap, cur, rfl, hB, hg, rest⟩
  · exact .inl hn
  · refine .inr ⟨g, cap, cur, rfl, hB, ?_, rest⟩
    rw [hb.block g (Array.getElem?_eq_some_iff.1 hg).1]
    exact hg
theorem OwnsSi.mono {w : World} {B B' : Nat} {v : Value} {l : List SiteU} (h : OwnsSi w B v l) (hB : B' ≤ B) : OwnsSi w B' v l := by
  refine ⟨h.1, ?_⟩
  rcases h.2 with hn | ⟨g, cap, cur, rfl, hg, rest⟩
  · exact .inl hn
  · exact .inr ⟨g, cap, cur, rfl, Nat.le_trans hB hg, rest⟩
structure SiSt (w : World) (r : Int) (a : Option Addr) (n c : Nat) (v : Value) (l : List SiteU) (W : World) : Prop where
  bel : Below w.heap.size w W
  siz : w.heap.size + 1 ≤ W.heap.size
  c0 : W.cell? ⟨w.heap.size, 0, none⟩ = some (.int .i64 r)
  c1 : W.cell? ⟨w.heap.size, 1, none⟩ = some (.slice a n c)
  own : OwnsSi W (w.heap.size + 1) v l
section
variable {w W W' : World} {r : Int} {a : Option Addr} {n c : Nat} {v v' : Value} {l l' : List SiteU}
theorem SiSt.since (h : SiSt w r a n c v l W) (hb : Below W.heap.size W W') : SiSt w r a n c v l W' :=
  ⟨h.bel.trans (hb.mono h.bel.size), Nat.le_trans h.siz hb.size, (hb.cell (p := ⟨w.heap.size, 0, none⟩) h.siz).trans h.c0, (hb.cell (p := ⟨w.heap.size, 1, none⟩) h.siz).trans h.c1, h.own.below hb⟩
theorem SiSt.push (h : SiSt w r a n c v l W) (hb : Below (w.heap.size + 1) W W') (ho : OwnsSi W' (w.heap.size + 1) v' l') : SiSt w r a n c v' l' W' :=
  ⟨h.bel.trans (hb.mono (by omega)), Nat.le_trans h.siz hb.size, (hb.cell (p := ⟨w.heap.size, 0, none⟩) (Nat.lt_succ_self _)).trans h.c0, (hb.cell (p := ⟨w.heap.size, 1, none⟩) (Nat.lt_succ_self _)).trans h.c1, ho⟩
end
end Go.Proofs.YtdchhfdmingnaaaDoor

/- Layer 13: the document's Count: how often a value is used. -/
namespace Go.Proofs.YtdchhfdmingnaaaDoor
open Go.RowKit (wrap64 intOf Below)
set_option linter.unusedVariables false
set_option linter.unusedSimpArgs false
theorem law_enter13 (w : World) (r : Int) (a : Option Addr) (n c : Nat) : LawSt w r a n c none 0 [] (w.alloc (.cells #[.int .i64 r, .slice a n c] 30)) := by
  have hc : ∀ j, (w.alloc (.cells #[.int .i64 r, .slice a n c] 30)).cell? ⟨w.heap.size, j, none⟩ = (#[.int .i64 r, .slice a n c] : Array Value)[j]? := fun j => World.cell?_alloc_mark _ _ _ _ _
  exact ⟨(Below.refl w.heap.size w).alloc (Nat.le_refl _) _, by simp, hc 0, hc 1, NumsAt.nil _ _⟩
end Go.Proofs.YtdchhfdmingnaaaDoor

/- Layer 13: the document's makes and Needs: whether a block needs a value ahead. -/
namespace Go.Proofs.YtdchhfdmingnaaaDoor
open Go.RowKit (wrap64 intOf Below)
set_option linter.unusedVariables false
set_option linter.unusedSimpArgs false
theorem natU_of {N : Nat} {z : Int} (h : There N z) : ∃ k : Nat, z = k ∧ k < N := ⟨z.toNat, by have := h.1; omega, by have := h.1; have := h.2; omega⟩
theorem uown_addr {W : World} {B : Nat} {e : TypeId} {va : Option Addr} {vn vc : Nat} {Z : List Int} (h : OwnsI W B e (.slice va vn vc) Z) (h0 : 0 < Z.length) : ∃ g, va = some ⟨g, 0, none⟩ ∧ B ≤ g ∧ g < W.heap.size := by
  rcases h.2 with ⟨e, h'⟩ | ⟨g, cap, cur, e, hB, hh, _⟩
  · omega
  · cases e; exact ⟨g, rfl, hB, (Array.getElem?_eq_some_iff.1 hh).1⟩
theorem uown_cell {W : World} {B : Nat} {e : TypeId} {g vn vc : Nat} {Z : List Int} (h : OwnsI W B e (.slice (some ⟨g, 0, none⟩) vn vc) Z) {j : Nat} (hj : j < Z.length) : W.cell? ⟨g, j, none⟩ = some (.int .i64 (nth Z j)) := by
  have := World.ownsRow.cells h rfl j (numV Z[j]) (by rw [List.getElem?_map, List.getElem?_eq_getElem hj]; rfl)
  rw [addr_plain, Nat.zero_add] at this
  rw [nth_is hj]
  exact this
theorem quietU_more {P : Program} {f : FuncId} {args : Array Value} {w : World} {a n : Nat} {v : Value} (h : Calls P f args (w.drewN (a + n)) fun e w' => e = .returned v ∧ ∃ m, w' = (w.drewN (a + n)).drewN m) :
    Calls P f args (w.drewN (a + n)) fun e w'' => e = .returned v ∧ ∃ m, w'' = w.drewN (a + m) :=
  h.mono fun _ _ ⟨he, m, hm⟩ => ⟨he, n + m, by rw [hm, World.drewN_drewN, Nat.add_assoc]⟩
theorem wpList_append_numU {P : Program} (w : World) {ops : Array Oper} {rest : List Oper} {o : Oper} {a : Act} {Q : Exit → Act → World → Prop} (hgd : o.guard = none) (s x : Operand) (t : TypeId)
    (ho : o.op = .call { callee := .builtin .append, args := #[s, x], argTypes := #[t, t] }) (e : TypeId) (ht : P.underlying t = some (.slice e))
    (hinfo : (P.info? e).map (fun i => (i.zero, i.size, i.bytes)) = some (some (.int .i64 0), 1, 8))
    (B : Nat) (v : Value) (Z : List Int) (hs : a.eval s = v) (hown : OwnsI w B e v Z) (hB : B ≤ w.heap.size)
    (C : Array Value) (c g : Nat) (z : Int) (hx : a.eval x = .slice (some ⟨g, 0, none⟩) 1 c) (hg : g = w.heap.size) (hC : C = #[.int .i64 z])
    (hlen : (Z.length + 1) * 8 ≤ 140737488355328)
    (h : ∀ va vn vc w', OwnsI w' B e (.slice va vn vc) (Z ++ [z]) → (w.alloc (.cells C e)).grownBy w' v.ownBlock → (∀ i, (Value.slice va vn vc).ownBlock = some i → v.ownBlock = some i ∨ w.heap.size ≤ i) → wpList P ops Q rest (a.put o.dst (.slice va vn vc)) w') : wpList P ops Q (o :: rest) a (w.alloc (.cells C e)) := by
  obtain ⟨i0, hi, hz0, hz1, hz2⟩ := info_parts hinfo
  subst hC hg
  have hcell : (w.alloc (.cells #[.int .i64 z] e)).cell? ⟨w.heap.size, 0, none⟩ = some (.int .i64 z) := by rw [World.cell?_alloc_mark]; rfl
  have hown1 : OwnsI (w.alloc (.cells #[.int .i64 z] e)) B e v Z := World.ownsRow.alloc hown _
  refine wpList_plain hgd fun K hK' => ?_
  obtain ⟨v', w', hrun, r1, r2, _⟩ := run_append_own (P := P) (w.alloc (.cells #[.int .i64 z] e)) B t o.type e i0 (.int .i64 0) 1 8 ht hi hz0 hz1 hz2 rfl (by decide) v Z.length (Z.map numV) hown1 ⟨w.heap.size, 0, none⟩ 1 c [.int .i64 z] rfl (fun j u hu => by
    obtain ⟨hj, rfl⟩ := List.getElem?_eq_some_iff.1 hu
    simp only [List.length_cons, List.length_nil] at hj
    obtain rfl : j = 0 := by omega
    simp [Addr.add]) (by intro u hu; simp at hu; subst hu; rfl) (by unfold maxLen; omega) hlen (by simp; omega)
  have hwh := append_where ht hi hz0 hz1 hz2 hown1 hcell hlen hrun
  have hown2 : OwnsI w' B e v' (Z ++ [z]) := by
    show w'.ownsRow B e 1 v' (Z ++ [z]).length ((Z ++ [z]).map numV)
    rw [List.map_append, List.length_append]
    exact r1
  obtain ⟨va, vn, vc, rfl, _⟩ := hown2.nums
  unfold Oper.wp
  simp [execOp, ho, resolve, invoke, builtin, hs, hx, hrun, Result.andThen]
  exact hK' _ _ (h va vn vc w' hown2 r2 (fun i hi' => (hwh i hi').imp id (fun h' => by simp at h'; omega)))
theorem belowU_drewN {B : Nat} {w u : World} (q : Nat) (h : Below B w u) : Below B w (u.drewN q) := h.trans ⟨rfl, rfl, rfl, Nat.le_refl _, fun _ _ => rfl⟩
structure NMet (f : FuncD) (v : Int) (b0 : Nat) (D Z : List Int) : Prop where
  inv : Inv f.blocks.length Z
  start : (b0 : Int) ∈ Z
  sound : ∀ y : Nat, (y : Int) ∈ Z → NeedU f v y → NeedU f v b0
  clos : ∀ x ∈ D, MakesU f x.toNat v ∨ (¬ InU f v x.toNat ∧ ∀ z ∈ nxF f x.toNat, There f.blocks.length z → z ∈ Z)
section
variable {f : FuncD} {v : Int} {b0 : Nat} {D Z : List Int}
theorem NMet.one (h : b0 < f.blocks.length) : NMet f v b0 [] [(b0 : Int)] :=
  ⟨⟨by simp, fun x hx => by simp at hx; subst hx; exact ⟨by omega, by omega⟩⟩, by simp, fun y hy hn => by
    simp at hy
    have : y = b0 := by omega
    rw [← this]; exact hn, fun x hx => (nomatch hx)⟩
theorem NMet.more (h : NMet f v b0 D Z) {x : Nat} {z : Int} (hx : (x : Int) ∈ Z) (hm : ¬ MakesU f x v) (hz : z ∈ nxF f x) (hT : There f.blocks.length z) (hn : z ∉ Z) : NMet f v b0 D (Z ++ [z]) := by
  refine ⟨h.inv.more hT hn, List.mem_append_left _ h.start, fun y hy hy2 => ?_, fun u hu => ?_⟩
  · rcases List.mem_append.1 hy with hy | hy
    · exact h.sound y hy hy2
    · simp at hy
      subst hy
      exact h.sound x hx (.on x y (by have := (h.inv.2 _ hx).2; omega) hm hz hy2)
  · rcases h.clos u hu with h1 | ⟨h1, h2⟩
    · exact .inl h1
    · exact .inr ⟨h1, fun t ht h3 => List.mem_append_left _ (h2 t ht h3)⟩
theorem NMet.done (h : NMet f v b0 D Z) {x : Int} (hx : MakesU f x.toNat v ∨ (¬ InU f v x.toNat ∧ ∀ z ∈ nxF f x.toNat, There f.blocks.length z → z ∈ Z)) : NMet f v b0 (D ++ [x]) Z :=
  ⟨h.inv, h.start, h.sound, fun y hy => by
    rcases List.mem_append.1 hy with hy | hy
    · exact h.clos y hy
    · simp at hy; subst hy; exact hx⟩
theorem NMet.none (h : NMet f v b0 Z Z) : ¬ NeedU f v b0 :=
  need_none (M := fun b => (b : Int) ∈ Z) (fun b hb hlt => by
    rcases h.clos _ hb with h1 | ⟨h1, h2⟩
    · exact .inl (by simpa using h1)
    · exact .inr ⟨by simpa using h1, fun c hc hlt2 => h2 c (by simpa using hc) ⟨by omega, by omega⟩⟩) b0 h.start
theorem NMet.found (h : NMet f v b0 D Z) {x : Nat} (hx : (x : Int) ∈ Z) (hm : ¬ MakesU f x v) (hu : InU f v x) : NeedU f v b0 :=
  h.sound x hx (.here x (by have := (h.inv.2 _ hx).2; omega) hm hu)
end
structure NdSt (w : World) (r : Int) (a : Option Addr) (n c : Nat) (va : Option Addr) (vn vc : Nat) (Z : List Int) (W : World) : Prop where
  law : LawSt w r a n c none 0 [] W
  siz : w.heap.size + 1 ≤ W.heap.size
  own : OwnsI W (w.heap.size + 1) 3 (.slice va vn vc) Z
theorem NdSt.since {w : World} {r : Int} {a : Option Addr} {n c : Nat} {va : Option Addr} {vn vc : Nat} {Z : List Int} {W W' : World} (h : NdSt w r a n c va vn vc Z W) (hb : Below W.heap.size W W') : NdSt w r a n c va vn vc Z W' :=
  ⟨h.law.since hb, Nat.le_trans h.siz hb.size, h.own.below hb⟩
theorem nd_enter (w : World) (r : Int) (a : Option Addr) (n c : Nat) (b : Int) : NdSt w r a n c (some ⟨w.heap.size + 1, 0, none⟩) 1 1 [b] ((w.alloc (.cells #[.int .i64 r, .slice a n c] 30)).alloc (.cells #[.int .i64 b] 3)) := by
  have hz : (w.alloc (.cells #[.int .i64 r, .slice a n c] 30)).heap.size = w.heap.size + 1 := by simp
  refine ⟨(law_enter13 w r a n c).since ((Below.refl _ _).alloc (Nat.le_refl _) _), by simp, ?_⟩
  have h := World.ownsRow_lit (w.alloc (.cells #[.int .i64 r, .slice a n c] 30)) (base := w.heap.size + 1) (e := 3) (size := 1) #[.int .i64 b] 1 (by rw [hz]; exact Nat.le_refl _) (by unfold maxLen; omega) rfl
  rw [hz] at h
  exact h
structure NIn (w : World) (r : Int) (a : Option Addr) (n c : Nat) (f : FuncD) (v : Int) (b0 : Nat) (Z : List Int) (i : Nat) (L : List Int) (xa : Option Addr) (xn xc : Nat) (ya : Option Addr) (yn k : Nat) (Zk : List Int) (W : World) : Prop where
  st : NdSt w r a n c xa xn xc Zk W
  met : NMet f v b0 (Z.take i) Zk
  lst : NumsAt W ya yn L
  apart : ∀ g off, ya = some ⟨g, off, none⟩ → 0 < yn → g < W.heap.size ∧ (Value.slice xa xn xc).ownBlock ≠ some g
  ext : ∃ T, Zk = Z ++ T
  part : ∀ z ∈ L.take k, There f.blocks.length z → z ∈ Zk
section
variable {w W : World} {r : Int} {a : Option Addr} {n c : Nat} {f : FuncD} {v : Int} {b0 : Nat} {Z : List Int} {i : Nat} {L : List Int} {xa : Option Addr} {xn xc : Nat} {ya : Option Addr} {yn k : Nat} {Zk : List Int}
theorem NIn.drewN (h : NIn w r a n c f v b0 Z i L xa xn xc ya yn k Zk W) (q : Nat) : NIn w r a n c f v b0 Z i L xa xn xc ya yn k Zk (W.drewN q) :=
  ⟨h.st.since (belowU_drewN q (Below.refl _ _)), h.met, h.lst.drewN q, h.apart, h.ext, h.part⟩
theorem NIn.skip (h : NIn w r a n c f v b0 Z i L xa xn xc ya yn k Zk W) (hk : k < L.length) (hz : There f.blocks.length L[k] → L[k] ∈ Zk) : NIn w r a n c f v b0 Z i L xa xn xc ya yn (k + 1) Zk W :=
  ⟨h.st, h.met, h.lst, h.apart, h.ext, fun z hz' => by
    rw [List.take_succ_eq_append_getElem hk, List.mem_append, List.mem_singleton] at hz'
    rcases hz' with hz' | rfl
    · exact h.part z hz'
    · exact hz⟩
theorem NIn.add {va : Option Addr} {vn vc : Nat} {w' : World} {C : Array Value} {e : TypeId} (h : NIn w r a n c f v b0 Z i L xa xn xc ya yn k Zk W) (hk : k < L.length) {x : Nat} (hi : (x : Int) ∈ Z) (hx : nxF f x = L) (hm : ¬ MakesU f x v)
    (hT : There f.blocks.length L[k]) (hn : L[k] ∉ Zk)
    (ho : OwnsI w' (w.heap.size + 1) 3 (.slice va vn vc) (Zk ++ [L[k]])) (hg : (W.alloc (.cells C e)).grownBy w' (Value.slice xa xn xc).ownBlock)
    (hwh : ∀ i, (Value.slice va vn vc).ownBlock = some i → (Value.slice xa xn xc).ownBlock = some i ∨ W.heap.size ≤ i) : NIn w r a n c f v b0 Z i L va vn vc ya yn (k + 1) (Zk ++ [L[k]]) w' := by
  have hU : ∀ k, (Value.slice xa xn xc).ownBlock = some k → w.heap.size + 1 ≤ k := fun k hk => (h.st.own.lt k hk).1
  have hb : Below (w.heap.size + 1) W w' := Below.grown ((Below.refl (w.heap.size + 1) W).alloc h.st.siz _) hg (by simp; have := h.st.siz; omega) (fun k hk => hU k hk)
  have hoff : Off (fun k => (Value.slice xa xn xc).ownBlock = some k) W w' := ((Off.refl _ W).alloc _).grown hg (fun k hk => .inl hk)
  obtain ⟨T, hT2⟩ := h.ext
  have hin : (x : Int) ∈ Zk := by rw [hT2]; exact List.mem_append_left _ hi
  have hl := h.st.law
  refine ⟨⟨⟨hl.bel.trans (hb.mono (by omega)), Nat.lt_of_lt_of_le hl.siz hb.size, (hb.cell (p := ⟨w.heap.size, 0, none⟩) (Nat.lt_succ_self _)).trans hl.c0, (hb.cell (p := ⟨w.heap.size, 1, none⟩) (Nat.lt_succ_self _)).trans hl.c1, NumsAt.nil _ _⟩, Nat.le_trans h.st.siz hb.size, ho⟩, h.met.more hin hm (by rw [hx]; exact List.getElem_mem _) hT hn, h.lst.off hoff (fun g off e h0 => (h.apart g off e h0).2), fun g off e h0 => ?_, ⟨T ++ [L[k]], by rw [hT2, List.append_assoc]⟩, fun z hz h1 => ?_⟩
  · obtain ⟨h1, h2⟩ := h.apart g off e h0
    refine ⟨Nat.lt_of_lt_of_le h1 hb.size, fun e' => ?_⟩
    rcases hwh g e' with h3 | h3
    · exact h2 h3
    · omega
  · rw [List.take_succ_eq_append_getElem hk, List.mem_append] at hz
    rcases hz with hz | hz
    · exact List.mem_append_left _ (h.part z hz h1)
    · exact List.mem_append_right _ hz
theorem NIn.fin (h : NIn w r a n c f v b0 Z i L xa xn xc ya yn L.length Zk W) {x : Nat} (hi : i < Z.length) (hz : nth Z i = (x : Int)) (hx : nxF f x = L) (hu : ¬ InU f v x) : i + 1 ≤ Zk.length ∧ NMet f v b0 (Zk.take (i + 1)) Zk := by
  obtain ⟨T, hT⟩ := h.ext
  have hl : i + 1 ≤ Zk.length := by rw [hT, List.length_append]; omega
  refine ⟨hl, ?_⟩
  have e : Zk.take (i + 1) = Z.take i ++ [nth Z i] := by
    rw [hT, List.take_append_of_le_length (by omega), List.take_succ_eq_append_getElem hi, nth_is hi]
  rw [e, hz]
  refine h.met.done (.inr ⟨by simpa using hu, fun z hz h1 => h.part z ?_ h1⟩)
  rw [List.take_length, ← hx]
  simpa using hz
end
set_option maxRecDepth 100000 in
set_option maxHeartbeats 4000000 in
theorem refmakes_any (r : Int) (a : Option Addr) (n c : Nat) (f : FuncD) (b : Nat) (v : Int) (w : World) (hq : FuncQ w [.int .i64 r, .slice a n c] f) (hsm : SmU f) (hb : b < n) :
    Calls Tryd.prog 47 #[.agg #[.int .i64 r, .slice a n c], .int .i64 (b : Int), .int .i64 v] w fun e w' => e = .returned (.bool (decide (MakesU f b v))) ∧ Below w.heap.size w w' := by
  have hn : n = f.blocks.length := by obtain ⟨_, he, _, _, _, _, e, h, _⟩ := hq; simp only [List.cons.injEq, and_true] at he; obtain ⟨_, rfl⟩ := he; cases e; exact h.symm
  have hn5 : n ≤ 100000 := by rw [hn]; exact hsm.blocks
  have hv0 := fstU_le f b
  have hv1 := fstU_le f (b + 1)
  have hvv := hsm.vals
  obtain ⟨W0, hW0⟩ : ∃ u, u = w.alloc (.cells #[.int .i64 r, .slice a n c] 30) := ⟨_, rfl⟩
  have HS0 : RowKit.Hid (LawSt w r a n c none 0 [] W0) := Lib.hid (by rw [hW0]; exact law_enter13 w r a n c)
  have CFI : RowKit.Hid (∀ u (i : Nat), Below w.heap.size w u → i ≤ n → Calls Tryd.prog 21 #[.agg #[.int .i64 r, .slice a n c], .int .i64 (i : Int)] u fun e w' => e = .returned (.int .i64 (fstU f i : Int)) ∧ Below u.heap.size u w') := Lib.hid fun u i hu hi => by
    refine (ref_first r a n c (i : Int) f u (FuncQ.lasts _ _ _ _ hu hq)).mono ?_
    rintro e w' ⟨rfl, hb⟩
    rw [firstOf_small (by omega) (by omega)]
    exact ⟨rfl, hb⟩
  have HIP : RowKit.Hid (((b : Int) + 1) = ((b + 1 : Nat) : Int)) := Lib.hid (by omega)
  obtain ⟨p0, hp0⟩ : ∃ p, p = fstU f b := ⟨_, rfl⟩
  obtain ⟨p1, hp1⟩ : ∃ p, p = fstU f (b + 1) := ⟨_, rfl⟩
  have HD : RowKit.Hid (decide (MakesU f b v) = decide ((p0 : Int) ≤ v ∧ v < (p1 : Int))) := Lib.hid (by rw [hp0, hp1]; rfl)
  have HP := Lib.hid (And.intro hp0 hp1)
  rw [← hp0] at hv0
  rw [← hp1] at hv1
  have hq0 : p0 ≤ 100000 := by omega
  have hq1 : p1 ≤ 100000 := by omega
  clear hq hsm hp0 hp1 hn hv0 hv1 hvv
  go_enter Tryd.func47, Tryd.ntmps47
  go_upto_region 1 with fail
  rw [← hW0]
  clear hW0
  have f0 := HS0.out.c0
  have f1 := HS0.out.c1
  by_cases hlo : (p0 : Int) ≤ v
  · by_cases hhi : v < (p1 : Int)
    · have HR : RowKit.Hid (decide (MakesU f b v) = true) := Lib.hid (by rw [HD.out]; exact decide_eq_true ⟨hlo, hhi⟩)
      go_wp2_with (first
        | (go_at_call 21; (with_reducible refine (CFI.out _ b HS0.out.bel (by omega)).mono ?_); rintro e u1 ⟨rfl, hb⟩; rw [← HP.out.1]; have HU1 := Lib.hid (HS0.out.since hb); clear hb; clear f0 f1; have f0 := HU1.out.c0; have f1 := HU1.out.c1)
        | (go_at_call 21; rw [HIP.out]; (with_reducible refine (CFI.out _ (b + 1) HU1.out.bel (by omega)).mono ?_); rintro e u2 ⟨rfl, hb⟩; rw [← HP.out.2]; have HU2 := Lib.hid (HU1.out.since hb); clear hb))
      go_ret
      exact ⟨by rw [HR.out]; rfl, HU2.out.bel⟩
    · have HR : RowKit.Hid (decide (MakesU f b v) = false) := Lib.hid (by rw [HD.out]; exact decide_eq_false (fun h => hhi h.2))
      go_wp2_with (first
        | (go_at_call 21; (with_reducible refine (CFI.out _ b HS0.out.bel (by omega)).mono ?_); rintro e u1 ⟨rfl, hb⟩; rw [← HP.out.1]; have HU1 := Lib.hid (HS0.out.since hb); clear hb; clear f0 f1; have f0 := HU1.out.c0; have f1 := HU1.out.c1)
        | (go_at_call 21; rw [HIP.out]; (with_reducible refine (CFI.out _ (b + 1) HU1.out.bel (by omega)).mono ?_); rintro e u2 ⟨rfl, hb⟩; rw [← HP.out.2]; have HU2 := Lib.hid (HU1.out.since hb); clear hb))
      go_ret
      exact ⟨by rw [HR.out, show false = decide (v < (p1 : Int)) from (decide_eq_false (by omega)).symm]; rfl, HU2.out.bel⟩
  · have HR : RowKit.Hid (decide (MakesU f b v) = false) := Lib.hid (by rw [HD.out]; exact decide_eq_false (fun h => hlo h.1))
    go_wp2_with (go_at_call 21; (with_reducible refine (CFI.out _ b HS0.out.bel (by omega)).mono ?_); rintro e u1 ⟨rfl, hb⟩; rw [← HP.out.1]; have HU1 := Lib.hid (HS0.out.since hb); clear hb; clear f0 f1)
    go_ret
    exact ⟨by rw [HR.out]; rfl, HU1.out.bel⟩
end Go.Proofs.YtdchhfdmingnaaaDoor
