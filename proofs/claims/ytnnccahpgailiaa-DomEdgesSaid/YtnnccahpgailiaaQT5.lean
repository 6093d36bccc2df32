/- Layer 8: a tree that grows: what its parts are before it is settled. -/
import Derived.Test.YtnnccahpgailiaaQDomH
import Derived.Test.YtnnccahpgailiaaQRegS
import Derived.Test.YtnnccahpgailiaaQT2
import Derived.Test.YtnnccahpgailiaaQT4

namespace Go.Proofs.Ytnnccahpgailiaa
open Go.RowKit (wrap64 intOf Below)
set_option linter.unusedVariables false
set_option linter.unusedSimpArgs false

/-- What grows: all that was there stays. -/
def GB (u v : World) : Prop := Below u.heap.size u v
theorem GB.refl (u : World) : GB u u := Below.refl _ _
theorem GB.trans {u v x : World} (h : GB u v) (k : GB v x) : GB u x := Below.trans h (Below.mono k (Below.size h))
/-- A row of n numbers z, of the call's own. -/
def RowOf (w : World) (B n : Nat) (z : Int) (v : Value) : Prop := ∃ g, v = .slice (some ⟨g, 0, none⟩) n n ∧ OwnsI w B 3 (.slice (some ⟨g, 0, none⟩) n n) (List.replicate n z)
theorem RowOf.since {w w' : World} {B n : Nat} {z : Int} {v : Value} (h : RowOf w B n z v) (hb : GB w w') : RowOf w' B n z v := by
  obtain ⟨g, e, ho⟩ := h
  exact ⟨g, e, ho.below hb⟩
theorem RowOf.lt {w : World} {B n : Nat} {z : Int} {v : Value} (h : RowOf w B n z v) {k : Nat} (hk : v.ownBlock = some k) : k < w.heap.size := by
  obtain ⟨g, rfl, ho⟩ := h
  exact (ho.lt k hk).2
/-- What each step of grown's statement comes to. -/
def GrR (r : Int) (a : Option Addr) (n c : Nat) (f : FuncD) (B : Nat) : Nat → (Nat → Value) → World → Prop
  | 0, vals, _ => vals 0 = .agg #[.int .i64 r, .slice a n c]
  | 1, vals, w => ∃ va vn vc, vals 1 = .slice va vn vc ∧ OwnsI w B 3 (.slice va vn vc) (orderL f)
  | 2, vals, w => ∃ q, vals 2 = .slice (some ⟨q, 0, none⟩) 1 1 ∧ w.cell? ⟨q, 0, none⟩ = some (.int .i64 (-1))
  | 3, vals, _ => vals 3 = .int .i64 (n : Int)
  | 4, vals, w => RowOf w B n (-1) (vals 4)
  | 5, vals, _ => vals 5 = .agg #[.int .i64 r, .slice a n c]
  | 6, vals, w => ∃ g vs, vals 6 = .slice (some ⟨g, 0, none⟩) n n ∧ Rows2 w B 29 3 (.slice (some ⟨g, 0, none⟩) n n) vs (ahRow f n 0) ∧ vs.length = n
  | 7, vals, w => ∃ q, vals 7 = .slice (some ⟨q, 0, none⟩) 1 1 ∧ w.cell? ⟨q, 0, none⟩ = some (.int .i64 (-1))
  | 8, vals, _ => vals 8 = .int .i64 (n : Int)
  | 9, vals, w => RowOf w B n (-1) (vals 9)
  | 10, vals, _ => vals 10 = .int .i64 (n : Int)
  | 11, vals, w => RowOf w B n 0 (vals 11)
  | 12, vals, _ => vals 12 = .int .i64 (n : Int)
  | 13, vals, w => RowOf w B n 0 (vals 13)
  | 14, vals, _ => vals 14 = .int .i64 (n : Int)
  | 15, vals, w => RowOf w B n 0 (vals 15)
  | 16, vals, _ => vals 16 = .agg #[vals 1, vals 4, vals 6, vals 9, vals 11, vals 13, vals 15, .int .i64 0]
  | 17, vals, w => ∃ p C, vals 17 = .pointer (some ⟨p, 0, none⟩) ∧ B ≤ p ∧ vals 16 = .agg C ∧ w.heap[p]? = some (.cells C 75 (0, 0))
  | 18, vals, w => ∃ b, vals 18 = .pointer (some ⟨b, 0, none⟩) ∧ B ≤ b ∧ w.heap[b]? = some (.cells #[.pointer none] 72 (0, 0))
  | _, _, _ => True
/-- What each step makes for itself. -/
def GrD (n : Nat) : Nat → Value → World → Nat → Prop
  | 1, v, _, k => v.ownBlock = some k
  | 4, v, _, k => v.ownBlock = some k
  | 6, v, w, k => v.ownBlock = some k ∨ ∃ g j x, v.ownBlock = some g ∧ j < n ∧ w.cell? ⟨g, j, none⟩ = some x ∧ x.ownBlock = some k
  | 9, v, _, k => v.ownBlock = some k
  | 11, v, _, k => v.ownBlock = some k
  | 13, v, _, k => v.ownBlock = some k
  | 15, v, _, k => v.ownBlock = some k
  | 17, v, _, k => v = .pointer (some ⟨k, 0, none⟩)
  | 18, v, _, k => v = .pointer (some ⟨k, 0, none⟩)
  | _, _, _, _ => False
section
variable {r : Int} {a : Option Addr} {n c : Nat} {f : FuncD} {B : Nat}
theorem gr_mono (i : Nat) (vals : Nat → Value) (w w' : World) (h : GrR r a n c f B i vals w) (hb : GB w w') : GrR r a n c f B i vals w' := by
  have hcell : ∀ {q : Nat} {x : Value}, w.cell? ⟨q, 0, none⟩ = some x → w'.cell? ⟨q, 0, none⟩ = some x := fun h => (Below.cell hb (World.block_lt_of_cell? (a := ⟨_, 0, none⟩) _ h)).trans h
  have hblk : ∀ {q : Nat} {o : Obj}, w.heap[q]? = some o → w'.heap[q]? = some o := fun h => (Below.block hb _ (Array.getElem?_eq_some_iff.1 h).1).trans h
  unfold GrR at h ⊢
  split at h <;> first
    | exact h
    | exact h.since hb
    | (obtain ⟨va, vn, vc, e, ho⟩ := h; exact ⟨va, vn, vc, e, ho.below hb⟩)
    | (obtain ⟨q, e, hc⟩ := h; exact ⟨q, e, hcell hc⟩)
    | (obtain ⟨g, vs, e, ho, hl⟩ := h; exact ⟨g, vs, e, ho.since hb, hl⟩)
    | (obtain ⟨p, C, e, hB, hC, hp⟩ := h; exact ⟨p, C, e, hB, hC, hblk hp⟩)
    | (obtain ⟨b, e, hB, hp⟩ := h; exact ⟨b, e, hB, hblk hp⟩)
abbrev GrDL : List (List Nat) := [[], [0], [], [], [2, 3, 1], [], [5, 4], [], [], [7, 8, 6], [], [10, 10], [], [12, 12], [], [14, 14], [1, 4, 6, 9, 11, 13, 15], [16], []]
abbrev GrDS : List (Option Tmp) := [some 11, some 12, some 13, some 14, some 15, some 16, some 17, some 18, some 19, some 20, some 21, some 22, some 23, some 24, some 25, some 26, some 27, some 28, some 4]
theorem gr_deps (i : Nat) (vals vals' : Nat → Value) (w : World) (hi : i < 19) (h1 : vals i = vals' i) (h2 : ∀ j ∈ depL GrDL i, vals j = vals' j) (h : GrR r a n c f B i vals w) : GrR r a n c f B i vals' w := by
  unfold GrR at h ⊢
  split at h
  case h_17 =>
    have e : ∀ j ∈ [1, 4, 6, 9, 11, 13, 15], vals j = vals' j := h2
    rw [← h1, ← e 1 (by decide), ← e 4 (by decide), ← e 6 (by decide), ← e 9 (by decide), ← e 11 (by decide), ← e 13 (by decide), ← e 15 (by decide)]
    exact h
  case h_18 =>
    have e : vals 16 = vals' 16 := h2 16 (by decide)
    rw [← h1, ← e]
    exact h
  all_goals first
    | (rw [← h1]; exact h)
    | trivial
theorem gr_dlt (i : Nat) (vals : Nat → Value) (w : World) (k : Nat) (h : GrR r a n c f B i vals w) (hd : GrD n i (vals i) w k) : k < w.heap.size := by
  unfold GrD at hd
  split at hd
  · obtain ⟨va, vn, vc, e, ho⟩ := h
    rw [e] at hd
    exact (ho.lt _ hd).2
  · exact RowOf.lt h hd
  · obtain ⟨g, vs, e, ho, hl⟩ := h
    rw [e] at hd
    rcases hd with hd | ⟨g', j, x, hg, hj, hx, hk⟩
    · obtain ⟨cur, hc, _⟩ := ownsRow_blk ho.row hd
      exact (Array.getElem?_eq_some_iff.1 hc).1
    · cases hg
      have hj' : j < vs.length := by omega
      have := ho.cell hj'
      rw [hx] at this
      cases this
      exact ((ho.own j hj' (by rw [← ho.len]; exact hj')).lt _ hk).2
  · exact RowOf.lt h hd
  · exact RowOf.lt h hd
  · exact RowOf.lt h hd
  · exact RowOf.lt h hd
  · obtain ⟨p, C, e, hB, hC, hp⟩ := h
    rw [e] at hd
    cases hd
    exact (Array.getElem?_eq_some_iff.1 hp).1
  · obtain ⟨b, e, hB, hp⟩ := h
    rw [e] at hd
    cases hd
    exact (Array.getElem?_eq_some_iff.1 hp).1
  · exact hd.elim
theorem gr_dk (i : Nat) (vals : Nat → Value) (w w' : World) (k : Nat) (h : GrR r a n c f B i vals w) (hb : GB w w') (hd : GrD n i (vals i) w' k) : GrD n i (vals i) w k := by
  unfold GrD at hd ⊢
  split at hd <;> first
    | exact hd
    | skip
  obtain ⟨g, vs, e, ho, hl⟩ := h
  rcases hd with hd | ⟨g', j, x, hg, hj, hx, hk⟩
  · exact .inl hd
  · refine .inr ⟨g', j, x, hg, hj, ?_, hk⟩
    rw [e] at hg
    obtain ⟨cur, hc, _⟩ := ownsRow_blk ho.row hg
    exact (Below.cell hb (p := ⟨g', j, none⟩) (Array.getElem?_eq_some_iff.1 hc).1).symm.trans hx
end
end Go.Proofs.Ytnnccahpgailiaa

/- Layer 8: a tree that grows: its parts make a tree; its places; those that go to each block. -/
namespace Go.Proofs.Ytnnccahpgailiaa
open Go.RowKit (wrap64 intOf Below)
set_option linter.unusedVariables false
set_option linter.unusedSimpArgs false

section
variable {W W' : World} {B p n : Nat} {g : Nat → Nat} {Z : Nat → List Int} {ov fv : Value} {ord : List Int} {vs : List Value} {FR : List (List Int)} {rd : Int}
/-- What turns is none of the tree's. -/
theorem TreeAt.keptT {X : Nat → Prop} (h : TreeAt W B p n g Z ov fv ord vs FR rd) (hb : Off X W W') (hX : ∀ i, X i → ∀ (C : Array Value) (t : TypeId), (t = 3 ∨ t = 29 ∨ t = 75) → W.heap[i]? ≠ some (Obj.cells C t (0, 0))) : TreeAt W' B p n g Z ov fv ord vs FR rd := by
  have hk : ∀ i (C : Array Value) (t : TypeId), (t = 3 ∨ t = 29 ∨ t = 75) → W.heap[i]? = some (Obj.cells C t (0, 0)) → W'.heap[i]? = W.heap[i]? := fun i C t ht e => hb.block i (Array.getElem?_eq_some_iff.1 e).1 (fun hx => hX i hx C t ht e)
  have hown : ∀ {v : Value} {L : List Int}, OwnsI W B 3 v L → OwnsI W' B 3 v L := fun ho => own_at ho fun i hi => by obtain ⟨cur, hc, _⟩ := ownsI_blk ho hi; exact hk i _ _ (.inl rfl) hc
  exact ⟨(hk p _ _ (.inr (.inr rfl)) h.blk).trans h.blk, h.ge, ⟨fun i hi => hown (h.rows.own i hi), h.rows.apart⟩, hown h.ord, h.ordne, h.fr.kept hb (fun i hi => .inr fun C t ht => hX i hi C t (by rcases ht with rfl | rfl; exact .inr (.inl rfl); exact .inl rfl)), h.frne⟩
end
def g5 (a b c d e : Nat) : Nat → Nat := fun i => if i = 0 then a else if i = 1 then b else if i = 2 then c else if i = 3 then d else e
def Z2 (n : Nat) : Nat → List Int := fun k => if k < 2 then List.replicate n (-1) else List.replicate n 0
/-- The order lies apart from the rows of those that go to each block. -/
def OrdAside (ov : Value) (gf : Nat) (vs : List Value) : Prop := ∀ k, ov.ownBlock = some k → k ≠ gf ∧ ∀ j (h : j < vs.length), vs[j].ownBlock ≠ some k
section
variable {r : Int} {a : Option Addr} {n c : Nat} {f : FuncD} {B : Nat}
theorem gr_tree {vals : Nat → Value} {w : World} (hR : ∀ i, i < 19 → GrR r a n c f B i vals w) (hD : ∀ i j, i < 19 → j < 19 → i ≠ j → ∀ k, GrD n i (vals i) w k → ¬ GrD n j (vals j) w k) :
    ∃ p bt q0 q1 q2 q3 q4 gf va vn vc vs, vals 1 = .slice va vn vc ∧ vals 4 = .slice (some ⟨q0, 0, none⟩) n n ∧ vals 6 = .slice (some ⟨gf, 0, none⟩) n n ∧ vals 9 = .slice (some ⟨q1, 0, none⟩) n n ∧ vals 11 = .slice (some ⟨q2, 0, none⟩) n n ∧ vals 13 = .slice (some ⟨q3, 0, none⟩) n n ∧ vals 15 = .slice (some ⟨q4, 0, none⟩) n n ∧ vals 17 = .pointer (some ⟨p, 0, none⟩) ∧ vals 18 = .pointer (some ⟨bt, 0, none⟩) ∧
      TreeAt w B p n (g5 q0 q1 q2 q3 q4) (Z2 n) (.slice va vn vc) (.slice (some ⟨gf, 0, none⟩) n n) (orderL f) vs (ahRow f n 0) 0 ∧ vs.length = n ∧ OrdAside (.slice va vn vc) gf vs ∧ w.heap[bt]? = some (.cells #[.pointer none] 72 (0, 0)) ∧ B ≤ bt := by
  obtain ⟨va, vn, vc, e1, ho1⟩ : GrR r a n c f B 1 vals w := hR 1 (by omega)
  obtain ⟨q0, e4, ho4⟩ : GrR r a n c f B 4 vals w := hR 4 (by omega)
  obtain ⟨gf, vs, e6, ho6, hl6⟩ : GrR r a n c f B 6 vals w := hR 6 (by omega)
  obtain ⟨q1, e9, ho9⟩ : GrR r a n c f B 9 vals w := hR 9 (by omega)
  obtain ⟨q2, e11, ho11⟩ : GrR r a n c f B 11 vals w := hR 11 (by omega)
  obtain ⟨q3, e13, ho13⟩ : GrR r a n c f B 13 vals w := hR 13 (by omega)
  obtain ⟨q4, e15, ho15⟩ : GrR r a n c f B 15 vals w := hR 15 (by omega)
  have e16 : vals 16 = .agg #[vals 1, vals 4, vals 6, vals 9, vals 11, vals 13, vals 15, .int .i64 0] := hR 16 (by omega)
  obtain ⟨p, C, e17, hpB, hC, hp⟩ : GrR r a n c f B 17 vals w := hR 17 (by omega)
  obtain ⟨bt, e18, hbB, hb⟩ : GrR r a n c f B 18 vals w := hR 18 (by omega)
  rw [e16] at hC
  cases hC
  rw [e1, e4, e6, e9, e11, e13, e15] at hp
  -- which step made each of the five rows
  have hq : ∀ i, i < 5 → ∃ s, s < 19 ∧ (s = 4 ∨ s = 9 ∨ s = 11 ∨ s = 13 ∨ s = 15) ∧ s = [4, 9, 11, 13, 15].getD i 0 ∧ GrD n s (vals s) w (g5 q0 q1 q2 q3 q4 i) := by
    intro i hi
    have h5 : i = 0 ∨ i = 1 ∨ i = 2 ∨ i = 3 ∨ i = 4 := by omega
    rcases h5 with rfl | rfl | rfl | rfl | rfl
    · exact ⟨4, by omega, by simp, rfl, by show (vals 4).ownBlock = _; rw [e4]; rfl⟩
    · exact ⟨9, by omega, by simp, rfl, by show (vals 9).ownBlock = _; rw [e9]; rfl⟩
    · exact ⟨11, by omega, by simp, rfl, by show (vals 11).ownBlock = _; rw [e11]; rfl⟩
    · exact ⟨13, by omega, by simp, rfl, by show (vals 13).ownBlock = _; rw [e13]; rfl⟩
    · exact ⟨15, by omega, by simp, rfl, by show (vals 15).ownBlock = _; rw [e15]; rfl⟩
  have hrow : ∀ i, i < 5 → OwnsI w B 3 (.slice (some ⟨g5 q0 q1 q2 q3 q4 i, 0, none⟩) n n) (Z2 n i) := by
    intro i hi
    have h5 : i = 0 ∨ i = 1 ∨ i = 2 ∨ i = 3 ∨ i = 4 := by omega
    rcases h5 with rfl | rfl | rfl | rfl | rfl
    · exact ho4
    · exact ho9
    · exact ho11
    · exact ho13
    · exact ho15
  refine ⟨p, bt, q0, q1, q2, q3, q4, gf, va, vn, vc, vs, e1, e4, e6, e9, e11, e13, e15, e17, e18, ⟨hp, hpB, ⟨hrow, fun i j hi hj hne e => ?_⟩, ho1, fun i hi e => ?_, ho6, fun i hi j hj e => ?_⟩, hl6, fun k hk => ⟨fun e => ?_, fun j hj e => ?_⟩, hb, hbB⟩
  · obtain ⟨s, hs, _, es, hd⟩ := hq i hi
    obtain ⟨s', hs', _, es', hd'⟩ := hq j hj
    have hss : s ≠ s' := by
      have h5 : i = 0 ∨ i = 1 ∨ i = 2 ∨ i = 3 ∨ i = 4 := by omega
      have h5' : j = 0 ∨ j = 1 ∨ j = 2 ∨ j = 3 ∨ j = 4 := by omega
      rw [es, es']
      rcases h5 with rfl | rfl | rfl | rfl | rfl <;> rcases h5' with rfl | rfl | rfl | rfl | rfl <;> simp at hne ⊢
    rw [e] at hd
    exact hD s s' hs hs' hss _ hd hd'
  · obtain ⟨s, hs, hs5, _, hd⟩ := hq i hi
    refine hD 1 s (by omega) hs (by omega) (g5 q0 q1 q2 q3 q4 i) ?_ hd
    show (vals 1).ownBlock = _
    rw [e1]; exact e
  · obtain ⟨s, hs, hs5, _, hd⟩ := hq i hi
    refine hD 6 s (by omega) hs (by omega) (g5 q0 q1 q2 q3 q4 i) (.inr ⟨gf, j, vs[j], by rw [e6]; rfl, by omega, ho6.cell hj, e⟩) hd
  · refine hD 1 6 (by omega) (by omega) (by omega) k ?_ (.inl ?_)
    · show (vals 1).ownBlock = _
      rw [e1]; exact hk
    · rw [e6, e]; rfl
  · refine hD 1 6 (by omega) (by omega) (by omega) k ?_ (.inr ⟨gf, j, vs[j], by rw [e6]; rfl, by omega, ho6.cell hj, e⟩)
    show (vals 1).ownBlock = _
    rw [e1]; exact hk
end
/-- The rows, with places in place. -/
def ZP (Z : Nat → List Int) (PL : List Int) : Nat → List Int := fun k => if k = 0 then PL else Z k
theorem ZP_put (Z : Nat → List Int) (PL PL2 : List Int) : (fun k => if k = 0 then PL2 else ZP Z PL k) = ZP Z PL2 := by
  funext k
  unfold ZP
  by_cases h : k = 0 <;> simp [h]
theorem ZP_zero (Z : Nat → List Int) (PL : List Int) : ZP Z PL 0 = PL := rfl
theorem ZP_same (Z : Nat → List Int) : ZP Z (Z 0) = Z := by
  funext k
  unfold ZP
  by_cases h : k = 0
  · subst h; simp
  · simp [h]
open Classical in
/-- The places of the first i blocks of the order. -/
noncomputable def placeAt (f : FuncD) (i v : Nat) : Int := if MetF f v ∧ plF f v < i then (plF f v : Int) else -1
theorem place_zero (f : FuncD) (v : Nat) : placeAt f 0 v = -1 := by unfold placeAt; rw [if_neg (by omega)]
theorem place_more {f : FuncD} {n i b : Nat} {PL : List Int} (hl : PL.length = n) (hp : ∀ v, v < n → nth PL v = placeAt f i v) (hi : i < (orderL f).length) (hb : (orderL f)[i] = (b : Int)) (hbn : b < n) : ∀ v, v < n → nth (PL.set b (i : Int)) v = placeAt f (i + 1) v := by
  intro v hv
  have h1 := pl_is hi hb
  rw [nth_set (by omega)]
  by_cases e : v = b
  · subst e
    unfold placeAt
    rw [if_pos rfl, if_pos ⟨h1.1, by omega⟩, h1.2]
  · rw [if_neg e, hp v hv]
    unfold placeAt
    by_cases hm : MetF f v
    · have hne : plF f v ≠ i := fun e2 => e (by
        have h2 := pl_at hm
        simp only [e2] at h2
        have := h2.symm.trans hb
        omega)
      by_cases hlt : plF f v < i
      · rw [if_pos ⟨hm, hlt⟩, if_pos ⟨hm, by omega⟩]
      · rw [if_neg (fun h => hlt h.2), if_neg (fun h => hlt (by have := h.2; omega))]
    · rw [if_neg (fun h => hm h.1), if_neg (fun h => hm h.1)]
theorem place_all {f : FuncD} {v : Nat} : (0 ≤ placeAt f (orderL f).length v ↔ MetF f v) ∧ (MetF f v → placeAt f (orderL f).length v = (plF f v : Int)) := by
  unfold placeAt
  by_cases hm : MetF f v
  · rw [if_pos ⟨hm, pl_lt hm⟩]
    exact ⟨⟨fun _ => hm, fun _ => by omega⟩, fun _ => rfl⟩
  · rw [if_neg (fun h => hm h.1)]
    exact ⟨⟨fun h => absurd h (by omega), fun h => absurd h hm⟩, fun h => absurd h hm⟩
/-- Of each block, those that go to it; of the first i, those that are met alone. -/
def frRow (f : FuncD) (n : Nat) (d : Int → Bool) (i : Nat) : List (List Int) := (List.range n).map fun (b : Nat) => if b < i then (ahL f n b).filter (fun z => !d z) else ahL f n b
theorem frRow_len (f : FuncD) (n : Nat) (d : Int → Bool) (i : Nat) : (frRow f n d i).length = n := by simp [frRow]
theorem frRow_at {f : FuncD} {n i b : Nat} {d : Int → Bool} (h : b < (frRow f n d i).length) : (frRow f n d i)[b] = if b < i then (ahL f n b).filter (fun z => !d z) else ahL f n b := by simp [frRow]
theorem frRow_zero {f : FuncD} {n : Nat} {d : Int → Bool} (hn : n = f.blocks.length) : frRow f n d 0 = ahRow f n 0 := by
  apply List.ext_getElem
  · simp [frRow, ahRow, hn]
  · intro b h1 h2
    rw [frRow_at h1, ahRow_at h2]
    simp
theorem frRow_more {f : FuncD} {n i : Nat} {d : Int → Bool} (hi : i < n) : (frRow f n d i).set i ((ahL f n i).filter (fun z => !d z)) = frRow f n d (i + 1) := by
  apply List.ext_getElem
  · simp [frRow]
  · intro b h1 h2
    rw [List.getElem_set]
    split
    · rename_i e; subst e; rw [frRow_at, if_pos (by omega)]
    · rename_i e
      rw [frRow_at, frRow_at]
      by_cases hb : b < i
      · rw [if_pos hb, if_pos (by omega)]
      · rw [if_neg hb, if_neg (by omega)]
section
variable {W W' : World} {B p n gf : Nat} {g : Nat → Nat} {Z : Nat → List Int} {ov : Value} {ord : List Int} {vs : List Value} {FR : List (List Int)} {rd : Int}
/-- One row of those that go to a block is told anew, in its own place. -/
theorem TreeAt.refrom {w1 : World} {i : Nat} {v' : Value} {Z' : List Int} (h : TreeAt W B p n g Z ov (.slice (some ⟨gf, 0, none⟩) n n) ord vs FR rd) (ha : OrdAside ov gf vs) (hl : vs.length = n) (hi : i < vs.length) (hb : Off (fun k => (vs[i]).ownBlock = some k) W w1) (ho : OwnsI w1 B 3 v' Z') (hv : ∀ k, v'.ownBlock = some k → (vs[i]).ownBlock = some k) :
    TreeAt (w1.setCell ⟨gf, i, none⟩ v') B p n g Z ov (.slice (some ⟨gf, 0, none⟩) n n) ord (vs.set i v') (FR.set i Z') rd ∧ OrdAside ov gf (vs.set i v') ∧ Off (fun k => (vs[i]).ownBlock = some k ∨ k = gf) W (w1.setCell ⟨gf, i, none⟩ v') := by
  have hp := h.fr.push (w1 := w1) (U := W) (Z' := Z') (v' := v') (i := i) (by decide) hl.symm hi (Below.refl _ _) ⟨hb.os, hb.tape, hb.output, hb.size, fun k hk hne => hb.block k hk (fun e => hne e.symm)⟩ ho (fun k hk => .inl (hv k hk))
  obtain ⟨h1, _, h3, _, _⟩ := hp
  have hiF : i < FR.length := by rw [← h.fr.len]; exact hi
  have hpb : ∀ {k : Nat} {C : Array Value} {t : TypeId}, W.heap[k]? = some (.cells C t (0, 0)) → (vs[i]).ownBlock ≠ some k → k ≠ gf → (w1.setCell ⟨gf, i, none⟩ v').heap[k]? = W.heap[k]? := fun hk h1 h2 => h3.block _ (Array.getElem?_eq_some_iff.1 hk).1 (fun hx => hx.elim h1 h2)
  have hgf : ∃ cur, W.heap[gf]? = some (.cells cur 29 (0, 0)) := by obtain ⟨cur, hc, _⟩ := ownsRow_blk h.fr.row (i := gf) rfl; exact ⟨cur, hc⟩
  obtain ⟨curf, hcf⟩ := hgf
  have hpne : (vs[i]).ownBlock ≠ some p := fun e => by
    obtain ⟨cur, hc, _⟩ := ownsI_blk (h.fr.own i hi hiF) e
    have h2 := h.blk
    rw [hc] at h2; simp at h2
  have hpf : p ≠ gf := fun e => by have h2 := h.blk; rw [e, hcf] at h2; simp at h2
  refine ⟨⟨(hpb h.blk hpne hpf).trans h.blk, h.ge, ⟨fun k hk => own_at (h.rows.own k hk) fun q hq => ?_, h.rows.apart⟩, own_at h.ord fun q hq => ?_, h.ordne, h1, fun k hk j hj => ?_⟩, fun k hk => ⟨(ha k hk).1, fun j hj => ?_⟩, h3⟩
  · have e : g k = q := by have h' : some (g k) = some q := hq; cases h'; rfl
    subst e
    obtain ⟨cur, hc, _⟩ := h.gblk hk
    exact hpb hc (h.frne k hk i hi) (fun e => by rw [e, hcf] at hc; simp at hc)
  · obtain ⟨cur, hc, _⟩ := ownsI_blk h.ord hq
    exact hpb hc ((ha q hq).2 i hi) (ha q hq).1
  · simp only [List.length_set] at hj
    rw [List.getElem_set]
    split
    · exact fun e => h.frne k hk i hi (hv _ e)
    · exact h.frne k hk j hj
  · simp only [List.length_set] at hj
    rw [List.getElem_set]
    split
    · exact fun e => (ha k hk).2 i hi (hv _ e)
    · exact (ha k hk).2 j hj
end
end Go.Proofs.Ytnnccahpgailiaa

/- Layer 8: settling a tree without blocks. -/
namespace Go.Proofs.Ytnnccahpgailiaa
open Go.RowKit (wrap64 intOf Below)
set_option linter.unusedVariables false
set_option linter.unusedSimpArgs false
set_option maxRecDepth 100000 in
theorem settle_nil {W : World} {p : Nat} {a : Option Addr} {c : Nat} (h0 : W.cell? ⟨p, 0, none⟩ = some (.slice a 0 c)) :
    Calls Try.prog 66 #[.pointer (some ⟨p, 0, none⟩)] W fun e w' => e = .returned (.tuple #[]) ∧ w' = W := by
  go_enter Try.func66, Try.ntmps66
  go_wp2_with fail
  go_loop [2] (fun v2 => ∃ ch : Bool, v2 = .bool ch) (fun v2 => match v2 with | .bool true => 1 | _ => 0)
  case atStart => exact ⟨true, rfl⟩
  case round =>
    obtain ⟨ch, rfl⟩ := hrel
    cases ch with
    | false =>
      go_wp2_with fail
      go_end0
      exact ⟨rfl, rfl⟩
    | true =>
      go_wp2_with fail
      go_loop [2, 12] (fun v2 v12 => v2 = .bool false ∧ v12 = .int .i64 0) (fun _ _ => 0)
      case atStart => exact ⟨rfl, rfl⟩
      case round =>
        obtain ⟨rfl, rfl⟩ := hrel
        go_wp2_with fail
        go_round
        case rel => exact ⟨false, rfl⟩
        case measure => simp
open Classical in
/-- Whether a block is met. -/
noncomputable def metZ (f : FuncD) (z : Int) : Bool := decide (∃ v : Nat, z = (v : Int) ∧ MetF f v)
/-- Of each block, those that are met and go to it. -/
noncomputable def frL (f : FuncD) (n : Nat) : List (List Int) := (List.range n).map fun (b : Nat) => (ahL f n b).filter (metZ f)
theorem metZ_iff {f : FuncD} {z : Int} : metZ f z = true ↔ ∃ v : Nat, z = (v : Int) ∧ MetF f v := by unfold metZ; simp
theorem frL_len (f : FuncD) (n : Nat) : (frL f n).length = n := by simp [frL]
theorem frL_at {f : FuncD} {n b : Nat} (h : b < (frL f n).length) : (frL f n)[b] = (ahL f n b).filter (metZ f) := by simp [frL]
theorem fr_mem {f : FuncD} {n b : Nat} (hn : n = f.blocks.length) {z : Int} : z ∈ (ahL f n b).filter (metZ f) ↔ ∃ q : Nat, z = (q : Int) ∧ MetF f q ∧ (b : Int) ∈ nxF f q := by
  rw [List.mem_filter, ahL_mem, metZ_iff]
  constructor
  · rintro ⟨⟨_, h2⟩, q, rfl, hq⟩
    exact ⟨q, rfl, hq, by simpa using h2⟩
  · rintro ⟨q, rfl, hq, h2⟩
    have := met_lt hq
    exact ⟨⟨⟨by omega, by omega⟩, by simpa using h2⟩, q, rfl, hq⟩
theorem placed_met {f : FuncD} {n : Nat} {PL : List Int} (hn : n = f.blocks.length) (hp : ∀ v, v < n → nth PL v = placeAt f (orderL f).length v) (z : Int) : placedB n PL z = metZ f z := by
  rw [Bool.eq_iff_iff, metZ_iff]
  unfold placedB
  rw [decide_eq_true_eq]
  constructor
  · rintro ⟨h0, h1, h2⟩
    obtain ⟨v, rfl⟩ := Int.eq_ofNat_of_zero_le h0
    rw [Int.toNat_natCast, hp v (by omega)] at h2
    exact ⟨v, rfl, place_all.1.1 h2⟩
  · rintro ⟨v, rfl, hv⟩
    have := met_lt hv
    refine ⟨by omega, by omega, ?_⟩
    rw [Int.toNat_natCast, hp v (by omega)]
    exact place_all.1.2 hv
theorem frRow_all {f : FuncD} {n : Nat} {PL : List Int} (hn : n = f.blocks.length) (hp : ∀ v, v < n → nth PL v = placeAt f (orderL f).length v) : frRow f n (fun z => !placedB n PL z) n = frL f n := by
  apply List.ext_getElem
  · simp [frRow, frL]
  · intro b h1 h2
    rw [frRow_at h1, frL_at h2, if_pos (by simpa [frRow] using h1)]
    congr 1
    funext z
    rw [placed_met hn hp]
    simp
theorem given_of {f : FuncD} {n : Nat} {PL : List Int} (hn : n = f.blocks.length) (h0 : 0 < n) (hp : ∀ v, v < n → nth PL v = placeAt f (orderL f).length v) : Given (EdgeF f) (MetF f) (plF f) n (orderL f).length (orderL f) PL (frL f n) where
  rpo := rpo_of f (by omega)
  lt := fun v hv => by rw [hn]; exact met_lt hv
  plK := fun v hv => pl_lt hv
  olen := rfl
  K0 := (order_some f).2 (by omega)
  Kn := by rw [hn]; exact order_len f
  ordAt := fun i hi => by
    obtain ⟨v, hv, _⟩ := order_at hi
    exact ⟨v, hv, pl_is hi hv⟩
  place := fun v hv => by rw [hp v (by rw [hn]; exact met_lt hv)]; exact place_all.2 hv
  from_ := fun b hb hMb => by
    rw [frL_at hb]
    refine ⟨fun z hz => ?_, fun q hq he => (fr_mem hn).2 ⟨q, rfl, hq, he.1⟩, Nat.le_trans (List.length_filter_le _ _) (ahL_len f n b)⟩
    obtain ⟨q, rfl, hq, h⟩ := (fr_mem hn).1 hz
    exact ⟨q, rfl, hq, h, met_lt hMb⟩
theorem met_none {f : FuncD} (h : f.blocks.length = 0) (v : Nat) : ¬ MetF f v := fun hv => by have := met_lt hv; omega
theorem order_none {f : FuncD} (h : f.blocks.length = 0) : orderL f = [] := by
  have := order_len f
  exact List.eq_nil_of_length_eq_zero (by omega)
theorem settle_both {f : FuncD} {W : World} {B p n gf : Nat} {g : Nat → Nat} {Z : Nat → List Int} {ov : Value} {vs : List Value}
    (hA : TreeAt W B p n g Z ov (.slice (some ⟨gf, 0, none⟩) n n) (orderL f) vs (frL f n) 0) (hn : n = f.blocks.length) (hp : ∀ v, v < n → nth (Z 0) v = placeAt f (orderL f).length v) (hvs : vs.length = n) (hZ1 : Z 1 = List.replicate n (-1)) (hle : ∀ v, v < n → nth (Z 4) v ≤ 0) (hn5 : n ≤ 100000) :
    Calls Try.prog 66 #[.pointer (some ⟨p, 0, none⟩)] W (SettlePost (EdgeF f) (MetF f) (plF f) W B p n g Z ov (.slice (some ⟨gf, 0, none⟩) n n) (orderL f) vs (frL f n)) := by
  by_cases h0 : 0 < n
  · exact settle_any hA (given_of hn h0 hp) hvs hZ1 hle hn5
  · have hn0 : f.blocks.length = 0 := by omega
    have hM := met_none hn0
    obtain ⟨oa, on, oc, rfl, hon⟩ := hA.ord.nums
    have hz : on = 0 := by rw [← hon.1, order_none hn0]; rfl
    subst hz
    refine (settle_nil (a := oa) (c := oc) (by simp [World.cell?, hA.blk])).mono ?_
    rintro e w' ⟨rfl, rfl⟩
    refine ⟨rfl, Z 1, Z 4, 0, 0, ⟨by rw [ZU_same]; exact hA, Off.refl _ _, fun v hv => by omega⟩, ⟨⟨fun v hv => absurd hv (hM v), fun v _ => ?_, fun v => ?_, fun v c h => ?_, fun v c h => ?_, fun v a hv => absurd hv (hM v), fun v c hv => absurd hv (hM v)⟩, fun v hv => absurd hv (hM v), fun v c hv => absurd hv (hM v)⟩, by omega⟩
    · unfold upOf; rw [if_neg (by omega)]
    · unfold upOf; rw [if_neg (by omega)]; omega
    · unfold upOf at h; rw [if_neg (by omega)] at h; omega
    · unfold upOf at h; rw [if_neg (by omega)] at h; omega
/-- The order's blocks, one by one. -/
def ordF (f : FuncD) (i : Nat) : Nat := (nth (orderL f) i).toNat
theorem ordF_at {f : FuncD} {i : Nat} (h : i < (orderL f).length) : (orderL f)[i] = (ordF f i : Int) := by
  obtain ⟨v, hv, _⟩ := order_at h
  unfold ordF
  rw [nth_is h, hv]; rfl
theorem lined_of {f : FuncD} {n m : Nat} {UP : List Int} (hs : Settled (EdgeF f) (MetF f) (plF f) n UP m) : Lined (MetF f) (plF f) (upOf n UP) (ordF f) (orderL f).length where
  at_ := fun c hc => ⟨by have h1 := pl_at hc; rw [ordF_at (pl_lt hc)] at h1; omega, pl_lt hc⟩
  met := fun k hk => pl_is hk (ordF_at hk)
  lt := fun v c h => ⟨(hs.tree.lt v c h).1, (hs.tree.lt v c h).2.1⟩
  up0 := fun v hv h => by
    have h0 : 0 < f.blocks.length := by have := met_lt hv; omega
    exact (hs.tree.known v hv (fun e => h (((rpo_of f h0).pl0 v hv).2 e))).2 (hs.all v hv)
  low := hs.tree.low
theorem root_of {f : FuncD} {n m : Nat} {UP : List Int} (hs : Settled (EdgeF f) (MetF f) (plF f) n UP m) (h : 0 < (orderL f).length) : upOf n UP (ordF f 0) < 0 := by
  have h0 : 0 < f.blocks.length := (order_some f).1 h
  have h1 := pl_is h (ordF_at h)
  have h2 := ((rpo_of f h0).pl0 _ h1.1).1 h1.2
  rw [h2, hs.tree.none 0 (by simp)]
  omega
/-- The tree, grown. -/
structure GrownSt (W : World) (f : FuncD) (B p n : Nat) (g : Nat → Nat) (Z : Nat → List Int) (ov : Value) (gf : Nat) (vs : List Value) (rd m : Nat) : Prop where
  at_ : TreeAt W B p n g Z ov (.slice (some ⟨gf, 0, none⟩) n n) (orderL f) vs (frL f n) (rd : Int)
  len : n = f.blocks.length
  vsl : vs.length = n
  place : ∀ v, v < n → nth (Z 0) v = placeAt f (orderL f).length v
  set : Settled (EdgeF f) (MetF f) (plF f) n (Z 1) m
  over : ∀ a b, MetF f a → MetF f b → (numB (Z 2) (Z 3) a b = true ↔ On (upOf n (Z 1)) b a)
  pass : ∀ v, v < n → nth (Z 4) v ≤ (rd : Int)
theorem over_of {f : FuncD} {n m K : Nat} {UP NU EN : List Int} {S N : Nat → Nat} (hs : Settled (EdgeF f) (MetF f) (plF f) n UP m) (hN : Numbered (MetF f) (plF f) (upOf n UP) (ordF f) K S N) (h1 : ∀ v, MetF f v → nth NU v = (N v : Int)) (h2 : ∀ v, MetF f v → nth EN v = (S v : Int) + (N v : Int)) (a b : Nat) (ha : MetF f a) (hb : MetF f b) : numB NU EN a b = true ↔ On (upOf n UP) b a := by
  have h0 : 0 < f.blocks.length := by have := met_lt ha; omega
  rw [← hN.over (rpo_of f h0) hs.tree hs.all ha hb]
  unfold numB
  rw [decide_eq_true_eq, h1 a ha, h1 b hb, h2 a ha]
  omega
theorem TreeAt.base {W : World} {B B' p n : Nat} {g : Nat → Nat} {Z : Nat → List Int} {ov fv : Value} {ord : List Int} {vs : List Value} {FR : List (List Int)} {rd : Int} (h : TreeAt W B p n g Z ov fv ord vs FR rd) (hB : B' ≤ B) : TreeAt W B' p n g Z ov fv ord vs FR rd :=
  ⟨h.blk, Nat.le_trans hB h.ge, ⟨fun i hi => (h.rows.own i hi).mono hB, h.rows.apart⟩, h.ord.mono hB, h.ordne, h.fr.mono hB, h.frne⟩
theorem own_len (a : Option Addr) (n m c : Nat) : (Value.slice a n c).ownBlock = (Value.slice a m c).ownBlock := by cases a <;> rfl
end Go.Proofs.Ytnnccahpgailiaa
