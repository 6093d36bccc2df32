/- Layer 14: what flows where along edges: the plain words (the document's rounds). -/
import Derived.Test.YtgncpiamokeohaaNums
namespace Go.Proofs.Ytgncpiamokeohaa
open Go.RowKit (wrap64 intOf Below)
set_option linter.unusedVariables false
set_option linter.unusedSimpArgs false

/-- A node is met from some nodes by so many edges. -/
def StpF (E : List (Int × Int)) (S : List Int) : Nat → Int → Prop
  | 0, v => v ∈ S
  | k + 1, v => ∃ u, (u, v) ∈ E ∧ StpF E S k u
/-- By so many edges, and by no fewer. -/
def LevF (E : List (Int × Int)) (S : List Int) (k : Nat) (v : Int) : Prop := StpF E S k v ∧ ∀ j, j < k → ¬ StpF E S j v
section
variable {E : List (Int × Int)} {S : List Int}
theorem LevF.unique {k j : Nat} {v : Int} (h : LevF E S k v) (h' : LevF E S j v) : k = j := by
  rcases Nat.lt_trichotomy k j with h1 | h1 | h1
  · exact absurd h.1 (h'.2 k h1)
  · exact h1
  · exact absurd h'.1 (h.2 j h1)
theorem lev_of : ∀ {k : Nat} {v : Int}, StpF E S k v → ∃ j, j ≤ k ∧ LevF E S j v := by
  intro k
  induction k using Nat.strongRecOn with
  | ind k ih =>
    intro v h
    by_cases hx : ∃ j, j < k ∧ StpF E S j v
    · obtain ⟨j, hj, hs⟩ := hx
      obtain ⟨i, hi, hl⟩ := ih j hj hs
      exact ⟨i, by omega, hl⟩
    · exact ⟨k, Nat.le_refl _, h, fun j hj hs => hx ⟨j, hj, hs⟩⟩
theorem lev_pred {k : Nat} {v : Int} (h : LevF E S (k + 1) v) : ∃ u, (u, v) ∈ E ∧ LevF E S k u := by
  obtain ⟨u, he, hu⟩ := h.1
  refine ⟨u, he, hu, fun j hj hs => h.2 (j + 1) (by omega) ⟨u, he, hs⟩⟩
/-- Where no node is so far away, none is farther. -/
theorem lev_none {r : Nat} (h : ∀ v, ¬ LevF E S (r + 1) v) : ∀ {k : Nat} {v : Int}, LevF E S k v → k ≤ r := by
  have key : ∀ d v, ¬ LevF E S (r + 1 + d) v := by
    intro d
    induction d with
    | zero => exact h
    | succ d ih =>
      intro v hv
      obtain ⟨u, _, hu⟩ := lev_pred (k := r + 1 + d) hv
      exact ih u hu
  intro k v hv
  by_cases hk : k ≤ r
  · exact hk
  · have := key (k - (r + 1)) v
    rw [show r + 1 + (k - (r + 1)) = k by omega] at this
    exact absurd hv this
/-- The document's row when all that is at most r edges away is told. -/
def AtF (n : Nat) (E : List (Int × Int)) (S : List Int) (r : Nat) (D : List Int) : Prop :=
  ∀ v : Nat, v < n → (∃ k : Nat, k ≤ r ∧ nth D v = (k : Int) ∧ LevF E S k (v : Int)) ∨ (nth D v = -1 ∧ ∀ k, k ≤ r → ¬ StpF E S k (v : Int))
/-- The same within the next round, when the first i edges have been looked at. -/
def MidF (n : Nat) (E : List (Int × Int)) (S : List Int) (r i : Nat) (D : List Int) : Prop :=
  ∀ v : Nat, v < n → (∃ k : Nat, k ≤ r + 1 ∧ nth D v = (k : Int) ∧ LevF E S k (v : Int)) ∨ (nth D v = -1 ∧ (∀ k, k ≤ r → ¬ StpF E S k (v : Int)) ∧ ∀ u, (u, (v : Int)) ∈ E.take i → ¬ LevF E S r u)
variable {n : Nat} {r i : Nat} {D : List Int}
theorem AtF.mid (h : AtF n E S r D) : MidF n E S r 0 D := fun v hv => by
  rcases h v hv with ⟨k, hk, h1, h2⟩ | ⟨h1, h2⟩
  · exact .inl ⟨k, by omega, h1, h2⟩
  · exact .inr ⟨h1, h2, fun u hu => by simp at hu⟩
/-- What stands at a node is its level. -/
theorem MidF.lev (h : MidF n E S r i D) {v : Nat} (hv : v < n) {k : Nat} (hk : nth D v = (k : Int)) : LevF E S k (v : Int) := by
  rcases h v hv with ⟨j, _, h1, h2⟩ | ⟨h1, _⟩
  · have : j = k := by omega
    rw [← this]; exact h2
  · omega
theorem MidF.neg (h : MidF n E S r i D) {v : Nat} (hv : v < n) (hk : nth D v < 0) : nth D v = -1 ∧ (∀ k, k ≤ r → ¬ StpF E S k (v : Int)) ∧ ∀ u, (u, (v : Int)) ∈ E.take i → ¬ LevF E S r u := by
  rcases h v hv with ⟨j, _, h1, h2⟩ | h1
  · omega
  · exact h1
theorem nth_setF {D : List Int} {b v : Nat} {z : Int} (hb : b < D.length) : nth (D.set b z) v = if v = b then z else nth D v := by
  unfold nth
  rw [List.getD_eq_getElem?_getD, List.getD_eq_getElem?_getD, List.getElem?_set]
  by_cases h : b = v
  · subst h; simp [hb]
  · rw [if_neg h, if_neg (fun e => h e.symm)]
/-- An edge that is taken. -/
theorem MidF.take (h : MidF n E S r i D) (hl : D.length = n) {a b : Nat} (hi : i < E.length) (he : E[i] = ((a : Int), (b : Int))) (ha : a < n) (hb : b < n) (h1 : nth D a = (r : Int)) (h2 : nth D b < 0) : MidF n E S r (i + 1) (D.set b ((r : Int) + 1)) := by
  have hla := h.lev ha h1
  obtain ⟨_, hbn, _⟩ := h.neg hb h2
  have hmem : ((a : Int), (b : Int)) ∈ E := by rw [← he]; exact List.getElem_mem hi
  intro v hv
  rw [nth_setF (by omega)]
  by_cases e : v = b
  · subst e
    rw [if_pos rfl]
    exact .inl ⟨r + 1, Nat.le_refl _, by omega, ⟨a, hmem, hla.1⟩, fun j hj => hbn j (by omega)⟩
  · rw [if_neg e]
    rcases h v hv with h3 | ⟨h3, h4, h5⟩
    · exact .inl h3
    · refine .inr ⟨h3, h4, fun u hu => ?_⟩
      rw [List.take_succ_eq_append_getElem hi, List.mem_append, List.mem_singleton, he] at hu
      rcases hu with hu | hu
      · exact h5 u hu
      · cases hu; omega
/-- An edge that is passed over. -/
theorem MidF.pass (h : MidF n E S r i D) {a b : Nat} (hi : i < E.length) (he : E[i] = ((a : Int), (b : Int))) (ha : a < n) (hno : ¬ (nth D a = (r : Int) ∧ nth D b < 0)) : MidF n E S r (i + 1) D := by
  intro v hv
  rcases h v hv with h3 | ⟨h3, h4, h5⟩
  · exact .inl h3
  · refine .inr ⟨h3, h4, fun u hu => ?_⟩
    rw [List.take_succ_eq_append_getElem hi, List.mem_append, List.mem_singleton, he] at hu
    rcases hu with hu | hu
    · exact h5 u hu
    · simp only [Prod.mk.injEq] at hu
      obtain ⟨rfl, hvb⟩ := hu
      have : v = b := by omega
      subst this
      intro hl
      refine hno ⟨?_, by omega⟩
      rcases h a ha with ⟨k, _, h6, h7⟩ | ⟨_, h7, _⟩
      · rw [h6, h7.unique hl]
      · exact absurd hl.1 (h7 r (Nat.le_refl _))
theorem MidF.done (h : MidF n E S r E.length D) : AtF n E S (r + 1) D := fun v hv => by
  rcases h v hv with ⟨k, hk, h1, h2⟩ | ⟨h1, h2, h3⟩
  · exact .inl ⟨k, by omega, h1, h2⟩
  · refine .inr ⟨h1, fun k hk hs => ?_⟩
    by_cases hkr : k ≤ r
    · exact h2 k hkr hs
    · obtain rfl : k = r + 1 := by omega
      obtain ⟨u, he, hu⟩ := hs
      obtain ⟨j, hj, hl⟩ := lev_of hu
      by_cases hjr : j = r
      · subst hjr
        exact h3 u (by rw [List.take_length]; exact he) hl
      · exact h2 (j + 1) (by omega) ⟨u, he, hl.1⟩
/-- When a round has told nothing new, all is told. -/
theorem AtF.all (h : AtF n E S (r + 1) D) (hE : ∀ e ∈ E, 0 ≤ e.2 ∧ e.2 < (n : Int)) (hno : ∀ v, v < n → nth D v ≠ ((r : Int) + 1)) {v : Nat} (hv : v < n) :
    (∀ k : Nat, nth D v = (k : Int) ↔ LevF E S k (v : Int)) ∧ (nth D v = -1 ↔ ∀ k, ¬ StpF E S k (v : Int)) ∧ (nth D v = -1 ∨ 0 ≤ nth D v) := by
  have hnl : ∀ u, ¬ LevF E S (r + 1) u := by
    intro u hu
    obtain ⟨t, he, _⟩ := hu.1
    have hr := hE _ he
    simp only at hr
    obtain ⟨m, rfl⟩ := Int.eq_ofNat_of_zero_le hr.1
    have hm : m < n := by omega
    rcases h m hm with ⟨k, hk, h1, h2⟩ | ⟨_, h2⟩
    · have := h2.unique hu
      exact hno m hm (by rw [h1, this]; omega)
    · exact h2 (r + 1) (Nat.le_refl _) hu.1
  have hle := fun {k : Nat} {v : Int} => lev_none (E := E) (S := S) hnl (k := k) (v := v)
  rcases h v hv with ⟨k, hk, h1, h2⟩ | ⟨h1, h2⟩
  · refine ⟨fun j => ⟨fun e => ?_, fun hl => ?_⟩, ⟨fun e => by omega, fun hn => absurd h2.1 (hn k)⟩, .inr (by omega)⟩
    · have : k = j := by omega
      rw [← this]; exact h2
    · rw [h1, h2.unique hl]
  · refine ⟨fun j => ⟨fun e => by omega, fun hl => ?_⟩, ⟨fun _ k hs => ?_, fun _ => h1⟩, .inl h1⟩
    · exact absurd hl.1 (h2 j (by have := hle hl; omega))
    · obtain ⟨j, hj, hl⟩ := lev_of hs
      exact h2 j (by have := hle hl; omega) hl.1
end
/-- A node is met. -/
def MeetF (E : List (Int × Int)) (S : List Int) (v : Int) : Prop := ∃ k, StpF E S k v
/-- Edges the other way round. -/
def turnF (E : List (Int × Int)) : List (Int × Int) := E.map fun e => (e.2, e.1)
theorem mem_turnF {E : List (Int × Int)} {a b : Int} : (a, b) ∈ turnF E ↔ (b, a) ∈ E := by
  unfold turnF
  rw [List.mem_map]
  constructor
  · rintro ⟨⟨x, y⟩, h, e⟩
    simp only [Prod.mk.injEq] at e
    rw [← e.1, ← e.2]; exact h
  · intro h; exact ⟨(b, a), h, rfl⟩
theorem MeetF.start {E : List (Int × Int)} {S : List Int} {v : Int} (h : v ∈ S) : MeetF E S v := ⟨0, h⟩
theorem MeetF.on {E : List (Int × Int)} {S : List Int} {u v : Int} (h : MeetF E S u) (he : (u, v) ∈ E) : MeetF E S v := by
  obtain ⟨k, hk⟩ := h
  exact ⟨k + 1, u, he, hk⟩
/-- What has the starts and is closed along edges has all that is met. -/
theorem MeetF.least {E : List (Int × Int)} {S : List Int} {M : Int → Prop} (h0 : ∀ v ∈ S, M v) (h1 : ∀ u v, M u → (u, v) ∈ E → M v) {v : Int} (h : MeetF E S v) : M v := by
  obtain ⟨k, hk⟩ := h
  induction k generalizing v with
  | zero => exact h0 v hk
  | succ k ih => obtain ⟨u, he, hu⟩ := hk; exact h1 u v (ih hu) he
theorem MeetF.mono {E E' : List (Int × Int)} {S S' : List Int} (hE : ∀ e ∈ E, e ∈ E') (hS : ∀ v ∈ S, v ∈ S') {v : Int} (h : MeetF E S v) : MeetF E' S' v :=
  h.least (fun v hv => .start (hS v hv)) (fun u v hu he => hu.on (hE _ he))
theorem MeetF.trans {E : List (Int × Int)} {S T : List Int} {v : Int} (h : MeetF E T v) (hT : ∀ t ∈ T, MeetF E S t) : MeetF E S v :=
  h.least hT (fun u v hu he => hu.on he)
theorem meet_turn {E : List (Int × Int)} {a b : Int} (h : MeetF E [a] b) : MeetF (turnF E) [b] a := by
  refine MeetF.least (M := fun v => MeetF (turnF E) [v] a) (fun v hv => ?_) (fun u v hu he => ?_) h
  · simp at hv; subst hv; exact .start (by simp)
  · exact MeetF.trans hu (fun t ht => by simp at ht; subst ht; exact (MeetF.start (by simp)).on (mem_turnF.2 he))
theorem turn_turn (E : List (Int × Int)) : turnF (turnF E) = E := by
  unfold turnF
  rw [List.map_map]
  exact List.map_id' E
/-- Both ways: a node is met from another one just if that is met from it, against the edges. -/
theorem meet_both {E : List (Int × Int)} {a b : Int} : MeetF E [a] b ↔ MeetF (turnF E) [b] a := by
  refine ⟨meet_turn, fun h => ?_⟩
  have := meet_turn h
  rwa [turn_turn] at this
end Go.Proofs.Ytgncpiamokeohaa
