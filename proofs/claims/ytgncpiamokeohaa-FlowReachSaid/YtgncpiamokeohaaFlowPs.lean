/- Layer 14: what each node has: rows that rise (plain). -/
import Derived.Test.YtgncpiamokeohaaFlowPn
namespace Go.Proofs.Ytgncpiamokeohaa
open Go.RowKit (wrap64 intOf Below)
set_option linter.unusedVariables false
set_option linter.unusedSimpArgs false

/-- Rows that say of each node what it has. -/
def SetsF (n : Nat) (E seeds : List (Int × Int)) (rows : List (List Int)) : Prop := rows.length = n ∧ ∀ v (h : v < rows.length), RiseF rows[v] ∧ ∀ s, s ∈ rows[v] ↔ HasF E seeds (v : Int) s
theorem sets_one {n : Nat} {E seeds : List (Int × Int)} {A B : List (List Int)} (hA : SetsF n E seeds A) (hB : SetsF n E seeds B) : A = B := by
  refine List.ext_getElem (by rw [hA.1, hB.1]) fun v h1 h2 => ?_
  obtain ⟨a1, a2⟩ := hA.2 v h1
  obtain ⟨b1, b2⟩ := hB.2 v h2
  exact rise_eq a1 b1 fun s => (a2 s).trans (b2 s).symm
theorem has_none (E : List (Int × Int)) (v s : Int) : ¬ HasF E [] v s := fun ⟨_, h, _⟩ => by cases h
theorem has_more {E seeds : List (Int × Int)} {i : Nat} (hi : i < seeds.length) {v s : Int} : HasF E (seeds.take (i + 1)) v s ↔ HasF E (seeds.take i) v s ∨ (s = seeds[i].2 ∧ MeetF E [seeds[i].1] v) := by
  rw [List.take_succ_eq_append_getElem hi]
  constructor
  · rintro ⟨u, hu, hm⟩
    rcases List.mem_append.1 hu with hu | hu
    · exact .inl ⟨u, hu, hm⟩
    · simp only [List.mem_singleton] at hu
      rw [← hu]
      exact .inr ⟨rfl, hm⟩
  · rintro (⟨u, hu, hm⟩ | ⟨rfl, hm⟩)
    · exact ⟨u, List.mem_append_left _ hu, hm⟩
    · exact ⟨seeds[i].1, List.mem_append_right _ (by simp), hm⟩
/-- The document's rows, seed by seed: those of the first v nodes have the seed i already. -/
def SetsMid (n : Nat) (E seeds : List (Int × Int)) (i v : Nat) (rows : List (List Int)) : Prop :=
  rows.length = n ∧ ∀ u (h : u < rows.length), RiseF rows[u] ∧ ∀ s, s ∈ rows[u] ↔ HasF E (seeds.take (if u < v then i + 1 else i)) (u : Int) s
theorem SetsMid.start (n : Nat) (E seeds : List (Int × Int)) : SetsMid n E seeds 0 0 (List.replicate n []) := by
  refine ⟨by simp, fun u h => ?_⟩
  simp only [List.getElem_replicate]
  exact ⟨List.Pairwise.nil, fun s => ⟨fun h => (by cases h), fun h => by rw [if_neg (by omega)] at h; exact absurd h (has_none _ _ _)⟩⟩
theorem SetsMid.next {n : Nat} {E seeds : List (Int × Int)} {i : Nat} {rows : List (List Int)} (h : SetsMid n E seeds i n rows) : SetsMid n E seeds (i + 1) 0 rows := by
  refine ⟨h.1, fun u hu => ?_⟩
  obtain ⟨h1, h2⟩ := h.2 u hu
  rw [if_pos (by have := h.1; omega)] at h2
  rw [if_neg (by omega)]
  exact ⟨h1, h2⟩
theorem SetsMid.skip {n : Nat} {E seeds : List (Int × Int)} {i v : Nat} {rows : List (List Int)} (h : SetsMid n E seeds i v rows) (hi : i < seeds.length) (hm : ¬ MeetF E [seeds[i].1] (v : Int)) : SetsMid n E seeds i (v + 1) rows := by
  refine ⟨h.1, fun u hu => ?_⟩
  obtain ⟨h1, h2⟩ := h.2 u hu
  refine ⟨h1, fun s => (h2 s).trans ?_⟩
  by_cases e : u = v
  · subst e
    rw [if_neg (by omega), if_pos (by omega), has_more hi]
    exact ⟨.inl, fun h => h.elim id (fun h => absurd h.2 hm)⟩
  · by_cases hl : u < v
    · rw [if_pos hl, if_pos (by omega)]
    · rw [if_neg hl, if_neg (by omega)]
theorem SetsMid.put {n : Nat} {E seeds : List (Int × Int)} {i v : Nat} {rows : List (List Int)} (h : SetsMid n E seeds i v rows) (hi : i < seeds.length) (hv : v < rows.length) (hm : MeetF E [seeds[i].1] (v : Int)) : SetsMid n E seeds i (v + 1) (rows.set v (putF seeds[i].2 rows[v])) := by
  refine ⟨by rw [List.length_set]; exact h.1, fun u hu => ?_⟩
  have hu' : u < rows.length := by rw [List.length_set] at hu; exact hu
  rw [List.getElem_set]
  by_cases e : v = u
  · subst e
    rw [if_pos rfl]
    obtain ⟨h1, h2⟩ := h.2 v hv
    rw [if_neg (by omega)] at h2
    obtain ⟨p1, p2⟩ := putF_facts (n := seeds[i].2) h1
    refine ⟨p1, fun s => ?_⟩
    rw [p2, h2, if_pos (by omega), has_more hi]
    constructor
    · rintro (rfl | h)
      · exact .inr ⟨rfl, hm⟩
      · exact .inl h
    · rintro (h | ⟨h, _⟩)
      · exact .inr h
      · exact .inl h
  · rw [if_neg e]
    obtain ⟨h1, h2⟩ := h.2 u hu'
    refine ⟨h1, fun s => (h2 s).trans ?_⟩
    by_cases hl : u < v
    · rw [if_pos hl, if_pos (by omega)]
    · rw [if_neg hl, if_neg (by omega)]
theorem SetsMid.all {n : Nat} {E seeds : List (Int × Int)} {rows : List (List Int)} (h : SetsMid n E seeds seeds.length 0 rows) : SetsF n E seeds rows := by
  refine ⟨h.1, fun u hu => ?_⟩
  obtain ⟨h1, h2⟩ := h.2 u hu
  rw [if_neg (by omega), List.take_length] at h2
  exact ⟨h1, h2⟩
end Go.Proofs.Ytgncpiamokeohaa
