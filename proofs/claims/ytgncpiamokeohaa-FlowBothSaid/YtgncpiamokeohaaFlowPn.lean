/- Layer 14: what the calls answer: the plain words. -/
import Derived.Test.YtgncpiamokeohaaFlowPm
namespace Go.Proofs.Ytgncpiamokeohaa
open Go.RowKit (wrap64 intOf Below)
set_option linter.unusedVariables false
set_option linter.unusedSimpArgs false

open Classical in
/-- How far a node is; -1: it is not met. -/
noncomputable def distF (E : List (Int × Int)) (S : List Int) (v : Int) : Int := if h : ∃ k, LevF E S k v then ((Classical.choose h : Nat) : Int) else -1
noncomputable def distsF (n : Nat) (E : List (Int × Int)) (S : List Int) : List Int := (List.range n).map fun v : Nat => distF E S (v : Int)
theorem distF_lev {E : List (Int × Int)} {S : List Int} {v : Int} {k : Nat} : distF E S v = (k : Int) ↔ LevF E S k v := by
  unfold distF
  by_cases h : ∃ k, LevF E S k v
  · rw [dif_pos h]
    have hc := Classical.choose_spec h
    constructor
    · intro e
      have : Classical.choose h = k := by omega
      rw [← this]; exact hc
    · intro hl; rw [hc.unique hl]
  · rw [dif_neg h]
    exact ⟨fun e => by omega, fun hl => absurd ⟨k, hl⟩ h⟩
theorem distF_none {E : List (Int × Int)} {S : List Int} {v : Int} : distF E S v = -1 ↔ ¬ MeetF E S v := by
  unfold distF
  by_cases h : ∃ k, LevF E S k v
  · rw [dif_pos h]
    obtain ⟨k, hk⟩ := h
    exact ⟨fun e => by omega, fun hn => absurd ⟨k, hk.1⟩ hn⟩
  · rw [dif_neg h]
    exact ⟨fun _ ⟨k, hk⟩ => h (by obtain ⟨j, _, hl⟩ := lev_of hk; exact ⟨j, hl⟩), fun _ => rfl⟩
theorem distF_met {E : List (Int × Int)} {S : List Int} {v : Int} : 0 ≤ distF E S v ↔ MeetF E S v := by
  constructor
  · intro h
    by_cases hm : MeetF E S v
    · exact hm
    · have := distF_none.2 hm; omega
  · intro h
    have h1 := mt distF_none.1 (not_not_intro h)
    unfold distF at h1 ⊢
    by_cases h2 : ∃ k, LevF E S k v
    · rw [dif_pos h2]; omega
    · rw [dif_neg h2] at h1; exact absurd rfl h1
/-- The row that the rounds leave is how far the nodes are. -/
theorem dists_of {n : Nat} {E : List (Int × Int)} {S : List Int} {r : Nat} {D : List Int} (hl : D.length = n) (h : AtF n E S (r + 1) D) (hE : ∀ e ∈ E, 0 ≤ e.2 ∧ e.2 < (n : Int)) (hno : ∀ v, v < n → nth D v ≠ ((r : Int) + 1)) : D = distsF n E S := by
  refine List.ext_getElem (by simp [distsF, hl]) fun v h1 h2 => ?_
  have hv : v < n := by omega
  obtain ⟨a1, a2, a3⟩ := h.all hE hno hv
  have e : (distsF n E S)[v] = distF E S (v : Int) := by simp [distsF]
  rw [e, ← nth_is h1]
  rcases a3 with h3 | h3
  · rw [h3]
    exact (distF_none.2 (fun ⟨k, hk⟩ => a2.1 h3 k hk)).symm
  · obtain ⟨k, hk⟩ := Int.eq_ofNat_of_zero_le h3
    rw [hk]
    exact (distF_lev.2 ((a1 k).1 hk)).symm
/-- What is wrong with nodes. -/
def offF (n v : Int) : Bool := decide (v < 0) || decide (n ≤ v)
def fitF (n : Int) (E : List (Int × Int)) (L : List Int) : Int := if n < 0 then 1 else if E.any (fun e => offF n e.1 || offF n e.2) = true then 1 else if L.any (offF n) = true then 1 else if 16384 < n then 2 else 0
theorem fitF_ok {n : Int} {E : List (Int × Int)} {L : List Int} (h : fitF n E L = 0) : 0 ≤ n ∧ n ≤ 16384 ∧ (∀ e ∈ E, 0 ≤ e.1 ∧ e.1 < n ∧ 0 ≤ e.2 ∧ e.2 < n) ∧ ∀ v ∈ L, 0 ≤ v ∧ v < n := by
  unfold fitF at h
  split at h
  · cases h
  · split at h
    · cases h
    · split at h
      · cases h
      · split at h
        · cases h
        · rename_i h0 h1 h2 h3
          refine ⟨by omega, by omega, fun e he => ?_, fun v hv => ?_⟩
          · have h4 : ¬ (offF n e.1 || offF n e.2) = true := fun h => h1 (List.any_eq_true.2 ⟨e, he, h⟩)
            unfold offF at h4
            simp only [Bool.or_eq_true, decide_eq_true_eq] at h4
            omega
          · have h4 : ¬ offF n v = true := fun h => h2 (List.any_eq_true.2 ⟨v, hv, h⟩)
            unfold offF at h4
            simp only [Bool.or_eq_true, decide_eq_true_eq] at h4
            omega
theorem fitF_turn (n : Int) (E : List (Int × Int)) (L : List Int) : fitF n (turnF E) L = fitF n E L := by
  have h : (turnF E).any (fun e => offF n e.1 || offF n e.2) = E.any (fun e => offF n e.1 || offF n e.2) := by
    unfold turnF
    rw [List.any_map]
    congr 1
    funext e
    exact Bool.or_comm _ _
  unfold fitF
  rw [h]
/-- Which nodes are met. -/
noncomputable def metF (n : Nat) (E : List (Int × Int)) (S : List Int) : List Bool := (distsF n E S).map fun d => decide (0 ≤ d)
theorem metF_at {n : Nat} {E : List (Int × Int)} {S : List Int} {v : Nat} (h : v < (metF n E S).length) : (metF n E S)[v] = true ↔ MeetF E S (v : Int) := by
  simp only [metF, distsF, List.getElem_map, List.getElem_range, decide_eq_true_eq]
  exact distF_met
theorem metF_len (n : Nat) (E : List (Int × Int)) (S : List Int) : (metF n E S).length = n := by simp [metF, distsF]
/-- A row of truths that says of each node whether it is met is that row. -/
theorem metF_of {n : Nat} {E : List (Int × Int)} {S : List Int} {M : List Bool} (hl : M.length = n) (h : ∀ v (hv : v < M.length), M[v] = true ↔ MeetF E S (v : Int)) : M = metF n E S := by
  refine List.ext_getElem (by rw [hl, metF_len]) fun v h1 h2 => ?_
  rw [Bool.eq_iff_iff, h v h1, metF_at h2]
end Go.Proofs.Ytgncpiamokeohaa
