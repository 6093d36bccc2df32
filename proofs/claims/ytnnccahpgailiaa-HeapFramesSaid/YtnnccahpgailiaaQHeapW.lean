/- Layer 10: what the law HeapFrames goes through, plainly. -/
import Derived.Test.YtnnccahpgailiaaQT2

namespace Go.Proofs.Ytnnccahpgailiaa
open Go.RowKit (wrap64 intOf Below)
set_option linter.unusedVariables false
set_option linter.unusedSimpArgs false

/-- n frames entered, a row of one laid in each. -/
def phiM (n : Nat) : PM := { limit := 0, used := 0, makes := 0, entered := n, objs := (List.range n).map (fun (i : Nat) => withFr (newRow 1) ((i : Int) + 1)), frs := (List.range n).map (fun (i : Nat) => (i : Int) + 1) }
theorem phi_zero : newM 0 = phiM 0 := rfl
theorem phi_step (n : Nat) : sliceM (enterM (phiM n)).1 1 true = (phiM (n + 1), (n : Int) + 1, 0) := by
  have hl : lastFr (enterM (phiM n)).1 = (n : Int) + 1 := by
    unfold lastFr enterM frameM phiM
    simp
  unfold sliceM
  rw [if_neg (by omega)]
  unfold addM
  rw [if_pos rfl, hl]
  simp [enterM, frameM, phiM, pushM, List.range_succ]
/-- The same, with the frames from the L-th on left. -/
def psiM (n L : Nat) : PM := lessM (phiM n) L
theorem psi_all (n : Nat) : psiM n n = phiM n := by
  unfold psiM lessM
  have e : (phiM n).frs.take n = (phiM n).frs := List.take_of_length_le (by simp [phiM])
  rw [e]
theorem psi_len {n L : Nat} (h : L ≤ n) : (psiM n L).frs.length = L := by simp [psiM, lessM, phiM]; omega
theorem psi_leave {n L : Nat} (h : L + 1 ≤ n) : leaveM (psiM n (L + 1)) = (psiM n L, true) := by
  unfold leaveM
  rw [if_neg (by intro e; have := psi_len h; rw [e] at this; simp at this), psi_len h]
  simp [psiM, lessM, List.take_take]
/-- m frames more, entered behind that. -/
def chiM (n L m : Nat) : PM := {psiM n L with entered := (n : Int) + m, frs := (psiM n L).frs ++ (List.range m).map (fun (i : Nat) => (n : Int) + i + 1)}
theorem chi_zero (n L : Nat) : chiM n L 0 = psiM n L := by simp [chiM, psiM, lessM, phiM]
theorem chi_enter (n L m : Nat) : (enterM (chiM n L m)).1 = chiM n L (m + 1) := by
  simp [enterM, frameM, chiM, List.range_succ]
  omega
/-- What Get answers then. -/
theorem chi_get {n L m i : Nat} (hL : L ≤ n) (hi : i < n) : (getM (chiM n L m) ((i : Int) + 1) 0).2 = if L ≤ i then 5 else 0 := by
  have ho : (chiM n L m).obj ((i : Int) + 1) = some (withFr (newRow 1) ((i : Int) + 1)) := by
    unfold PM.obj
    rw [if_pos (by omega)]
    simp [chiM, psiM, lessM, phiM, hi]
  have hg : (chiM n L m).gone (withFr (newRow 1) ((i : Int) + 1)) = decide (L ≤ i) := by
    unfold PM.gone
    rw [decide_eq_decide]
    show ((i : Int) + 1 ≠ 0 ∧ (i : Int) + 1 ∉ ((phiM n).frs.take L) ++ (List.range m).map (fun (i : Nat) => (n : Int) + i + 1)) ↔ L ≤ i
    have e : (phiM n).frs.take L = (List.range L).map (fun (i : Nat) => (i : Int) + 1) := by
      show ((List.range n).map (fun (i : Nat) => (i : Int) + 1)).take L = _
      rw [← List.map_take, List.take_range, Nat.min_eq_left hL]
    rw [e]
    simp only [List.mem_append, List.mem_map, List.mem_range, not_or, not_exists, not_and]
    constructor
    · rintro ⟨_, h1, _⟩
      rcases Nat.lt_or_ge i L with h2 | h2
      · exact absurd rfl (h1 i h2)
      · exact h2
    · intro h
      exact ⟨by omega, fun j hj => by omega, fun j hj => by omega⟩
  have ha : ansR (chiM n L m) ((i : Int) + 1) 0 = if L ≤ i then 5 else 0 := by
    unfold ansR
    rw [ho]
    show (if (chiM n L m).gone (withFr (newRow 1) ((i : Int) + 1)) = true then (5 : Int) else if (0 : Int) < 0 ∨ (1 : Int) ≤ 0 then 2 else 0) = _
    rw [hg]
    simp
  unfold getM
  rw [ha]
  by_cases h : L ≤ i
  · simp [h]
  · simp [h]
end Go.Proofs.Ytnnccahpgailiaa
