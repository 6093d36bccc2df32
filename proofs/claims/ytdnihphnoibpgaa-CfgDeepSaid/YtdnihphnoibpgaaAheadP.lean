/- Layer 7, plain: which blocks are ahead of each block. Nothing of the program is named here. -/
import Derived.Test.YtdnihphnoibpgaaCfgPl
namespace Go.Proofs.Ytdnihphnoibpgaa
set_option linter.unusedVariables false

/-- Of the first k blocks, those that go to block b. -/
def ahL (f : FuncD) (k : Nat) (b : Int) : List Int := ((List.range k).filter fun i => decide (b ∈ nxF f i)).map Int.ofNat
theorem ahL_more (f : FuncD) (k : Nat) (b : Int) : ahL f (k + 1) b = ahL f k b ++ (if b ∈ nxF f k then [(k : Int)] else []) := by
  unfold ahL
  rw [List.range_succ, List.filter_append, List.map_append]
  congr 1
  by_cases h : b ∈ nxF f k <;> simp [h]
theorem ahL_len (f : FuncD) (k : Nat) (b : Int) : (ahL f k b).length ≤ k := by
  unfold ahL
  rw [List.length_map]
  exact Nat.le_trans (List.length_filter_le _ _) (by simp)
theorem ahL_mem {f : FuncD} {k : Nat} {b x : Int} : x ∈ ahL f k b ↔ There k x ∧ b ∈ nxF f x.toNat := by
  unfold ahL There
  simp only [List.mem_map, List.mem_filter, List.mem_range, decide_eq_true_eq]
  constructor
  · rintro ⟨i, ⟨h1, h2⟩, rfl⟩
    exact ⟨⟨by simp, by simp; omega⟩, by simpa using h2⟩
  · rintro ⟨⟨h1, h2⟩, h3⟩
    exact ⟨x.toNat, ⟨by omega, h3⟩, by simp; omega⟩
theorem next_nodup (e : EndD) : (nextL e).Nodup := by
  unfold nextL
  split
  · simp
  · split
    · split
      · simp
      · rename_i h; simp [h]
    · simp
/-- Of each block, those that go to it: all of the first i blocks, and block i's first j. -/
def ahRow (f : FuncD) (i j : Nat) : List (List Int) := (List.range f.blocks.length).map fun (b : Nat) => ahL f i b ++ (if (b : Int) ∈ (nxF f i).take j then [(i : Int)] else [])
theorem ahRow_len (f : FuncD) (i j : Nat) : (ahRow f i j).length = f.blocks.length := by simp [ahRow]
theorem ahRow_at {f : FuncD} {i j b : Nat} (h : b < (ahRow f i j).length) : (ahRow f i j)[b] = ahL f i b ++ (if (b : Int) ∈ (nxF f i).take j then [(i : Int)] else []) := by simp [ahRow]
theorem ahRow_zero (f : FuncD) : ahRow f 0 0 = List.replicate f.blocks.length [] := by
  apply List.ext_getElem
  · simp [ahRow]
  · intro b h1 h2
    rw [ahRow_at]
    simp [ahL]
theorem ahRow_put {f : FuncD} {i j b : Nat} (hj : j < (nxF f i).length) (hb : (nxF f i)[j] = (b : Int)) (h : b < (ahRow f i j).length) : (ahRow f i j).set b ((ahRow f i j)[b] ++ [(i : Int)]) = ahRow f i (j + 1) ∧ (ahRow f i j)[b] = ahL f i b := by
  have hn : (b : Int) ∉ (nxF f i).take j := by
    intro h'
    obtain ⟨k, hk, e⟩ := List.getElem_of_mem h'
    simp only [List.length_take] at hk
    rw [List.getElem_take] at e
    exact List.pairwise_iff_getElem.1 (next_nodup (theEnd f i)) k j (show k < (nxF f i).length by omega) hj (by omega) (e.trans hb.symm)
  refine ⟨?_, by rw [ahRow_at, if_neg hn, List.append_nil]⟩
  apply List.ext_getElem
  · simp [ahRow]
  · intro c h1 h2
    rw [List.getElem_set]
    rw [ahRow_at h2, List.take_succ_eq_append_getElem hj, hb]
    split
    · rename_i e
      subst e
      rw [ahRow_at h, if_neg hn, if_pos (by simp)]
      simp
    · rename_i e
      rw [ahRow_at]
      congr 1
      have e' : ¬ ((c : Int) = (b : Int)) := fun h' => e (by omega)
      simp [e']
theorem ahRow_skip {f : FuncD} {i j : Nat} (hj : j < (nxF f i).length) (hb : ¬ There f.blocks.length (nxF f i)[j]) : ahRow f i j = ahRow f i (j + 1) := by
  apply List.ext_getElem
  · simp [ahRow]
  · intro c h1 h2
    have e' : ¬ ((c : Int) = (nxF f i)[j]) := fun h' => hb (by rw [← h']; simp [ahRow_len] at h1; exact ⟨by omega, by omega⟩)
    have e2 : ((c : Int) ∈ (nxF f i).take (j + 1)) ↔ ((c : Int) ∈ (nxF f i).take j) := by
      rw [List.take_succ_eq_append_getElem hj, List.mem_append, List.mem_singleton]
      exact ⟨fun h => h.resolve_right e', .inl⟩
    rw [ahRow_at h1, ahRow_at h2]
    simp only [e2]
theorem ahRow_turn (f : FuncD) (i : Nat) {j : Nat} (hj : j = (nxF f i).length) : ahRow f i j = ahRow f (i + 1) 0 := by
  subst hj
  apply List.ext_getElem
  · simp [ahRow]
  · intro c h1 h2
    rw [ahRow_at h1, ahRow_at h2, ahL_more, List.take_length]
    simp
end Go.Proofs.Ytdnihphnoibpgaa
