/- Layer 4: the places of a step and what stands there. -/
import Derived.Test.YtgkcbaakdphigaaDoorPlaces1
namespace Go.Proofs.YtgkcbaakdphigaaDoor
open Go.RowKit
set_option linter.unusedVariables false

section
variable (b g off ln : Nat) (K A B C : Int) (L : List Int)
def placeV (f : UInt8) : List (Addr × Int) := if f = 65 then [(⟨b, 1, none⟩, A)] else if f = 66 then [(⟨b, 2, none⟩, B)] else if f = 67 then [(⟨b, 3, none⟩, C)] else if f = 76 then (List.range ln).map fun j => (⟨g, off + j, none⟩, nth L j) else []
def pairsL : List (Addr × Int) := (fieldsL K).flatMap (placeV b g off ln A B C L)
variable {b g off ln K A B C L}
theorem placeV_fst (f : UInt8) : (placeV b g off ln A B C L f).map (·.1) = placeL b g off ln f := by
  unfold placeV placeL
  split
  · rfl
  · split
    · rfl
    · split
      · rfl
      · split
        · simp [Function.comp_def]
        · rfl
theorem pairs_fst : (pairsL b g off ln K A B C L).map (·.1) = placesL b g off ln K := by
  unfold pairsL placesL
  rw [List.map_flatMap]
  congr 1
  funext f
  exact placeV_fst f
theorem pairs_len : (pairsL b g off ln K A B C L).length = (placesL b g off ln K).length := by rw [← pairs_fst (A := A) (B := B) (C := C) (L := L), List.length_map]
theorem range_nth {L : List Int} : ∀ {n : Nat}, L.length = n → (List.range n).map (fun j => nth L j) = L := by
  intro n h
  subst h
  apply List.ext_getElem
  · simp
  · intro i h1 h2
    simp only [List.getElem_map, List.getElem_range]
    exact nth_is h2
theorem pairs_snd (hL : L.length = ln) : (pairsL b g off ln K A B C L).map (·.2) = usesL K A B C L := by
  have hr := range_nth hL
  unfold pairsL
  rw [List.map_flatMap]
  rcases kinds K with h | h
  · rcases h with rfl | rfl | rfl | rfl | rfl | rfl | rfl | rfl | rfl | rfl | rfl | rfl | rfl | rfl | rfl | rfl | rfl | rfl | rfl | rfl | rfl | rfl | rfl | rfl | rfl | rfl
    all_goals simp [fieldsL, placeV, usesL, hasB, oneL, pickL, Function.comp_def, hr]
  · rw [fields_none h]
    simp [usesL, hasB, fields_none h, oneL, pickL]
/-- What stands at each place. -/
theorem pairs_cells {u : World} {la : Option Addr} {N : Int} {S : ByteArray} {lc : Nat} {T : Bool} (hL : L.length = ln) (hla : 0 < ln → la = some ⟨g, off, none⟩) (hb : ∀ j, u.cell? ⟨b, j, none⟩ = (#[.int .i64 K, .int .i64 A, .int .i64 B, .int .i64 C, .int .i64 N, .string S, .slice la ln lc, .bool T] : Array Value)[j]?) (hat : NumsAt u la ln L) :
    ∀ x ∈ pairsL b g off ln K A B C L, u.cell? x.1 = some (numV x.2) := by
  intro x hx
  obtain ⟨f, _, hf⟩ := List.mem_flatMap.1 hx
  unfold placeV at hf
  split at hf
  · simp only [List.mem_singleton] at hf; subst hf; rw [hb]; rfl
  · split at hf
    · simp only [List.mem_singleton] at hf; subst hf; rw [hb]; rfl
    · split at hf
      · simp only [List.mem_singleton] at hf; subst hf; rw [hb]; rfl
      · split at hf
        · obtain ⟨j, hj, rfl⟩ := List.mem_map.1 hf
          rw [List.mem_range] at hj
          obtain ⟨g', off', he, _, hc⟩ := hat.2 (by omega)
          rw [hla (by omega)] at he
          cases he
          rw [hc j (by omega), nth_is (by omega)]
        · cases hf
end
/-- What stands at the place i. -/
def valF (b g off ln : Nat) (K A B C : Int) (L : List Int) (i : Fin (placesL b g off ln K).length) : Int := ((pairsL b g off ln K A B C L)[i.1]'(by rw [pairs_len]; exact i.2)).2
theorem pair_mem {b g off ln : Nat} {K A B C : Int} {L : List Int} (i : Fin (placesL b g off ln K).length) : (placeF b g off ln K i, valF b g off ln K A B C L i) ∈ pairsL b g off ln K A B C L := by
  have h : (pairsL b g off ln K A B C L)[i.1]'(by rw [pairs_len]; exact i.2) = (placeF b g off ln K i, valF b g off ln K A B C L i) := by
    refine Prod.ext ?_ rfl
    have := congrArg (·[i.1]?) (pairs_fst (b := b) (g := g) (off := off) (ln := ln) (K := K) (A := A) (B := B) (C := C) (L := L))
    simp only [List.getElem?_map, List.getElem?_eq_getElem (show i.1 < (pairsL b g off ln K A B C L).length by rw [pairs_len]; exact i.2), List.getElem?_eq_getElem i.2, Option.map_some, Option.some.injEq] at this
    exact this
  rw [← h]
  exact List.getElem_mem _
theorem vals_all {b g off ln : Nat} {K A B C : Int} {L : List Int} (hL : L.length = ln) : (firsts (placesL b g off ln K).length (placesL b g off ln K).length).map (valF b g off ln K A B C L) = usesL K A B C L := by
  rw [← pairs_snd (b := b) (g := g) (off := off) hL]
  apply List.ext_getElem
  · simp [firsts, pairs_len]
  · intro i h1 h2
    simp [firsts, valF]
/-- The iterator that places hands back, as its caller takes it. -/
theorem places_stops (K : Int) (Bo b g off ln lc : Nat) (la : Option Addr) (hla : 0 < ln → la = some ⟨g, off, none⟩) (hln : ln ≤ 140737488355328) (n : Nat) (w : World) (hft : FT w)
    (hc0 : w.cell? ⟨Bo, 0, none⟩ = some (.pointer (some ⟨b, 0, none⟩))) (hcK : w.cell? ⟨b, 0, none⟩ = some (.int .i64 K)) (hc6 : w.cell? ⟨b, 6, none⟩ = some (.slice la ln lc)) :
    SeqStopsK Fence.wide n Tryd.prog 34 #[.pointer (some ⟨Bo, 0, none⟩)] (fun i : Fin (placesL b g off ln K).length => #[Value.pointer (some (placeF b g off ln K i))]) (Kept Bo b)
      (fun xs => xs = firsts (placesL b g off ln K).length (placesL b g off ln K).length) (fun pre => ∃ q, q ≤ (placesL b g off ln K).length ∧ pre = firsts _ q) (placesL b g off ln K).length w := by
  intro l J Jx W hW hJ hJx hY h0
  refine places1_in K l Bo b g off ln lc la hla hln n J Jx W hJ (fun m k h W1 hj => ?_) (hft.since hW) ((hW.cell (p := ⟨Bo, 0, none⟩) (World.block_lt_of_cell? _ _ hc0)).trans hc0) ((hW.cell (p := ⟨b, 0, none⟩) (World.block_lt_of_cell? _ _ hcK)).trans hcK) ((hW.cell (p := ⟨b, 6, none⟩) (World.block_lt_of_cell? _ _ hc6)).trans hc6) h0
  have := hY (firsts _ k) ⟨k, h⟩ W1 hj (by rw [firsts_len (Nat.le_of_lt h)]; exact h)
  rw [firsts_next h] at this
  exact yield_depth rfl this
end Go.Proofs.YtgkcbaakdphigaaDoor
