/- Layer 14: package flow's ways: lists in one piece of memory (plain). -/
import Derived.Test.YtgncpiamokeohaaFlowPb
namespace Go.Proofs.Ytgncpiamokeohaa
open Go.RowKit (wrap64 intOf Below)
set_option linter.unusedVariables false
set_option linter.unusedSimpArgs false

/-- How many edges lead from a node. -/
def cntF (E : List (Int × Int)) (u : Nat) : Nat := (outF E (u : Int)).length
def cntsF (E : List (Int × Int)) (n : Nat) : List Int := (List.range n).map fun u => (cntF E u : Int)
theorem cntsF_len (E : List (Int × Int)) (n : Nat) : (cntsF E n).length = n := by simp [cntsF]
theorem cntsF_at {E : List (Int × Int)} {n u : Nat} (h : u < n) : nth (cntsF E n) u = (cntF E u : Int) := by
  rw [nth_is (by rw [cntsF_len]; exact h)]; simp [cntsF]
theorem outF_take {E : List (Int × Int)} {i : Nat} (hi : i < E.length) (u : Int) : outF (E.take (i + 1)) u = if E[i].1 = u then outF (E.take i) u ++ [E[i].2] else outF (E.take i) u := by
  unfold outF
  rw [List.take_succ_eq_append_getElem hi, List.filter_append, List.map_append]
  by_cases h : E[i].1 = u
  · simp [h]
  · simp [h]
theorem cntF_take {E : List (Int × Int)} {i : Nat} (hi : i < E.length) {u0 : Nat} (h0 : E[i].1 = (u0 : Int)) (u : Nat) : cntF (E.take (i + 1)) u = cntF (E.take i) u + if u = u0 then 1 else 0 := by
  unfold cntF
  rw [outF_take hi]
  by_cases h : u = u0
  · rw [if_pos (by rw [h0, h]), if_pos h]; simp
  · rw [if_neg (by rw [h0]; omega), if_neg h]; simp
theorem cntF_le_take (E : List (Int × Int)) (i u : Nat) : cntF (E.take i) u ≤ cntF E u := by
  unfold cntF outF
  rw [List.length_map, List.length_map]
  exact ((List.take_sublist i E).filter _).length_le
theorem cntF_le (E : List (Int × Int)) (u : Nat) : cntF E u ≤ E.length := by
  unfold cntF outF
  rw [List.length_map]
  exact List.length_filter_le _ _
theorem cntF_lt {E : List (Int × Int)} {i : Nat} (hi : i < E.length) {u0 : Nat} (h0 : E[i].1 = (u0 : Int)) : cntF (E.take i) u0 < cntF E u0 := by
  have h1 := cntF_take hi h0 u0
  have h2 := cntF_le_take E (i + 1) u0
  rw [if_pos rfl] at h1
  omega
theorem cntsF_take {E : List (Int × Int)} {i n : Nat} (hi : i < E.length) {u0 : Nat} (h0 : E[i].1 = (u0 : Int)) : (cntsF (E.take i) n).set u0 ((cntF (E.take i) u0 : Int) + 1) = cntsF (E.take (i + 1)) n := by
  apply List.ext_getElem
  · simp [cntsF]
  · intro j h1 h2
    rw [List.getElem_set]
    simp only [cntsF, List.getElem_map, List.getElem_range]
    rw [cntF_take hi h0 j]
    by_cases h : u0 = j
    · subst h; rw [if_pos rfl, if_pos rfl]; omega
    · rw [if_neg h, if_neg (fun e => h e.symm)]; omega
theorem cntsF_none (n : Nat) : cntsF [] n = List.replicate n 0 := by
  apply List.ext_getElem
  · simp [cntsF]
  · intro j h1 h2; simp [cntsF, cntF, outF]
/-- Where a node's list begins. -/
def sumF (E : List (Int × Int)) : Nat → Nat
  | 0 => 0
  | u + 1 => sumF E u + cntF E u
theorem sumF_succ (E : List (Int × Int)) (u : Nat) : sumF E (u + 1) = sumF E u + cntF E u := rfl
theorem sumF_cons (e : Int × Int) (E : List (Int × Int)) : ∀ n, sumF (e :: E) n = sumF E n + if 0 ≤ e.1 ∧ e.1 < (n : Int) then 1 else 0
  | 0 => by rw [if_neg (by omega)]; rfl
  | n + 1 => by
    have h1 := sumF_cons e E n
    have h2 : cntF (e :: E) n = cntF E n + if e.1 = (n : Int) then 1 else 0 := by
      unfold cntF outF
      rw [List.filter_cons]
      by_cases h : e.1 = (n : Int)
      · simp [h]
      · simp [h]
    rw [sumF_succ, sumF_succ, h1, h2]
    by_cases ha : 0 ≤ e.1 ∧ e.1 < (n : Int)
    · rw [if_pos ha, if_neg (by omega), if_pos (by omega)]; omega
    · by_cases hb : e.1 = (n : Int)
      · rw [if_neg ha, if_pos hb, if_pos (by omega)]; omega
      · rw [if_neg ha, if_neg hb, if_neg (by omega)]; omega
theorem sumF_le : ∀ (E : List (Int × Int)) (n : Nat), sumF E n ≤ E.length
  | [], n => by
    have : sumF [] n = 0 := by
      induction n with
      | zero => rfl
      | succ n ih => rw [sumF_succ, ih]; rfl
    omega
  | e :: E, n => by
    rw [sumF_cons, List.length_cons]
    have := sumF_le E n
    split <;> omega
theorem sumF_mono (E : List (Int × Int)) {u v : Nat} (h : u < v) : sumF E u + cntF E u ≤ sumF E v := by
  induction v with
  | zero => omega
  | succ v ih =>
    rw [sumF_succ]
    by_cases e : u = v
    · subst e; omega
    · have := ih (by omega); omega
theorem sumF_in {E : List (Int × Int)} {n u : Nat} (hu : u < n) : sumF E u + cntF E u ≤ E.length := Nat.le_trans (sumF_mono E hu) (sumF_le E n)
/-- Where a node's list is cut out: an empty rest is not moved any more. -/
def offW (E : List (Int × Int)) : Nat → Nat
  | 0 => 0
  | u + 1 => if E.length - sumF E u = cntF E u then offW E u else offW E u + cntF E u
theorem offW_succ (E : List (Int × Int)) (u : Nat) : offW E (u + 1) = if E.length - sumF E u = cntF E u then offW E u else offW E u + cntF E u := rfl
theorem offW_sum {E : List (Int × Int)} : ∀ {u : Nat}, sumF E u < E.length → offW E u = sumF E u
  | 0, _ => rfl
  | u + 1, h => by
    rw [sumF_succ] at h ⊢
    rw [offW_succ, if_neg (by omega), offW_sum (u := u) (by omega)]
theorem offW_pos {E : List (Int × Int)} {n u : Nat} (hu : u < n) (h : 0 < cntF E u) : offW E u = sumF E u := offW_sum (by have := sumF_in (E := E) hu; omega)
/-- The piece of memory, when the first i edges are laid. -/
def RoomF (n : Nat) (E : List (Int × Int)) (i : Nat) (Z : List Int) : Prop := Z.length = E.length ∧ ∀ u, u < n → ∀ k, k < cntF (E.take i) u → nth Z (sumF E u + k) = nth (outF (E.take i) (u : Int)) k
theorem RoomF.start (n : Nat) (E : List (Int × Int)) {Z : List Int} (h : Z.length = E.length) : RoomF n E 0 Z := ⟨h, fun u _ k hk => by simp [cntF, outF] at hk⟩
theorem nth_app {A B : List Int} {k : Nat} : nth (A ++ B) k = if k < A.length then nth A k else nth B (k - A.length) := by
  unfold nth
  rw [List.getD_eq_getElem?_getD, List.getElem?_append]
  split <;> simp [List.getD_eq_getElem?_getD]
theorem RoomF.step {n : Nat} {E : List (Int × Int)} {i : Nat} {Z : List Int} (h : RoomF n E i Z) (hi : i < E.length) {u0 : Nat} (h0 : E[i].1 = (u0 : Int)) (hu0 : u0 < n) : RoomF n E (i + 1) (Z.set (sumF E u0 + cntF (E.take i) u0) E[i].2) := by
  have hlt := cntF_lt hi h0
  have hin := sumF_in (E := E) hu0
  have hl := h.1
  refine ⟨by rw [List.length_set]; exact hl, fun u hu k hk => ?_⟩
  rw [nth_setF (by omega)]
  rw [cntF_take hi h0] at hk
  by_cases e : u = u0
  · subst e
    rw [if_pos rfl] at hk
    rw [outF_take hi, if_pos h0]
    by_cases ek : k = cntF (E.take i) u
    · subst ek
      rw [if_pos rfl, nth_app, if_neg (by unfold cntF; omega)]
      unfold cntF
      simp [nth]
    · rw [if_neg (by omega), nth_app, if_pos (by show k < cntF (E.take i) u; omega)]
      exact h.2 u hu k (by omega)
  · rw [if_neg e] at hk
    have h3 := cntF_le_take E i u
    have hne : sumF E u + k ≠ sumF E u0 + cntF (E.take i) u0 := by
      rcases Nat.lt_or_gt_of_ne e with h4 | h4
      · have := sumF_mono E h4; omega
      · have := sumF_mono E h4; omega
    rw [if_neg hne, outF_take hi, if_neg (by rw [h0]; omega)]
    exact h.2 u hu k (by omega)
/-- The lists as they lie: those of the first i nodes are cut out of the piece R. -/
def cutV (R n : Nat) (E : List (Int × Int)) (i : Nat) : List Value := (List.range n).map fun u => if u < i then .slice (some ⟨R, offW E u, none⟩) 0 (cntF E u) else .slice none 0 0
/-- The lists when the first i edges are laid. -/
def wayV (R n : Nat) (E : List (Int × Int)) (i : Nat) : List Value := (List.range n).map fun u => .slice (some ⟨R, offW E u, none⟩) (cntF (E.take i) u) (cntF E u)
theorem cutV_len (R n : Nat) (E : List (Int × Int)) (i : Nat) : (cutV R n E i).length = n := by simp [cutV]
theorem wayV_len (R n : Nat) (E : List (Int × Int)) (i : Nat) : (wayV R n E i).length = n := by simp [wayV]
theorem wayV_at {R n : Nat} {E : List (Int × Int)} {i u : Nat} (h : u < n) : (wayV R n E i)[u]? = some (.slice (some ⟨R, offW E u, none⟩) (cntF (E.take i) u) (cntF E u)) := by simp [wayV, h]
theorem cutV_more {R n : Nat} {E : List (Int × Int)} {i : Nat} (h : i < n) : (cutV R n E i).set i (.slice (some ⟨R, offW E i, none⟩) 0 (cntF E i)) = cutV R n E (i + 1) := by
  apply List.ext_getElem
  · simp [cutV]
  · intro j h1 h2
    rw [List.getElem_set]
    simp only [cutV, List.getElem_map, List.getElem_range]
    by_cases e : i = j
    · subst e; rw [if_pos rfl, if_pos (by omega)]
    · rw [if_neg e]
      by_cases hl : j < i
      · rw [if_pos hl, if_pos (by omega)]
      · rw [if_neg hl, if_neg (by omega)]
theorem cutV_all (R n : Nat) (E : List (Int × Int)) : cutV R n E n = wayV R n E 0 := by
  apply List.ext_getElem
  · simp [cutV, wayV]
  · intro j h1 h2
    have hj : j < n := by rw [cutV_len] at h1; exact h1
    simp only [cutV, wayV, List.getElem_map, List.getElem_range]
    rw [if_pos hj]
    simp [cntF, outF]
theorem cutV_none (R n : Nat) (E : List (Int × Int)) : cutV R n E 0 = List.replicate n (.slice none 0 0) := by
  apply List.ext_getElem
  · simp [cutV]
  · intro j h1 h2; simp [cutV]
theorem wayV_more {R n : Nat} {E : List (Int × Int)} {i : Nat} (hi : i < E.length) {u0 : Nat} (h0 : E[i].1 = (u0 : Int)) : (wayV R n E i).set u0 (.slice (some ⟨R, offW E u0, none⟩) (cntF (E.take i) u0 + 1) (cntF E u0)) = wayV R n E (i + 1) := by
  apply List.ext_getElem
  · simp [wayV]
  · intro j h1 h2
    rw [List.getElem_set]
    simp only [wayV, List.getElem_map, List.getElem_range]
    rw [cntF_take hi h0 j]
    by_cases e : u0 = j
    · subst e; rw [if_pos rfl, if_pos rfl]
    · rw [if_neg e, if_neg (fun h => e h.symm)]; rfl
/-- The lists, as they are read: they lie in two blocks. -/
structure WaysAt (W : World) (g R n : Nat) (E : List (Int × Int)) : Prop where
  row : ∀ u, u < n → W.cell? ⟨g, u, none⟩ = some (.slice (some ⟨R, offW E u, none⟩) (cntF E u) (cntF E u))
  out : ∀ u, u < n → NumsAt W (some ⟨R, offW E u, none⟩) (cntF E u) (outF E (u : Int))
  low : g < W.heap.size ∧ R < W.heap.size
theorem WaysAt.same {W W' : World} {g R n : Nat} {E : List (Int × Int)} (h : WaysAt W g R n E) (hg : W'.heap[g]? = W.heap[g]?) (hR : W'.heap[R]? = W.heap[R]?) (hs : W.heap.size ≤ W'.heap.size) : WaysAt W' g R n E := by
  refine ⟨fun u hu => (World.cell?_of_block (a := ⟨g, u, none⟩) hg).trans (h.row u hu), fun u hu => ⟨(h.out u hu).1, fun h0 => ?_⟩, Nat.lt_of_lt_of_le h.low.1 hs, Nat.lt_of_lt_of_le h.low.2 hs⟩
  obtain ⟨R', off, e, hR', hc⟩ := (h.out u hu).2 h0
  cases e
  exact ⟨R, offW E u, rfl, Nat.lt_of_lt_of_le hR' hs, fun j hj => (World.cell?_of_block (a := ⟨R, offW E u + j, none⟩) hR).trans (hc j hj)⟩
theorem ways_of {W : World} {B g R n c : Nat} {E : List (Int × Int)} {Z : List Int} {t e : TypeId} (hg : W.ownsRow B t 1 (.slice (some ⟨g, 0, none⟩) n c) n (wayV R n E E.length)) (hR : OwnsI W B e (.slice (some ⟨R, 0, none⟩) E.length E.length) Z) (hz : RoomF n E E.length Z) (hgl : g < W.heap.size) (hRl : R < W.heap.size) : WaysAt W g R n E := by
  refine ⟨fun u hu => ?_, fun u hu => ⟨rfl, fun h0 => ⟨R, offW E u, rfl, hRl, fun j hj => ?_⟩⟩, hgl, hRl⟩
  · have := World.ownsRow.cells hg rfl u _ (wayV_at hu)
    rw [addr_plain, Nat.zero_add, List.take_length] at this
    exact this
  · have hin := sumF_in (E := E) hu
    have hj' : j < cntF E u := hj
    rw [offW_pos hu (by omega)]
    have hzl := hz.1
    have h1 := World.ownsRow.cells hR rfl (sumF E u + j) (numV Z[sumF E u + j]) (by rw [List.getElem?_map, List.getElem?_eq_getElem (by omega)]; rfl)
    rw [addr_plain, Nat.zero_add] at h1
    rw [h1]
    have h2 := hz.2 u hu j (by rw [List.take_length]; exact hj')
    rw [List.take_length, nth_is (by omega), nth_is hj] at h2
    rw [h2]
end Go.Proofs.Ytgncpiamokeohaa
