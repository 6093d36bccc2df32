/- Layer 14: rising lists (the document's put), and what each node has: the plain words. -/
import Derived.Test.YtgncpiamokeohaaFlowPl
namespace Go.Proofs.Ytgncpiamokeohaa
open Go.RowKit (wrap64 intOf Below)
set_option linter.unusedVariables false
set_option linter.unusedSimpArgs false

def RiseF (l : List Int) : Prop := l.Pairwise (· < ·)
/-- Two rising lists that have the same are one. -/
theorem rise_eq : ∀ {a b : List Int}, RiseF a → RiseF b → (∀ x, x ∈ a ↔ x ∈ b) → a = b
  | [], [], _, _, _ => rfl
  | [], y :: b, _, _, h => absurd ((h y).2 (by simp)) (by simp)
  | x :: a, [], _, _, h => absurd ((h x).1 (by simp)) (by simp)
  | x :: a, y :: b, ha, hb, h => by
    have ha' := List.pairwise_cons.1 ha
    have hb' := List.pairwise_cons.1 hb
    have hxy : x = y := by
      rcases List.mem_cons.1 ((h x).1 (by simp)) with h1 | h1
      · exact h1
      · rcases List.mem_cons.1 ((h y).2 (by simp)) with h2 | h2
        · exact h2.symm
        · have h3 := ha'.1 y h2
          have h4 := hb'.1 x h1
          omega
    subst hxy
    congr 1
    refine rise_eq ha'.2 hb'.2 fun z => ?_
    constructor
    · intro hz
      rcases List.mem_cons.1 ((h z).1 (List.mem_cons_of_mem _ hz)) with h1 | h1
      · have := ha'.1 z hz; omega
      · exact h1
    · intro hz
      rcases List.mem_cons.1 ((h z).2 (List.mem_cons_of_mem _ hz)) with h1 | h1
      · have := hb'.1 z hz; omega
      · exact h1
/-- The document's put, number by number: what was written, and whether n was. -/
def stepF (n : Int) (s : List Int × Bool) (x : Int) : List Int × Bool := if s.2 = false ∧ n < x then (s.1 ++ [n] ++ [x], true) else (s.1 ++ [x], s.2)
def putS (n : Int) (l : List Int) : List Int × Bool := l.foldl (stepF n) ([], false)
def putF (n : Int) (l : List Int) : List Int := if n ∈ l then l else if (putS n l).2 = true then (putS n l).1 else (putS n l).1 ++ [n]
theorem putS_more (n : Int) (l : List Int) (x : Int) : putS n (l ++ [x]) = stepF n (putS n l) x := by unfold putS; rw [List.foldl_append]; rfl
theorem putS_inv' (n : Int) : ∀ (m : Nat) (l : List Int), l.length = m → RiseF l → n ∉ l → ((putS n l).2 = false → (putS n l).1 = l ∧ ∀ x ∈ l, x < n) ∧ ((putS n l).2 = true → RiseF (putS n l).1 ∧ (∀ x, x ∈ (putS n l).1 ↔ x = n ∨ x ∈ l) ∧ ∃ x ∈ l, n < x) := by
  intro m
  induction m with
  | zero =>
    intro l hl _ _
    obtain rfl := List.eq_nil_of_length_eq_zero hl
    exact ⟨fun _ => ⟨rfl, by simp⟩, fun h => by cases h⟩
  | succ m ih0 =>
    intro l0 hl0 hr hn
    rcases List.eq_nil_or_concat l0 with e | ⟨l, x, e⟩
    · rw [e] at hl0; simp at hl0
    rw [List.concat_eq_append] at e
    subst e
    have ih := ih0 l (by simp at hl0; exact hl0)
    have hr' : RiseF l ∧ ∀ y ∈ l, y < x := by
      have := List.pairwise_append.1 hr
      exact ⟨this.1, fun y hy => this.2.2 y hy x (by simp)⟩
    have hnl : n ∉ l := fun h => hn (by simp [h])
    have hnx : n ≠ x := fun h => hn (by simp [h])
    obtain ⟨i0, i1⟩ := ih hr'.1 hnl
    rw [putS_more]
    unfold stepF
    cases hs : (putS n l).2 with
    | false =>
      obtain ⟨h1, h2⟩ := i0 hs
      by_cases hx : n < x
      · rw [if_pos ⟨rfl, hx⟩]
        refine ⟨fun h => (by cases h), fun _ => ⟨?_, fun y => ?_, x, by simp, hx⟩⟩
        · rw [h1]
          refine List.pairwise_append.2 ⟨List.pairwise_append.2 ⟨hr'.1, by simp, fun y hy z hz => ?_⟩, by simp, fun y hy z hz => ?_⟩
          · simp at hz; subst hz; exact h2 y hy
          · simp at hz; subst hz
            rcases List.mem_append.1 hy with hy | hy
            · exact hr'.2 y hy
            · simp at hy; subst hy; exact hx
        · rw [h1]; simp only [List.mem_append, List.mem_singleton]
          constructor
          · rintro ((h | h) | h)
            · exact .inr (.inl h)
            · exact .inl h
            · exact .inr (.inr h)
          · rintro (h | h | h)
            · exact .inl (.inr h)
            · exact .inl (.inl h)
            · exact .inr h
      · rw [if_neg (fun h => hx h.2)]
        refine ⟨fun _ => ⟨by rw [h1], fun y hy => ?_⟩, fun h => absurd h (by simp)⟩
        rcases List.mem_append.1 hy with hy | hy
        · exact h2 y hy
        · simp at hy; subst hy; omega
    | true =>
      obtain ⟨h1, h2, z, hz, hnz⟩ := i1 hs
      rw [if_neg (fun h => by cases h.1)]
      refine ⟨fun h => absurd h (by simp), fun _ => ⟨?_, fun y => ?_, z, by simp [hz], hnz⟩⟩
      · refine List.pairwise_append.2 ⟨h1, by simp, fun y hy t ht => ?_⟩
        simp at ht; subst ht
        rcases (h2 y).1 hy with rfl | hy
        · have := hr'.2 z hz; omega
        · exact hr'.2 y hy
      · simp only [List.mem_append, List.mem_singleton, h2 y]
        constructor
        · rintro ((h | h) | h)
          · exact .inl h
          · exact .inr (.inl h)
          · exact .inr (.inr h)
        · rintro (h | h | h)
          · exact .inl (.inl h)
          · exact .inl (.inr h)
          · exact .inr h
theorem putF_facts {n : Int} {l : List Int} (hr : RiseF l) : RiseF (putF n l) ∧ ∀ x, x ∈ putF n l ↔ x = n ∨ x ∈ l := by
  unfold putF
  by_cases hn : n ∈ l
  · rw [if_pos hn]
    exact ⟨hr, fun x => ⟨.inr, fun h => h.elim (fun e => e ▸ hn) id⟩⟩
  · rw [if_neg hn]
    obtain ⟨i0, i1⟩ := putS_inv' n l.length l rfl hr hn
    cases hs : (putS n l).2 with
    | false =>
      rw [if_neg (by simp)]
      obtain ⟨h1, h2⟩ := i0 hs
      rw [h1]
      refine ⟨List.pairwise_append.2 ⟨hr, by simp, fun y hy z hz => by simp at hz; subst hz; exact h2 y hy⟩, fun x => ?_⟩
      simp only [List.mem_append, List.mem_singleton]
      exact Or.comm
    | true =>
      rw [if_pos rfl]
      obtain ⟨h1, h2, _⟩ := i1 hs
      exact ⟨h1, h2⟩
/-- What a node has, of the first i seeds. -/
def HasF (E : List (Int × Int)) (seeds : List (Int × Int)) (v s : Int) : Prop := ∃ u, (u, s) ∈ seeds ∧ MeetF E [u] v
/-- A node has a number just if it is met from the nodes that have it as a seed. -/
theorem has_meet {E seeds : List (Int × Int)} {v s : Int} : HasF E seeds v s ↔ MeetF E ((seeds.filter fun x => x.2 = s).map (·.1)) v := by
  constructor
  · rintro ⟨u, hu, hm⟩
    exact hm.mono (fun e he => he) (fun t ht => by simp at ht; subst ht; exact List.mem_map.2 ⟨(t, s), List.mem_filter.2 ⟨hu, by simp⟩, rfl⟩)
  · intro h
    refine MeetF.least (M := fun v => HasF E seeds v s) (fun t ht => ?_) (fun a b ha he => ?_) h
    · obtain ⟨⟨x, y⟩, hx, rfl⟩ := List.mem_map.1 ht
      obtain ⟨hx1, hx2⟩ := List.mem_filter.1 hx
      have : y = s := by simpa using hx2
      subst this
      exact ⟨x, hx1, .start (by simp)⟩
    · obtain ⟨u, hu, hm⟩ := ha
      exact ⟨u, hu, hm.on he⟩
end Go.Proofs.Ytgncpiamokeohaa
