/- Layer 14: nodes as they are met, the nearest ones first (plain). -/
import Derived.Test.YtgncpiamokeohaaFlowPs
namespace Go.Proofs.Ytgncpiamokeohaa
open Go.RowKit (wrap64 intOf Below)
set_option linter.unusedVariables false
set_option linter.unusedSimpArgs false

/-- Where edges lead to from a node. -/
def outF (E : List (Int × Int)) (u : Int) : List Int := (E.filter fun e => e.1 = u).map (·.2)
theorem mem_outF {E : List (Int × Int)} {u v : Int} : v ∈ outF E u ↔ (u, v) ∈ E := by
  unfold outF
  rw [List.mem_map]
  constructor
  · rintro ⟨⟨x, y⟩, h, rfl⟩
    obtain ⟨h1, h2⟩ := List.mem_filter.1 h
    have : x = u := by simpa using h2
    rw [← this]; exact h1
  · intro h; exact ⟨(u, v), List.mem_filter.2 ⟨h, by simp⟩, rfl⟩
/-- Edges and starts without those to nodes that are passed by. -/
def lessF (M : List Int) (E : List (Int × Int)) : List (Int × Int) := E.filter fun e => e.2 ∉ M
theorem mem_lessF {M : List Int} {E : List (Int × Int)} {e : Int × Int} : e ∈ lessF M E ↔ e ∈ E ∧ e.2 ∉ M := by
  unfold lessF; rw [List.mem_filter]; simp
def notF (M S : List Int) : List Int := S.filter fun v => v ∉ M
theorem mem_notF {M S : List Int} {v : Int} : v ∈ notF M S ↔ v ∈ S ∧ v ∉ M := by
  unfold notF; rw [List.mem_filter]; simp
theorem lessF_nil (E : List (Int × Int)) : lessF [] E = E := by unfold lessF; simp
theorem notF_nil (S : List Int) : notF [] S = S := by unfold notF; simp
/-- One more node stands in the line, if it is new. -/
def addF (M : List Int) (d : Int) (l : List (Int × Int)) (v : Int) : List (Int × Int) := if v ∈ M ++ l.map Prod.fst then l else l ++ [(v, d)]
def joinF (M : List Int) (d : Int) (l : List (Int × Int)) (ns : List Int) : List (Int × Int) := ns.foldl (addF M d) l
theorem joinF_more (M : List Int) (d : Int) (l : List (Int × Int)) (ns : List Int) (v : Int) : joinF M d l (ns ++ [v]) = addF M d (joinF M d l ns) v := by unfold joinF; rw [List.foldl_append]; rfl
theorem joinF_take {M : List Int} {d : Int} {l : List (Int × Int)} {ns : List Int} {i : Nat} (hi : i < ns.length) : joinF M d l (ns.take (i + 1)) = addF M d (joinF M d l (ns.take i)) ns[i] := by
  rw [List.take_succ_eq_append_getElem hi, joinF_more]
/-- What stands in the line: the old ones, and new ones. -/
structure JoinF (M : List Int) (d : Int) (l : List (Int × Int)) (ns : List Int) (l' : List (Int × Int)) : Prop where
  pre : ∃ t, l' = l ++ t ∧ ∀ x ∈ t, x.2 = d ∧ x.1 ∈ ns ∧ x.1 ∉ M
  nd : (l.map Prod.fst).Nodup → (l'.map Prod.fst).Nodup
  all : ∀ v ∈ ns, v ∉ M → v ∈ l'.map Prod.fst
theorem join_facts (M : List Int) (d : Int) (l : List (Int × Int)) (ns : List Int) : JoinF M d l ns (joinF M d l ns) := by
  have key : ∀ m (ns : List Int), ns.length = m → JoinF M d l ns (joinF M d l ns) := by
    intro m
    induction m with
    | zero =>
      intro ns hl
      obtain rfl := List.eq_nil_of_length_eq_zero hl
      exact ⟨⟨[], by simp [joinF], by simp⟩, id, by simp⟩
    | succ m ih =>
      intro ns0 hl
      rcases List.eq_nil_or_concat ns0 with e | ⟨ns, v, e⟩
      · rw [e] at hl; simp at hl
      rw [List.concat_eq_append] at e
      subst e
      obtain ⟨⟨t, h1, h2⟩, h3, h4⟩ := ih ns (by simp at hl; exact hl)
      rw [joinF_more]
      unfold addF
      by_cases hv : v ∈ M ++ (joinF M d l ns).map Prod.fst
      · rw [if_pos hv]
        refine ⟨⟨t, h1, fun x hx => ?_⟩, h3, fun w hw hM => ?_⟩
        · obtain ⟨a, b, c⟩ := h2 x hx
          exact ⟨a, by simp [b], c⟩
        · rcases List.mem_append.1 hw with hw | hw
          · exact h4 w hw hM
          · simp at hw; subst hw
            rcases List.mem_append.1 hv with h | h
            · exact absurd h hM
            · exact h
      · rw [if_neg hv]
        have hvM : v ∉ M := fun h => hv (List.mem_append_left _ h)
        have hvl : v ∉ (joinF M d l ns).map Prod.fst := fun h => hv (List.mem_append_right _ h)
        refine ⟨⟨t ++ [(v, d)], by rw [h1, List.append_assoc], fun x hx => ?_⟩, fun hn => ?_, fun w hw hM => ?_⟩
        · rcases List.mem_append.1 hx with hx | hx
          · obtain ⟨a, b, c⟩ := h2 x hx
            exact ⟨a, by simp [b], c⟩
          · simp at hx; subst hx; exact ⟨rfl, by simp, hvM⟩
        · rw [List.map_append]
          refine List.nodup_append.2 ⟨h3 hn, by simp, fun a ha b hb => ?_⟩
          simp at hb; subst hb
          intro e; subst e; exact hvl ha
        · rw [List.map_append]
          rcases List.mem_append.1 hw with hw | hw
          · exact List.mem_append_left _ (h4 w hw hM)
          · simp at hw; subst hw; simp
  exact key _ ns rfl
/-- The line, when those up to the place at have been gone on from. -/
structure LineF (E : List (Int × Int)) (S M : List Int) (at_ : Nat) (l : List (Int × Int)) : Prop where
  nd : (l.map Prod.fst).Nodup
  free : ∀ x ∈ l, x.1 ∉ M
  st : ∀ x ∈ l, ∃ k : Nat, x.2 = (k : Int) ∧ StpF (lessF M E) (notF M S) k x.1
  start : ∀ s ∈ S, s ∉ M → (s, 0) ∈ l
  done : ∀ i (h : i < l.length), i < at_ → ∀ v, (l[i].1, v) ∈ E → v ∉ M → ∃ d, (v, d) ∈ l ∧ d ≤ l[i].2 + 1
  sorted : l.Pairwise fun a b => a.2 ≤ b.2
  top : ∀ x ∈ l, ∀ h : at_ < l.length, x.2 ≤ l[at_].2 + 1
  small : ∀ i (h : i < l.length), l[i].2 ≤ (i : Int)
theorem LineF.begin (E : List (Int × Int)) (S M : List Int) : LineF E S M 0 (joinF M 0 [] S) := by
  obtain ⟨⟨t, h1, h2⟩, h3, h4⟩ := join_facts M 0 [] S
  rw [List.nil_append] at h1
  rw [h1] at h3 h4 ⊢
  refine ⟨h3 List.nodup_nil, fun x hx => (h2 x hx).2.2, fun x hx => ⟨0, by rw [(h2 x hx).1]; rfl, mem_notF.2 ⟨(h2 x hx).2.1, (h2 x hx).2.2⟩⟩, fun s hs hM => ?_, fun i h hi => by omega, ?_, fun x hx h => ?_, fun i h => ?_⟩
  · obtain ⟨⟨a, b⟩, hx, e⟩ := List.mem_map.1 (h4 s hs hM)
    simp only at e
    have := (h2 _ hx).1
    simp only at this
    rw [← e, ← this]; exact hx
  · rw [List.pairwise_iff_getElem]
    intro i j hi hj _
    rw [(h2 _ (List.getElem_mem hi)).1, (h2 _ (List.getElem_mem hj)).1]
    exact Int.le_refl _
  · rw [(h2 x hx).1, (h2 _ (List.getElem_mem h)).1]; omega
  · rw [(h2 _ (List.getElem_mem h)).1]; omega
theorem LineF.step {E : List (Int × Int)} {S M : List Int} {at_ : Nat} {l : List (Int × Int)} (h : LineF E S M at_ l) (ha : at_ < l.length) : LineF E S M (at_ + 1) (joinF M (l[at_].2 + 1) l (outF E l[at_].1)) := by
  obtain ⟨⟨t, h1, h2⟩, h3, h4⟩ := join_facts M (l[at_].2 + 1) l (outF E l[at_].1)
  obtain ⟨k, hk, hs⟩ := h.st _ (List.getElem_mem ha)
  have hnd := h3 h.nd
  rw [h1] at h4 hnd ⊢
  have hold : ∀ i (hi : i < l.length), (l ++ t)[i]'(by simp; omega) = l[i] := fun i hi => List.getElem_append_left hi
  refine ⟨hnd, fun x hx => ?_, fun x hx => ?_, fun s hs hM => List.mem_append_left _ (h.start s hs hM), fun i hi hia v hv hM => ?_, ?_, fun x hx hh => ?_, fun i hi => ?_⟩
  · rcases List.mem_append.1 hx with hx | hx
    · exact h.free x hx
    · exact (h2 x hx).2.2
  · rcases List.mem_append.1 hx with hx | hx
    · exact h.st x hx
    · obtain ⟨a, b, c⟩ := h2 x hx
      exact ⟨k + 1, by rw [a, hk]; omega, l[at_].1, mem_lessF.2 ⟨mem_outF.1 b, c⟩, hs⟩
  · by_cases e : i = at_
    · subst e
      rw [hold i ha] at hv ⊢
      obtain ⟨⟨a, d⟩, hx, e⟩ := List.mem_map.1 (h4 v (mem_outF.2 hv) hM)
      simp only at e
      subst e
      refine ⟨d, hx, ?_⟩
      rcases List.mem_append.1 hx with hx | hx
      · exact h.top _ hx ha
      · have := (h2 _ hx).1; simp only at this; omega
    · have hil : i < l.length := by omega
      rw [hold i hil] at hv ⊢
      obtain ⟨d, hd, hle⟩ := h.done i hil (by omega) v hv hM
      exact ⟨d, List.mem_append_left _ hd, hle⟩
  · refine List.pairwise_append.2 ⟨h.sorted, ?_, fun a ha' b hb => ?_⟩
    · rw [List.pairwise_iff_getElem]
      intro i j hi hj _
      rw [(h2 _ (List.getElem_mem hi)).1, (h2 _ (List.getElem_mem hj)).1]
      exact Int.le_refl _
    · rw [(h2 b hb).1]; exact h.top a ha' ha
  · have hge : l[at_].2 ≤ ((l ++ t)[at_ + 1]).2 := by
      by_cases hl : at_ + 1 < l.length
      · rw [hold _ hl]
        exact List.pairwise_iff_getElem.1 h.sorted at_ (at_ + 1) ha hl (by omega)
      · rw [List.getElem_append_right (by omega)]
        rw [(h2 _ (List.getElem_mem _)).1]; omega
    rcases List.mem_append.1 hx with hx | hx
    · have := h.top x hx ha; omega
    · have := (h2 x hx).1; omega
  · by_cases hl : i < l.length
    · rw [hold _ hl]; exact h.small i hl
    · rw [List.getElem_append_right (by omega), (h2 _ (List.getElem_mem _)).1]
      have := h.small at_ ha
      omega
/-- The whole line: each node that is met, with how far it is. -/
def WholeF (E : List (Int × Int)) (S M : List Int) (l : List (Int × Int)) : Prop := (l.map Prod.fst).Nodup ∧ ∀ v d, (v, d) ∈ l ↔ ∃ k : Nat, d = (k : Int) ∧ LevF (lessF M E) (notF M S) k v
theorem LineF.whole {E : List (Int × Int)} {S M : List Int} {l : List (Int × Int)} (h : LineF E S M l.length l) : WholeF E S M l := by
  have key : ∀ k v, StpF (lessF M E) (notF M S) k v → ∃ d, (v, d) ∈ l ∧ d ≤ (k : Int) := by
    intro k
    induction k with
    | zero => intro v hv; obtain ⟨h1, h2⟩ := mem_notF.1 hv; exact ⟨0, h.start v h1 h2, Int.le_refl _⟩
    | succ k ih =>
      rintro v ⟨u, he, hu⟩
      obtain ⟨d, hd, hle⟩ := ih u hu
      obtain ⟨i, hi, e⟩ := List.getElem_of_mem hd
      obtain ⟨h1, h2⟩ := mem_lessF.1 he
      have e1 : l[i].1 = u := by rw [e]
      have e2 : l[i].2 = d := by rw [e]
      obtain ⟨d', hd', hle'⟩ := h.done i hi hi v (by rw [e1]; exact h1) h2
      exact ⟨d', hd', by omega⟩
  have one : ∀ v d d', (v, d) ∈ l → (v, d') ∈ l → d = d' := by
    intro v d d' h1 h2
    obtain ⟨i, hi, e1⟩ := List.getElem_of_mem h1
    obtain ⟨j, hj, e2⟩ := List.getElem_of_mem h2
    have : i = j := by
      have hn := h.nd
      refine (List.getElem_inj (h₀ := by simpa using hi) (h₁ := by simpa using hj) hn).1 ?_
      simp [e1, e2]
    subst this
    rw [e1] at e2
    simpa using e2
  have lev : ∀ v d, (v, d) ∈ l → ∃ k : Nat, d = (k : Int) ∧ LevF (lessF M E) (notF M S) k v := by
    intro v d hv
    obtain ⟨k, hk, hs⟩ := h.st _ hv
    refine ⟨k, hk, hs, fun j hj hs' => ?_⟩
    obtain ⟨d', hd', hle⟩ := key j v hs'
    have := one v d d' hv hd'
    simp only at hk
    omega
  refine ⟨h.nd, fun v d => ⟨lev v d, ?_⟩⟩
  rintro ⟨k, rfl, hl⟩
  obtain ⟨d, hd, _⟩ := key k v hl.1
  obtain ⟨j, e, hj⟩ := lev v d hd
  rw [hl.unique hj, ← e]; exact hd
/-- How many stand there at most. -/
theorem nodup_bound {n : Nat} {l : List Int} (hn : l.Nodup) (h : ∀ x ∈ l, 0 ≤ x ∧ x < (n : Int)) : l.length ≤ n := by
  have h1 := List.Nodup.length_le_of_subset hn (l₂ := (List.range n).map Int.ofNat) (fun x hx => by
    have := h x hx
    exact List.mem_map.2 ⟨x.toNat, List.mem_range.2 (by omega), by show ((x.toNat : Nat) : Int) = x; omega⟩)
  simpa using h1
/-- The row of truths when all of the line are told. -/
theorem whole_met {E : List (Int × Int)} {S : List Int} {l : List (Int × Int)} (h : WholeF E S [] l) {v : Int} : v ∈ l.map Prod.fst ↔ MeetF E S v := by
  rw [List.mem_map]
  constructor
  · rintro ⟨⟨a, d⟩, hx, rfl⟩
    obtain ⟨k, _, hk⟩ := (h.2 a d).1 hx
    rw [lessF_nil, notF_nil] at hk
    exact ⟨k, hk.1⟩
  · rintro ⟨k, hk⟩
    obtain ⟨j, _, hj⟩ := lev_of hk
    exact ⟨(v, (j : Int)), (h.2 v j).2 ⟨j, rfl, by rw [lessF_nil, notF_nil]; exact hj⟩, rfl⟩
theorem whole_dist {E : List (Int × Int)} {S : List Int} {l : List (Int × Int)} (h : WholeF E S [] l) {v d : Int} (hx : (v, d) ∈ l) : distF E S v = d := by
  obtain ⟨k, rfl, hk⟩ := (h.2 v d).1 hx
  rw [lessF_nil, notF_nil] at hk
  exact distF_lev.2 hk
end Go.Proofs.Ytgncpiamokeohaa
