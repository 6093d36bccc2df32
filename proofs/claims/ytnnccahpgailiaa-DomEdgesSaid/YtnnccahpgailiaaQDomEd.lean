/- Layer 8, plain: where blocks' being over others ends, found by climbing. -/
import Derived.Test.YtnnccahpgailiaaQT4
import Derived.Test.YtnnccahpgailiaaQT5

namespace Go.Proofs.Ytnnccahpgailiaa
set_option linter.unusedVariables false

/-- x is on the way up from a. -/
def OnZ (up : Nat → Int) (a : Int) (x : Nat) : Prop := ∃ c : Nat, a = (c : Int) ∧ On up c x
/-- x is on the way up from p, up to what is next over b. -/
def Clm (up : Nat → Int) (b p x : Nat) : Prop := On up p x ∧ ¬ OnZ up (up b) x
/-- The blocks that were passed, from the first j of L. -/
def DDone (up : Nat → Int) (L : List Int) (b j x : Nat) : Prop := ∃ p : Nat, (p : Int) ∈ L.take j ∧ Clm up b p x
/-- And those from p on, up to a. -/
def DPart (up : Nat → Int) (L : List Int) (b j p : Nat) (a : Int) (x : Nat) : Prop := DDone up L b j x ∨ (Clm up b p x ∧ ¬ OnZ up a x)
/-- Where a climb stands. -/
def ClmAt (up : Nat → Int) (b p : Nat) (a : Int) : Prop := a = up b ∨ ∃ c : Nat, a = (c : Int) ∧ On up p c ∧ ∀ y : Nat, up b = (y : Int) → On up c y
theorem ddone_none (up : Nat → Int) (L : List Int) (b x : Nat) : ¬ DDone up L b 0 x := by
  rintro ⟨p, h, _⟩; simp at h
theorem ddone_more {up : Nat → Int} {L : List Int} {b j p : Nat} (hj : j < L.length) (hp : L[j] = (p : Int)) (x : Nat) : DDone up L b (j + 1) x ↔ DDone up L b j x ∨ Clm up b p x := by
  unfold DDone
  rw [List.take_succ_eq_append_getElem hj, hp]
  constructor
  · rintro ⟨q, hq, hc⟩
    rcases List.mem_append.1 hq with h | h
    · exact .inl ⟨q, h, hc⟩
    · have e : (q : Int) = p := by simpa using h
      have e' : q = p := by omega
      subst e'
      exact .inr hc
  · rintro (⟨q, hq, hc⟩ | h)
    · exact ⟨q, List.mem_append.2 (.inl hq), hc⟩
    · exact ⟨p, List.mem_append.2 (.inr (by simp)), h⟩
theorem dpart_start (up : Nat → Int) (L : List Int) (b j p x : Nat) : DPart up L b j p (p : Int) x ↔ DDone up L b j x := by
  constructor
  · rintro (h | ⟨h, hn⟩)
    · exact h
    · exact absurd ⟨p, rfl, h.1⟩ hn
  · exact .inl
theorem dpart_end {up : Nat → Int} {L : List Int} {b j p : Nat} (hj : j < L.length) (hp : L[j] = (p : Int)) (x : Nat) : DPart up L b j p (up b) x ↔ DDone up L b (j + 1) x := by
  rw [ddone_more hj hp]
  unfold DPart
  exact ⟨fun h => h.imp_right fun h => h.1, fun h => h.imp_right fun h => ⟨h, h.2⟩⟩
theorem dpart_met {up : Nat → Int} {L : List Int} {b j p a : Nat} (hj : j < L.length) (hp : L[j] = (p : Int)) (ha : DPart up L b j p (a : Int) a) (x : Nat) : DPart up L b j p (a : Int) x ↔ DDone up L b (j + 1) x := by
  rw [ddone_more hj hp]
  have hd : DDone up L b j a := by
    rcases ha with h | ⟨_, h⟩
    · exact h
    · exact absurd ⟨a, rfl, .refl _⟩ h
  constructor
  · exact fun h => h.imp_right fun h => h.1
  · rintro (h | h)
    · exact .inl h
    · by_cases hx : On up a x
      · obtain ⟨q, hq, hc⟩ := hd
        exact .inl ⟨q, hq, hc.1.trans hx, h.2⟩
      · refine .inr ⟨h, ?_⟩
        rintro ⟨c, e, ho⟩
        have : a = c := by omega
        subst this
        exact hx ho
section
variable {E : Nat → Nat → Prop} {M : Nat → Prop} {pl : Nat → Nat} {up : Nat → Int} {m : Nat}
theorem on_up_not (T : Tree E M pl up m) (a : Nat) : ¬ OnZ up (up a) a := by
  rintro ⟨c, e, h⟩
  have h1 := (T.lt a c e).2.1
  have h2 := on_le T.lt h
  omega
theorem dpart_step (T : Tree E M pl up m) {L : List Int} {b j p a : Nat} (hc : ClmAt up b p (a : Int)) (hne : (a : Int) ≠ up b) (x : Nat) : DPart up L b j p (up a) x ↔ DPart up L b j p (a : Int) x ∨ x = a := by
  have hc' : On up p a ∧ ∀ y : Nat, up b = (y : Int) → On up a y := by
    rcases hc with h | ⟨c, e, h⟩
    · exact absurd h hne
    · have : a = c := by omega
      subst this; exact h
  have hself : ¬ OnZ up (up b) a := by
    rintro ⟨y, e, h⟩
    have := on_anti T (hc'.2 y e) h
    rw [e, this] at hne
    exact hne rfl
  unfold DPart
  constructor
  · rintro (h | ⟨h, hn⟩)
    · exact .inl (.inl h)
    · by_cases hx : x = a
      · exact .inr hx
      · refine .inl (.inr ⟨h, ?_⟩)
        rintro ⟨c, e, ho⟩
        have : a = c := by omega
        subst this
        obtain ⟨d, hd, ho2⟩ := on_other ho hx
        exact hn ⟨d, hd, ho2⟩
  · rintro ((h | ⟨h, hn⟩) | rfl)
    · exact .inl h
    · refine .inr ⟨h, ?_⟩
      rintro ⟨c, e, ho⟩
      exact hn ⟨a, rfl, .step e ho⟩
    · exact .inr ⟨⟨hc'.1, hself⟩, on_up_not T x⟩
theorem clm_step (T : Tree E M pl up m) {b p a : Nat} (hc : ClmAt up b p (a : Int)) (hne : (a : Int) ≠ up b) : ClmAt up b p (up a) ∧ (∀ c : Nat, up a = (c : Int) → pl c < pl a) := by
  have hc' : On up p a ∧ ∀ y : Nat, up b = (y : Int) → On up a y := by
    rcases hc with h | ⟨c, e, h⟩
    · exact absurd h hne
    · have : a = c := by omega
      subst this; exact h
  refine ⟨?_, fun c h => (T.lt a c h).2.1⟩
  by_cases hb : 0 ≤ up b
  · obtain ⟨y, hy⟩ := Int.eq_ofNat_of_zero_le hb
    obtain ⟨d, hd, ho⟩ := on_other (hc'.2 y hy) (fun e => hne (by rw [hy, e]))
    refine .inr ⟨d, hd, hc'.1.trans (.step hd (.refl _)), fun y' hy' => ?_⟩
    rw [hy] at hy'
    have : y = y' := by omega
    subst this; exact ho
  · have hlb := T.low b
    by_cases ha : 0 ≤ up a
    · obtain ⟨d, hd⟩ := Int.eq_ofNat_of_zero_le ha
      exact .inr ⟨d, hd, hc'.1.trans (.step hd (.refl _)), fun y' hy' => by omega⟩
    · have := T.low a
      exact .inl (by omega)
end
section
variable {f : FuncD} {n m : Nat} {UP : List Int}
theorem clm_start (hs : Settled (EdgeF f) (MetF f) (plF f) n UP m) (hn : n = f.blocks.length) {b p : Nat} (hp : MetF f p) (he : EdgeF f p b) : ClmAt (upOf n UP) b p (p : Int) ∧ MetF f b := by
  have h0 : 0 < f.blocks.length := by have := met_lt hp; omega
  have hR := rpo_of f h0
  have hb : MetF f b := hR.clos _ _ hp he
  refine ⟨.inr ⟨p, rfl, .refl _, fun y hy => ?_⟩, hb⟩
  exact hs.fix b y hb hy p hp he
theorem clm_met (hs : Settled (EdgeF f) (MetF f) (plF f) n UP m) {b p a : Nat} (hp : MetF f p) (h : ClmAt (upOf n UP) b p (a : Int)) (hne : (a : Int) ≠ upOf n UP b) : MetF f a := by
  rcases h with h | ⟨c, e, h, _⟩
  · exact absurd h hne
  · have : a = c := by omega
    subst this
    exact on_met hs.tree.lt hp h
theorem ddone_edge (hs : Settled (EdgeF f) (MetF f) (plF f) n UP m) (hn : n = f.blocks.length) {b : Nat} (hb : b < n) (x : Nat) : DDone (upOf n UP) ((ahL f n b).filter (metZ f)) b ((ahL f n b).filter (metZ f)).length x ↔ EdgeAt f n x b := by
  unfold DDone
  rw [List.take_length]
  constructor
  · rintro ⟨p, hp, ho, hz⟩
    obtain ⟨q, e, hq, he⟩ := (fr_mem hn).1 hp
    have e' : p = q := by omega
    subst e'
    have hx := on_met hs.tree.lt hq ho
    have hMb := (clm_start hs hn hq ⟨he, by omega⟩).2
    refine ⟨hx, hMb, fun hc => ?_, p, (List.mem_filter.1 hp).1, (over_nat hs x p).2 ⟨hx, hq, ho⟩⟩
    have h1 := ((over_nat hs x b).1 hc.2).2.2
    obtain ⟨c, h2, h3⟩ := on_other h1 hc.1
    exact hz ⟨c, h2, h3⟩
  · rintro ⟨hx, hMb, hne, p, hp, ho⟩
    obtain ⟨a', q, e1, e2, ha, hq, hon⟩ := (over_on hs _ _).1 ho
    have e' : x = a' := by omega
    subst e'
    subst e2
    refine ⟨q, List.mem_filter.2 ⟨hp, metZ_iff.2 ⟨q, rfl, hq⟩⟩, hon, ?_⟩
    rintro ⟨y, hy, h⟩
    refine hne ⟨fun e => ?_, (over_nat hs x b).2 ⟨hx, hMb, .step hy h⟩⟩
    have h1 := (hs.tree.lt _ _ hy).2.1
    have h2 := on_le hs.tree.lt h
    rw [e] at h2
    omega
end
open Classical in
/-- The rows, with b in those of D. -/
noncomputable def edRow (f : FuncD) (n b : Nat) (D : Nat → Prop) : List (List Int) := (List.range n).map fun (a : Nat) => edgeL f n b a ++ (if D a then [(b : Int)] else [])
theorem edRow_len (f : FuncD) (n b : Nat) (D : Nat → Prop) : (edRow f n b D).length = n := by simp [edRow]
open Classical in
theorem edRow_at {f : FuncD} {n b a : Nat} {D : Nat → Prop} (h : a < (edRow f n b D).length) : (edRow f n b D)[a] = edgeL f n b a ++ (if D a then [(b : Int)] else []) := by simp [edRow]
theorem edRow_same {f : FuncD} {n b : Nat} {D D' : Nat → Prop} (h : ∀ x, D x ↔ D' x) : edRow f n b D = edRow f n b D' := by
  have : D = D' := funext fun x => propext (h x)
  rw [this]
theorem edRow_zero (f : FuncD) (n : Nat) {D : Nat → Prop} (h : ∀ x, ¬ D x) : edRow f n 0 D = List.replicate n [] := by
  apply List.ext_getElem
  · simp [edRow]
  · intro a h1 h2
    rw [edRow_at h1, if_neg (h a)]
    simp [edgeL]
open Classical in
theorem edRow_more {f : FuncD} {n m b : Nat} {UP : List Int} (hs : Settled (EdgeF f) (MetF f) (plF f) n UP m) (hn : n = f.blocks.length) (hb : b < n) : edRow f n b (DDone (upOf n UP) ((ahL f n b).filter (metZ f)) b ((ahL f n b).filter (metZ f)).length) = edRow f n (b + 1) (fun _ => False) := by
  apply List.ext_getElem
  · simp [edRow]
  · intro a h1 h2
    rw [edRow_at h1, edRow_at h2, edgeL_more, if_neg (fun h => h), List.append_nil]
    congr 1
    by_cases h : EdgeAt f n a b
    · rw [if_pos h, if_pos ((ddone_edge hs hn hb a).2 h)]
    · rw [if_neg h, if_neg (fun h' => h ((ddone_edge hs hn hb a).1 h'))]
theorem edRow_set {f : FuncD} {n b a : Nat} {D D' : Nat → Prop} (ha : a < n) (hd : ¬ D a) (h : ∀ x, D' x ↔ D x ∨ x = a) : (edRow f n b D).set a (edgeL f n b a ++ [(b : Int)]) = edRow f n b D' := by
  apply List.ext_getElem
  · simp [edRow]
  · intro x h1 h2
    rw [List.getElem_set, edRow_at h2]
    split
    · rename_i e; subst e; rw [if_pos ((h a).2 (.inr rfl))]
    · rename_i e
      rw [edRow_at]
      by_cases hx : D x
      · rw [if_pos hx, if_pos ((h x).2 (.inl hx))]
      · rw [if_neg hx, if_neg (fun h' => ((h x).1 h').elim hx (fun e' => e e'.symm))]
theorem edgeL_lt {f : FuncD} {n k a : Nat} {z : Int} (h : z ∈ edgeL f n k a) : z < (k : Int) := by
  unfold edgeL at h
  obtain ⟨b, hb, rfl⟩ := List.mem_map.1 h
  have h1 := List.mem_range.1 (List.mem_filter.1 hb).1
  show (b : Int) < k
  omega
theorem edgeL_len (f : FuncD) (n k a : Nat) : (edgeL f n k a).length ≤ k := by
  unfold edgeL
  rw [List.length_map]
  exact Nat.le_trans (List.length_filter_le _ _) (by simp)
/-- Whether a list ends with a number. -/
def endsB (L : List Int) (z : Int) : Bool := match L.getLast? with | some y => decide (y = z) | none => false
open Classical in
theorem ends_row {f : FuncD} {n b a : Nat} {D : Nat → Prop} : endsB (edgeL f n b a ++ (if D a then [(b : Int)] else [])) b = decide (D a) := by
  unfold endsB
  by_cases h : D a
  · rw [if_pos h]; simp [h]
  · rw [if_neg h, List.append_nil]
    cases hl : (edgeL f n b a).getLast? with
    | none => simp [h]
    | some y =>
      have h1 := edgeL_lt (List.mem_of_getLast? hl)
      simp [h]
      omega
theorem edgeL_all (f : FuncD) (n a : Nat) (h : a < n) (D : Nat → Prop) (hd : ∀ x, ¬ D x) : (edRow f n n D)[a]'(by rw [edRow_len]; exact h) = edgeL f n n a := by
  rw [edRow_at, if_neg (hd a), List.append_nil]
end Go.Proofs.Ytnnccahpgailiaa
