/- Layer 13: package uses' spread: one value, carried against the ways: the plain words. -/
import Derived.Test.YtdchhfdmingnaaaDoorFUsesI

namespace Go.Proofs.YtdchhfdmingnaaaDoor
open Go.RowKit (wrap64 intOf Below)
set_option linter.unusedVariables false
set_option linter.unusedSimpArgs false
def cntM (n : Nat) (M : Nat → Bool) : Nat := (List.range n).countP M
theorem cntM_le (n : Nat) (M : Nat → Bool) : cntM n M ≤ n := by
  have := List.countP_le_length (p := M) (l := List.range n)
  rwa [List.length_range] at this
theorem cntM_put {n b : Nat} {M : Nat → Bool} (hb : b < n) (hm : M b = false) : cntM n (putB M b) = cntM n M + 1 := by
  unfold cntM
  induction n with
  | zero => omega
  | succ n ih =>
    rw [List.range_succ, List.countP_append, List.countP_append]
    by_cases e : b = n
    · subst e
      have h1 : (List.range b).countP (putB M b) = (List.range b).countP M := List.countP_congr (fun x hx => by
        rw [List.mem_range] at hx
        unfold putB
        have : (x == b) = false := by simp; omega
        rw [this, Bool.or_false])
      rw [h1]
      simp [putB, hm]
    · have h2 : putB M b n = M n := by
        unfold putB
        have : (n == b) = false := by simpa using fun h => e h.symm
        rw [this, Bool.or_false]
      rw [ih (by omega)]
      simp [List.countP_singleton, h2]
      omega
theorem putB_iff {M : Nat → Bool} {b i : Nat} : putB M b i = true ↔ M i = true ∨ i = b := by unfold putB; simp
structure Spr (f : FuncD) (n v : Nat) (M L : Nat → Bool) (R : List Int) (D : Nat → Nat → Prop) : Prop where
  sound : ∀ b, M b = true → NeedU f (v : Int) b
  sub : ∀ z ∈ R, ∃ b : Nat, z = (b : Int) ∧ M b = true
  nodup : R.Nodup
  closed : ∀ c, M c = true → (c : Int) ∉ R → ∀ a, a < n → (c : Int) ∈ nxF f a → D c a ∨ (L a = true ∧ (MakesU f a (v : Int) ∨ M a = true))
  left : ∀ a, L a = true → ∃ c : Nat, (c : Int) ∈ nxF f a ∧ M c = true
theorem Spr.start (f : FuncD) (n v : Nat) (D : Nat → Nat → Prop) : Spr f n v (fun _ => false) (fun _ => false) [] D :=
  ⟨fun b h => by simp at h, fun z h => by simp at h, List.nodup_nil, fun c h => by simp at h, fun a h => by simp at h⟩
theorem Spr.lt {f : FuncD} {n v : Nat} {M L : Nat → Bool} {R : List Int} {D : Nat → Nat → Prop} (h : Spr f n v M L R D) {b : Nat} (hb : M b = true) : b < f.blocks.length := (h.sound b hb).lt
theorem Spr.len {f : FuncD} {n v : Nat} {M L : Nat → Bool} {R : List Int} {D : Nat → Nat → Prop} (h : Spr f n v M L R D) (hn : n = f.blocks.length) : R.length ≤ n := by
  have h1 : R ⊆ (List.range n).map Int.ofNat := fun z hz => by
    obtain ⟨b, rfl, hm⟩ := h.sub z hz
    exact List.mem_map.2 ⟨b, List.mem_range.2 (by rw [hn]; exact h.lt hm), rfl⟩
  have h2 := h.nodup.length_le_of_subset h1
  simpa using h2
theorem Spr.reach {f : FuncD} {n v b : Nat} {M L : Nat → Bool} {R : List Int} {D : Nat → Nat → Prop} (h : Spr f n v M L R D) (hneed : ¬ MakesU f b (v : Int) → NeedU f (v : Int) b) :
    Spr f n v (nextM f v b M) L (nextR f v b M R) D ∧ (MakesU f b (v : Int) ∨ nextM f v b M b = true) ∧ (∀ i, M i = true → nextM f v b M i = true) := by
  by_cases hm : MakesU f b (v : Int)
  · have e1 : nextM f v b M = M := by unfold nextM; rw [if_pos hm]
    have e2 : nextR f v b M R = R := by unfold nextR; rw [if_pos (.inl hm)]
    rw [e1, e2]
    exact ⟨h, .inl hm, fun _ h => h⟩
  · have e1 : nextM f v b M = putB M b := by unfold nextM; rw [if_neg hm]
    rw [e1]
    cases hb : M b with
    | true =>
      have e2 : nextR f v b M R = R := by unfold nextR; rw [if_pos (.inr hb)]
      have e3 : ∀ i, putB M b i = M i := fun i => by
        rw [Bool.eq_iff_iff, putB_iff]
        exact ⟨fun h => h.elim id (fun e => e ▸ hb), .inl⟩
      have e4 : putB M b = M := funext e3
      rw [e2, e4]
      exact ⟨h, .inr hb, fun _ h => h⟩
    | false =>
      have e2 : nextR f v b M R = R ++ [(b : Int)] := by unfold nextR; rw [if_neg (fun e => e.elim hm (fun e => by rw [hb] at e; cases e))]
      rw [e2]
      refine ⟨⟨fun i hi => ?_, fun z hz => ?_, ?_, fun c hc hcR a ha hnx => ?_, fun a ha => ?_⟩, .inr (putB_iff.2 (.inr rfl)), fun i hi => putB_iff.2 (.inl hi)⟩
      · rcases putB_iff.1 hi with hi | rfl
        · exact h.sound i hi
        · exact hneed hm
      · rw [List.mem_append, List.mem_singleton] at hz
        rcases hz with hz | rfl
        · obtain ⟨i, e, hi⟩ := h.sub z hz
          exact ⟨i, e, putB_iff.2 (.inl hi)⟩
        · exact ⟨b, rfl, putB_iff.2 (.inr rfl)⟩
      · rw [List.nodup_append]
        refine ⟨h.nodup, by simp, fun x hx y hy e => ?_⟩
        rw [List.mem_singleton] at hy
        obtain ⟨i, e', hi⟩ := h.sub x hx
        have : i = b := by omega
        rw [this, hb] at hi; cases hi
      · rw [List.mem_append, List.mem_singleton] at hcR
        have hcb : c ≠ b := fun e => hcR (.inr (by rw [e]))
        have hcM : M c = true := (putB_iff.1 hc).resolve_right hcb
        rcases h.closed c hcM (fun e => hcR (.inl e)) a ha hnx with hD | ⟨h1, h2⟩
        · exact .inl hD
        · exact .inr ⟨h1, h2.imp id (fun e => putB_iff.2 (.inl e))⟩
      · obtain ⟨c, h1, h2⟩ := h.left a ha
        exact ⟨c, h1, putB_iff.2 (.inl h2)⟩
theorem Spr.leave {f : FuncD} {n v a c : Nat} {M L : Nat → Bool} {R : List Int} {D : Nat → Nat → Prop} (h : Spr f n v M L R D) (hc : (c : Int) ∈ nxF f a) (hm : M c = true) : Spr f n v M (putB L a) R D :=
  ⟨h.sound, h.sub, h.nodup, fun c hc hcR a ha hnx => (h.closed c hc hcR a ha hnx).imp id (fun e => ⟨putB_iff.2 (.inl e.1), e.2⟩), fun i hi => by
    rcases putB_iff.1 hi with hi | rfl
    · exact h.left i hi
    · exact ⟨c, hc, hm⟩⟩
theorem Spr.pop {f : FuncD} {n v b : Nat} {M L : Nat → Bool} {R : List Int} (h : Spr f n v M L (R ++ [(b : Int)]) (fun _ _ => False)) : Spr f n v M L R (fun c a => c = b) ∧ M b = true := by
  have hb : M b = true := by
    obtain ⟨i, e, hi⟩ := h.sub (b : Int) (by simp)
    have : i = b := by omega
    rw [← this]; exact hi
  refine ⟨⟨h.sound, fun z hz => h.sub z (by simp [hz]), (List.nodup_append.1 h.nodup).1, fun c hc hcR a ha hnx => ?_, h.left⟩, hb⟩
  by_cases e : c = b
  · exact .inl e
  · refine .inr ((h.closed c hc (fun hm => ?_) a ha hnx).resolve_left id)
    rw [List.mem_append, List.mem_singleton] at hm
    rcases hm with hm | hm
    · exact hcR hm
    · exact e (by omega)
theorem Spr.done {f : FuncD} {n v : Nat} {M L : Nat → Bool} {R : List Int} {D : Nat → Nat → Prop} (h : Spr f n v M L R D) (hD : ∀ c a : Nat, a < n → (c : Int) ∈ nxF f a → D c a → L a = true ∧ (MakesU f a (v : Int) ∨ M a = true)) : Spr f n v M L R (fun _ _ => False) :=
  ⟨h.sound, h.sub, h.nodup, fun c hc hcR a ha hnx => .inr ((h.closed c hc hcR a ha hnx).elim (fun e => hD c a ha hnx e) id), h.left⟩
theorem Spr.all {f : FuncD} {n v : Nat} {M L : Nat → Bool} (h : Spr f n v M L [] (fun _ _ => False)) (hn : n = f.blocks.length) (hs : ∀ b, b < n → InU f (v : Int) b → MakesU f b (v : Int) ∨ M b = true) :
    (∀ b, b < n → M b = needB f (v : Int) b) ∧ ∀ b, b < n → L b = leftB f (v : Int) b := by
  have hc : ∀ c, M c = true → ∀ a, a < n → (c : Int) ∈ nxF f a → L a = true ∧ (MakesU f a (v : Int) ∨ M a = true) := fun c hm a ha hnx => (h.closed c hm (by simp) a ha hnx).resolve_left id
  have hN : ∀ b, (M b = true) ↔ NeedU f (v : Int) b := need_all (M := fun b => M b = true) h.sound (fun b hb hu hm => (hs b (by omega) hu).resolve_left hm) (fun c hm b hb hnx hk => (hc c hm b (by omega) hnx).2.resolve_left hk)
  refine ⟨fun b _ => ?_, fun b hb => ?_⟩
  · rw [Bool.eq_iff_iff, hN, need_iff]
  · rw [Bool.eq_iff_iff, left_iff]
    constructor
    · intro hl
      obtain ⟨c, h1, h2⟩ := h.left b hl
      exact ⟨c, h1, (hN c).1 h2⟩
    · rintro ⟨c, h1, h2⟩
      exact (hc c ((hN c).2 h2) b hb h1).1
def todoU (n : Nat) (M : Nat → Bool) (R : List Int) : Nat := 2 * (n - cntM n M) + R.length
theorem todo_next {f : FuncD} {n v b : Nat} {M : Nat → Bool} {R : List Int} (hb : b < n) : todoU n (nextM f v b M) (nextR f v b M R) ≤ todoU n M R := by
  unfold todoU
  by_cases hm : MakesU f b (v : Int)
  · unfold nextM nextR
    rw [if_pos hm, if_pos (.inl hm)]
    exact Nat.le_refl _
  · cases hb' : M b with
    | true =>
      have e4 : putB M b = M := funext fun i => by
        rw [Bool.eq_iff_iff, putB_iff]
        exact ⟨fun h => h.elim id (fun e => e ▸ hb'), .inl⟩
      unfold nextM nextR
      rw [if_neg hm, if_pos (.inr hb'), e4]
      exact Nat.le_refl _
    | false =>
      unfold nextM nextR
      rw [if_neg hm, if_neg (fun e => e.elim hm (fun e => by rw [hb'] at e; cases e)), cntM_put hb hb', List.length_append]
      have h1 := cntM_le n (putB M b)
      rw [cntM_put hb hb'] at h1
      simp only [List.length_singleton]
      omega
end Go.Proofs.YtdchhfdmingnaaaDoor
