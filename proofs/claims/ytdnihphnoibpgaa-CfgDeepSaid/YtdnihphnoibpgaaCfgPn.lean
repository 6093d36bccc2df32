/- Layer 7, plain: how far blocks are away: by a list of what was met, and by rounds; both tell the one row of numbers that is so. Nothing of the program is named here. -/
import Derived.Test.YtdnihphnoibpgaaCfgPm
import Derived.Test.YtdnihphnoibpgaaNums
namespace Go.Proofs.Ytdnihphnoibpgaa
set_option linter.unusedVariables false

theorem nth_set {L : List Int} {i : Nat} {z : Int} (h : i < L.length) (x : Nat) : nth (L.set i z) x = if x = i then z else nth L x := by
  unfold nth
  rw [List.getD_eq_getElem?_getD, List.getD_eq_getElem?_getD, List.getElem?_set]
  by_cases e : x = i
  · subst e; rw [if_pos rfl, if_pos rfl, if_pos h]; rfl
  · rw [if_neg (fun e' => e e'.symm), if_neg e]

section
variable {N : Nat} {nx : Nat → List Int}
/-- Where a walk by a list stands: dn are done with, Q are those that were met and not gone through yet. -/
structure Bfs (N : Nat) (nx : Nat → List Int) (DL dn Q : List Int) : Prop where
  len : DL.length = N
  inv : Inv N (dn ++ Q)
  set : ∀ x, x < N → (0 ≤ nth DL x ↔ (x : Int) ∈ dn ++ Q)
  low : ∀ x, x < N → -1 ≤ nth DL x
  zero : ∀ x, x < N → (nth DL x = 0 ↔ x = 0)
  pred : ∀ x, x < N → 0 < nth DL x → ∃ p, p < N ∧ nth DL p = nth DL x - 1 ∧ (x : Int) ∈ nx p
  sorted : Q.Pairwise (fun a b => nth DL a.toNat ≤ nth DL b.toNat)
  bound : ∀ h Q', Q = h :: Q' → ∀ x, x < N → nth DL x ≤ nth DL h.toNat + 1
  clos : ∀ p ∈ dn, ∀ n ∈ nx p.toNat, There N n → 0 ≤ nth DL n.toNat ∧ nth DL n.toNat ≤ nth DL p.toNat + 1
theorem nat_of {N : Nat} {z : Int} (h : There N z) : ∃ k : Nat, z = k ∧ k < N := ⟨z.toNat, by have := h.1; omega, by have := h.1; have := h.2; omega⟩
theorem Bfs.start {DL : List Int} (hN : 0 < N) (hl : DL.length = N) (h : ∀ x, x < N → nth DL x = if x = 0 then 0 else -1) : Bfs N nx DL [] [0] := by
  refine ⟨hl, ⟨by simp, fun x hx => by simp at hx; subst hx; exact ⟨Int.le_refl _, by omega⟩⟩, fun x hx => ?_, fun x hx => ?_, fun x hx => ?_, fun x hx h0 => ?_, by simp, fun h' Q' e x hx => ?_, fun p hp => by simp at hp⟩
  · rw [h x hx]; split <;> simp <;> omega
  · rw [h x hx]; split <;> omega
  · rw [h x hx]; split <;> simp <;> omega
  · rw [h x hx] at h0; split at h0 <;> omega
  · simp at e; obtain ⟨rfl, rfl⟩ := e
    rw [h x hx, show (0 : Int).toNat = 0 by rfl, h 0 hN]; split <;> simp
/-- One more is met. -/
theorem Bfs.push {DL dn Q : List Int} {h t : Int} (B : Bfs N nx DL dn (h :: Q)) (hT : There N t) (hm : t ∈ nx h.toNat) (hn : nth DL t.toNat < 0) : Bfs N nx (DL.set t.toNat (nth DL h.toNat + 1)) dn (h :: (Q ++ [t])) := by
  obtain ⟨k, rfl, hk⟩ := nat_of hT
  obtain ⟨q, hq, hqN⟩ := nat_of (B.inv.2 h (by simp))
  subst hq
  simp only [Int.toNat_natCast] at *
  have hN := B.len
  have hset : ∀ x, nth (DL.set k (nth DL q + 1)) x = if x = k then nth DL q + 1 else nth DL x := nth_set (by omega)
  have hnot : (k : Int) ∉ dn ++ (q : Int) :: Q := fun h' => by have := (B.set k hk).2 h'; omega
  have hq0 : 0 ≤ nth DL q := (B.set q hqN).2 (by simp)
  have hqk : q ≠ k := fun e => by subst e; omega
  have keep : ∀ x, x < N → 0 ≤ nth DL x → nth (DL.set k (nth DL q + 1)) x = nth DL x := fun x hx h0 => by rw [hset, if_neg (fun e => by subst e; omega)]
  have keepm : ∀ x : Int, x ∈ dn ++ (q : Int) :: Q → nth (DL.set k (nth DL q + 1)) x.toNat = nth DL x.toNat := fun x hx => by
    obtain ⟨y, rfl, hy⟩ := nat_of (B.inv.2 x hx)
    exact keep y hy ((B.set y hy).2 hx)
  have e1 : dn ++ (q : Int) :: (Q ++ [(k : Int)]) = (dn ++ (q : Int) :: Q) ++ [(k : Int)] := by simp
  refine ⟨by simpa using hN, ?_, fun x hx => ?_, fun x hx => ?_, fun x hx => ?_, fun x hx h0 => ?_, ?_, fun h' Q' e x hx => ?_, fun p hp n hn' hTn => ?_⟩
  · rw [e1]; exact B.inv.more ⟨by omega, by omega⟩ hnot
  · rw [hset, e1, List.mem_append, ← B.set x hx]
    split
    · rename_i e; subst e; simp; omega
    · rename_i e; simp; omega
  · rw [hset]; have := B.low x hx; split <;> omega
  · rw [hset]
    have := B.zero x hx
    have h0 := B.zero q hqN
    split
    · rename_i e; subst e; constructor <;> intro h' <;> omega
    · exact this
  · rw [hset] at h0 ⊢
    split
    · rename_i e
      subst e
      exact ⟨q, hqN, by rw [keep q hqN hq0]; omega, hm⟩
    · rename_i e
      rw [if_neg e] at h0
      obtain ⟨p, hp, h1, h2⟩ := B.pred x hx h0
      exact ⟨p, hp, by rw [keep p hp (by omega)]; exact h1, h2⟩
  · have hs := B.sorted
    rw [← List.cons_append, List.pairwise_append]
    refine ⟨?_, by simp, fun a ha b hb => ?_⟩
    · refine List.Pairwise.imp_of_mem (fun {a b} ha hb hab => ?_) hs
      rw [keepm a (List.mem_append_right _ ha), keepm b (List.mem_append_right _ hb)]; exact hab
    · simp at hb; subst hb
      rw [keepm a (List.mem_append_right _ ha)]
      obtain ⟨y, rfl, hy⟩ := nat_of (B.inv.2 a (List.mem_append_right _ ha))
      have := B.bound _ _ rfl y hy
      simp only [Int.toNat_natCast] at this ⊢
      rw [hset, if_pos rfl]; exact this
  · simp at e; obtain ⟨rfl, rfl⟩ := e
    have := B.bound _ _ rfl x hx
    simp only [Int.toNat_natCast] at this ⊢
    rw [keep q hqN hq0, hset]
    split <;> omega
  · obtain ⟨y, rfl, hy⟩ := nat_of hTn
    have hp' := keepm p (List.mem_append_left _ hp)
    have := B.clos p hp _ hn' hTn
    simp only [Int.toNat_natCast] at this ⊢
    rw [hp', keep y hy this.1]
    exact this
/-- The first of them is done with. -/
theorem Bfs.pop {DL dn Q : List Int} {h : Int} (B : Bfs N nx DL dn (h :: Q)) (hc : ∀ n ∈ nx h.toNat, There N n → 0 ≤ nth DL n.toNat) : Bfs N nx DL (dn ++ [h]) Q := by
  have e : dn ++ [h] ++ Q = dn ++ h :: Q := by simp
  refine ⟨B.len, by rw [e]; exact B.inv, by rw [e]; exact B.set, B.low, B.zero, B.pred, (List.pairwise_cons.1 B.sorted).2, fun h' Q' e x hx => ?_, fun p hp n hn hT => ?_⟩
  · subst e
    have h1 := B.bound _ _ rfl x hx
    have h2 := (List.pairwise_cons.1 B.sorted).1 h' (by simp)
    omega
  · rcases List.mem_append.1 hp with hp | hp
    · exact B.clos p hp n hn hT
    · simp at hp; subst hp
      obtain ⟨y, rfl, hy⟩ := nat_of hT
      exact ⟨hc _ hn hT, B.bound _ _ rfl _ (by simpa using hy)⟩
theorem Bfs.far {DL dn : List Int} (B : Bfs N nx DL dn []) : Far N nx (nth DL) := by
  refine ⟨B.low, B.zero, B.pred, fun p hp h0 n hn hT => ?_⟩
  have hm := (B.set p hp).1 h0
  rw [List.append_nil] at hm
  have := B.clos _ hm n (by simpa using hn) hT
  simpa using this
theorem Bfs.room {DL dn Q : List Int} {h : Int} (B : Bfs N nx DL dn (h :: Q)) : dn.length < N := by
  have := B.inv.len
  simp at this
  omega

/-! ## By rounds -/
structure Rnd (N : Nat) (nx : Nat → List Int) (DL : List Int) (r : Nat) (Hd : Nat → Int → Prop) : Prop where
  len : DL.length = N
  low : ∀ x, x < N → -1 ≤ nth DL x
  zero : ∀ x, x < N → (nth DL x = 0 ↔ x = 0)
  pred : ∀ x, x < N → 0 < nth DL x → ∃ p, p < N ∧ nth DL p = nth DL x - 1 ∧ (x : Int) ∈ nx p
  bound : ∀ x, x < N → nth DL x ≤ r + 1
  clos : ∀ p, p < N → 0 ≤ nth DL p → ∀ n ∈ nx p, There N n → (nth DL p < r ∨ nth DL p = r ∧ Hd p n) → 0 ≤ nth DL n.toNat ∧ nth DL n.toNat ≤ nth DL p + 1
theorem Rnd.start {DL : List Int} (hl : DL.length = N) (h : ∀ x, x < N → nth DL x = if x = 0 then 0 else -1) : Rnd N nx DL 0 (fun _ _ => False) := by
  refine ⟨hl, fun x hx => ?_, fun x hx => ?_, fun x hx h0 => ?_, fun x hx => ?_, fun p hp h0 n _ _ h' => ?_⟩
  · rw [h x hx]; split <;> omega
  · rw [h x hx]; split <;> simp <;> omega
  · rw [h x hx] at h0; split at h0 <;> omega
  · rw [h x hx]; split <;> simp
  · rcases h' with h' | h'
    · simp at h'; omega
    · exact h'.2.elim
theorem Rnd.weak {DL : List Int} {r : Nat} {Hd Hd' : Nat → Int → Prop} (R : Rnd N nx DL r Hd) (h : ∀ p n, p < N → n ∈ nx p → There N n → nth DL p = r → Hd' p n → Hd p n ∨ 0 ≤ nth DL n.toNat) : Rnd N nx DL r Hd' := by
  refine ⟨R.len, R.low, R.zero, R.pred, R.bound, fun p hp h0 n hn hT h' => ?_⟩
  rcases h' with h' | ⟨h1, h2⟩
  · exact R.clos p hp h0 n hn hT (.inl h')
  · rcases h p n hp hn hT h1 h2 with h3 | h3
    · exact R.clos p hp h0 n hn hT (.inr ⟨h1, h3⟩)
    · obtain ⟨y, rfl, hy⟩ := nat_of hT
      refine ⟨h3, ?_⟩
      have := R.bound y hy
      simp only [Int.toNat_natCast] at this ⊢
      omega
theorem Rnd.put {DL : List Int} {r : Nat} {Hd : Nat → Int → Prop} (R : Rnd N nx DL r Hd) {i : Nat} {t : Int} (hi : i < N) (hT : There N t) (hm : t ∈ nx i) (hr : nth DL i = r) (hn : nth DL t.toNat < 0) : Rnd N nx (DL.set t.toNat (r + 1)) r (fun p n => Hd p n ∨ (p = i ∧ n = t)) := by
  obtain ⟨k, rfl, hk⟩ := nat_of hT
  simp only [Int.toNat_natCast] at *
  have hN := R.len
  have hset : ∀ x, nth (DL.set k ((r : Int) + 1)) x = if x = k then (r : Int) + 1 else nth DL x := nth_set (by omega)
  have keep : ∀ x, 0 ≤ nth DL x → nth (DL.set k ((r : Int) + 1)) x = nth DL x := fun x h0 => by rw [hset, if_neg (fun e => by subst e; omega)]
  refine ⟨by simpa using hN, fun x hx => ?_, fun x hx => ?_, fun x hx h0 => ?_, fun x hx => ?_, fun p hp h0 n hn' hTn h' => ?_⟩
  · rw [hset]; have := R.low x hx; split <;> omega
  · rw [hset]
    have := R.zero x hx
    split
    · rename_i e; subst e; constructor <;> intro h' <;> omega
    · exact this
  · rw [hset] at h0 ⊢
    split
    · rename_i e
      subst e
      exact ⟨i, hi, by rw [keep i (by omega)]; omega, hm⟩
    · rename_i e
      rw [if_neg e] at h0
      obtain ⟨p, hp, h1, h2⟩ := R.pred x hx h0
      exact ⟨p, hp, by rw [keep p (by omega)]; exact h1, h2⟩
  · rw [hset]; have := R.bound x hx; split <;> omega
  · obtain ⟨y, rfl, hy⟩ := nat_of hTn
    have hpk : p ≠ k := fun e => by
      subst e
      rw [hset, if_pos rfl] at h'
      rcases h' with h' | h' <;> omega
    have hp' : nth (DL.set k ((r : Int) + 1)) p = nth DL p := by rw [hset, if_neg hpk]
    rw [hp'] at h0 h' ⊢
    simp only [Int.toNat_natCast]
    rcases h' with h' | ⟨h1, h2 | ⟨rfl, h2⟩⟩
    · have := R.clos p hp h0 _ hn' hTn (.inl h')
      simp only [Int.toNat_natCast] at this
      rw [keep y this.1]; exact this
    · have := R.clos p hp h0 _ hn' hTn (.inr ⟨h1, h2⟩)
      simp only [Int.toNat_natCast] at this
      rw [keep y this.1]; exact this
    · have e : y = k := by omega
      subst e
      rw [hset, if_pos rfl]
      omega
theorem Rnd.turn {DL : List Int} {r : Nat} {Hd : Nat → Int → Prop} (R : Rnd N nx DL r Hd) (h : ∀ p n, p < N → n ∈ nx p → There N n → Hd p n) : Rnd N nx DL (r + 1) (fun _ _ => False) := by
  refine ⟨R.len, R.low, R.zero, R.pred, fun x hx => by have := R.bound x hx; omega, fun p hp h0 n hn hT h' => ?_⟩
  rcases h' with h' | h'
  · exact R.clos p hp h0 n hn hT (by
      by_cases e : nth DL p < r
      · exact .inl e
      · exact .inr ⟨by omega, h p n hp hn hT⟩)
  · exact h'.2.elim
theorem Rnd.lower {DL : List Int} {r : Nat} {Hd : Nat → Int → Prop} (R : Rnd N nx DL r Hd) : ∀ (k : Nat) (x : Nat), x < N → nth DL x = k → ∃ L : List Nat, L.length = k + 1 ∧ (∀ y ∈ L, y < N ∧ 0 ≤ nth DL y ∧ nth DL y ≤ k) ∧ L.Nodup
  | 0, x, hx, h => ⟨[x], rfl, fun y hy => by simp at hy; subst hy; exact ⟨hx, by omega, by omega⟩, by simp⟩
  | k + 1, x, hx, h => by
    obtain ⟨p, hp, h1, h2⟩ := R.pred x hx (by omega)
    obtain ⟨L, hl, hm, hd⟩ := R.lower k p hp (by omega)
    refine ⟨x :: L, by simp [hl], fun y hy => ?_, List.nodup_cons.2 ⟨fun hx' => ?_, hd⟩⟩
    · rcases List.mem_cons.1 hy with rfl | hy
      · exact ⟨hx, by omega, by omega⟩
      · have := hm y hy; exact ⟨this.1, this.2.1, by omega⟩
    · have := hm x hx'; omega
theorem Rnd.far {DL : List Int} {Hd : Nat → Int → Prop} (R : Rnd N nx DL N Hd) : Far N nx (nth DL) := by
  refine ⟨R.low, R.zero, R.pred, fun p hp h0 n hn hT => R.clos p hp h0 n hn hT (.inl ?_)⟩
  obtain ⟨L, hl, hm, hd⟩ := R.lower (nth DL p).toNat p hp (by omega)
  have := List.Nodup.length_le_of_subset hd (l₂ := List.range N) (fun y hy => List.mem_range.2 (hm y hy).1)
  simp at this
  omega
theorem far_same {D E : List Int} (hD : Far N nx (nth D)) (hE : Far N nx (nth E)) (h1 : D.length = N) (h2 : E.length = N) : D = E := by
  apply List.ext_getElem (by omega)
  intro i h3 h4
  rw [← nth_is h3, ← nth_is h4]
  exact hD.unique hE i (by omega)
end
end Go.Proofs.Ytdnihphnoibpgaa
