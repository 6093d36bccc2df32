/- Layer 7, plain: where blocks go forward alone, each stands ahead of those that follow it; how far blocks are away: by a list of what was met, and by rounds. Nothing of the program is named here. -/
import Derived.Test.YtdnihphnoibpgaaCfgPl
namespace Go.Proofs.Ytdnihphnoibpgaa
set_option linter.unusedVariables false

section
variable {N : Nat} {nx : Nat → List Int}
/-- Each stands ahead of those that follow it. -/
def Topo (N : Nat) (nx : Nat → List Int) (L : List Int) : Prop := ∀ a p c, L = a ++ p :: c → ∀ n ∈ nx p.toNat, There N n → n ∈ c
theorem Topo.cons {b : Int} {L : List Int} (h : Topo N nx L) (hb : ∀ n ∈ nx b.toNat, There N n → n ∈ L) : Topo N nx (b :: L) := by
  intro a p c e n hn hT
  cases a with
  | nil => simp only [List.nil_append, List.cons.injEq] at e; obtain ⟨rfl, rfl⟩ := e; exact hb n hn hT
  | cons x a => simp only [List.cons_append, List.cons.injEq] at e; obtain ⟨rfl, rfl⟩ := e; exact h a p c rfl n hn hT
theorem fold_mono (k : Nat) : ∀ (l : List Int) (s : List Int × List Int), ∃ t u, (l.foldl (walkF N nx k) s).1 = s.1 ++ t ∧ (l.foldl (walkF N nx k) s).2 = u ++ s.2
  | [], s => ⟨[], [], by simp, by simp⟩
  | q :: l, s => by
    obtain ⟨t3, u3, h3, h4⟩ := walk_mono (N := N) (nx := nx) k s q
    obtain ⟨t4, u4, h5, h6⟩ := fold_mono k l (walkF N nx k s q)
    exact ⟨t3 ++ t4, u4 ++ u3, by rw [List.foldl_cons, h5, h3, List.append_assoc], by rw [List.foldl_cons, h6, h4, List.append_assoc]⟩
theorem walk_topo (hf : ∀ p : Int, There N p → ∀ n ∈ nx p.toNat, There N n → p < n) : ∀ (k : Nat) (s : List Int × List Int) (b : Int), Inv N s.1 → N - s.1.length < k → Topo N nx s.2 → (∀ x ∈ s.1, x ∈ s.2 ∨ x < b) → Topo N nx (walkF N nx k s b).2
  | 0, s, b, _, h, _, _ => absurd h (by omega)
  | k + 1, s, b, hi, hk, ht, ho => by
    by_cases h : ¬ There N b ∨ b ∈ s.1
    · rw [walkF_skip h]; exact ht
    · have hT : There N b := Classical.byContradiction fun h' => h (.inl h')
      have hM : b ∉ s.1 := fun h' => h (.inr h')
      have hroom := hi.room hT hM
      -- the open ones are those that were open, and b
      have fold : ∀ (l : List Int) (s : List Int × List Int), (∀ n ∈ l, There N n → b < n) → Inv N s.1 → N - s.1.length < k → Topo N nx s.2 → (∀ x ∈ s.1, x ∈ s.2 ∨ x ≤ b) →
          Topo N nx (l.foldl (walkF N nx k) s).2 ∧ (∀ n ∈ l, There N n → n ∈ (l.foldl (walkF N nx k) s).2) ∧ (∀ x ∈ (l.foldl (walkF N nx k) s).1, x ∈ (l.foldl (walkF N nx k) s).2 ∨ x ≤ b) := by
        intro l
        induction l with
        | nil => intro s _ _ _ h1 h2; exact ⟨h1, fun n hn => by simp at hn, h2⟩
        | cons n l ih =>
          intro s hl hi hk ht ho
          rw [List.foldl_cons]
          obtain ⟨t1, u1, a1, b1⟩ := walk_adds (nx := nx) k s n hi hk
          have ho1 : ∀ x ∈ (walkF N nx k s n).1, x ∈ (walkF N nx k s n).2 ∨ x ≤ b := by
            intro x hx
            rw [a1.met] at hx
            rw [a1.left]
            rcases List.mem_append.1 hx with hx | hx
            · rcases ho x hx with h' | h'
              · exact .inl (List.mem_append_right _ h')
              · exact .inr h'
            · exact .inl (List.mem_append_left _ (a1.perm.mem_iff.2 hx))
          have ht1 : Topo N nx (walkF N nx k s n).2 := by
            by_cases hTn : There N n
            · exact walk_topo hf k s n hi hk ht (fun x hx => by
                rcases ho x hx with h' | h'
                · exact .inl h'
                · exact .inr (by have := hl n (by simp) hTn; omega))
            · rw [walkF_skip (.inl hTn)]; exact ht
          obtain ⟨r1, r2, r3⟩ := ih (walkF N nx k s n) (fun m hm => hl m (List.mem_cons_of_mem _ hm)) a1.inv (by rw [a1.met, List.length_append]; omega) ht1 ho1
          refine ⟨r1, fun m hm hTm => ?_, r3⟩
          rcases List.mem_cons.1 hm with rfl | hm
          · obtain ⟨t2, u2, h1, h2⟩ := fold_mono (N := N) (nx := nx) k l (walkF N nx k s m)
            rw [h2]
            refine List.mem_append_right _ ?_
            rcases ho1 m (b1 hTm) with h' | h'
            · exact h'
            · have := hl m (by simp) hTm; omega
          · exact r2 m hm hTm
      rw [walkF_go hT hM]
      obtain ⟨r1, r2, r3⟩ := fold (nx b.toNat) (s.1 ++ [b], s.2) (hf b hT) (hi.more hT hM) (by simp; omega) ht (fun x hx => by
        rcases List.mem_append.1 hx with hx | hx
        · rcases ho x hx with h' | h'
          · exact .inl h'
          · exact .inr (by omega)
        · simp at hx; exact .inr (by omega))
      exact r1.cons r2
end
theorem order_topo (f : FuncD) (hf : ∀ p : Int, There f.blocks.length p → ∀ n ∈ nxF f p.toNat, There f.blocks.length n → p < n) : Topo f.blocks.length (nxF f) (orderL f) :=
  walk_topo hf _ _ _ Inv.nil (by simp) (fun a p c e => by simp at e) (fun x hx => by simp at hx)

/-! ## How far -/
/-- Numbers that tell how far each block is. -/
structure Far (N : Nat) (nx : Nat → List Int) (D : Nat → Int) : Prop where
  low : ∀ x, x < N → -1 ≤ D x
  zero : ∀ x, x < N → (D x = 0 ↔ x = 0)
  pred : ∀ x, x < N → 0 < D x → ∃ p, p < N ∧ D p = D x - 1 ∧ (x : Int) ∈ nx p
  next : ∀ p, p < N → 0 ≤ D p → ∀ n ∈ nx p, There N n → 0 ≤ D n.toNat ∧ D n.toNat ≤ D p + 1
theorem Far.le {N : Nat} {nx : Nat → List Int} {D E : Nat → Int} (hD : Far N nx D) (hE : Far N nx E) : ∀ (d : Nat) (x : Nat), x < N → D x = d → 0 ≤ E x ∧ E x ≤ d
  | 0, x, hx, h => by
    have h0 : x = 0 := (hD.zero x hx).1 h
    have := (hE.zero x hx).2 h0
    omega
  | d + 1, x, hx, h => by
    obtain ⟨p, hp, hpd, hm⟩ := hD.pred x hx (by omega)
    have ih := Far.le hD hE d p hp (by omega)
    have := hE.next p hp ih.1 _ hm ⟨by omega, by omega⟩
    simp only [Int.toNat_natCast] at this
    omega
theorem Far.unique {N : Nat} {nx : Nat → List Int} {D E : Nat → Int} (hD : Far N nx D) (hE : Far N nx E) (x : Nat) (hx : x < N) : D x = E x := by
  have key : ∀ {D E : Nat → Int}, Far N nx D → Far N nx E → 0 ≤ D x → 0 ≤ E x ∧ E x ≤ D x := by
    intro D E hD hE h
    have := hD.le hE (D x).toNat x hx (by omega)
    omega
  have h1 := hD.low x hx
  have h2 := hE.low x hx
  by_cases h : 0 ≤ D x
  · have a := key hD hE h
    have b := key hE hD a.1
    omega
  · by_cases h' : 0 ≤ E x
    · have b := key hE hD h'
      omega
    · omega
end Go.Proofs.Ytdnihphnoibpgaa
