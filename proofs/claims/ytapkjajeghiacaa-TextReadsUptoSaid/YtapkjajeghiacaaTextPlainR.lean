/- Layer 2, plain: how the document's own Unquote goes along a text, and that it comes to the text that is quoted, if one is. Nothing of the program is named here. -/
import Derived.Test.YtapkjajeghiacaaTextPlain
namespace Go.Proofs.Ytapkjajeghiacaa
set_option linter.unusedVariables false

/-- A digit's place; 16: it is none. -/
def hv (c : UInt8) : Int := if hx c < 0 then 16 else hx c
theorem hv_range (c : UInt8) : 0 ≤ hv c ∧ hv c ≤ 16 := by
  have := hx_range c
  unfold hv; split <;> omega
/-- The byte that two digits come to there, digits or not. -/
def hvB (a b : UInt8) : UInt8 := UInt8.ofNat ((hv a * 16 % 256 + hv b % 16) % 256).toNat
theorem hvB_val (a b : UInt8) : ((hvB a b).toNat : Int) = (hv a * 16 % 256 + hv b % 16) % 256 := by
  unfold hvB; simp; omega

/-- As far as i the bytes acc have been read, if L is a quote. -/
def RInv (L acc : List UInt8) (i : Nat) : Prop := ∀ t, L = quoteL t → ∃ q, t = acc ++ q ∧ i = 1 + (encs acc).length
theorem RInv.start (L : List UInt8) : RInv L [] 1 := fun t _ => ⟨t, rfl, rfl⟩

theorem RInv.piece {L acc : List UInt8} {i : Nat} (h : RInv L acc i) (hi : i + 1 < L.length) {t : List UInt8} (ht : L = quoteL t) :
    ∃ d q, t = acc ++ d :: q ∧ i = 1 + (encs acc).length ∧ L.drop i = enc d ++ (encs q ++ [34]) := by
  obtain ⟨q, rfl, hi2⟩ := h t ht
  have hl : L.length = (encs acc).length + (encs q).length + 2 := by rw [ht, quoteL_len, encs_append, List.length_append]
  cases q with
  | nil => rw [encs_nil] at hl; simp at hl; omega
  | cons d q =>
    refine ⟨d, q, rfl, hi2, ?_⟩
    rw [ht, hi2]
    unfold quoteL
    rw [Nat.add_comm 1, List.drop_succ_cons, encs_append, List.append_assoc, List.drop_left, encs_cons, List.append_assoc]
theorem drop_at {L : List UInt8} {i : Nat} {x : UInt8} {r : List UInt8} (h : L[i]? = some x) (hd : L.drop i = r) : ∃ r', r = x :: r' ∧ L.drop (i + 1) = r' := by
  have hl : i < L.length := (List.getElem?_eq_some_iff.1 h).1
  refine ⟨L.drop (i + 1), ?_, rfl⟩
  rw [← hd, List.drop_eq_getElem_cons hl]
  have : L[i] = x := (List.getElem?_eq_some_iff.1 h).2
  rw [this]
theorem enc_cases (d : UInt8) : (mark d = true ∧ enc d = [92, d]) ∨ (mark d = false ∧ shown d = true ∧ enc d = [d]) ∨ (shown d = false ∧ enc d = [92, digit (d.toNat / 16), digit (d.toNat % 16)]) := by
  cases hm : mark d
  · cases hs : shown d
    · exact Or.inr (Or.inr ⟨rfl, enc_hex hs⟩)
    · exact Or.inr (Or.inl ⟨rfl, rfl, enc_plain hm hs⟩)
  · exact Or.inl ⟨rfl, enc_mark hm⟩

/-- A mark behind the sign. -/
theorem RInv.stepA {L acc : List UInt8} {i : Nat} {x : UInt8} (h : RInv L acc i) (hi : i + 1 < L.length) (h0 : L[i]? = some 92) (h1 : L[i + 1]? = some x) (hx : mark x = true) : RInv L (acc ++ [x]) (i + 2) := by
  intro t ht
  obtain ⟨d, q, rfl, hi2, hd⟩ := h.piece hi ht
  obtain ⟨r, hr, hr2⟩ := drop_at h0 hd
  obtain ⟨r', hr', _⟩ := drop_at h1 hr2
  subst hr'
  have hf := firstP_enc d (encs q ++ [34])
  rw [hr] at hf
  simp only [firstP, if_true, hx, Option.some.injEq, Prod.mk.injEq] at hf
  obtain ⟨rfl, _⟩ := hf
  refine ⟨q, by simp, ?_⟩
  rw [encs_snoc, enc_mark hx, List.length_append, hi2]
  simp only [List.length_cons, List.length_nil]
  omega
/-- Two digits behind the sign. -/
theorem RInv.stepB {L acc : List UInt8} {i : Nat} {x y : UInt8} (h : RInv L acc i) (hi : i + 1 < L.length) (h0 : L[i]? = some 92) (h1 : L[i + 1]? = some x) (h2 : L[i + 2]? = some y) (hx : mark x = false) : RInv L (acc ++ [hvB x y]) (i + 3) := by
  intro t ht
  obtain ⟨d, q, rfl, hi2, hd⟩ := h.piece hi ht
  obtain ⟨r, hr, hr2⟩ := drop_at h0 hd
  obtain ⟨r1, hr1, hr3⟩ := drop_at h1 hr2
  obtain ⟨r2, hr4, _⟩ := drop_at h2 hr3
  subst hr1 hr4
  have hdl := d.toNat_lt
  rcases enc_cases d with ⟨hm, he⟩ | ⟨hm, hs, he⟩ | ⟨hs, he⟩
  · rw [he] at hr
    simp only [List.cons_append, List.nil_append, List.cons.injEq, true_and] at hr
    rw [hr.1] at hm; rw [hx] at hm; cases hm
  · rw [he] at hr
    simp only [List.cons_append, List.nil_append, List.cons.injEq] at hr
    rw [hr.1] at hm; rw [mark_bs] at hm; cases hm
  · rw [he] at hr
    simp only [List.cons_append, List.nil_append, List.cons.injEq, true_and] at hr
    obtain ⟨hx1, hy1, _⟩ := hr
    have e1 := digit_hx (d.toNat / 16) (by omega)
    have e2 := digit_hx (d.toNat % 16) (by omega)
    have hB : hvB x y = d := by
      apply UInt8.toNat_inj.1
      have := hvB_val x y
      rw [← hx1, ← hy1] at this ⊢
      unfold hv at this
      rw [e1, e2, if_neg (by omega), if_neg (by omega)] at this
      omega
    rw [hB]
    refine ⟨q, by simp, ?_⟩
    rw [encs_snoc, he, List.length_append, hi2]
    simp only [List.length_cons, List.length_nil]
    omega
/-- A byte that stands as it is. -/
theorem RInv.stepC {L acc : List UInt8} {i : Nat} {c : UInt8} (h : RInv L acc i) (hi : i + 1 < L.length) (h0 : L[i]? = some c)
    (hno : c = 92 → (i + 2 < L.length → ∀ x, L[i + 1]? = some x → mark x = false) ∧ ¬ i + 3 < L.length) : RInv L (acc ++ [c]) (i + 1) := by
  intro t ht
  obtain ⟨d, q, rfl, hi2, hd⟩ := h.piece hi ht
  obtain ⟨r, hr, hr2⟩ := drop_at h0 hd
  have hlen : L.length - i = (enc d).length + (encs q).length + 1 := by
    have := congrArg List.length hd
    rw [List.length_drop, List.length_append, List.length_append] at this
    simp only [List.length_cons, List.length_nil] at this
    omega
  rcases enc_cases d with ⟨hm, he⟩ | ⟨hm, hs, he⟩ | ⟨hs, he⟩
  · rw [he] at hr
    simp only [List.cons_append, List.nil_append, List.cons.injEq] at hr
    obtain ⟨hc, hr⟩ := hr
    obtain ⟨hno1, hno2⟩ := hno hc.symm
    rw [he] at hlen
    simp only [List.length_cons, List.length_nil] at hlen
    have h1 : L[i + 1]? = some d := by
      have := congrArg (fun l : List UInt8 => l[0]?) hr2
      simp only [List.getElem?_drop, Nat.add_zero] at this
      rw [this, ← hr]; rfl
    rw [hno1 (by omega) d h1] at hm; cases hm
  · rw [he] at hr
    simp only [List.cons_append, List.nil_append, List.cons.injEq] at hr
    obtain ⟨rfl, _⟩ := hr
    refine ⟨q, by simp, ?_⟩
    rw [encs_snoc, he, List.length_append, hi2]
    simp only [List.length_cons, List.length_nil]
    omega
  · rw [he] at hr
    simp only [List.cons_append, List.nil_append, List.cons.injEq] at hr
    obtain ⟨hc, _⟩ := hr
    rw [he] at hlen
    simp only [List.length_cons, List.length_nil] at hlen
    exact absurd (show i + 3 < L.length by omega) (hno hc.symm).2
/-- At the end the text that is quoted has been read. -/
theorem RInv.fin {L acc : List UInt8} {i : Nat} (h : RInv L acc i) (hi : L.length ≤ i + 1) {t : List UInt8} (ht : quoteL t = L) : t = acc := by
  obtain ⟨q, rfl, hi2⟩ := h t ht.symm
  have hl : L.length = (encs acc).length + (encs q).length + 2 := by rw [← ht, quoteL_len, encs_append, List.length_append]
  have h0 : q.length ≤ 0 := by have := (encs_len q).1; omega
  have : q = [] := List.eq_nil_of_length_eq_zero (by omega)
  subst this
  simp
end Go.Proofs.Ytapkjajeghiacaa
