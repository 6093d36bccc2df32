/- Layer 2, plain: how a text is quoted (P2.2), byte by byte, on lists of bytes; that a quote is read in one way (P2.3). Nothing of the program is named here. -/
import Derived.Lib.Bytealg
import Derived.Lib.Strings
namespace Go.Proofs.Ytgncpiamokeohaa
set_option linter.unusedVariables false

/-- A text out of its bytes. -/
def mk (l : List UInt8) : ByteArray := ⟨l.toArray⟩
theorem mk_list (l : List UInt8) : (mk l).data.toList = l := by simp [mk]
theorem mk_of (s : ByteArray) : mk s.data.toList = s := by unfold mk; rw [Array.toArray_toList]
theorem mk_size (l : List UInt8) : (mk l).size = l.length := by simp [mk, ByteArray.size]
theorem mk_inj {a b : List UInt8} (h : mk a = mk b) : a = b := by rw [← mk_list a, h, mk_list]
theorem list_len (s : ByteArray) : s.data.toList.length = s.size := by rw [Array.length_toList]; rfl
theorem list_at (s : ByteArray) (k : Nat) (h : k < s.size) : s.data.toList[k]? = some s[k] := by
  rw [List.getElem?_eq_getElem (by rw [list_len]; exact h)]; rfl
def digit (n : Nat) : UInt8 := if n < 10 then UInt8.ofNat (48 + n) else UInt8.ofNat (87 + n)
def markI (n : Int) : Bool := n == 34 || n == 92
def shownI (n : Int) : Bool := decide (32 ≤ n) && decide (n ≤ 126)
def mark (c : UInt8) : Bool := markI c.toNat
def shown (c : UInt8) : Bool := shownI c.toNat
/-- What a quote tells one byte as. -/
def enc (c : UInt8) : List UInt8 := if mark c then [92, c] else if shown c then [c] else [92, digit (c.toNat / 16), digit (c.toNat % 16)]
def encs (l : List UInt8) : List UInt8 := l.flatMap enc
def quoteL (l : List UInt8) : List UInt8 := 34 :: (encs l ++ [34])

theorem encs_nil : encs [] = [] := rfl
theorem encs_cons (c : UInt8) (l : List UInt8) : encs (c :: l) = enc c ++ encs l := by simp [encs]
theorem encs_append (a b : List UInt8) : encs (a ++ b) = encs a ++ encs b := by simp [encs]
theorem encs_snoc (a : List UInt8) (c : UInt8) : encs (a ++ [c]) = encs a ++ enc c := by simp [encs]
theorem enc_len (c : UInt8) : 1 ≤ (enc c).length ∧ (enc c).length ≤ 3 := by
  unfold enc; split
  · simp
  · split <;> simp
theorem encs_len (l : List UInt8) : l.length ≤ (encs l).length ∧ (encs l).length ≤ 3 * l.length := by
  induction l with
  | nil => simp [encs_nil]
  | cons c l ih => rw [encs_cons]; have := enc_len c; simp only [List.length_append, List.length_cons]; omega
theorem quoteL_len (l : List UInt8) : (quoteL l).length = (encs l).length + 2 := by simp [quoteL]

/-- Which place among the sixteen digits a byte has; below 0: none. -/
def hx (a : UInt8) : Int := Lib.indexByte [48, 49, 50, 51, 52, 53, 54, 55, 56, 57, 97, 98, 99, 100, 101, 102] a
/-- The byte that two digits are, if a quote tells it so. -/
def hex2 (a b : UInt8) : Option UInt8 :=
  if hx a < 0 ∨ hx b < 0 then none else
  if shownI (16 * hx a + hx b) then none else some (UInt8.ofNat (16 * hx a + hx b).toNat)
/-- The byte that a piece of a quote begins with, and what stands behind it. -/
def firstP : List UInt8 → Option (UInt8 × List UInt8)
  | [] => none
  | c :: r => if c = 92 then
      (match r with
       | [] => none
       | d :: r1 => if mark d then some (d, r1) else
          (match r1 with
           | [] => none
           | e :: r2 => (hex2 d e).map fun x => (x, r2)))
    else if shown c && !mark c then some (c, r) else none

theorem bytes_all {p : UInt8 → Prop} (h : ∀ n : Fin 256, p (UInt8.ofNat n.val)) (c : UInt8) : p c := by
  have := h ⟨c.toNat, c.toNat_lt⟩
  simpa using this
theorem hx_range (a : UInt8) : -1 ≤ hx a ∧ hx a < 16 := by
  revert a; apply bytes_all; decide +kernel
theorem hx_digit (a : UInt8) : 0 ≤ hx a → digit (hx a).toNat = a ∧ mark a = false := by
  revert a; apply bytes_all; decide +kernel
theorem digit_hx (n : Nat) (h : n < 16) : hx (digit n) = n := by
  have H : ∀ k : Fin 16, hx (digit k.val) = (k.val : Int) := by decide +kernel
  exact H ⟨n, h⟩
theorem digit_mark (n : Nat) (h : n < 16) : mark (digit n) = false := by
  have H : ∀ k : Fin 16, mark (digit k.val) = false := by decide +kernel
  exact H ⟨n, h⟩
theorem mark_shown (c : UInt8) (h : mark c = true) : shown c = true := by
  revert c; apply bytes_all; decide +kernel
theorem mark_bs : mark 92 = true := by decide

theorem enc_mark {c : UInt8} (h : mark c = true) : enc c = [92, c] := by unfold enc; rw [if_pos h]
theorem enc_plain {c : UInt8} (h : mark c = false) (h2 : shown c = true) : enc c = [c] := by unfold enc; rw [if_neg (by rw [h]; decide), if_pos h2]
theorem enc_hex {c : UInt8} (h : shown c = false) : enc c = [92, digit (c.toNat / 16), digit (c.toNat % 16)] := by
  have hm : mark c = false := by
    cases e : mark c
    · rfl
    · rw [mark_shown c e] at h; cases h
  unfold enc; rw [if_neg (by rw [hm]; decide), if_neg (by rw [h]; decide)]

theorem hex2_enc {c : UInt8} (h : shown c = false) : hex2 (digit (c.toNat / 16)) (digit (c.toNat % 16)) = some c := by
  have hc := c.toNat_lt
  have e1 := digit_hx (c.toNat / 16) (by omega)
  have e2 := digit_hx (c.toNat % 16) (by omega)
  have e3 : 16 * ((c.toNat / 16 : Nat) : Int) + ((c.toNat % 16 : Nat) : Int) = (c.toNat : Int) := by omega
  unfold hex2
  rw [e1, e2, if_neg (by omega), e3]
  have : shownI (c.toNat : Int) = false := h
  rw [this]
  simp
theorem hex2_sound {a b x : UInt8} (h : hex2 a b = some x) : shown x = false ∧ digit (x.toNat / 16) = a ∧ digit (x.toNat % 16) = b ∧ mark a = false := by
  unfold hex2 at h
  have ra := hx_range a
  have rb := hx_range b
  split at h
  · cases h
  rename_i hn
  split at h
  · cases h
  rename_i hs
  have hx' : x = UInt8.ofNat (16 * hx a + hx b).toNat := (Option.some.inj h).symm
  have hv : x.toNat = (16 * hx a + hx b).toNat := by
    rw [hx']; simp; omega
  have h1 : x.toNat / 16 = (hx a).toNat := by omega
  have h2 : x.toNat % 16 = (hx b).toNat := by omega
  refine ⟨?_, ?_, ?_, (hx_digit a (by omega)).2⟩
  · unfold shown
    rw [show (x.toNat : Int) = 16 * hx a + hx b by omega]
    simpa using hs
  · rw [h1]; exact (hx_digit a (by omega)).1
  · rw [h2]; exact (hx_digit b (by omega)).1

/-- A byte's piece of a quote is read as the byte, whatever is behind. -/
theorem firstP_enc (c : UInt8) (r : List UInt8) : firstP (enc c ++ r) = some (c, r) := by
  cases hm : mark c
  · cases hs : shown c
    · rw [enc_hex hs]
      have hd : mark (digit (c.toNat / 16)) = false := digit_mark _ (by have := c.toNat_lt; omega)
      simp only [List.cons_append, List.nil_append, firstP, if_true, hd, Bool.false_eq_true, if_false, hex2_enc hs, Option.map_some]
    · rw [enc_plain hm hs]
      have hne : c ≠ 92 := by intro e; subst e; rw [mark_bs] at hm; cases hm
      simp [firstP, hne, hs, hm]
  · rw [enc_mark hm]
    simp [firstP, hm]
/-- What is read is a byte's piece. -/
theorem firstP_sound {l : List UInt8} {c : UInt8} {r : List UInt8} (h : firstP l = some (c, r)) : l = enc c ++ r := by
  cases l with
  | nil => cases h
  | cons a l =>
    simp only [firstP] at h
    split at h
    · rename_i ha
      subst ha
      cases l with
      | nil => cases h
      | cons d r1 =>
        simp only at h
        split at h
        · rename_i hd
          simp only [Option.some.injEq, Prod.mk.injEq] at h
          obtain ⟨rfl, rfl⟩ := h
          rw [enc_mark hd]; rfl
        · cases r1 with
          | nil => cases h
          | cons e r2 =>
            simp only [Option.map_eq_some_iff, Prod.mk.injEq] at h
            obtain ⟨x, hx', rfl, rfl⟩ := h
            obtain ⟨hs, h1, h2, _⟩ := hex2_sound hx'
            rw [enc_hex hs, h1, h2]; rfl
    · split at h
      · rename_i _ hsm
        simp only [Option.some.injEq, Prod.mk.injEq] at h
        obtain ⟨rfl, rfl⟩ := h
        simp only [Bool.and_eq_true, Bool.not_eq_true'] at hsm
        rw [enc_plain hsm.2 hsm.1]; rfl
      · cases h

theorem enc_cancel {c d : UInt8} {r q : List UInt8} (h : enc c ++ r = enc d ++ q) : c = d ∧ r = q := by
  have := firstP_enc c r
  rw [h, firstP_enc d q] at this
  simp only [Option.some.injEq, Prod.mk.injEq] at this
  exact ⟨this.1.symm, this.2.symm⟩
theorem enc_ne (c : UInt8) : enc c ≠ [] := by have := enc_len c; intro e; rw [e] at this; simp at this
/-- What was read is the text's beginning, and what is left tells its end. -/
theorem encs_cancel : ∀ {a t r : List UInt8}, encs a ++ r = encs t → ∃ q, t = a ++ q ∧ r = encs q
  | [], t, r, h => ⟨t, rfl, by simpa [encs_nil] using h⟩
  | c :: a, [], r, h => by
    rw [encs_cons, encs_nil] at h
    have h1 := (List.append_eq_nil_iff.1 (List.append_eq_nil_iff.1 h).1).1
    exact absurd h1 (enc_ne c)
  | c :: a, d :: t, r, h => by
    rw [encs_cons, encs_cons, List.append_assoc] at h
    obtain ⟨rfl, h2⟩ := enc_cancel h
    obtain ⟨q, rfl, hq⟩ := encs_cancel h2
    exact ⟨q, rfl, hq⟩
theorem encs_inj {a t : List UInt8} (h : encs a = encs t) : a = t := by
  obtain ⟨q, rfl, hq⟩ := encs_cancel (a := a) (t := t) (r := []) (by rw [List.append_nil]; exact h)
  have h0 : q.length ≤ 0 := by
    have := (encs_len q).1
    rw [← hq] at this
    simpa using this
  have hq0 : q = [] := List.eq_nil_of_length_eq_zero (by omega)
  subst hq0
  simp
theorem quoteL_inj {a t : List UInt8} (h : quoteL a = quoteL t) : a = t := by
  unfold quoteL at h
  simp only [List.cons.injEq, true_and] at h
  exact encs_inj (List.append_cancel_right h)

/-- What a quote is, is text t; or it is none. -/
def Reads (L : List UInt8) (v : List UInt8) (ok : Bool) : Prop := (ok = true ∧ quoteL v = L) ∨ (ok = false ∧ v = [] ∧ ∀ t, quoteL t ≠ L)
theorem Reads.same {L v v' : List UInt8} {ok ok' : Bool} (h : Reads L v ok) (h' : Reads L v' ok') : v = v' ∧ ok = ok' := by
  rcases h with ⟨rfl, h⟩ | ⟨rfl, rfl, h⟩ <;> rcases h' with ⟨rfl, h'⟩ | ⟨rfl, rfl, h'⟩
  · exact ⟨quoteL_inj (h.trans h'.symm), rfl⟩
  · exact absurd h (h' v)
  · exact absurd h' (h v')
  · exact ⟨rfl, rfl⟩
/-- All bytes of a quote can be shown. -/
theorem enc_shown (c : UInt8) : ∀ x ∈ enc c, shown x = true := by
  revert c; apply bytes_all; decide +kernel
theorem quoteL_shown (l : List UInt8) : ∀ x ∈ quoteL l, shown x = true := by
  intro x hx
  simp only [quoteL, List.mem_cons, List.mem_append, List.not_mem_nil, or_false, encs, List.mem_flatMap] at hx
  rcases hx with rfl | ⟨c, _, h⟩ | rfl
  · decide
  · exact enc_shown c x h
  · decide
end Go.Proofs.Ytgncpiamokeohaa
