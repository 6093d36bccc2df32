/- Layer 2, plain: how a text is quoted (P2.2), byte by byte, on lists of bytes; that a quote is read in one way (P2.3). Nothing of the program is named here. -/
import Derived.Lib.Bytealg
import Derived.Lib.Strings
import Derived.WalkKit
import Derived.ProofKit
import Derived.Laws.AppendOwn
import Derived.Laws.MakeOwn
import Derived.Laws.IdiomStrings
import Derived.Below
import Derived.Deep.AppendLies
import Derived.OpenShut
import Derived.Laws.AppendOwnNone
import Derived.SizedLaws
import Derived.Deep.QuietTactic
import Derived.BigQuiet
import Derived.Laws.Slices
import Derived.Lib.SmallJoins
import Derived.Maps.AppendAt
import Derived.Test.YtfnkmigcklmghaaDoorRows
import Derived.Lib.Hide
import Derived.Outline
import Derived.Handy
import Derived.Deep.RegionHeld
namespace Go.Proofs.YtfnkmigcklmghaaDoor
set_option linter.unusedVariables false

/-- A text out of its bytes. -/
def mk (l : List UInt8) : ByteArray := ⟨l.toArray⟩
theorem mk_list (l : List UInt8) : (mk l).data.toList = l := by simp [mk]
theorem mk_of (s : ByteArray) : mk s.data.toList = s := by unfold mk; rw [Array.toArray_toList]
theorem mk_size (l : List UInt8) : (mk l).size = l.length := by simp [mk, ByteArray.size]
theorem mk_inj {a b : List UInt8} (h : mk a = mk b) : a = b := by rw [← mk_list a, h, mk_list]
theorem list_len (s : ByteArray) : s.data.toList.length = s.size := by rw [Array.length_toList]; rfl
theorem list_at (s : ByteArray) (k : Nat) (h : k < s.size) : s.data.toList[k]? = some s[k] := by
  rw [List.getElem?_eq_getElem (by rw [list_len]; exact h)]; rfl
def digit (n : Nat) : UInt8 := if n < 10 then UInt8.ofNat (48 + n) else UInt8.ofNat (87 + n)
def markI (n : Int) : Bool := n == 34 || n == 92
def shownI (n : Int) : Bool := decide (32 ≤ n) && decide (n ≤ 126)
def mark (c : UInt8) : Bool := markI c.toNat
def shown (c : UInt8) : Bool := shownI c.toNat
/-- What a quote tells one byte as. -/
def enc (c : UInt8) : List UInt8 := if mark c then [92, c] else if shown c then [c] else [92, digit (c.toNat / 16), digit (c.toNat % 16)]
def encs (l : List UInt8) : List UInt8 := l.flatMap enc
def quoteL (l : List UInt8) : List UInt8 := 34 :: (encs l ++ [34])

theorem encs_nil : encs [] = [] := rfl
theorem encs_cons (c : UInt8) (l : List UInt8) : encs (c :: l) = enc c ++ encs l := by simp [encs]
theorem encs_append (a b : List UInt8) : encs (a ++ b) = encs a ++ encs b := by simp [encs]
theorem encs_snoc (a : List UInt8) (c : UInt8) : encs (a ++ [c]) = encs a ++ enc c := by simp [encs]
theorem enc_len (c : UInt8) : 1 ≤ (enc c).length ∧ (enc c).length ≤ 3 := by
  unfold enc; split
  · simp
  · split <;> simp
theorem encs_len (l : List UInt8) : l.length ≤ (encs l).length ∧ (encs l).length ≤ 3 * l.length := by
  induction l with
  | nil => simp [encs_nil]
  | cons c l ih => rw [encs_cons]; have := enc_len c; simp only [List.length_append, List.length_cons]; omega
theorem quoteL_len (l : List UInt8) : (quoteL l).length = (encs l).length + 2 := by simp [quoteL]

/-- Which place among the sixteen digits a byte has; below 0: none. -/
def hx (a : UInt8) : Int := Lib.indexByte [48, 49, 50, 51, 52, 53, 54, 55, 56, 57, 97, 98, 99, 100, 101, 102] a
/-- The byte that two digits are, if a quote tells it so. -/
def hex2 (a b : UInt8) : Option UInt8 :=
  if hx a < 0 ∨ hx b < 0 then none else
  if shownI (16 * hx a + hx b) then none else some (UInt8.ofNat (16 * hx a + hx b).toNat)
/-- The byte that a piece of a quote begins with, and what stands behind it. -/
def firstP : List UInt8 → Option (UInt8 × List UInt8)
  | [] => none
  | c :: r => if c = 92 then
      (match r with
       | [] => none
       | d :: r1 => if mark d then some (d, r1) else
          (match r1 with
           | [] => none
           | e :: r2 => (hex2 d e).map fun x => (x, r2)))
    else if shown c && !mark c then some (c, r) else none

theorem bytes_all {p : UInt8 → Prop} (h : ∀ n : Fin 256, p (UInt8.ofNat n.val)) (c : UInt8) : p c := by
  have := h ⟨c.toNat, c.toNat_lt⟩
  simpa using this
theorem hx_range (a : UInt8) : -1 ≤ hx a ∧ hx a < 16 := by
  revert a; apply bytes_all; decide +kernel
theorem hx_digit (a : UInt8) : 0 ≤ hx a → digit (hx a).toNat = a ∧ mark a = false := by
  revert a; apply bytes_all; decide +kernel
theorem digit_hx (n : Nat) (h : n < 16) : hx (digit n) = n := by
  have H : ∀ k : Fin 16, hx (digit k.val) = (k.val : Int) := by decide +kernel
  exact H ⟨n, h⟩
theorem digit_mark (n : Nat) (h : n < 16) : mark (digit n) = false := by
  have H : ∀ k : Fin 16, mark (digit k.val) = false := by decide +kernel
  exact H ⟨n, h⟩
theorem mark_shown (c : UInt8) (h : mark c = true) : shown c = true := by
  revert c; apply bytes_all; decide +kernel
theorem mark_bs : mark 92 = true := by decide

theorem enc_mark {c : UInt8} (h : mark c = true) : enc c = [92, c] := by unfold enc; rw [if_pos h]
theorem enc_plain {c : UInt8} (h : mark c = false) (h2 : shown c = true) : enc c = [c] := by unfold enc; rw [if_neg (by rw [h]; decide), if_pos h2]
theorem enc_hex {c : UInt8} (h : shown c = false) : enc c = [92, digit (c.toNat / 16), digit (c.toNat % 16)] := by
  have hm : mark c = false := by
    cases e : mark c
    · rfl
    · rw [mark_shown c e] at h; cases h
  unfold enc; rw [if_neg (by rw [hm]; decide), if_neg (by rw [h]; decide)]

theorem hex2_enc {c : UInt8} (h : shown c = false) : hex2 (digit (c.toNat / 16)) (digit (c.toNat % 16)) = some c := by
  have hc := c.toNat_lt
  have e1 := digit_hx (c.toNat / 16) (by omega)
  have e2 := digit_hx (c.toNat % 16) (by omega)
  have e3 : 16 * ((c.toNat / 16 : Nat) : Int) + ((c.toNat % 16 : Nat) : Int) = (c.toNat : Int) := by omega
  unfold hex2
  rw [e1, e2, if_neg (by omega), e3]
  have : shownI (c.toNat : Int) = false := h
  rw [this]
  simp
theorem hex2_sound {a b x : UInt8} (h : hex2 a b = some x) : shown x = false ∧ digit (x.toNat / 16) = a ∧ digit (x.toNat % 16) = b ∧ mark a = false := by
  unfold hex2 at h
  have ra := hx_range a
  have rb := hx_range b
  split at h
  · cases h
  rename_i hn
  split at h
  · cases h
  rename_i hs
  have hx' : x = UInt8.ofNat (16 * hx a + hx b).toNat := (Option.some.inj h).symm
  have hv : x.toNat = (16 * hx a + hx b).toNat := by
    rw [hx']; simp; omega
  have h1 : x.toNat / 16 = (hx a).toNat := by omega
  have h2 : x.toNat % 16 = (hx b).toNat := by omega
  refine ⟨?_, ?_, ?_, (hx_digit a (by omega)).2⟩
  · unfold shown
    rw [show (x.toNat : Int) = 16 * hx a + hx b by omega]
    simpa using hs
  · rw [h1]; exact (hx_digit a (by omega)).1
  · rw [h2]; exact (hx_digit b (by omega)).1

/-- A byte's piece of a quote is read as the byte, whatever is behind. -/
theorem firstP_enc (c : UInt8) (r : List UInt8) : firstP (enc c ++ r) = some (c, r) := by
  cases hm : mark c
  · cases hs : shown c
    · rw [enc_hex hs]
      have hd : mark (digit (c.toNat / 16)) = false := digit_mark _ (by have := c.toNat_lt; omega)
      simp only [List.cons_append, List.nil_append, firstP, if_true, hd, Bool.false_eq_true, if_false, hex2_enc hs, Option.map_some]
    · rw [enc_plain hm hs]
      have hne : c ≠ 92 := by intro e; subst e; rw [mark_bs] at hm; cases hm
      simp [firstP, hne, hs, hm]
  · rw [enc_mark hm]
    simp [firstP, hm]
/-- What is read is a byte's piece. -/
theorem firstP_sound {l : List UInt8} {c : UInt8} {r : List UInt8} (h : firstP l = some (c, r)) : l = enc c ++ r := by
  cases l with
  | nil => cases h
  | cons a l =>
    simp only [firstP] at h
    split at h
    · rename_i ha
      subst ha
      cases l with
      | nil => cases h
      | cons d r1 =>
        simp only at h
        split at h
        · rename_i hd
          simp only [Option.some.injEq, Prod.mk.injEq] at h
          obtain ⟨rfl, rfl⟩ := h
          rw [enc_mark hd]; rfl
        · cases r1 with
          | nil => cases h
          | cons e r2 =>
            simp only [Option.map_eq_some_iff, Prod.mk.injEq] at h
            obtain ⟨x, hx', rfl, rfl⟩ := h
            obtain ⟨hs, h1, h2, _⟩ := hex2_sound hx'
            rw [enc_hex hs, h1, h2]; rfl
    · split at h
      · rename_i _ hsm
        simp only [Option.some.injEq, Prod.mk.injEq] at h
        obtain ⟨rfl, rfl⟩ := h
        simp only [Bool.and_eq_true, Bool.not_eq_true'] at hsm
        rw [enc_plain hsm.2 hsm.1]; rfl
      · cases h

theorem enc_cancel {c d : UInt8} {r q : List UInt8} (h : enc c ++ r = enc d ++ q) : c = d ∧ r = q := by
  have := firstP_enc c r
  rw [h, firstP_enc d q] at this
  simp only [Option.some.injEq, Prod.mk.injEq] at this
  exact ⟨this.1.symm, this.2.symm⟩
theorem enc_ne (c : UInt8) : enc c ≠ [] := by have := enc_len c; intro e; rw [e] at this; simp at this
/-- What was read is the text's beginning, and what is left tells its end. -/
theorem encs_cancel : ∀ {a t r : List UInt8}, encs a ++ r = encs t → ∃ q, t = a ++ q ∧ r = encs q
  | [], t, r, h => ⟨t, rfl, by simpa [encs_nil] using h⟩
  | c :: a, [], r, h => by
    rw [encs_cons, encs_nil] at h
    have h1 := (List.append_eq_nil_iff.1 (List.append_eq_nil_iff.1 h).1).1
    exact absurd h1 (enc_ne c)
  | c :: a, d :: t, r, h => by
    rw [encs_cons, encs_cons, List.append_assoc] at h
    obtain ⟨rfl, h2⟩ := enc_cancel h
    obtain ⟨q, rfl, hq⟩ := encs_cancel h2
    exact ⟨q, rfl, hq⟩
theorem encs_inj {a t : List UInt8} (h : encs a = encs t) : a = t := by
  obtain ⟨q, rfl, hq⟩ := encs_cancel (a := a) (t := t) (r := []) (by rw [List.append_nil]; exact h)
  have h0 : q.length ≤ 0 := by
    have := (encs_len q).1
    rw [← hq] at this
    simpa using this
  have hq0 : q = [] := List.eq_nil_of_length_eq_zero (by omega)
  subst hq0
  simp
theorem quoteL_inj {a t : List UInt8} (h : quoteL a = quoteL t) : a = t := by
  unfold quoteL at h
  simp only [List.cons.injEq, true_and] at h
  exact encs_inj (List.append_cancel_right h)

/-- What a quote is, is text t; or it is none. -/
def Reads (L : List UInt8) (v : List UInt8) (ok : Bool) : Prop := (ok = true ∧ quoteL v = L) ∨ (ok = false ∧ v = [] ∧ ∀ t, quoteL t ≠ L)
theorem Reads.same {L v v' : List UInt8} {ok ok' : Bool} (h : Reads L v ok) (h' : Reads L v' ok') : v = v' ∧ ok = ok' := by
  rcases h with ⟨rfl, h⟩ | ⟨rfl, rfl, h⟩ <;> rcases h' with ⟨rfl, h'⟩ | ⟨rfl, rfl, h'⟩
  · exact ⟨quoteL_inj (h.trans h'.symm), rfl⟩
  · exact absurd h (h' v)
  · exact absurd h' (h v')
  · exact ⟨rfl, rfl⟩
/-- All bytes of a quote can be shown. -/
theorem enc_shown (c : UInt8) : ∀ x ∈ enc c, shown x = true := by
  revert c; apply bytes_all; decide +kernel
theorem quoteL_shown (l : List UInt8) : ∀ x ∈ quoteL l, shown x = true := by
  intro x hx
  simp only [quoteL, List.mem_cons, List.mem_append, List.not_mem_nil, or_false, encs, List.mem_flatMap] at hx
  rcases hx with rfl | ⟨c, _, h⟩ | rfl
  · decide
  · exact enc_shown c x h
  · decide
end Go.Proofs.YtfnkmigcklmghaaDoor

/- Layer 3, plain: which bytes a number is, and which number bytes begin with (P3.1), on lists of bytes; that there is one form (P3.3), and no beginning (P3.4); likewise texts and lists (P3.2). Nothing of the program is named here. -/
namespace Go.Proofs.YtfnkmigcklmghaaDoor
set_option linter.unusedVariables false

/-- A number without a sign, for one with a sign, and back. -/
def zz (n : Int) : Nat := if n < 0 then (2 * (-1 - n) + 1).toNat else (2 * n).toNat
def unzz (z : Nat) : Int := if z % 2 = 1 then -1 - ((z / 2 : Nat) : Int) else ((z / 2 : Nat) : Int)
theorem unzz_zz (n : Int) : unzz (zz n) = n := by
  unfold unzz zz
  split <;> split <;> omega
theorem zz_unzz (z : Nat) : zz (unzz z) = z := by
  unfold unzz zz
  split <;> split <;> omega
theorem zz_lt {n : Int} (h0 : -9223372036854775808 ≤ n) (h1 : n ≤ 9223372036854775807) : zz n < 18446744073709551616 := by
  unfold zz; split <;> omega
theorem unzz_in {z : Nat} (h : z < 18446744073709551616) : -9223372036854775808 ≤ unzz z ∧ unzz z ≤ 9223372036854775807 := by
  unfold unzz; split <;> omega

/-- The bytes of z, seven bits each, the least first; f: how many may go on. -/
def putF : Nat → Nat → List UInt8
  | 0, z => [UInt8.ofNat z]
  | f + 1, z => if z < 128 then [UInt8.ofNat z] else UInt8.ofNat (z % 128 + 128) :: putF f (z / 128)
def putL (n : Int) : List UInt8 := putF 9 (zz n)
/-- What bytes begin with: the number, how many bytes that are, and 0; or 0, 0 and the error. i bytes have been read, they came to a. -/
def takeL : List UInt8 → Nat → Nat → Int × Nat × Int
  | [], _, _ => (0, 0, 3)
  | c :: r, i, a => if (i = 9 ∧ 1 < c.toNat) ∨ (0 < i ∧ c.toNat = 0) then (0, 0, 4) else
      if c.toNat < 128 then (unzz (a + c.toNat % 128 * 128 ^ i), i + 1, 0) else takeL r (i + 1) (a + c.toNat % 128 * 128 ^ i)

theorem putF_pos (f z : Nat) : 1 ≤ (putF f z).length := by
  cases f with
  | zero => simp [putF]
  | succ f => unfold putF; split <;> simp
theorem putF_len (f z : Nat) : (putF f z).length ≤ f + 1 := by
  induction f generalizing z with
  | zero => simp [putF]
  | succ f ih =>
    unfold putF
    split
    · simp
    · have := ih (z / 128); simp only [List.length_cons]; omega
theorem putL_pos (n : Int) : 1 ≤ (putL n).length := putF_pos _ _
theorem putL_len (n : Int) : (putL n).length ≤ 10 := putF_len 9 _

theorem byte_nat (n : Nat) (h : n < 256) : (UInt8.ofNat n).toNat = n := by simp; omega
theorem pow9 : (128 : Nat) ^ 9 = 9223372036854775808 := by decide
theorem pow_le {i : Nat} (h : i ≤ 9) : 128 ^ i ≤ 9223372036854775808 := by
  rw [← pow9]; exact Nat.pow_le_pow_right (by decide) h
theorem pow_step {i : Nat} (h : i ≤ 8) : 128 ^ i * 128 ≤ 9223372036854775808 := by
  rw [← Nat.pow_succ]; exact pow_le (by omega)
theorem pow_pos' (i : Nat) : 0 < 128 ^ i := Nat.pow_pos (by decide)

theorem split_num (z p : Nat) : z % 128 * p + z / 128 * (p * 128) = z * p := by
  have h : z = 128 * (z / 128) + z % 128 := by omega
  have hh : z % 128 * p + z / 128 * (p * 128) = (128 * (z / 128) + z % 128) * p := by
    rw [Nat.add_mul, Nat.mul_comm p 128, ← Nat.mul_assoc, Nat.mul_comm (z / 128) 128]; omega
  rw [← h] at hh
  exact hh

/-- Taking what was put, whatever is behind. -/
theorem take_put (f : Nat) : ∀ (z i a : Nat) (X : List UInt8), i + f = 9 → z * 128 ^ i < 18446744073709551616 → (i = 0 ∨ z ≠ 0) →
    takeL (putF f z ++ X) i a = (unzz (a + z * 128 ^ i), i + (putF f z).length, 0) := by
  induction f with
  | zero =>
    intro z i a X hi hz h0
    obtain rfl : i = 9 := by omega
    rw [pow9] at hz
    obtain rfl : z = 1 := by omega
    simp [putF, takeL]
  | succ f ih =>
    intro z i a X hi hz h0
    have hi9 : ¬ i = 9 := by omega
    by_cases hs : z < 128
    · have hb : (UInt8.ofNat z).toNat = z := byte_nat z (by omega)
      have hbad : ¬ ((i = 9 ∧ 1 < (UInt8.ofNat z).toNat) ∨ (0 < i ∧ (UInt8.ofNat z).toNat = 0)) := by rw [hb]; omega
      have hm : z % 128 = z := Nat.mod_eq_of_lt hs
      unfold putF
      rw [if_pos hs]
      simp only [List.cons_append, List.nil_append, takeL]
      rw [if_neg hbad, hb, if_pos hs, hm]
      simp
    · have hb : (UInt8.ofNat (z % 128 + 128)).toNat = z % 128 + 128 := byte_nat _ (by omega)
      have hbad : ¬ ((i = 9 ∧ 1 < (UInt8.ofNat (z % 128 + 128)).toNat) ∨ (0 < i ∧ (UInt8.ofNat (z % 128 + 128)).toNat = 0)) := by rw [hb]; omega
      have hsp := split_num z (128 ^ i)
      have hlt : ¬ z % 128 + 128 < 128 := by omega
      have hmod : (z % 128 + 128) % 128 = z % 128 := by omega
      unfold putF
      rw [if_neg hs]
      simp only [List.cons_append, takeL]
      rw [if_neg hbad, hb, if_neg hlt, hmod, ih (z / 128) (i + 1) _ X (by omega) (by rw [Nat.pow_succ]; omega) (by right; omega), Nat.pow_succ, Nat.add_assoc, hsp]
      simp only [List.length_cons, Prod.mk.injEq, and_true, true_and]
      omega

/-- A beginning that is not the whole ends too early. -/
theorem take_cut (f : Nat) : ∀ (z i a j : Nat), i + f = 9 → z * 128 ^ i < 18446744073709551616 → (i = 0 ∨ z ≠ 0) → j < (putF f z).length →
    takeL ((putF f z).take j) i a = (0, 0, 3) := by
  induction f with
  | zero =>
    intro z i a j hi hz h0 hj
    obtain rfl : j = 0 := by simpa [putF] using hj
    simp [takeL]
  | succ f ih =>
    intro z i a j hi hz h0 hj
    by_cases hs : z < 128
    · unfold putF at hj ⊢
      rw [if_pos hs] at hj ⊢
      obtain rfl : j = 0 := by simpa using hj
      simp [takeL]
    · have hb : (UInt8.ofNat (z % 128 + 128)).toNat = z % 128 + 128 := byte_nat _ (by omega)
      have hbad : ¬ ((i = 9 ∧ 1 < (UInt8.ofNat (z % 128 + 128)).toNat) ∨ (0 < i ∧ (UInt8.ofNat (z % 128 + 128)).toNat = 0)) := by rw [hb]; omega
      have hsp := split_num z (128 ^ i)
      have hlt : ¬ z % 128 + 128 < 128 := by omega
      unfold putF at hj ⊢
      rw [if_neg hs] at hj ⊢
      cases j with
      | zero => simp [takeL]
      | succ j =>
        simp only [List.take_succ_cons, takeL]
        rw [if_neg hbad, hb, if_neg hlt]
        exact ih (z / 128) (i + 1) _ j (by omega) (by rw [Nat.pow_succ]; omega) (by right; omega) (by simpa using hj)

/-- What was taken is what the number is put as. -/
theorem take_sound : ∀ (L : List UInt8) (i a : Nat) (m : Int) (k : Nat), i ≤ 9 → a < 128 ^ i → takeL L i a = (m, k, 0) →
    i + 1 ≤ k ∧ k - i ≤ L.length ∧ k ≤ 10 ∧ ∃ z, L.take (k - i) = putF (9 - i) z ∧ m = unzz (a + z * 128 ^ i) ∧ a + z * 128 ^ i < 18446744073709551616 ∧ (0 < i → z ≠ 0)
  | [], i, a, m, k, _, _, h => by simp [takeL] at h
  | c :: r, i, a, m, k, hi, ha, h => by
    unfold takeL at h
    by_cases hbad : (i = 9 ∧ 1 < c.toNat) ∨ (0 < i ∧ c.toNat = 0)
    · rw [if_pos hbad] at h; simp at h
    · rw [if_neg hbad] at h
      have hc := c.toNat_lt
      have hp := pow_le hi
      have hpp := pow_pos' i
      by_cases hs : c.toNat < 128
      · rw [if_pos hs] at h
        simp only [Prod.mk.injEq, and_true] at h
        obtain ⟨rfl, rfl⟩ := h
        have hm : c.toNat % 128 = c.toNat := Nat.mod_eq_of_lt hs
        have hone : i + 1 - i = 1 := by omega
        refine ⟨Nat.le_refl _, by simp, by omega, c.toNat, ?_, by rw [hm], ?_, by omega⟩
        · rw [hone]
          simp only [List.take_succ_cons, List.take_zero]
          have hbk : UInt8.ofNat c.toNat = c := by simp
          cases hf : 9 - i with
          | zero => unfold putF; rw [hbk]
          | succ f => unfold putF; rw [if_pos hs, hbk]
        · by_cases h9 : i = 9
          · subst h9
            have h1 : c.toNat ≤ 1 := by omega
            have : c.toNat * 128 ^ 9 ≤ 1 * 128 ^ 9 := Nat.mul_le_mul_right _ h1
            rw [pow9] at this ha ⊢
            omega
          · have h8 := pow_step (i := i) (by omega)
            have : c.toNat * 128 ^ i ≤ 127 * 128 ^ i := Nat.mul_le_mul_right _ (by omega)
            omega
      · rw [if_neg hs] at h
        have h8 : i ≤ 8 := by omega
        have ha2 : a + c.toNat % 128 * 128 ^ i < 128 ^ (i + 1) := by
          have : c.toNat % 128 * 128 ^ i ≤ 127 * 128 ^ i := Nat.mul_le_mul_right _ (by omega)
          rw [Nat.pow_succ]
          omega
        obtain ⟨k1, k2, k3, z, e1, e2, e3, e4⟩ := take_sound r (i + 1) _ m k (by omega) ha2 h
        have hz := e4 (by omega)
        have hdm : (c.toNat % 128 + 128 * z) % 128 = c.toNat % 128 ∧ (c.toNat % 128 + 128 * z) / 128 = z := by omega
        have hsp := split_num (c.toNat % 128 + 128 * z) (128 ^ i)
        rw [hdm.1, hdm.2] at hsp
        rw [Nat.pow_succ, Nat.add_assoc, hsp] at e2 e3
        refine ⟨by omega, by simp only [List.length_cons]; omega, k3, c.toNat % 128 + 128 * z, ?_, e2, e3, by omega⟩
        obtain ⟨d, rfl⟩ : ∃ d, k = i + 1 + d := ⟨k - (i + 1), by omega⟩
        have hk1 : i + 1 + d - i = d + 1 := by omega
        have hk2 : i + 1 + d - (i + 1) = d := by omega
        have hf : 9 - i = (8 - i) + 1 := by omega
        have hf2 : 9 - (i + 1) = 8 - i := by omega
        rw [hk2, hf2] at e1
        rw [hk1, hf]
        unfold putF
        rw [if_neg (by omega), hdm.1, hdm.2, List.take_succ_cons, e1]
        congr 1
        have hcc : c.toNat % 128 + 128 = c.toNat := by omega
        rw [hcc]; simp

/-- A taking gives, or fails. -/
theorem take_cases : ∀ (L : List UInt8) (i a : Nat), (∃ m k, takeL L i a = (m, k, 0)) ∨ takeL L i a = (0, 0, 3) ∨ takeL L i a = (0, 0, 4)
  | [], _, _ => Or.inr (Or.inl rfl)
  | c :: r, i, a => by
    unfold takeL
    split
    · exact Or.inr (Or.inr rfl)
    · split
      · exact Or.inl ⟨_, _, rfl⟩
      · exact take_cases r _ _

/-- The bytes L begin with the number m, in k bytes. -/
def Gives (L : List UInt8) (m : Int) (k : Nat) : Prop := takeL L 0 0 = (m, k, 0)
/-- They begin with none, for the reason e. -/
def Fails (L : List UInt8) (e : Int) : Prop := takeL L 0 0 = (0, 0, e) ∧ (e = 3 ∨ e = 4)
theorem gives_or_fails (L : List UInt8) : (∃ m k, Gives L m k) ∨ ∃ e, Fails L e := by
  rcases take_cases L 0 0 with h | h | h
  · exact Or.inl h
  · exact Or.inr ⟨3, h, Or.inl rfl⟩
  · exact Or.inr ⟨4, h, Or.inr rfl⟩
theorem gives_put {n : Int} (h0 : -9223372036854775808 ≤ n) (h1 : n ≤ 9223372036854775807) (X : List UInt8) : Gives (putL n ++ X) n (putL n).length := by
  have h := take_put 9 (zz n) 0 0 X rfl (by have := zz_lt h0 h1; simpa using this) (Or.inl rfl)
  unfold Gives putL
  rw [h]
  simp [unzz_zz]
theorem fails_cut {n : Int} (h0 : -9223372036854775808 ≤ n) (h1 : n ≤ 9223372036854775807) (j : Nat) (hj : j < (putL n).length) : Fails ((putL n).take j) 3 :=
  ⟨take_cut 9 (zz n) 0 0 j rfl (by have := zz_lt h0 h1; simpa using this) (Or.inl rfl) hj, Or.inl rfl⟩
theorem Gives.put {L : List UInt8} {m : Int} {k : Nat} (h : Gives L m k) : 1 ≤ k ∧ k ≤ 10 ∧ k ≤ L.length ∧ L.take k = putL m ∧ -9223372036854775808 ≤ m ∧ m ≤ 9223372036854775807 := by
  obtain ⟨k1, k2, k3, z, e1, e2, e3, _⟩ := take_sound L 0 0 m k (by omega) (by simp) h
  simp only [Nat.sub_zero, Nat.pow_zero, Nat.mul_one, Nat.zero_add] at e1 e2 e3 k2 k1
  refine ⟨k1, k3, k2, ?_, ?_⟩
  · rw [e1, e2]; unfold putL; rw [zz_unzz]
  · rw [e2]; exact unzz_in e3
theorem Gives.same {L : List UInt8} {m m' : Int} {k k' : Nat} (h : Gives L m k) (h' : Gives L m' k') : m = m' ∧ k = k' := by
  have := h.symm.trans h'
  simp only [Prod.mk.injEq, and_true] at this
  exact this
end Go.Proofs.YtfnkmigcklmghaaDoor

/- Layer 4, plain: which fields of each kind of step play a part (P4.1). Nothing of the program is named here. -/
namespace Go.Proofs.YtfnkmigcklmghaaDoor
set_option linter.unusedVariables false

/-- The letters of the fields that play a part. -/
def fieldsL (K : Int) : List UInt8 :=
  if K = 0 ∨ K = 1 then [78] else if K = 2 then [83] else if K = 3 ∨ K = 11 then [78, 65, 66] else
  if K = 4 ∨ K = 6 ∨ K = 13 ∨ K = 14 ∨ K = 20 ∨ K = 22 ∨ K = 25 then [65] else
  if K = 5 ∨ K = 7 ∨ K = 8 ∨ K = 15 ∨ K = 19 ∨ K = 21 then [65, 66] else
  if K = 9 then [78, 76, 75] else if K = 10 then [78, 65] else if K = 12 then [78, 75] else if K = 16 ∨ K = 18 then [65, 66, 67] else
  if K = 17 then [75] else if K = 23 then [78, 76] else if K = 24 then [78, 65, 76] else []
def hasB (K : Int) (f : UInt8) : Bool := (fieldsL K).contains f
theorem kinds (K : Int) : (K = 0 ∨ K = 1 ∨ K = 2 ∨ K = 3 ∨ K = 4 ∨ K = 5 ∨ K = 6 ∨ K = 7 ∨ K = 8 ∨ K = 9 ∨ K = 10 ∨ K = 11 ∨ K = 12 ∨ K = 13 ∨ K = 14 ∨ K = 15 ∨ K = 16 ∨ K = 17 ∨ K = 18 ∨ K = 19 ∨ K = 20 ∨ K = 21 ∨ K = 22 ∨ K = 23 ∨ K = 24 ∨ K = 25) ∨ (K < 0 ∨ 25 < K) := by omega
theorem fields_none {K : Int} (h : K < 0 ∨ 25 < K) : fieldsL K = [] := by
  unfold fieldsL
  repeat rw [if_neg (by omega)]
/-- All that can be of the seven at once: N, S, A, B, C, L, K. -/
theorem groups (K : Int) : (hasB K 78, hasB K 83, hasB K 65, hasB K 66, hasB K 67, hasB K 76, hasB K 75) ∈
    [(true, false, false, false, false, false, false), (false, true, false, false, false, false, false), (true, false, true, true, false, false, false), (false, false, true, false, false, false, false),
     (false, false, true, true, false, false, false), (true, false, false, false, false, true, true), (true, false, true, false, false, false, false), (true, false, false, false, false, false, true),
     (false, false, true, true, true, false, false), (false, false, false, false, false, false, true), (true, false, false, false, false, true, false), (true, false, true, false, false, true, false), (false, false, false, false, false, false, false)] := by
  rcases kinds K with h | h
  · rcases h with rfl | rfl | rfl | rfl | rfl | rfl | rfl | rfl | rfl | rfl | rfl | rfl | rfl | rfl | rfl | rfl | rfl | rfl | rfl | rfl | rfl | rfl | rfl | rfl | rfl | rfl
    all_goals decide +kernel
  · unfold hasB
    rw [fields_none h]
    decide +kernel
def pickI (b : Bool) (x : Int) : Int := if b then x else 0
def pickS (b : Bool) (s : ByteArray) : ByteArray := if b then s else ⟨#[]⟩
def pickL (b : Bool) (l : List Int) : List Int := if b then l else []
/-- What a step may do. -/
def mayFail (K N : Int) : Int := if K = 5 ∨ K = 7 ∨ K = 13 ∨ K = 15 ∨ K = 16 ∨ K = 21 ∨ K = 24 ∨ (K = 3 ∧ (N = 3 ∨ N = 4)) then 1 else 0
def mayDo (K : Int) : Int := if K = 10 ∨ K = 15 ∨ K = 19 ∨ K = 20 ∨ K = 21 then 2 else if K = 11 ∨ K = 16 ∨ K = 18 then 4 else if K = 9 ∨ K = 12 ∨ K = 13 ∨ K = 17 then 8 else if K = 23 ∨ K = 24 then 16 else if K = 25 then 32 else 0
def flagsI (K N : Int) : Int := mayFail K N + mayDo K
theorem flags_none {K : Int} (N : Int) (h : K < 0 ∨ 25 < K) : flagsI K N = 0 := by
  unfold flagsI mayFail mayDo
  repeat rw [if_neg (by omega)]
  rfl
theorem flags_plain (K N : Int) : flagsI K (pickI (hasB K 78) N) = flagsI K N := by
  rcases kinds K with h | h
  · rcases h with rfl | rfl | rfl | rfl | rfl | rfl | rfl | rfl | rfl | rfl | rfl | rfl | rfl | rfl | rfl | rfl | rfl | rfl | rfl | rfl | rfl | rfl | rfl | rfl | rfl | rfl
    all_goals rfl
  · rw [flags_none _ h, flags_none _ h]
end Go.Proofs.YtfnkmigcklmghaaDoor

/- A row of bytes that a call made itself: told by the list of its bytes; what append, make and the way back to a text do to it. Nothing of the program is named here. -/
namespace Go.Proofs.YtfnkmigcklmghaaDoor
open Go.RowKit (wrap64 intOf Below)
set_option linter.unusedVariables false

def byteV (c : UInt8) : Value := .int .u8 c.toNat
/-- The slice v is the call's own (from block B on) and holds the bytes l. -/
def OwnsB (w : World) (B : Nat) (e : TypeId) (v : Value) (l : List UInt8) : Prop := w.ownsRow B e 1 v l.length (l.map byteV)

theorem OwnsB.alloc {w : World} {B : Nat} {e : TypeId} {v : Value} {l : List UInt8} (h : OwnsB w B e v l) (o : Obj) : OwnsB (w.alloc o) B e v l := World.ownsRow.alloc h o
theorem OwnsB.drew {w : World} {B : Nat} {e : TypeId} {v : Value} {l : List UInt8} (h : OwnsB w B e v l) : OwnsB w.drew B e v l := h
theorem OwnsB.nil (w : World) (B : Nat) (e : TypeId) : OwnsB w B e (.slice none 0 0) [] := World.ownsRow_nil w B e 1
theorem OwnsB.made {w : World} {B : Nat} {e : TypeId} (cur : Array Value) (cap : Nat) (hB : B ≤ w.heap.size) (hm : cap ≤ maxLen) (hs : cur.size = cap) : OwnsB (w.alloc (.cells cur e)) B e (.slice (some ⟨w.heap.size, 0, none⟩) 0 cap) [] :=
  World.ownsRow_made w cur cap hB hm (by rw [hs, Nat.mul_one])
theorem OwnsB.lt {w : World} {B : Nat} {e : TypeId} {v : Value} {l : List UInt8} (h : OwnsB w B e v l) : ∀ k, v.ownBlock = some k → B ≤ k ∧ k < w.heap.size := World.ownsRow.lt h
theorem OwnsB.shape {w : World} {B : Nat} {e : TypeId} {v : Value} {l : List UInt8} (h : OwnsB w B e v l) : ∃ (a : Option Addr) (c : Nat), v = .slice a l.length c := by
  rcases h.2 with ⟨rfl, h0⟩ | ⟨g, cap, cur, rfl, _⟩
  · rw [h0]; exact ⟨none, 0, rfl⟩
  · exact ⟨_, cap, rfl⟩
/-- A row just built out of bytes. -/
theorem OwnsB.built {w : World} {B : Nat} {e : TypeId} (l : List UInt8) (C : Array Value) (n : Nat) (hC : C = (l.map byteV).toArray) (hB : B ≤ w.heap.size) (hn : l.length = n) (hm : n ≤ maxLen) : OwnsB (w.alloc (.cells C e)) B e (.slice (some ⟨w.heap.size, 0, none⟩) n n) l := by
  subst hn hC
  refine ⟨by simp, .inr ⟨w.heap.size, _, (l.map byteV).toArray, rfl, hB, heap_alloc_new w _, Nat.le_refl _, hm, by simp, ?_⟩⟩
  simp only [Nat.mul_one]
  exact List.take_of_length_le (by simp)

/-- What has grown behind it changes nothing of it. -/
theorem OwnsB.below {w w' : World} {B : Nat} {e : TypeId} {v : Value} {l : List UInt8} (h : OwnsB w B e v l) (hb : Below w.heap.size w w') : OwnsB w' B e v l := by
  refine ⟨h.1, ?_⟩
  rcases h.2 with hn | ⟨g, cap, cur, rfl, hB, hg, rest⟩
  · exact .inl hn
  · refine .inr ⟨g, cap, cur, rfl, hB, ?_, rest⟩
    rw [hb.block g (Array.getElem?_eq_some_iff.1 hg).1]
    exact hg
theorem byteV_one {l : List UInt8} : ∀ u ∈ l.map byteV, u.oneCell' = true := by
  intro u hu
  obtain ⟨c, _, rfl⟩ := List.mem_map.1 hu
  rfl

/-- 'append(b, c1, c2 ..)': bytes that lie in a row just built, behind those that b holds. -/
theorem wpList_append_bytes {P : Program} (w : World) {ops : Array Oper} {rest : List Oper} {o : Oper} {a : Act} {Q : Exit → Act → World → Prop} (hgd : o.guard = none) (s x : Operand) (t : TypeId)
    (ho : o.op = .call { callee := .builtin .append, args := #[s, x], argTypes := #[t, t] }) (e : TypeId) (ht : P.underlying t = some (.slice e))
    (hinfo : (P.info? e).map (fun i => (i.zero, i.size, i.bytes)) = some (some (.int .u8 0), 1, 1))
    (B : Nat) (v : Value) (l : List UInt8) (hs : a.eval s = v) (hown : OwnsB w B e v l) (hB : B ≤ w.heap.size)
    (C : Array Value) (m c g : Nat) (news : List UInt8) (hx : a.eval x = .slice (some ⟨g, 0, none⟩) m c) (hg : g = w.heap.size) (hC : C = (news.map byteV).toArray) (hm : news.length = m)
    (hlen : l.length + m ≤ 140737488355328)
    (h : ∀ v' w', OwnsB w' B e v' (l ++ news) → Below B w w' → w.heap.size < w'.heap.size → wpList P ops Q rest (a.put o.dst v') w') : wpList P ops Q (o :: rest) a (w.alloc (.cells C e)) := by
  obtain ⟨i0, hi, hz0, hz1, hz2⟩ := info_parts hinfo
  subst hC hm hg
  refine wpList_append_own _ hgd s x t ho B e i0 (.int .u8 0) 1 1 ht hi hz0 hz1 hz2 rfl (by decide) v l.length (l.map byteV) hs (hown.alloc _) ⟨w.heap.size, 0, none⟩ news.length c (news.map byteV) hx (by simp) (fun j u hu => ?_) byteV_one (by unfold maxLen; omega) (by omega) (by simp; omega) ?_
  · have hadd : (⟨w.heap.size, 0, none⟩ : Addr).add j = ⟨w.heap.size, j, none⟩ := by unfold Addr.add; split <;> simp_all
    rw [hadd, World.cell?_alloc_mark]
    simpa using hu
  · intro v' w' hown' hgrow _
    refine h v' w' ?_ ?_ ?_
    · show w'.ownsRow B e 1 v' (l ++ news).length ((l ++ news).map byteV)
      rw [List.map_append, List.length_append]
      exact hown'
    · exact Below.grown ((Below.refl B w).alloc hB _) hgrow (by simp; omega) (fun k hk => (hown.lt k hk).1)
    · have := hgrow.size
      simp at this
      omega

/-- The same as one step of a region that draws its order. -/
theorem step_append_bytes {P : Program} {u : World} {ops : Array Oper} {o : Oper} {a : Act} {K : Act → World → Prop} {Q : Exit → Act → World → Prop} {E : Prop} (hgd : o.guard = none) (s x : Operand) (t : TypeId)
    (ho : o.op = .call { callee := .builtin .append, args := #[s, x], argTypes := #[t, t] }) (e : TypeId) (ht : P.underlying t = some (.slice e))
    (hinfo : (P.info? e).map (fun i => (i.zero, i.size, i.bytes)) = some (some (.int .u8 0), 1, 1))
    (B : Nat) (v : Value) (l : List UInt8) (hs : a.eval s = v) (hown : OwnsB u B e v l) (hB : B ≤ u.heap.size)
    (m c g : Nat) (news : List UInt8) (hx : a.eval x = .slice (some ⟨g, 0, none⟩) m c) (fr : Nat × Nat) (hg : u.heap[g]? = some (.cells (news.map byteV).toArray e fr)) (hm : news.length = m) (hpos : 0 < m)
    (hlen : l.length + m ≤ 140737488355328)
    (h : ∀ v' w', OwnsB w' B e v' (l ++ news) → Below B u w' → K (a.put o.dst v') w') :
    if Region.wanted o (yielded ops a.tmps) = true then Oper.wp P o a u K Q else E := by
  obtain ⟨i0, hi, hz0, hz1, hz2⟩ := info_parts hinfo
  subst hm
  refine step_append_lies u hgd s x t ho B e i0 (.int .u8 0) 1 1 ht hi hz0 hz1 hz2 rfl (by decide) v l.length (l.map byteV) hs hown ⟨g, 0, none⟩ news.length c (news.map byteV) hx (by simp) (World.news_of_block hg) byteV_one hpos (by unfold maxLen; omega) (by omega) hB u.heap.size rfl ?_
  intro g' cap w' hown' hgrow hat hlt
  refine h _ w' ?_ ?_
  · show w'.ownsRow B e 1 (.slice (some ⟨g', 0, none⟩) (l.length + news.length) cap) (l ++ news).length ((l ++ news).map byteV)
    rw [List.map_append, List.length_append]
    exact hown'
  · exact Below.grown (Below.refl B u) hgrow hB (fun k hk => (hown.lt k hk).1)

/-- 'string(b)' of bytes that the call made. -/
theorem run_string_own {P : Program} {w : World} {B : Nat} {e : TypeId} {v : Value} {l : List UInt8} (h : OwnsB w B e v l) (src dst : TypeId) (hs : P.underlying src = some (.slice e)) (he : P.underlying e = some (.int .u8)) (hd : P.underlying dst = some .string)
    (hne : l ≠ []) : (convert src dst v).run P w = .ok (.string (mk l)) w := by
  have hown := h
  rcases h.2 with ⟨_, h0⟩ | ⟨g, cap, cur, rfl, _⟩
  · exact absurd (List.eq_nil_of_length_eq_zero h0) hne
  · exact run_convert_bytes_back w src dst e ⟨g, 0, none⟩ cap l hs he hd (fun j hj => by
      have := World.ownsRow.cells hown (g := g) rfl j (byteV l[j]) (by rw [List.getElem?_map, List.getElem?_eq_getElem hj]; rfl)
      exact this)
/-- 'string(b)' of a row that the call made, also one of no bytes. -/
theorem run_string_own_any {P : Program} {w : World} {B : Nat} {e : TypeId} {v : Value} {l : List UInt8} (h : OwnsB w B e v l) (src dst : TypeId) (hs : P.underlying src = some (.slice e)) (he : P.underlying e = some (.int .u8)) (hd : P.underlying dst = some .string)
    (hne : v ≠ .slice none 0 0) : (convert src dst v).run P w = .ok (.string (mk l)) w := by
  have hown := h
  rcases h.2 with ⟨rfl, h0⟩ | ⟨g, cap, cur, rfl, _⟩
  · exact absurd rfl hne
  · exact run_convert_bytes_back w src dst e ⟨g, 0, none⟩ cap l hs he hd (fun j hj => by
      have := World.ownsRow.cells hown (g := g) rfl j (byteV l[j]) (by rw [List.getElem?_map, List.getElem?_eq_getElem hj]; rfl)
      exact this)
/-- 'string(b)' of whatever bytes of the call's own. -/
theorem run_string_own_all {P : Program} {w : World} {B : Nat} {e : TypeId} {v : Value} {l : List UInt8} (h : OwnsB w B e v l) (src dst : TypeId) (hs : P.underlying src = some (.slice e)) (he : P.underlying e = some (.int .u8)) (hd : P.underlying dst = some .string) :
    (convert src dst v).run P w = .ok (.string (mk l)) w := by
  by_cases hv : v = .slice none 0 0
  · have h0 : l = [] := by
      rcases h.2 with ⟨_, h0⟩ | ⟨g, cap, cur, hv', _⟩
      · exact List.eq_nil_of_length_eq_zero h0
      · rw [hv] at hv'; cases hv'
    subst hv h0
    rw [run_convert_bytes_string w src dst e none 0 0 hs he hd]
    simp [Conv.bytesToString]
    rfl
  · exact run_string_own_any h src dst hs he hd hv
end Go.Proofs.YtfnkmigcklmghaaDoor

/- Slices of numbers of 64 bits that came in (nil or not), and their copies by append to a new empty slice: what a walk needs of them. Nothing of the program is named here. -/
namespace Go.Proofs.YtfnkmigcklmghaaDoor
open Go.RowKit (wrap64 intOf Below)

theorem addr_block (a : Addr) (j : Nat) : (a.add j).block = a.block := by unfold Addr.add; split <;> rfl
theorem addr_plain (b off j : Nat) : (⟨b, off, none⟩ : Addr).add j = ⟨b, off + j, none⟩ := by
  unfold Addr.add; split
  · rename_i h; subst h; rfl
  · rfl
/-- The number at place k (0 behind the end). -/
def nth (L : List Int) (k : Nat) : Int := L.getD k 0
/-- The cells of a slice of numbers. -/
def CellsAt (w : World) (b off : Nat) (zs : List Int) : Prop := ∀ j, j < zs.length → w.cell? ⟨b, off + j, none⟩ = some (.int .i64 (nth zs j))
/-- A slice of numbers that came in: nil, or a length with its cells. -/
def IntsAt (w : World) (v : Value) (zs : List Int) : Prop :=
  (v = .slice none 0 0 ∧ zs = []) ∨
  ∃ (a : Addr) (c : Nat), v = .slice (some a) zs.length c ∧ zs.length * 8 ≤ 140737488351232 ∧ (∀ j, j < zs.length → a.block < w.heap.size) ∧ ∀ j, j < zs.length → w.cell? (a.add j) = some (.int .i64 (nth zs j))

theorem IntsAt.below {w w' : World} {v : Value} {zs : List Int} {B : Nat} (h : IntsAt w v zs) (hb : Below B w w') (hB : w.heap.size ≤ B) : IntsAt w' v zs := by
  rcases h with h | ⟨a, c, hv, hl, hlt, hc⟩
  · exact Or.inl h
  · refine Or.inr ⟨a, c, hv, hl, fun j hj => Nat.lt_of_lt_of_le (hlt j hj) hb.size, fun j hj => ?_⟩
    rw [hb.cell (p := a.add j) (Nat.lt_of_lt_of_le (by rw [addr_block]; exact hlt j hj) hB)]
    exact hc j hj
theorem IntsAt.len {w : World} {v : Value} {zs : List Int} (h : IntsAt w v zs) : zs.length * 8 ≤ 140737488351232 := by
  rcases h with ⟨_, rfl⟩ | ⟨a, c, _, hl, _⟩
  · exact Nat.zero_le _
  · exact hl
theorem IntsAt.cells {w : World} {v : Value} {zs : List Int} (h : IntsAt w v zs) (hne : 0 < zs.length) :
    ∃ (b off c : Nat), v = .slice (some ⟨b, off, none⟩) zs.length c ∧ b < w.heap.size ∧ CellsAt w b off zs := by
  rcases h with ⟨_, rfl⟩ | ⟨⟨b, off, spot⟩, c, hv, _, hlt, hc⟩
  · exact absurd hne (by simp)
  · have hs : spot = none := by simpa [Addr.add] using World.cell?_spot (hc 0 hne)
    subst hs
    exact ⟨b, off, c, hv, hlt 0 hne, fun j hj => by have := hc j hj; rwa [addr_plain] at this⟩
theorem IntsAt.shape {w : World} {v : Value} {zs : List Int} (h : IntsAt w v zs) : ∃ (a : Option Addr) (c : Nat), v = .slice a zs.length c := by
  rcases h with ⟨rfl, rfl⟩ | ⟨a, c, hv, _⟩
  · exact ⟨none, 0, rfl⟩
  · exact ⟨some a, c, hv⟩

theorem CellsAt.below {w w' : World} {b off : Nat} {zs : List Int} {B : Nat} (h : CellsAt w b off zs) (hb : Below B w w') (hB : b < B) : CellsAt w' b off zs := fun j hj => by
  rw [hb.cell (p := ⟨b, off + j, none⟩) hB]; exact h j hj

/-- 'append([]T{}, xs...)' where xs came in: a new row with its numbers. -/
theorem wpList_copy_ints {P : Program} (w : World) {ops : Array Oper} {rest : List Oper} {o : Oper} {a : Act} {Q : Exit → Act → World → Prop} (hgd : o.guard = none) (s x : Operand) (t : TypeId)
    (ho : o.op = .call { callee := .builtin .append, args := #[s, x], argTypes := #[t, t] }) (e : TypeId) (ht : P.underlying t = some (.slice e))
    (hinfo : (P.info? e).map (fun i => (i.zero, i.size, i.bytes)) = some (some (.int .i64 0), 1, 8))
    (g0 : Nat) (hs : a.eval s = .slice (some ⟨g0, 0, none⟩) 0 0) (hg0 : w.heap[g0]? = some (.cells #[] e (0, 0))) (hlt0 : g0 < w.heap.size)
    (v : Value) (zs : List Int) (hx : a.eval x = v) (hv : IntsAt w v zs)
    (h : ∀ g cap w', g0 ≤ g → g < w'.heap.size → zs.length ≤ cap → cap ≤ maxLen → CellsAt w' g 0 zs → Below g0 w w' → wpList P ops Q rest (a.put o.dst (.slice (some ⟨g, 0, none⟩) zs.length cap)) w') :
    wpList P ops Q (o :: rest) a w := by
  obtain ⟨i0, hi, hz0, hz1, hz2⟩ := info_parts hinfo
  have hown : w.ownsRow g0 e 1 (.slice (some ⟨g0, 0, none⟩) 0 0) 0 [] :=
    ⟨rfl, .inr ⟨g0, 0, #[], rfl, Nat.le_refl _, hg0, Nat.le_refl _, Nat.zero_le _, rfl, rfl⟩⟩
  rcases hv with ⟨rfl, rfl⟩ | ⟨ad, c, rfl, hlen, _, hcell⟩
  · exact wpList_append_own_none hgd s x t ho g0 e i0 1 ht hi _ 0 [] hs hown hx (h g0 0 w (Nat.le_refl _) hlt0 (Nat.le_refl _) (Nat.zero_le _) (fun j hj => by simp at hj) (Below.refl _ _))
  · refine wpList_append_own w hgd s x t ho g0 e i0 (.int .i64 0) 1 8 ht hi hz0 hz1 hz2 rfl (by decide) _ 0 [] hs hown ad zs.length c (zs.map (Value.int .i64)) hx (by simp) (fun j u hu => ?_) (fun u hu => ?_) (by unfold maxLen; omega) (by omega) (by omega) ?_
    · rw [List.getElem?_map] at hu
      obtain ⟨z, hz, rfl⟩ := Option.map_eq_some_iff.1 hu
      have hj : j < zs.length := (List.getElem?_eq_some_iff.1 hz).1
      rw [hcell j hj]
      unfold nth
      rw [List.getD_eq_getElem?_getD, hz]; rfl
    · obtain ⟨z, _, rfl⟩ := List.mem_map.1 hu; rfl
    · intro v' w' hown' hgrow hnil
      have hown2 := hown'
      have hltv := hown'.lt
      obtain ⟨_, hcase⟩ := hown'
      rcases hcase with ⟨rfl, _⟩ | ⟨g, cap, cur, rfl, hg, hheap, hn, hcap, _, _⟩
      · exact absurd (hnil.1 rfl).1 (by simp)
      · simp only [Nat.zero_add] at hn ⊢
        refine h g cap w' hg (hltv g rfl).2 hn hcap (fun j hj => ?_) ?_
        · have := hown2.cells (g := g) rfl j (.int .i64 (nth zs j)) (by
            rw [List.nil_append, List.getElem?_map, List.getElem?_eq_getElem hj]
            unfold nth
            rw [List.getD_eq_getElem?_getD, List.getElem?_eq_getElem hj]; rfl)
          rwa [addr_plain] at this
        · exact Below.grown (Below.refl _ _) hgrow (by omega) (fun k hk => by cases hk; exact Nat.le_refl _)

/-! ### A call that leaves the world alone, inside a region that draws its order -/
theorem quiet_add_left {P : Program} {f : FuncId} {args : Array Value} {w : World} {a n : Nat} {v : Value}
    (h : Calls P f args (w.drewN (a + n)) fun e w' => e = .returned v ∧ w.drewN (a + n) = w') :
    Calls P f args (w.drewN (a + n)) fun e w'' => e = .returned v ∧ ∃ m, w'' = w.drewN (a + m) :=
  h.mono fun _ _ ⟨he, hm⟩ => ⟨he, n, hm.symm⟩
theorem quiet_left {P : Program} {f : FuncId} {args : Array Value} {w : World} {n : Nat} {v : Value}
    (h : Calls P f args (w.drewN n) fun e w' => e = .returned v ∧ w.drewN n = w') : Calls P f args (w.drewN n) fun e w'' => e = .returned v ∧ ∃ m, w'' = w.drewN m :=
  h.mono fun _ _ ⟨he, hm⟩ => ⟨he, n, hm.symm⟩

/-! ### From the readings -/
theorem nth_take (zs : List Int) (n j : Nat) (h : j < n) : nth (zs.take n) j = zs.getD j 0 := by
  unfold nth
  rw [List.getD_eq_getElem?_getD, List.getElem?_take, if_pos h, ← List.getD_eq_getElem?_getD]
theorem wf_i64_range {n : Int} (h : (Lit.int .i64 n).wf = true) : -9223372036854775808 ≤ n ∧ n ≤ 9223372036854775807 := by
  simp only [Lit.wf, IntKind.min, IntKind.max, IntKind.signed, IntKind.bits, Bool.and_eq_true, decide_eq_true_eq, if_true] at h
  omega
end Go.Proofs.YtfnkmigcklmghaaDoor

/- A slice of bytes that is read (it came in, or the call made it, or it is a part of such a one; nil or not): told by the list of its bytes; its parts, its text, and what append makes of it. Nothing of the program is named here. -/
namespace Go.Proofs.YtfnkmigcklmghaaDoor
open Go.RowKit (wrap64 intOf Below)
set_option linter.unusedVariables false

/-- The slice (a, n, c) reads as the bytes L. -/
def BytesAt (w : World) (a : Option Addr) (n c : Nat) (L : List UInt8) : Prop :=
  L.length = n ∧ n ≤ c ∧ c ≤ maxLen ∧ (a = none → c = 0) ∧ (0 < n → ∃ g off, a = some ⟨g, off, none⟩ ∧ g < w.heap.size) ∧
  ∀ ad, a = some ad → ∀ j (h : j < L.length), w.cell? (ad.add j) = some (byteV L[j])

theorem BytesAt.nil (w : World) : BytesAt w none 0 0 [] := ⟨rfl, Nat.le_refl _, Nat.zero_le _, fun _ => rfl, fun h => absurd h (by omega), fun _ h => by cases h⟩
theorem BytesAt.below {w w' : World} {a : Option Addr} {n c : Nat} {L : List UInt8} {B : Nat} (h : BytesAt w a n c L) (hb : Below B w w') (hB : w.heap.size ≤ B) : BytesAt w' a n c L := by
  obtain ⟨h1, h2, h3, h4, h5, h6⟩ := h
  refine ⟨h1, h2, h3, h4, fun hn => ?_, fun ad ha j hj => ?_⟩
  · obtain ⟨g, off, e, hg⟩ := h5 hn
    exact ⟨g, off, e, Nat.lt_of_lt_of_le hg hb.size⟩
  · obtain ⟨g, off, e, hg⟩ := h5 (by omega)
    rw [ha] at e
    cases e
    rw [hb.cell (p := (⟨g, off, none⟩ : Addr).add j) (by rw [addr_block]; exact Nat.lt_of_lt_of_le hg hB)]
    exact h6 _ ha j hj
theorem BytesAt.drewN {w : World} {a : Option Addr} {n c : Nat} {L : List UInt8} (h : BytesAt w a n c L) (q : Nat) : BytesAt (w.drewN q) a n c L :=
  h.below (B := w.heap.size) ⟨rfl, rfl, rfl, Nat.le_refl _, fun _ _ => rfl⟩ (Nat.le_refl _)
/-- Where its cells lie, if there are any. -/
theorem BytesAt.cells {w : World} {a : Option Addr} {n c : Nat} {L : List UInt8} (h : BytesAt w a n c L) (hn : 0 < n) :
    ∃ g off, a = some ⟨g, off, none⟩ ∧ g < w.heap.size ∧ ∀ j (h : j < L.length), w.cell? ⟨g, off + j, none⟩ = some (byteV L[j]) := by
  obtain ⟨h1, h2, h3, h4, h5, h6⟩ := h
  obtain ⟨g, off, e, hg⟩ := h5 hn
  refine ⟨g, off, e, hg, fun j hj => ?_⟩
  have := h6 _ e j hj
  rwa [addr_plain] at this
/-- What the call made is read so. -/
theorem OwnsB.at {w : World} {B : Nat} {e : TypeId} {v : Value} {l : List UInt8} (h : OwnsB w B e v l) : ∃ a n c, v = .slice a n c ∧ BytesAt w a n c l := by
  have hown := h
  rcases h.2 with ⟨rfl, h0⟩ | ⟨g, cap, cur, rfl, hB, hg, h1, h2, _⟩
  · obtain rfl := List.eq_nil_of_length_eq_zero h0
    exact ⟨none, 0, 0, rfl, BytesAt.nil w⟩
  · refine ⟨_, _, cap, rfl, rfl, h1, h2, (fun h => by cases h), fun _ => ⟨g, 0, rfl, (hown.lt g rfl).2⟩, fun ad ha j hj => ?_⟩
    cases ha
    exact World.ownsRow.cells hown (g := g) rfl j (byteV l[j]) (by rw [List.getElem?_map, List.getElem?_eq_getElem hj]; rfl)

/-- Its text. -/
theorem run_text {P : Program} {w : World} {a : Option Addr} {n c : Nat} {L : List UInt8} (h : BytesAt w a n c L) (src dst e : TypeId) (hs : P.underlying src = some (.slice e)) (he : P.underlying e = some (.int .u8)) (hd : P.underlying dst = some .string) :
    (convert src dst (.slice a n c)).run P w = .ok (.string (mk L)) w := by
  obtain ⟨h1, h2, h3, h4, h5, h6⟩ := h
  subst h1
  cases a with
  | none =>
    have : c = 0 := h4 rfl
    have h0 : L = [] := List.eq_nil_of_length_eq_zero (by omega)
    subst h0
    rw [run_convert_bytes_string w src dst e none _ c hs he hd]
    simp [Conv.bytesToString]
    rfl
  | some ad => exact run_convert_bytes_back w src dst e ad c L hs he hd (fun j hj => h6 ad rfl j hj)

/-- The address from place k on. -/
def fromA (a : Option Addr) (c k : Nat) : Option Addr := if c = k then a else a.map (·.add k)
theorem fromA_some (a : Addr) (c k : Nat) (h : k < c) : fromA (some a) c k = some (a.add k) := by
  unfold fromA; rw [if_neg (by omega)]; rfl
theorem BytesAt.drop {w : World} {a : Option Addr} {n c : Nat} {L : List UInt8} (h : BytesAt w a n c L) (k : Nat) (hk : k ≤ n) : BytesAt w (fromA a c k) (n - k) (c - k) (L.drop k) := by
  obtain ⟨h1, h2, h3, h4, h5, h6⟩ := h
  refine ⟨by rw [List.length_drop, h1], by omega, by omega, fun ha => ?_, fun hn => ?_, fun ad ha j hj => ?_⟩
  · unfold fromA at ha
    split at ha
    · have := h4 ha; omega
    · cases a with
      | none => have := h4 rfl; omega
      | some x => cases ha
  · obtain ⟨g, off, e, hg⟩ := h5 (by omega)
    subst e
    rw [fromA_some _ _ _ (by omega), addr_plain]
    exact ⟨g, off + k, rfl, hg⟩
  · rw [List.length_drop] at hj
    obtain ⟨g, off, e, hg⟩ := h5 (by omega)
    subst e
    rw [fromA_some _ _ _ (by omega), addr_plain] at ha
    cases ha
    have := h6 _ rfl (k + j) (by omega)
    rw [addr_plain] at this ⊢
    rw [show off + k + j = off + (k + j) by omega, this, List.getElem_drop]
theorem BytesAt.take {w : World} {a : Option Addr} {n c : Nat} {L : List UInt8} (h : BytesAt w a n c L) (k : Nat) (hk : k ≤ n) : BytesAt w a k c (L.take k) := by
  obtain ⟨h1, h2, h3, h4, h5, h6⟩ := h
  refine ⟨by rw [List.length_take, h1]; omega, by omega, h3, h4, fun hn => h5 (by omega), fun ad ha j hj => ?_⟩
  rw [List.length_take] at hj
  rw [h6 ad ha j (by omega), List.getElem_take]

theorem size_of_one {P : Program} {e : TypeId} (h : (P.info? e).map (fun i => (i.zero, i.size, i.bytes)) = some (some (.int .u8 0), 1, 1)) (w : World) : (sizeOf e).run P w = .ok 1 w := by
  obtain ⟨i0, hi, hz0, hz1, hz2⟩ := info_parts h
  simp [sizeOf, typeInfo, hi, hz1]
theorem add_zero (a : Addr) : a.add 0 = a := by unfold Addr.add; simp
theorem elem_is {P : Program} {t e : TypeId} (ht : P.underlying t = some (.slice e)) : P.elem t = e := by simp [Program.elem, ht]
section
variable {P : Program} {t e : TypeId} (ht : P.underlying t = some (.slice e)) (hz : ∀ w, (sizeOf e).run P w = .ok 1 w)
theorem under_elem {P : Program} {t e : TypeId} (ht : P.underlying t = some (.slice e)) : P.underlying t = some (.slice (P.elem t)) := by rw [elem_is ht]; exact ht
include ht hz
/-- 'b[k:]'. -/
theorem run_from (a : Option Addr) (n c k : Nat) (hk : k ≤ n) (w : World) : (Instr.slice t (.slice a n c) (some (.int .i64 (k : Int))) none none).run P w = .ok (.slice (fromA a c k) (n - k) (c - k)) w := by
  rw [run_slice_l w t a n c (under_elem ht) .i64 k (by omega) (by omega), elem_is ht, hz w]
  simp [Result.andThen, sliced, fromA]
/-- 'b[:k]'. -/
theorem run_to (a : Option Addr) (n c k : Nat) (hk : k ≤ c) (w : World) : (Instr.slice t (.slice a n c) none (some (.int .i64 (k : Int))) none).run P w = .ok (.slice a k c) w := by
  rw [run_slice_h w t a n c (under_elem ht) .i64 k (by omega) (by omega), elem_is ht, hz w]
  cases a <;> simp [Result.andThen, sliced, add_zero]
/-- 'b[k:h]'. -/
theorem run_part (a : Option Addr) (n c k h : Nat) (hk : k ≤ h) (hh : h ≤ c) (w : World) : (Instr.slice t (.slice a n c) (some (.int .i64 (k : Int))) (some (.int .i64 (h : Int))) none).run P w = .ok (.slice (fromA a c k) (h - k) (c - k)) w := by
  rw [run_slice_lh w t a n c (under_elem ht) .i64 .i64 k h (by omega) (by omega) (by omega), elem_is ht, hz w]
  simp [Result.andThen, sliced, fromA]
end

/-- 'append(b, x...)': b the call's own, x whatever is read. -/
theorem wpList_append_read {P : Program} (w : World) {ops : Array Oper} {rest : List Oper} {o : Oper} {a : Act} {Q : Exit → Act → World → Prop} (hgd : o.guard = none) (s x : Operand) (t : TypeId)
    (ho : o.op = .call { callee := .builtin .append, args := #[s, x], argTypes := #[t, t] }) (e : TypeId) (ht : P.underlying t = some (.slice e))
    (hinfo : (P.info? e).map (fun i => (i.zero, i.size, i.bytes)) = some (some (.int .u8 0), 1, 1))
    (B : Nat) (v : Value) (l : List UInt8) (hs : a.eval s = v) (hown : OwnsB w B e v l) (hB : B ≤ w.heap.size)
    (xa : Option Addr) (m c : Nat) (news : List UInt8) (hx : a.eval x = .slice xa m c) (hat : BytesAt w xa m c news)
    (hlen : l.length + m ≤ 140737488355328)
    (h : ∀ va vn vc w', OwnsB w' B e (.slice va vn vc) (l ++ news) → BytesAt w' va vn vc (l ++ news) → Below B w w' → wpList P ops Q rest (a.put o.dst (.slice va vn vc)) w') : wpList P ops Q (o :: rest) a w := by
  obtain ⟨i0, hi, hz0, hz1, hz2⟩ := info_parts hinfo
  obtain ⟨h1, h2, h3, h4, h5, h6⟩ := hat
  subst h1
  cases xa with
  | none =>
    have : c = 0 := h4 rfl
    have h0 : news = [] := List.eq_nil_of_length_eq_zero (by omega)
    subst h0 this
    refine wpList_append_own_none hgd s x t ho B e i0 1 ht hi v l.length (l.map byteV) hs hown hx ?_
    obtain ⟨va, vn, vc, rfl, hat⟩ := hown.at
    exact h va vn vc w (by rw [List.append_nil]; exact hown) (by rw [List.append_nil]; exact hat) (Below.refl _ _)
  | some ad =>
    refine wpList_append_own _ hgd s x t ho B e i0 (.int .u8 0) 1 1 ht hi hz0 hz1 hz2 rfl (by decide) v l.length (l.map byteV) hs hown ad news.length c (news.map byteV) hx (by simp) (fun j u hu => ?_) byteV_one (by unfold maxLen; omega) (by omega) hB ?_
    · rw [List.getElem?_map] at hu
      obtain ⟨z, hz, rfl⟩ := Option.map_eq_some_iff.1 hu
      obtain ⟨hj, rfl⟩ := List.getElem?_eq_some_iff.1 hz
      exact h6 ad rfl j hj
    · intro v' w' hown' hgrow _
      have hown2 : OwnsB w' B e v' (l ++ news) := by
        show w'.ownsRow B e 1 v' (l ++ news).length ((l ++ news).map byteV)
        rw [List.map_append, List.length_append]
        exact hown'
      obtain ⟨va, vn, vc, rfl, hat⟩ := hown2.at
      exact h va vn vc w' hown2 hat (Below.grown (Below.refl B w) hgrow hB (fun k hk => (hown.lt k hk).1))
/-- An empty row that was just written out ('[]byte{}') is the call's own. -/
theorem OwnsB.empty (w : World) (e : TypeId) : OwnsB (w.alloc (.cells #[] e)) w.heap.size e (.slice (some ⟨w.heap.size, 0, none⟩) 0 0) [] :=
  OwnsB.built [] #[] 0 rfl (Nat.le_refl _) rfl (Nat.zero_le _)
theorem OwnsB.mono {w : World} {B B' : Nat} {e : TypeId} {v : Value} {l : List UInt8} (h : OwnsB w B e v l) (hB : B' ≤ B) : OwnsB w B' e v l := by
  refine ⟨h.1, ?_⟩
  rcases h.2 with hn | ⟨g, cap, cur, rfl, hg, rest⟩
  · exact .inl hn
  · exact .inr ⟨g, cap, cur, rfl, Nat.le_trans hB hg, rest⟩
end Go.Proofs.YtfnkmigcklmghaaDoor

/- A slice of numbers of 64 bits: one that is read, and one that the call made itself: told by the list of its numbers. Nothing of the program is named here. -/
namespace Go.Proofs.YtfnkmigcklmghaaDoor
open Go.RowKit (wrap64 intOf Below)
set_option linter.unusedVariables false

def numV (z : Int) : Value := .int .i64 z
theorem nth_is {Z : List Int} {j : Nat} (h : j < Z.length) : nth Z j = Z[j] := by
  unfold nth; rw [List.getD_eq_getElem?_getD, List.getElem?_eq_getElem h]; rfl
/-- The slice at a, of n numbers, reads as Z. -/
def NumsAt (w : World) (a : Option Addr) (n : Nat) (Z : List Int) : Prop :=
  Z.length = n ∧ (0 < n → ∃ g off, a = some ⟨g, off, none⟩ ∧ g < w.heap.size ∧ ∀ j (h : j < Z.length), w.cell? ⟨g, off + j, none⟩ = some (numV Z[j]))
theorem NumsAt.nil (w : World) (a : Option Addr) : NumsAt w a 0 [] := ⟨rfl, fun h => absurd h (by omega)⟩
theorem NumsAt.below {w w' : World} {a : Option Addr} {n : Nat} {Z : List Int} {B : Nat} (h : NumsAt w a n Z) (hb : Below B w w') (hB : w.heap.size ≤ B) : NumsAt w' a n Z := by
  refine ⟨h.1, fun hn => ?_⟩
  obtain ⟨g, off, e, hg, hc⟩ := h.2 hn
  refine ⟨g, off, e, Nat.lt_of_lt_of_le hg hb.size, fun j hj => ?_⟩
  rw [hb.cell (p := ⟨g, off + j, none⟩) (Nat.lt_of_lt_of_le hg hB)]
  exact hc j hj
theorem NumsAt.since {w w' : World} {a : Option Addr} {n : Nat} {Z : List Int} (h : NumsAt w a n Z) (hb : Below w.heap.size w w') : NumsAt w' a n Z := h.below hb (Nat.le_refl _)
theorem NumsAt.drewN {w : World} {a : Option Addr} {n : Nat} {Z : List Int} (h : NumsAt w a n Z) (q : Nat) : NumsAt (w.drewN q) a n Z :=
  h.below (B := w.heap.size) ⟨rfl, rfl, rfl, Nat.le_refl _, fun _ _ => rfl⟩ (Nat.le_refl _)
/-- What came in. -/
theorem IntsAt.nums {w : World} {v : Value} {Z : List Int} (h : IntsAt w v Z) : ∃ a c, v = .slice a Z.length c ∧ NumsAt w a Z.length Z := by
  rcases h with ⟨rfl, rfl⟩ | ⟨⟨b, off, spot⟩, c, rfl, hl, hlt, hc⟩
  · exact ⟨none, 0, rfl, NumsAt.nil w none⟩
  · refine ⟨_, c, rfl, rfl, fun hn => ?_⟩
    have hs : spot = none := by simpa [Addr.add] using World.cell?_spot (hc 0 hn)
    subst hs
    refine ⟨b, off, rfl, hlt 0 hn, fun j hj => ?_⟩
    have := hc j hj
    rw [addr_plain, nth_is hj] at this
    exact this
theorem CellsAt.nums {w : World} {g off : Nat} {Z : List Int} (h : CellsAt w g off Z) (hg : g < w.heap.size) : NumsAt w (some ⟨g, off, none⟩) Z.length Z :=
  ⟨rfl, fun _ => ⟨g, off, rfl, hg, fun j hj => by rw [h j hj, nth_is hj]; rfl⟩⟩

/-- The slice v is the call's own (from block B on) and holds the numbers Z. -/
def OwnsI (w : World) (B : Nat) (e : TypeId) (v : Value) (Z : List Int) : Prop := w.ownsRow B e 1 v Z.length (Z.map numV)
theorem OwnsI.lt {w : World} {B : Nat} {e : TypeId} {v : Value} {Z : List Int} (h : OwnsI w B e v Z) : ∀ k, v.ownBlock = some k → B ≤ k ∧ k < w.heap.size := World.ownsRow.lt h
theorem OwnsI.made {w : World} {B : Nat} {e : TypeId} (cur : Array Value) (cap : Nat) (hB : B ≤ w.heap.size) (hm : cap ≤ maxLen) (hs : cur.size = cap) : OwnsI (w.alloc (.cells cur e)) B e (.slice (some ⟨w.heap.size, 0, none⟩) 0 cap) [] :=
  World.ownsRow_made w cur cap hB hm (by rw [hs, Nat.mul_one])
theorem OwnsI.below {w w' : World} {B : Nat} {e : TypeId} {v : Value} {Z : List Int} (h : OwnsI w B e v Z) (hb : Below w.heap.size w w') : OwnsI w' B e v Z := by
  refine ⟨h.1, ?_⟩
  rcases h.2 with hn | ⟨g, cap, cur, rfl, hB, hg, rest⟩
  · exact .inl hn
  · refine .inr ⟨g, cap, cur, rfl, hB, ?_, rest⟩
    rw [hb.block g (Array.getElem?_eq_some_iff.1 hg).1]
    exact hg
theorem OwnsI.mono {w : World} {B B' : Nat} {e : TypeId} {v : Value} {Z : List Int} (h : OwnsI w B e v Z) (hB : B' ≤ B) : OwnsI w B' e v Z := by
  refine ⟨h.1, ?_⟩
  rcases h.2 with hn | ⟨g, cap, cur, rfl, hg, rest⟩
  · exact .inl hn
  · exact .inr ⟨g, cap, cur, rfl, Nat.le_trans hB hg, rest⟩
theorem OwnsI.nums {w : World} {B : Nat} {e : TypeId} {v : Value} {Z : List Int} (h : OwnsI w B e v Z) : ∃ a n c, v = .slice a n c ∧ NumsAt w a n Z := by
  have hown := h
  rcases h.2 with ⟨rfl, h0⟩ | ⟨g, cap, cur, rfl, hB, hg, h1, h2, _⟩
  · obtain rfl := List.eq_nil_of_length_eq_zero h0
    exact ⟨none, 0, 0, rfl, NumsAt.nil w none⟩
  · refine ⟨_, _, cap, rfl, rfl, fun _ => ⟨g, 0, rfl, (hown.lt g rfl).2, fun j hj => ?_⟩⟩
    have := World.ownsRow.cells hown (g := g) rfl j (numV Z[j]) (by rw [List.getElem?_map, List.getElem?_eq_getElem hj]; rfl)
    rwa [addr_plain] at this
/-- 'append(l, z)': a number behind the others. -/
theorem wpList_append_num {P : Program} (w : World) {ops : Array Oper} {rest : List Oper} {o : Oper} {a : Act} {Q : Exit → Act → World → Prop} (hgd : o.guard = none) (s x : Operand) (t : TypeId)
    (ho : o.op = .call { callee := .builtin .append, args := #[s, x], argTypes := #[t, t] }) (e : TypeId) (ht : P.underlying t = some (.slice e))
    (hinfo : (P.info? e).map (fun i => (i.zero, i.size, i.bytes)) = some (some (.int .i64 0), 1, 8))
    (B : Nat) (v : Value) (Z : List Int) (hs : a.eval s = v) (hown : OwnsI w B e v Z) (hB : B ≤ w.heap.size)
    (C : Array Value) (c g : Nat) (z : Int) (hx : a.eval x = .slice (some ⟨g, 0, none⟩) 1 c) (hg : g = w.heap.size) (hC : C = #[.int .i64 z])
    (hlen : (Z.length + 1) * 8 ≤ 140737488355328)
    (h : ∀ v' w', OwnsI w' B e v' (Z ++ [z]) → Below B w w' → wpList P ops Q rest (a.put o.dst v') w') : wpList P ops Q (o :: rest) a (w.alloc (.cells C e)) := by
  obtain ⟨i0, hi, hz0, hz1, hz2⟩ := info_parts hinfo
  subst hC hg
  refine wpList_append_own _ hgd s x t ho B e i0 (.int .i64 0) 1 8 ht hi hz0 hz1 hz2 rfl (by decide) v Z.length (Z.map numV) hs (World.ownsRow.alloc hown _) ⟨w.heap.size, 0, none⟩ 1 c [.int .i64 z] hx rfl (fun j u hu => ?_) (by intro u hu; simp at hu; subst hu; rfl) (by unfold maxLen; omega) hlen (by simp; omega) ?_
  · rw [addr_plain, Nat.zero_add, World.cell?_alloc_mark]
    simpa using hu
  · intro v' w' hown' hgrow _
    refine h v' w' ?_ ?_
    · show w'.ownsRow B e 1 v' (Z ++ [z]).length ((Z ++ [z]).map numV)
      rw [List.map_append, List.length_append]
      exact hown'
    · exact Below.grown ((Below.refl B w).alloc hB _) hgrow (by simp; omega) (fun k hk => (hown.lt k hk).1)

/-- 'append([]int64{}, l...)' as one step of a region that draws its order. -/
theorem step_copy_nums {P : Program} {u : World} {ops : Array Oper} {o : Oper} {a : Act} {K : Act → World → Prop} {Q : Exit → Act → World → Prop} {E : Prop} (hgd : o.guard = none) (s x : Operand) (t : TypeId)
    (ho : o.op = .call { callee := .builtin .append, args := #[s, x], argTypes := #[t, t] }) (e : TypeId) (ht : P.underlying t = some (.slice e))
    (hinfo : (P.info? e).map (fun i => (i.zero, i.size, i.bytes)) = some (some (.int .i64 0), 1, 8))
    (b : Addr) (hs : a.eval s = .slice (some b) 0 0) (xv : Value) (Z : List Int) (hx : a.eval x = xv) (hat : IntsAt u xv Z)
    (h : ∀ va n c w', NumsAt w' va n Z → Below u.heap.size u w' → K (a.put o.dst (.slice va n c)) w') :
    if Region.wanted o (yielded ops a.tmps) = true then Oper.wp P o a u K Q else E := by
  have hw : Region.wanted o (yielded ops a.tmps) = true := by simp [Region.wanted, hgd]
  rw [if_pos hw]
  obtain ⟨i0, hi, hz0, hz1, hz2⟩ := info_parts hinfo
  rcases hat with ⟨rfl, rfl⟩ | ⟨ad, c, rfl, hlen, _, hcell⟩
  · have hrun : (Builtin.append_ #[t, t] o.type #[.slice (some b) 0 0, .slice none 0 0]).run P u = .ok (.slice (some b) 0 0) u := by
      simp [Builtin.append_, run_underlying ht, sizeOf, typeInfo, hi, Builtin.lenOf, Builtin.firstCells, storeCells]
    unfold Oper.wp
    simp [execOp, ho, resolve, invoke, builtin, hs, hx, hrun, Result.andThen]
    exact h (some b) 0 0 u (NumsAt.nil u _) (Below.refl _ _)
  · by_cases h0 : Z.length = 0
    · have hZ := List.eq_nil_of_length_eq_zero h0
      subst hZ
      have hrun : (Builtin.append_ #[t, t] o.type #[.slice (some b) 0 0, .slice (some ad) 0 c]).run P u = .ok (.slice (some b) 0 0) u := by
        simp [Builtin.append_, run_underlying ht, sizeOf, typeInfo, hi, Builtin.lenOf, Builtin.firstCells, storeCells, loadCells, loadCellsFrom]
      unfold Oper.wp
      simp [execOp, ho, resolve, invoke, builtin, hs, hx, hrun, Result.andThen]
      exact h (some b) 0 0 u (NumsAt.nil u _) (Below.refl _ _)
    · have hrun := run_append_grow (P := P) (w := u) t o.type e i0 (.int .i64 0) ht hi hz0 b 0 0 [] (by simp) (fun j v hj => by simp at hj) ad Z.length c (Z.map numV) (by rw [hz1]; simp) (fun j y hy => by
        rw [List.getElem?_map] at hy
        obtain ⟨z, hz, rfl⟩ := Option.map_eq_some_iff.1 hy
        obtain ⟨hj, rfl⟩ := List.getElem?_eq_some_iff.1 hz
        rw [hcell j hj, nth_is hj]; rfl) (by omega) (by omega) (by rw [hz2]; exact growslice_fits (by omega) (by omega))
      have hnum : NumsAt (u.drew.alloc (.cells (#[] ++ (Z.map numV).toArray ++ Builtin.zeroCells (Value.int .i64 0).cells (grownCap u (0 + Z.length) 0 e - (0 + Z.length))) e)) (some ⟨u.heap.size, 0, none⟩) Z.length Z := by
        refine ⟨rfl, fun hn => ⟨u.heap.size, 0, rfl, by simp, fun j hj => ?_⟩⟩
        have hm := World.cell?_alloc_mark u.drew (#[] ++ (Z.map numV).toArray ++ Builtin.zeroCells (Value.int .i64 0).cells (grownCap u (0 + Z.length) 0 e - (0 + Z.length))) e (0, 0) j
        rw [Nat.zero_add j]
        refine Eq.trans hm ?_
        rw [Array.getElem?_append_left (by simpa using hj)]
        simp [hj]
      have hb : Below u.heap.size u (u.drew.alloc (.cells (#[] ++ (Z.map numV).toArray ++ Builtin.zeroCells (Value.int .i64 0).cells (grownCap u (0 + Z.length) 0 e - (0 + Z.length))) e)) := ((Below.refl u.heap.size u).drew).alloc (Nat.le_refl _) _
      have hk := h _ _ (grownCap u (0 + Z.length) 0 e) _ hnum hb
      have e0 : (0 : Nat) + Z.length = Z.length := Nat.zero_add _
      unfold Oper.wp
      simp only [execOp, ho, resolve, invoke, builtin, List.map_toArray, List.map_cons, List.map_nil, hs, hx, Sem.run_bind, Sem.run_pure, Result.andThen_ok, hrun]
      rw [e0] at hk ⊢
      first | exact hk | exact Or.inl hk
/-- The same as a step of a walk. -/
theorem wpList_copy_nums {P : Program} (w : World) {ops : Array Oper} {rest : List Oper} {o : Oper} {a : Act} {Q : Exit → Act → World → Prop} (hgd : o.guard = none) (s x : Operand) (t : TypeId)
    (ho : o.op = .call { callee := .builtin .append, args := #[s, x], argTypes := #[t, t] }) (e : TypeId) (ht : P.underlying t = some (.slice e))
    (hinfo : (P.info? e).map (fun i => (i.zero, i.size, i.bytes)) = some (some (.int .i64 0), 1, 8))
    (g0 : Nat) (hs : a.eval s = .slice (some ⟨g0, 0, none⟩) 0 0) (hg0 : w.heap[g0]? = some (.cells #[] e (0, 0))) (hlt0 : g0 < w.heap.size)
    (xv : Value) (Z : List Int) (hx : a.eval x = xv) (hat : IntsAt w xv Z)
    (h : ∀ va n c w', NumsAt w' va n Z → Below g0 w w' → wpList P ops Q rest (a.put o.dst (.slice va n c)) w') : wpList P ops Q (o :: rest) a w := by
  refine wpList_copy_ints w hgd s x t ho e ht hinfo g0 hs hg0 hlt0 xv Z hx hat ?_
  intro g cap w' hg hlt hn hm hc hb
  exact h _ _ _ w' (CellsAt.nums hc hlt) hb
end Go.Proofs.YtfnkmigcklmghaaDoor

/- Slices of numbers of 64 bits, more: appended to a row of the call's own from whatever is read; copied to a row that was just written out. Nothing of the program is named here. -/
namespace Go.Proofs.YtfnkmigcklmghaaDoor
open Go.RowKit (wrap64 intOf Below)
set_option linter.unusedVariables false

theorem NumsAt.at {w : World} {a : Option Addr} {n : Nat} {Z : List Int} (h : NumsAt w a n Z) (hn : 0 < n) : ∃ ad, a = some ad ∧ ∀ j (h : j < Z.length), w.cell? (ad.add j) = some (numV Z[j]) := by
  obtain ⟨g, off, rfl, _, hc⟩ := h.2 hn
  exact ⟨_, rfl, fun j hj => by rw [addr_plain]; exact hc j hj⟩
theorem OwnsI.read {w : World} {B : Nat} {e : TypeId} {a : Option Addr} {n c : Nat} {Z : List Int} (h : OwnsI w B e (.slice a n c) Z) : NumsAt w a n Z := by
  obtain ⟨a', n', c', he, hat⟩ := h.nums
  cases he
  exact hat
theorem OwnsI.empty (w : World) (e : TypeId) : OwnsI (w.alloc (.cells #[] e)) w.heap.size e (.slice (some ⟨w.heap.size, 0, none⟩) 0 0) [] :=
  OwnsI.made #[] 0 (Nat.le_refl _) (Nat.zero_le _) rfl

theorem OwnsI.laid {w : World} {e : TypeId} {n B : Nat} (hn : n = w.heap.size) (hB : B ≤ n) : OwnsI (w.alloc (.cells #[] e)) B e (.slice (some ⟨n, 0, none⟩) 0 0) [] := by
  subst hn; exact OwnsI.made #[] 0 hB (Nat.zero_le _) rfl
theorem OwnsI.setCell {w : World} {B : Nat} {e : TypeId} {v : Value} {Z : List Int} (h : OwnsI w B e v Z) (p : Addr) (x : Value) (hp : p.block < B) : OwnsI (w.setCell p x) B e v Z := by
  refine ⟨h.1, ?_⟩
  rcases h.2 with hn | ⟨g, cap, cur, rfl, hg, hh, rest⟩
  · exact .inl hn
  · refine .inr ⟨g, cap, cur, rfl, hg, ?_, rest⟩
    rw [Below.heap_setCell _ _ _ _ (by omega)]
    exact hh
/-- 'append(b, x...)': b the call's own, x whatever is read. -/
theorem wpList_append_nums {P : Program} (w : World) {ops : Array Oper} {rest : List Oper} {o : Oper} {a : Act} {Q : Exit → Act → World → Prop} (hgd : o.guard = none) (s x : Operand) (t : TypeId)
    (ho : o.op = .call { callee := .builtin .append, args := #[s, x], argTypes := #[t, t] }) (e : TypeId) (ht : P.underlying t = some (.slice e))
    (hinfo : (P.info? e).map (fun i => (i.zero, i.size, i.bytes)) = some (some (.int .i64 0), 1, 8))
    (B : Nat) (v : Value) (Z : List Int) (hs : a.eval s = v) (hown : OwnsI w B e v Z) (hB : B ≤ w.heap.size)
    (xa : Option Addr) (m c : Nat) (news : List Int) (hx : a.eval x = .slice xa m c) (hnil : xa = none → c = 0) (hat : NumsAt w xa m news)
    (hlen : (Z.length + m) * 8 ≤ 140737488355328)
    (h : ∀ va vn vc w', OwnsI w' B e (.slice va vn vc) (Z ++ news) → Below B w w' → wpList P ops Q rest (a.put o.dst (.slice va vn vc)) w') : wpList P ops Q (o :: rest) a w := by
  obtain ⟨i0, hi, hz0, hz1, hz2⟩ := info_parts hinfo
  have h1 := hat.1
  cases xa with
  | none =>
    have hm : m = 0 := by
      by_cases h0 : 0 < m
      · obtain ⟨g, off, he, _⟩ := hat.2 h0; cases he
      · omega
    have hc : c = 0 := hnil rfl
    subst hm hc
    have h0 : news = [] := List.eq_nil_of_length_eq_zero h1
    subst h0
    refine wpList_append_own_none hgd s x t ho B e i0 1 ht hi v Z.length (Z.map numV) hs hown hx ?_
    obtain ⟨va, vn, vc, rfl, hat⟩ := hown.nums
    exact h va vn vc w (by rw [List.append_nil]; exact hown) (Below.refl _ _)
  | some ad =>
    subst h1
    refine wpList_append_own _ hgd s x t ho B e i0 (.int .i64 0) 1 8 ht hi hz0 hz1 hz2 rfl (by decide) v Z.length (Z.map numV) hs hown ad news.length c (news.map numV) hx (by simp) (fun j u hu => ?_) (fun u hu => by obtain ⟨z, _, rfl⟩ := List.mem_map.1 hu; rfl) (by unfold maxLen; omega) hlen hB ?_
    · rw [List.getElem?_map] at hu
      obtain ⟨z, hz, rfl⟩ := Option.map_eq_some_iff.1 hu
      obtain ⟨hj, rfl⟩ := List.getElem?_eq_some_iff.1 hz
      obtain ⟨ad', he, hcell⟩ := hat.at (by omega)
      cases he
      exact hcell j hj
    · intro v' w' hown' hgrow _
      have hown2 : OwnsI w' B e v' (Z ++ news) := by
        show w'.ownsRow B e 1 v' (Z ++ news).length ((Z ++ news).map numV)
        rw [List.map_append, List.length_append]
        exact hown'
      obtain ⟨va, vn, vc, rfl, hat⟩ := hown2.nums
      exact h va vn vc w' hown2 (Below.grown (Below.refl B w) hgrow hB (fun k hk => (hown.lt k hk).1))

/-- 'append([]int{}, x...)': nothing that was there turns; what comes is new, or the empty row itself. -/
theorem run_copy_read {P : Program} (w : World) (t ty e : TypeId) (ht : P.underlying t = some (.slice e)) (hinfo : (P.info? e).map (fun i => (i.zero, i.size, i.bytes)) = some (some (.int .i64 0), 1, 8))
    (b : Addr) (xa : Option Addr) (m c : Nat) (Z : List Int) (hat : NumsAt w xa m Z) (hlen : m * 8 ≤ 140737488355328) :
    ∃ va vc w', (Builtin.append_ #[t, t] ty #[.slice (some b) 0 0, .slice xa m c]).run P w = .ok (.slice (some va) m vc) w' ∧ NumsAt w' (some va) m Z ∧ Below w.heap.size w w' := by
  obtain ⟨i0, hi, hz0, hz1, hz2⟩ := info_parts hinfo
  by_cases h0 : 0 < m
  · obtain ⟨ad, rfl, hcell⟩ := hat.at h0
    have h1 := hat.1
    subst h1
    have hrun := run_append_grow (P := P) (w := w) t ty e i0 (.int .i64 0) ht hi hz0 b 0 0 [] (by simp) (fun j v hj => by simp at hj) ad Z.length c (Z.map numV) (by rw [hz1]; simp) (fun j y hy => by
      rw [List.getElem?_map] at hy
      obtain ⟨z, hz, rfl⟩ := Option.map_eq_some_iff.1 hy
      obtain ⟨hj, rfl⟩ := List.getElem?_eq_some_iff.1 hz
      exact hcell j hj) (by omega) (by omega) (by rw [hz2]; exact growslice_fits (by omega) (by omega))
    have hnum : NumsAt (w.drew.alloc (.cells (#[] ++ (Z.map numV).toArray ++ Builtin.zeroCells (Value.int .i64 0).cells (grownCap w (0 + Z.length) 0 e - (0 + Z.length))) e)) (some ⟨w.heap.size, 0, none⟩) Z.length Z := by
      refine ⟨rfl, fun hn => ⟨w.heap.size, 0, rfl, by simp, fun j hj => ?_⟩⟩
      have hm := World.cell?_alloc_mark w.drew (#[] ++ (Z.map numV).toArray ++ Builtin.zeroCells (Value.int .i64 0).cells (grownCap w (0 + Z.length) 0 e - (0 + Z.length))) e (0, 0) j
      rw [Nat.zero_add j]
      refine Eq.trans hm ?_
      rw [Array.getElem?_append_left (by simpa using hj)]
      simp [hj]
    have e0 : (0 : Nat) + Z.length = Z.length := Nat.zero_add _
    rw [e0] at hrun hnum
    exact ⟨_, _, _, hrun, hnum, ((Below.refl w.heap.size w).drew).alloc (Nat.le_refl _) _⟩
  · obtain rfl : m = 0 := by omega
    have hZ := List.eq_nil_of_length_eq_zero hat.1
    subst hZ
    refine ⟨b, 0, w, ?_, NumsAt.nil w _, Below.refl _ _⟩
    cases xa <;> simp [Builtin.append_, run_underlying ht, sizeOf, typeInfo, hi, Builtin.lenOf, Builtin.firstCells, storeCells, loadCells, loadCellsFrom]
theorem wpList_copy_read {P : Program} (w : World) {ops : Array Oper} {rest : List Oper} {o : Oper} {a : Act} {Q : Exit → Act → World → Prop} (hgd : o.guard = none) (s x : Operand) (t : TypeId)
    (ho : o.op = .call { callee := .builtin .append, args := #[s, x], argTypes := #[t, t] }) (e : TypeId) (ht : P.underlying t = some (.slice e))
    (hinfo : (P.info? e).map (fun i => (i.zero, i.size, i.bytes)) = some (some (.int .i64 0), 1, 8))
    (b : Addr) (hs : a.eval s = .slice (some b) 0 0) (xa : Option Addr) (m c : Nat) (Z : List Int) (hx : a.eval x = .slice xa m c) (hat : NumsAt w xa m Z) (hlen : m * 8 ≤ 140737488355328)
    (h : ∀ va vc w', NumsAt w' (some va) m Z → Below w.heap.size w w' → wpList P ops Q rest (a.put o.dst (.slice (some va) m vc)) w') : wpList P ops Q (o :: rest) a w := by
  obtain ⟨va, vc, w', hrun, hn, hb⟩ := run_copy_read (P := P) w t o.type e ht hinfo b xa m c Z hat hlen
  refine wpList_plain hgd fun K hK => ?_
  unfold Oper.wp
  simp only [execOp, ho, resolve, invoke, builtin, List.map_toArray, List.map_cons, List.map_nil, hs, hx, Sem.run_bind, Sem.run_pure, Result.andThen_ok, hrun]
  exact hK _ _ (h va vc w' hn hb)
/-- The same as one step of a region that draws its order. -/
theorem step_copy_read {P : Program} {u : World} {ops : Array Oper} {o : Oper} {a : Act} {K : Act → World → Prop} {Q : Exit → Act → World → Prop} {E : Prop} (hgd : Region.wanted o (yielded ops a.tmps) = true) (s x : Operand) (t : TypeId)
    (ho : o.op = .call { callee := .builtin .append, args := #[s, x], argTypes := #[t, t] }) (e : TypeId) (ht : P.underlying t = some (.slice e))
    (hinfo : (P.info? e).map (fun i => (i.zero, i.size, i.bytes)) = some (some (.int .i64 0), 1, 8))
    (b : Addr) (hs : a.eval s = .slice (some b) 0 0) (xa : Option Addr) (m c : Nat) (Z : List Int) (hx : a.eval x = .slice xa m c) (hat : NumsAt u xa m Z) (hlen : m * 8 ≤ 140737488355328)
    (h : ∀ va vc w', NumsAt w' (some va) m Z → Below u.heap.size u w' → K (a.put o.dst (.slice (some va) m vc)) w') :
    if Region.wanted o (yielded ops a.tmps) = true then Oper.wp P o a u K Q else E := by
  rw [if_pos hgd]
  obtain ⟨va, vc, w', hrun, hn, hb⟩ := run_copy_read (P := P) u t o.type e ht hinfo b xa m c Z hat hlen
  have hk := h va vc w' hn hb
  unfold Oper.wp
  simp only [execOp, ho, resolve, invoke, builtin, List.map_toArray, List.map_cons, List.map_nil, hs, hx, Sem.run_bind, Sem.run_pure, Result.andThen_ok, hrun]
  first | exact hk | exact Or.inl hk
theorem below_alloc {w u : World} {o : Obj} (h : Below w.heap.size w u) : Below w.heap.size w (u.alloc o) := h.alloc h.size o
theorem below_drewN {B : Nat} {w u : World} (q : Nat) (h : Below B w u) : Below B w (u.drewN q) := h.trans ⟨rfl, rfl, rfl, Nat.le_refl _, fun _ _ => rfl⟩
end Go.Proofs.YtfnkmigcklmghaaDoor

/- From a walk to a row: a law that returns true and leaves all that was there as it was keeps its promise: each argument reads behind the call as it read before. Nothing of the program is named here. -/
namespace Go.Proofs.YtfnkmigcklmghaaDoor
open Go.ChangeShapes Go.WideShapes Go.ChangeAt Go.RowKit

section
variable {H : Type} {enc : TypeId × Value → H} {P : Program}

/-- All arguments read as they did, if below the old heap's size nothing has turned. -/
theorem trodAll_stays (hl : laidOutB P = true) {W W' : World} (hb : Below W.heap.size W W') : ∀ {ts : List TypeId} {vs : List Value} {ds : List (DataW H)} {ps : List MemPlace},
    (∀ t ∈ ts, P.readableRec t = true ∧ t < P.types.size) → DataW.TrodAll enc P W 0 (fun _ => true) true ts vs ds ps → (∀ x ∈ ps, x.block < W.heap.size) →
    DataW.TrodAll enc P W' 0 (fun b => decide (b < W.heap.size)) true ts vs ds ps
  | [], _, _, _, _, h, _ => by
    obtain ⟨rfl, rfl, rfl⟩ := trodAll_nil h
    exact trodAll_mk0
  | t :: ts, _, _, _, ht, h, hlt => by
    obtain ⟨v, vs, d, ds, p, q, rfl, rfl, rfl, h0, hr⟩ := trodAll_cons h
    have h1 := ht t (by simp)
    exact trodAll_cons_mk (Below.trod hl h1.1 h1.2 h0 hb (fun x hx => hlt x (by simp [hx]))) (trodAll_stays hl hb (fun u hu => ht u (by simp [hu])) hr (fun x hx => hlt x (by simp [hx])))

/-- The promise of a law, kept. -/
theorem law_post {f : Func} {s : ChangeSpec} {apart : Bool} {W W' : World} {args : Array Value} {ds gs : List (DataW H)} {before : List MemPlace} {tb : TypeId}
    (hl : laidOutB P = true) (hts : ∀ t ∈ f.params.toList, P.readableRec t = true ∧ t < P.types.size) (hrs : f.resultTypes = #[tb]) (htb : P.underlying tb = some .bool) (hvars : s.vars = [])
    (hfn : s.fn H (ds ++ gs) = { results := [.lit (.bool true)], args := ds }) (hW : DataW.Whole enc P f.params.toList s.vars apart W args.toList ds gs before) (hb : Below W.heap.size W W') :
    s.post enc P f apart true false false W args (.bool true) W' := by
  have hW' := hW
  obtain ⟨p, q, hA, hV, hps, hfz, hnd⟩ := hW
  refine ⟨ds, gs, before, [], p, [], hW', ?_, ?_, ?_, hb.frame _, fun h => by cases h⟩
  · rw [hfn, hrs]
    exact trodAll_cons_mk (shut_bool htb _) trodAll_mk0
  · rw [hfn]
    exact trodAll_stays hl hb hts hA (fun x hx => hW'.lt x (by rw [hps]; simp [hx]))
  · rw [hfn, hvars]; rfl

/-- A slice of numbers of 64 bits that came in, opened. -/
theorem open_ints_at {W : World} {v : Value} {d : DataW H} {p : List MemPlace} {t e : TypeId} {ts : List TypeId} {ds : List (DataW H)} {j : Nat} (ht : P.underlying t = some (.slice e)) (he : P.underlying e = some (.int .i64)) (hc : P.cellsOf e = 1) (h8 : P.bytesOf e = 8)
    (hv : Value.okWide P W .any 0 t v) (h : DataW.Trod enc P W 0 (fun _ => true) true t v d p) (hlt : ∀ x ∈ p, x.block < W.heap.size)
    (hsz : (DataW.weightsEach P ts ds).all (· ≤ reachBytes) = true) (hj : ts[j]? = some t) (hd : ds[j]? = some d) :
    ∃ zs : List Int, IntsAt W v zs ∧ ∀ i, -9223372036854775808 ≤ nth zs i ∧ nth zs i ≤ 9223372036854775807 := by
  obtain ⟨a0, len, cap, rfl⟩ := okWide_slice ht hv
  obtain ⟨fuel, hf⟩ := h
  rcases open_ints ht he hc hf with ⟨hcs, hx⟩ | ⟨a, len', cap', zs, hcs, _, hl, hm, hz, hx, hcell, hwz⟩
  · simp [Value.cells] at hcs
    obtain ⟨rfl, rfl, rfl⟩ := hcs
    exact ⟨[], Or.inl ⟨rfl, rfl⟩, fun i => by unfold nth; simp⟩
  · simp [Value.cells] at hcs
    obtain ⟨rfl, rfl, rfl⟩ := hcs
    simp only [Prod.mk.injEq] at hx
    obtain ⟨rfl, rfl⟩ := hx
    simp only [if_true] at hz
    have hr := sized_slice hsz hj hd ht
    rw [h8] at hr
    simp only [lits, List.length_map, List.length_take, List.length_drop, reachBytes] at hr
    have hlen : (zs.take len).length = len := by simp; omega
    refine ⟨zs.take len, Or.inr ⟨a, cap, by rw [hlen], by omega, fun i hi => hlt (.cell a.block (a.off + i)) (MemPlace.mem_row.2 ⟨i, by omega, rfl⟩), fun i hi => ?_⟩, fun i => ?_⟩
    · rw [nth_take zs len i (by omega)]
      exact hcell i (by omega)
    · by_cases hi : i < len
      · rw [nth_take zs len i hi, List.getD_eq_getElem?_getD, List.getElem?_eq_getElem (by omega)]
        exact wf_i64_range (hwz _ (List.getElem_mem _))
      · unfold nth
        rw [List.getD_eq_getElem?_getD, List.getElem?_eq_none (by omega)]
        simp
end
end Go.Proofs.YtfnkmigcklmghaaDoor

/- From a reading to a walk: a slice of bytes, or of numbers of 64 bits, that came in: what it reads as, and how much it is. Nothing of the program is named here. -/
namespace Go.Proofs.YtfnkmigcklmghaaDoor
open Go.ChangeShapes Go.WideShapes Go.ChangeAt Go.RowKit

section
variable {H : Type} {enc : TypeId × Value → H} {P : Program}

/-- How much a datum is that is a slice of numbers: as many as it has, at the least. -/
def SliceOf (k : IntKind) (n : Nat) (d : DataW H) : Prop := n = 0 ∨ ∃ (zs ys : List Int), d = .slice (lits k zs) (lits k ys) ∧ zs.length = n

theorem wf_u8_range {n : Int} (h : (Lit.int .u8 n).wf = true) : 0 ≤ n ∧ n ≤ 255 := by
  simp [Lit.wf, IntKind.min, IntKind.max, IntKind.signed, IntKind.bits] at h
  omega

/-- A slice of bytes that came in, opened. -/
theorem open_bytes_at {W : World} {v : Value} {d : DataW H} {p : List MemPlace} {t e : TypeId} {ts : List TypeId} {ds : List (DataW H)} {j : Nat} (ht : P.underlying t = some (.slice e)) (he : P.underlying e = some (.int .u8)) (hc : P.cellsOf e = 1) (h8 : P.bytesOf e = 1)
    (hv : Value.okWide P W .any 0 t v) (h : DataW.Trod enc P W 0 (fun _ => true) true t v d p) (hlt : ∀ x ∈ p, x.block < W.heap.size)
    (hsz : (DataW.weightsEach P ts ds).all (· ≤ reachBytes) = true) (hj : ts[j]? = some t) (hd : ds[j]? = some d) :
    ∃ (a : Option Addr) (n c : Nat) (L : List UInt8), v = .slice a n c ∧ BytesAt W a n c L ∧ n ≤ 140737488351232 ∧ SliceOf .u8 n d := by
  obtain ⟨a0, len, cap, rfl⟩ := okWide_slice ht hv
  obtain ⟨fuel, hf⟩ := h
  rcases open_ints ht he hc hf with ⟨hcs, hx⟩ | ⟨a, len', cap', zs, hcs, _, hl, hm, hz, hx, hcell, hwz⟩
  · simp [Value.cells] at hcs
    obtain ⟨rfl, rfl, rfl⟩ := hcs
    exact ⟨none, 0, 0, [], rfl, BytesAt.nil W, Nat.zero_le _, Or.inl rfl⟩
  · simp [Value.cells] at hcs
    obtain ⟨rfl, rfl, rfl⟩ := hcs
    simp only [Prod.mk.injEq] at hx
    obtain ⟨rfl, rfl⟩ := hx
    simp only [if_true] at hz
    have hr := sized_slice hsz hj hd ht
    rw [h8] at hr
    simp only [lits, List.length_map, List.length_take, List.length_drop, reachBytes] at hr
    refine ⟨some a, len, cap, (zs.take len).map fun n => UInt8.ofNat n.toNat, rfl, ⟨by simp; omega, hl, hm, (fun h => by cases h), fun hn => ?_, fun ad ha i hi => ?_⟩, by omega, Or.inr ⟨zs.take len, zs.drop len, rfl, by simp; omega⟩⟩
    · obtain ⟨b, off, spot⟩ := a
      have hs : spot = none := by simpa [Addr.add] using World.cell?_spot (hcell 0 (by omega))
      subst hs
      exact ⟨b, off, rfl, hlt (.cell b (off + 0)) (MemPlace.mem_row.2 ⟨0, by omega, rfl⟩)⟩
    · cases ha
      rw [List.length_map, List.length_take] at hi
      have hb := wf_u8_range (hwz (zs[i]'(by omega)) (List.getElem_mem _))
      rw [hcell i (by omega), List.getD_eq_getElem?_getD, List.getElem?_eq_getElem (by omega)]
      simp only [List.getElem_map, List.getElem_take, Option.getD_some, byteV, UInt8.toNat_ofNat']
      congr 2
      omega

/-- A slice of numbers of 64 bits that came in: how much it is. -/
theorem open_ints_sized {W : World} {v : Value} {d : DataW H} {p : List MemPlace} {t e : TypeId} {ts : List TypeId} {ds : List (DataW H)} {j : Nat} (ht : P.underlying t = some (.slice e)) (he : P.underlying e = some (.int .i64)) (hc : P.cellsOf e = 1) (h8 : P.bytesOf e = 8)
    (hv : Value.okWide P W .any 0 t v) (h : DataW.Trod enc P W 0 (fun _ => true) true t v d p) (hlt : ∀ x ∈ p, x.block < W.heap.size)
    (hsz : (DataW.weightsEach P ts ds).all (· ≤ reachBytes) = true) (hj : ts[j]? = some t) (hd : ds[j]? = some d) :
    ∃ zs : List Int, IntsAt W v zs ∧ (∀ i, -9223372036854775808 ≤ nth zs i ∧ nth zs i ≤ 9223372036854775807) ∧ SliceOf .i64 zs.length d := by
  obtain ⟨zs, hz, hb⟩ := open_ints_at ht he hc h8 hv h hlt hsz hj hd
  refine ⟨zs, hz, hb, ?_⟩
  obtain ⟨a0, len, cap, rfl⟩ := okWide_slice ht hv
  obtain ⟨fuel, hf⟩ := h
  have hlen : zs.length = len := by
    rcases hz with ⟨h1, h2⟩ | ⟨a, c, h1, _⟩
    · cases h1; rw [h2]; rfl
    · cases h1; rfl
  rcases open_ints ht he hc hf with ⟨hcs, hx⟩ | ⟨a, len', cap', ys, hcs, _, hl, hm, hyz, hx, hcell, hwz⟩
  · simp [Value.cells] at hcs
    obtain ⟨rfl, rfl, rfl⟩ := hcs
    exact Or.inl hlen
  · simp [Value.cells] at hcs
    obtain ⟨rfl, rfl, rfl⟩ := hcs
    simp only [Prod.mk.injEq] at hx
    obtain ⟨rfl, rfl⟩ := hx
    simp only [if_true] at hyz
    exact Or.inr ⟨ys.take len, ys.drop len, rfl, by simp; omega⟩
end
end Go.Proofs.YtfnkmigcklmghaaDoor

/- From a reading to a walk: a slice of numbers as a field, and a struct of the eight fields that a step (api.Op) has, that came in by value. Nothing of the program is named here. -/
namespace Go.Proofs.YtfnkmigcklmghaaDoor
open Go.ChangeShapes Go.WideShapes Go.ChangeAt Go.RowKit Go.Joins Go.Deep
set_option linter.unusedVariables false

section
variable {H : Type} {enc : TypeId × Value → H} {P : Program} {W : World}

/-- The weights of a struct's fields. -/
theorem sized_agg {ts : List TypeId} {ds : List (DataW H)} (hsz : (DataW.weightsEach P ts ds).all (· ≤ reachBytes) = true) {j : Nat} {t : TypeId} {fs : Array Field} {parts : List (DataW H)} (hj : ts[j]? = some t) (hd : ds[j]? = some (.agg parts)) (hs : P.underlying t = some (.struct fs)) :
    (DataW.weightsEach P (fs.toList.map (·.type)) parts).all (· ≤ reachBytes) = true := by
  rw [List.all_eq_true]
  intro n hn
  have := List.all_eq_true.1 hsz n (DataW.weights_mem_each hj hd n (by simp only [DataW.weights, hs]; exact hn))
  exact this

/-- A slice of numbers of 64 bits, as a field. -/
theorem open_nums_field {fuel : Nat} {t e : TypeId} {v : Value} {y : DataW H × List MemPlace} (ht : P.underlying t = some (.slice e)) (he : P.underlying e = some (.int .i64)) (hc : P.cellsOf e = 1) (h8 : P.bytesOf e = 8)
    (h : DataW.trod enc P W 0 (fun _ => true) true fuel t [v] = some y) (hlt : ∀ x ∈ y.2, x.block < W.heap.size) {ts : List TypeId} {ds : List (DataW H)} (hsz : (DataW.weightsEach P ts ds).all (· ≤ reachBytes) = true) {j : Nat} (hj : ts[j]? = some t) (hd : ds[j]? = some y.1) :
    ∃ (a : Option Addr) (n c : Nat) (Z : List Int), v = .slice a n c ∧ NumsAt W a n Z ∧ (a = none → c = 0) ∧ n * 8 ≤ 140737488351232 ∧ (∀ z ∈ Z, -9223372036854775808 ≤ z ∧ z ≤ 9223372036854775807) ∧ SliceOf .i64 n y.1 := by
  rcases open_ints ht he hc h with ⟨hcs, hx⟩ | ⟨a, len, cap, zs, hcs, _, hl, hm, hz, hx, hcell, hwz⟩
  · simp at hcs
    subst hcs
    exact ⟨none, 0, 0, [], rfl, NumsAt.nil W none, fun _ => rfl, by omega, (fun z hz => by cases hz), Or.inl rfl⟩
  · simp at hcs
    subst hcs hx
    simp only [if_true] at hz
    have hr := sized_slice hsz hj hd ht
    rw [h8] at hr
    simp only [lits, List.length_map, List.length_take, List.length_drop, reachBytes] at hr
    refine ⟨some a, len, cap, zs.take len, rfl, ⟨by simp; omega, fun hn => ?_⟩, (fun h => by cases h), by omega, fun z hz' => wf_i64_range (hwz z (List.mem_of_mem_take hz')), Or.inr ⟨zs.take len, zs.drop len, rfl, by simp; omega⟩⟩
    obtain ⟨b, off, spot⟩ := a
    have hs : spot = none := by simpa [Addr.add] using World.cell?_spot (hcell 0 (by omega))
    subst hs
    refine ⟨b, off, rfl, hlt (.cell b (off + 0)) (MemPlace.mem_row.2 ⟨0, by omega, rfl⟩), fun i hi => ?_⟩
    rw [List.length_take] at hi
    have := hcell i (by omega)
    rw [addr_plain, List.getD_eq_getElem?_getD, List.getElem?_eq_getElem (by omega)] at this
    rw [this, List.getElem_take]
    rfl

/-- A struct of eight fields of one cell each, by value. -/
theorem open_agg8 {r : Reach} {b0 base : Nat} {spare : Nat → Bool} {held : Bool} {t : TypeId} {f0 f1 f2 f3 f4 f5 f6 f7 : Field} {v : Value} {d : DataW H} {p : List MemPlace} (hs : P.underlying t = some (.struct #[f0, f1, f2, f3, f4, f5, f6, f7])) (hone : oneCellFields P #[f0, f1, f2, f3, f4, f5, f6, f7] = true) (hC : P.cellsOf t = 8)
    (hv : Value.okWide P W r b0 t v) (h : DataW.Trod enc P W base spare held t v d p) :
    ∃ (v0 v1 v2 v3 v4 v5 v6 v7 : Value) (y0 y1 y2 y3 y4 y5 y6 y7 : DataW H × List MemPlace) (n : Nat), v = .agg #[v0, v1, v2, v3, v4, v5, v6, v7] ∧ d = .agg [y0.1, y1.1, y2.1, y3.1, y4.1, y5.1, y6.1, y7.1] ∧
      p = y0.2 ++ (y1.2 ++ (y2.2 ++ (y3.2 ++ (y4.2 ++ (y5.2 ++ (y6.2 ++ y7.2)))))) ∧
      DataW.trod enc P W base spare held n f0.type [v0] = some y0 ∧ DataW.trod enc P W base spare held n f1.type [v1] = some y1 ∧ DataW.trod enc P W base spare held n f2.type [v2] = some y2 ∧ DataW.trod enc P W base spare held n f3.type [v3] = some y3 ∧
      DataW.trod enc P W base spare held n f4.type [v4] = some y4 ∧ DataW.trod enc P W base spare held n f5.type [v5] = some y5 ∧ DataW.trod enc P W base spare held n f6.type [v6] = some y6 ∧ DataW.trod enc P W base spare held n f7.type [v7] = some y7 := by
  obtain ⟨cs, rfl, hsz⟩ := okWide_struct hs hv
  obtain ⟨l⟩ := cs
  match l, hsz.trans hC with
  | [c0, c1, c2, c3, c4, c5, c6, c7], _ =>
    obtain ⟨fuel, hf⟩ := h
    obtain ⟨xs, n, _, hx, _, hlen, hg⟩ := DataW.trod_struct hs hf
    obtain ⟨o0, k0⟩ := hone_of hone 0 f0 rfl
    obtain ⟨o1, k1⟩ := hone_of hone 1 f1 rfl
    obtain ⟨o2, k2⟩ := hone_of hone 2 f2 rfl
    obtain ⟨o3, k3⟩ := hone_of hone 3 f3 rfl
    obtain ⟨o4, k4⟩ := hone_of hone 4 f4 rfl
    obtain ⟨o5, k5⟩ := hone_of hone 5 f5 rfl
    obtain ⟨o6, k6⟩ := hone_of hone 6 f6 rfl
    obtain ⟨o7, k7⟩ := hone_of hone 7 f7 rfl
    match xs, hlen with
    | [y0, y1, y2, y3, y4, y5, y6, y7], _ =>
      simp only [Prod.mk.injEq] at hx
      exact ⟨c0, c1, c2, c3, c4, c5, c6, c7, y0, y1, y2, y3, y4, y5, y6, y7, n, rfl, by simpa using hx.1, by simpa using hx.2, by simpa [Value.cells, o0, k0] using hg 0 f0 rfl, by simpa [Value.cells, o1, k1] using hg 1 f1 rfl, by simpa [Value.cells, o2, k2] using hg 2 f2 rfl, by simpa [Value.cells, o3, k3] using hg 3 f3 rfl, by simpa [Value.cells, o4, k4] using hg 4 f4 rfl, by simpa [Value.cells, o5, k5] using hg 5 f5 rfl, by simpa [Value.cells, o6, k6] using hg 6 f6 rfl, by simpa [Value.cells, o7, k7] using hg 7 f7 rfl⟩

/-- What a step that came in is: its numbers, its text, its list. -/
structure OpIn (W : World) (v : Value) (K A B C N : Int) (S : ByteArray) (la : Option Addr) (ln lc : Nat) (T : Bool) (L : List Int) : Prop where
  val : v = .agg #[.int .i64 K, .int .i64 A, .int .i64 B, .int .i64 C, .int .i64 N, .string S, .slice la ln lc, .bool T]
  rK : -9223372036854775808 ≤ K ∧ K ≤ 9223372036854775807
  rA : -9223372036854775808 ≤ A ∧ A ≤ 9223372036854775807
  rB : -9223372036854775808 ≤ B ∧ B ≤ 9223372036854775807
  rC : -9223372036854775808 ≤ C ∧ C ≤ 9223372036854775807
  rN : -9223372036854775808 ≤ N ∧ N ≤ 9223372036854775807
  sS : S.size ≤ 140737488351232
  at_ : NumsAt W la ln L
  nil_ : la = none → lc = 0
  len_ : ln * 8 ≤ 140737488351232
  rL : ∀ z ∈ L, -9223372036854775808 ≤ z ∧ z ≤ 9223372036854775807

theorem open_op {b0 : Nat} {t ti tn tS tl tb : TypeId} {f0 f1 f2 f3 f4 f5 f6 f7 : Field} {v : Value} {d : DataW H} {p : List MemPlace} (hs : P.underlying t = some (.struct #[f0, f1, f2, f3, f4, f5, f6, f7])) (hone : oneCellFields P #[f0, f1, f2, f3, f4, f5, f6, f7] = true) (hC : P.cellsOf t = 8)
    (e0 : f0.type = ti) (e1 : f1.type = ti) (e2 : f2.type = ti) (e3 : f3.type = ti) (e4 : f4.type = tn) (e5 : f5.type = tS) (e6 : f6.type = tl) (e7 : f7.type = tb)
    (hti : P.underlying ti = some (.int .i64)) (htn : P.underlying tn = some (.int .i64)) (htS : P.underlying tS = some .string) (htl : P.underlying tl = some (.slice ti)) (htb : P.underlying tb = some .bool) (hc : P.cellsOf ti = 1) (h8 : P.bytesOf ti = 8)
    (hv : Value.okWide P W .any b0 t v) (h : DataW.Trod enc P W 0 (fun _ => true) true t v d p) (hlt : ∀ x ∈ p, x.block < W.heap.size)
    {ts : List TypeId} {ds : List (DataW H)} (hsz : (DataW.weightsEach P ts ds).all (· ≤ reachBytes) = true) {j : Nat} (hj : ts[j]? = some t) (hd : ds[j]? = some d) :
    ∃ K A B C N S la ln lc T L, OpIn W v K A B C N S la ln lc T L := by
  obtain ⟨v0, v1, v2, v3, v4, v5, v6, v7, y0, y1, y2, y3, y4, y5, y6, y7, n, rfl, rfl, rfl, g0, g1, g2, g3, g4, g5, g6, g7⟩ := open_agg8 hs hone hC hv h
  have hw := sized_agg hsz hj hd hs
  simp only [List.map_cons, List.map_nil] at hw
  rw [e0] at g0; rw [e1] at g1; rw [e2] at g2; rw [e3] at g3; rw [e4] at g4; rw [e5] at g5; rw [e6] at g6; rw [e7] at g7
  obtain ⟨K, hk, hk', rK⟩ := DataW.trod_int hti g0
  obtain ⟨A, ha, ha', rA⟩ := DataW.trod_int hti g1
  obtain ⟨B, hb, hb', rB⟩ := DataW.trod_int hti g2
  obtain ⟨C, hcc, hcc', rC⟩ := DataW.trod_int hti g3
  obtain ⟨N, hN, hN', rN⟩ := DataW.trod_int htn g4
  obtain ⟨S, hS, hS', rS⟩ := DataW.trod_string htS g5
  obtain ⟨T, hT, hT'⟩ := DataW.trod_bool htb g7
  obtain ⟨la, ln, lc, L, rfl, h1, h2, h3, h4, h5⟩ := open_nums_field htl hti hc h8 g6 (fun x hx => hlt x (by simp [hx])) hw (j := 6) (by simp [e6]) rfl
  simp only [List.cons.injEq, and_true] at hk ha hb hcc hN hS hT
  subst hk ha hb hcc hN hS hT
  have hs5 := sized_string hw (j := 5) (bytes := S.data.toList) rfl (by rw [hS']; rfl)
  refine ⟨K, A, B, C, N, S, la, ln, lc, T, L, rfl, wf_i64_range rK, wf_i64_range rA, wf_i64_range rB, wf_i64_range rC, wf_i64_range rN, ?_, h1, h2, h3, h4⟩
  rw [list_len] at hs5
  simpa [reachBytes] using hs5
end
end Go.Proofs.YtfnkmigcklmghaaDoor

/- A program (api.Prog) that came in, read to its depth: what its lists hold, and that they hold it in each later world that keeps what lay. Nothing of the program is named here. -/
namespace Go.Proofs.YtfnkmigcklmghaaDoor
open Go.ChangeShapes Go.WideShapes Go.ChangeAt Go.RowKit Go.Joins Go.Deep
set_option linter.unusedVariables false

structure OpD where
  (K A B C N : Int) (S : ByteArray) (L : List Int) (T : Bool)
structure EndD where
  (K A To Else : Int) (L M : List Int)
structure BlockD where
  (params : List Int) (ops : List OpD) (fin : EndD)
structure FuncD where
  (ret : Int) (blocks : List BlockD)
structure SigD where
  (params : List Int) (ret : Int)
structure ClassD where
  (fields methods : List Int)
structure ProgD where
  (sigs : List SigD) (classes : List ClassD) (funcs : List FuncD)

def InR (z : Int) : Prop := -9223372036854775808 ≤ z ∧ z ≤ 9223372036854775807
/-- A slice of numbers, as a value. -/
def NumsV (W : World) (v : Value) (Z : List Int) : Prop :=
  ∃ a n c, v = .slice a n c ∧ NumsAt W a n Z ∧ (a = none → c = 0) ∧ n * 8 ≤ 140737488351232 ∧ ∀ z ∈ Z, InR z
/-- A slice of structs of k cells each, as a value. -/
def RowV {α : Type} (Q : World → List Value → α → Prop) (k : Nat) (W : World) (v : Value) (xs : List α) : Prop :=
  ∃ a n c, v = .slice a n c ∧ xs.length = n ∧ (a = none → c = 0) ∧ n ≤ 140737488351232 ∧ (0 < n → ∃ g off, a = some ⟨g, off, none⟩ ∧ g < W.heap.size ∧
    ∀ i (h : i < xs.length), ∃ cs, cs.length = k ∧ (∀ j (hj : j < cs.length), W.cell? ⟨g, off + i * k + j, none⟩ = some cs[j]) ∧ Q W cs xs[i])
def OpQ (W : World) (cs : List Value) (x : OpD) : Prop :=
  ∃ l, cs = [.int .i64 x.K, .int .i64 x.A, .int .i64 x.B, .int .i64 x.C, .int .i64 x.N, .string x.S, l, .bool x.T] ∧ InR x.K ∧ InR x.A ∧ InR x.B ∧ InR x.C ∧ InR x.N ∧ x.S.size ≤ 140737488351232 ∧ NumsV W l x.L
def EndQ (W : World) (cs : List Value) (x : EndD) : Prop :=
  ∃ l m, cs = [.int .i64 x.K, .int .i64 x.A, .int .i64 x.To, .int .i64 x.Else, l, m] ∧ InR x.K ∧ InR x.A ∧ InR x.To ∧ InR x.Else ∧ NumsV W l x.L ∧ NumsV W m x.M
def BlockQ (W : World) (cs : List Value) (x : BlockD) : Prop :=
  ∃ p o es, cs = p :: o :: es ∧ NumsV W p x.params ∧ RowV OpQ 8 W o x.ops ∧ EndQ W es x.fin
def FuncQ (W : World) (cs : List Value) (x : FuncD) : Prop := ∃ b, cs = [.int .i64 x.ret, b] ∧ InR x.ret ∧ RowV BlockQ 8 W b x.blocks
def SigQ (W : World) (cs : List Value) (x : SigD) : Prop := ∃ p, cs = [p, .int .i64 x.ret] ∧ NumsV W p x.params ∧ InR x.ret
def ClassQ (W : World) (cs : List Value) (x : ClassD) : Prop := ∃ f m, cs = [f, m] ∧ NumsV W f x.fields ∧ NumsV W m x.methods
def ProgQ (W : World) (cs : List Value) (x : ProgD) : Prop := ∃ s c f, cs = [s, c, f] ∧ RowV SigQ 2 W s x.sigs ∧ RowV ClassQ 2 W c x.classes ∧ RowV FuncQ 2 W f x.funcs

/-- What holds on wherever what lay is kept. -/
def Lasts {α : Type} (Q : World → List Value → α → Prop) : Prop := ∀ (W W' : World) (cs : List Value) (x : α), Below W.heap.size W W' → Q W cs x → Q W' cs x
theorem NumsV.since {W W' : World} {v : Value} {Z : List Int} (hb : Below W.heap.size W W') (h : NumsV W v Z) : NumsV W' v Z := by
  obtain ⟨a, n, c, e, hat, rest⟩ := h
  exact ⟨a, n, c, e, hat.since hb, rest⟩
theorem RowV.since {α : Type} {Q : World → List Value → α → Prop} (hQ : Lasts Q) {k : Nat} {W W' : World} {v : Value} {xs : List α} (hb : Below W.heap.size W W') (h : RowV Q k W v xs) : RowV Q k W' v xs := by
  obtain ⟨a, n, c, e, hl, hn, hm, hc⟩ := h
  refine ⟨a, n, c, e, hl, hn, hm, fun h0 => ?_⟩
  obtain ⟨g, off, ea, hg, hi⟩ := hc h0
  refine ⟨g, off, ea, Nat.lt_of_lt_of_le hg hb.size, fun i h => ?_⟩
  obtain ⟨cs, hk, hcs, hq⟩ := hi i h
  exact ⟨cs, hk, fun j hj => (hb.cell (p := ⟨g, off + i * k + j, none⟩) hg).trans (hcs j hj), hQ _ _ _ _ hb hq⟩
theorem OpQ.lasts : Lasts OpQ := fun _ _ _ _ hb ⟨l, e, h1, h2, h3, h4, h5, h6, h⟩ => ⟨l, e, h1, h2, h3, h4, h5, h6, h.since hb⟩
theorem EndQ.lasts : Lasts EndQ := fun _ _ _ _ hb ⟨l, m, e, h1, h2, h3, h4, h, h'⟩ => ⟨l, m, e, h1, h2, h3, h4, h.since hb, h'.since hb⟩
theorem BlockQ.lasts : Lasts BlockQ := fun _ _ _ _ hb ⟨p, o, es, e, h1, h2, h3⟩ => ⟨p, o, es, e, h1.since hb, h2.since OpQ.lasts hb, EndQ.lasts _ _ _ _ hb h3⟩
theorem FuncQ.lasts : Lasts FuncQ := fun _ _ _ _ hb ⟨b, e, h1, h2⟩ => ⟨b, e, h1, h2.since BlockQ.lasts hb⟩
theorem SigQ.lasts : Lasts SigQ := fun _ _ _ _ hb ⟨p, e, h1, h2⟩ => ⟨p, e, h1.since hb, h2⟩
theorem ClassQ.lasts : Lasts ClassQ := fun _ _ _ _ hb ⟨f, m, e, h1, h2⟩ => ⟨f, m, e, h1.since hb, h2.since hb⟩
theorem ProgQ.lasts : Lasts ProgQ := fun _ _ _ _ hb ⟨s, c, f, e, h1, h2, h3⟩ => ⟨s, c, f, e, h1.since SigQ.lasts hb, h2.since ClassQ.lasts hb, h3.since FuncQ.lasts hb⟩

section
variable {H : Type} {enc : TypeId × Value → H} {P : Program}
/-- A datum that is as small as each argument is. -/
def Fits (P : Program) (t : TypeId) (d : DataW H) : Prop := (d.weights P t).all (· ≤ reachBytes) = true
theorem Fits.of_each {ts : List TypeId} {ds : List (DataW H)} (h : (DataW.weightsEach P ts ds).all (· ≤ reachBytes) = true) {j : Nat} {t : TypeId} {d : DataW H} (hj : ts[j]? = some t) (hd : ds[j]? = some d) : Fits P t d := by
  unfold Fits
  rw [List.all_eq_true]
  exact fun n hn => List.all_eq_true.1 h n (DataW.weights_mem_each hj hd n hn)
theorem Fits.each {t : TypeId} {d : DataW H} (h : Fits P t d) : (DataW.weightsEach P [t] [d]).all (· ≤ reachBytes) = true := by
  simpa [DataW.weightsEach, Fits] using h
theorem Fits.part {t : TypeId} {fs : Array Field} {parts : List (DataW H)} (hs : P.underlying t = some (.struct fs)) (h : Fits P t (.agg parts)) {j : Nat} {f : Field} {d : DataW H} (hf : fs[j]? = some f) (hd : parts[j]? = some d) : Fits P f.type d := by
  have h1 := sized_agg h.each (j := 0) rfl rfl hs
  exact Fits.of_each h1 (by simp [List.getElem?_map, hf]) hd
theorem weights_mem_all {e : TypeId} {ds : List (DataW H)} {d : DataW H} (hd : d ∈ ds) {n : Nat} (hn : n ∈ d.weights P e) : n ∈ DataW.weightsAll P e ds := by
  induction ds with
  | nil => cases hd
  | cons x r ih =>
    simp only [DataW.weightsAll, List.mem_append]
    rcases List.mem_cons.1 hd with rfl | h
    · exact .inl hn
    · exact .inr (ih h)
theorem Fits.elem {t e : TypeId} {elems spare : List (DataW H)} (ht : P.underlying t = some (.slice e)) (h : Fits P t (.slice elems spare)) {d : DataW H} (hd : d ∈ elems) : Fits P e d := by
  unfold Fits at h ⊢
  rw [List.all_eq_true] at h ⊢
  intro n hn
  refine h n ?_
  simp only [DataW.weights, ht, List.mem_cons, List.mem_append]
  exact .inr (.inl (weights_mem_all hd hn))

/-- Whatever reads as a type's datum is a Q. -/
def Opens {α : Type} (enc : TypeId × Value → H) (P : Program) (t : TypeId) (Q : World → List Value → α → Prop) : Prop :=
  ∀ {W : World} {fuel : Nat} {cs : List Value} {y : DataW H × List MemPlace}, DataW.trod enc P W 0 (fun _ => true) true fuel t cs = some y → (∀ x ∈ y.2, x.block < W.heap.size) → Fits P t y.1 → ∃ x : α, Q W cs x
theorem list_of {α : Type} {R : Nat → α → Prop} : ∀ n : Nat, (∀ i, i < n → ∃ x, R i x) → ∃ xs : List α, xs.length = n ∧ ∀ i (h : i < xs.length), R i xs[i]
  | 0, _ => ⟨[], rfl, fun i h => absurd h (by simp)⟩
  | n + 1, h => by
    obtain ⟨xs, hl, hx⟩ := list_of n (fun i hi => h i (by omega))
    obtain ⟨x, hr⟩ := h n (by omega)
    refine ⟨xs ++ [x], by simp [hl], fun i hi => ?_⟩
    by_cases hi' : i < xs.length
    · rw [List.getElem_append_left hi']; exact hx i hi'
    · have : i = n := by simp [hl] at hi; omega
      subst this
      rw [List.getElem_append_right (by omega)]
      simpa using hr
theorem opens_row {α : Type} {Q : World → List Value → α → Prop} {t e : TypeId} {k : Nat} (ht : P.underlying t = some (.slice e)) (hk : P.cellsOf e = k) (h0 : 0 < k) (hby : 0 < P.bytesOf e) (hQ : Opens enc P e Q) : Opens enc P t (fun W cs xs => ∃ v, cs = [v] ∧ RowV Q k W v xs) := by
  intro W fuel cs y h hlt hfit
  subst hk
  rcases open_slice ht h with ⟨rfl, rfl⟩ | ⟨a, len, cap, m, n, D, Pl, rfl, hb, hl, hm, hmm, rfl, hi⟩
  · exact ⟨[], _, rfl, none, 0, 0, rfl, rfl, fun _ => rfl, by omega, fun h => absurd h (by omega)⟩
  · simp only [if_true] at hmm
    have hw := sized_slice hfit.each (j := 0) rfl rfl ht
    simp only [List.length_map, List.length_range, reachBytes] at hw
    have hlen : len ≤ 140737488351232 := by
      have h1 : len * 1 ≤ (len + (m - len)) * P.bytesOf e := Nat.mul_le_mul (by omega) hby
      omega
    obtain ⟨xs, hxl, hxs⟩ := list_of (R := fun (i : Nat) (x : α) => ∃ cs : List Value, cs.length = P.cellsOf e ∧ (∀ j (hj : j < cs.length), W.cell? ((a.add (i * P.cellsOf e)).add j) = some cs[j]) ∧ Q W cs x) len (fun i hi' => by
      obtain ⟨cs', hc, htr⟩ := hi i (by omega)
      obtain ⟨_, hcl, hcat⟩ := World.cells?_some hc
      have hmem : D i ∈ (List.range len).map D := List.mem_map.2 ⟨i, List.mem_range.2 hi', rfl⟩
      obtain ⟨x, hx⟩ := hQ htr (fun p hp => hlt p (List.mem_append_right _ (List.mem_flatMap.2 ⟨i, List.mem_range.2 (by omega), hp⟩))) (hfit.elem ht hmem)
      exact ⟨x, cs', hcl, fun j hj => by rw [hcat j (by omega), List.getElem?_eq_getElem hj], hx⟩)
    refine ⟨xs, _, rfl, some a, len, cap, rfl, hxl, (fun h => by cases h), hlen, fun hpos => ?_⟩
    obtain ⟨b, off, spot⟩ := a
    have hs : spot = none := by
      obtain ⟨cs0, hcl0, hc0, _⟩ := hxs 0 (by omega)
      have := World.cell?_spot (hc0 0 (by omega))
      simpa [Addr.add] using this
    subst hs
    refine ⟨b, off, rfl, hlt (.cell b (off + 0)) (List.mem_append_left _ (MemPlace.mem_row.2 ⟨0, Nat.mul_pos (by omega) h0, rfl⟩)), fun i h => ?_⟩
    obtain ⟨cs, hcl, hc, hq⟩ := hxs i h
    refine ⟨cs, hcl, fun j hj => ?_, hq⟩
    have := hc j hj
    rw [addr_plain, addr_plain] at this
    exact this
theorem opens_nums {t e : TypeId} (ht : P.underlying t = some (.slice e)) (he : P.underlying e = some (.int .i64)) (hc : P.cellsOf e = 1) (h8 : P.bytesOf e = 8) : Opens enc P t (fun W cs Z => ∃ v, cs = [v] ∧ NumsV W v Z) := by
  intro W fuel cs y h hlt hfit
  have hone : ∃ v, cs = [v] := by
    rcases open_slice ht h with ⟨rfl, _⟩ | ⟨a, len, cap, _, _, _, _, rfl, _⟩ <;> exact ⟨_, rfl⟩
  obtain ⟨v, rfl⟩ := hone
  obtain ⟨a, n, c, Z, e1, h1, h2, h3, h4, _⟩ := open_nums_field ht he hc h8 h hlt hfit.each (j := 0) rfl rfl
  exact ⟨Z, v, rfl, a, n, c, e1, h1, h2, h3, h4⟩
theorem opens_int {t : TypeId} (ht : P.underlying t = some (.int .i64)) : Opens enc P t (fun W cs z => cs = [.int .i64 z] ∧ InR z) := by
  intro W fuel cs y h _ _
  obtain ⟨n, h1, _, h3⟩ := DataW.trod_int ht h
  exact ⟨n, h1, wf_i64_range h3⟩
theorem opens_text {t : TypeId} (ht : P.underlying t = some .string) : Opens enc P t (fun W cs s => cs = [.string s] ∧ s.size ≤ 140737488351232) := by
  intro W fuel cs y h _ hfit
  obtain ⟨s, h1, h2, _⟩ := DataW.trod_string ht h
  have := sized_string hfit.each (j := 0) (bytes := s.data.toList) rfl (by rw [h2]; rfl)
  rw [list_len] at this
  exact ⟨s, h1, by simpa [reachBytes] using this⟩
theorem opens_bool {t : TypeId} (ht : P.underlying t = some .bool) : Opens enc P t (fun W cs b => cs = [.bool b]) := by
  intro W fuel cs y h _ _
  obtain ⟨b, h1, _⟩ := DataW.trod_bool ht h
  exact ⟨b, h1⟩
/-- A part of a struct. -/
theorem opens_part {α : Type} {Q : World → List Value → α → Prop} {t : TypeId} {fs : Array Field} {W : World} {fuel : Nat} {cs : List Value} {y : DataW H × List MemPlace} (hs : P.underlying t = some (.struct fs)) (h : DataW.trod enc P W 0 (fun _ => true) true fuel t cs = some y) (hlt : ∀ x ∈ y.2, x.block < W.heap.size) (hfit : Fits P t y.1)
    (j : Nat) {f : Field} (hf : fs[j]? = some f) {o k : Nat} (ho : f.offset = o) (hk : P.cellsOf f.type = k) {u : TypeId} (hu : f.type = u) (hQ : Opens enc P u Q) : ∃ x, Q W ((cs.drop o).take k) x := by
  subst ho hk hu
  obtain ⟨xs, n, _, rfl, hcl, hxl, hg⟩ := DataW.trod_struct hs h
  have hj : j < xs.length := by rw [hxl]; exact (Array.getElem?_eq_some_iff.1 hf).1
  have hx : xs[j]? = some xs[j] := List.getElem?_eq_getElem hj
  have h1 := (hg j f hf).trans hx
  exact hQ h1 (fun p hp => hlt p (List.mem_flatMap.2 ⟨xs[j], List.getElem_mem _, hp⟩)) (hfit.part hs hf (by rw [List.getElem?_map, hx]; rfl))
theorem struct_len {t : TypeId} {fs : Array Field} {W : World} {fuel : Nat} {cs : List Value} {y : DataW H × List MemPlace} (hs : P.underlying t = some (.struct fs)) (h : DataW.trod enc P W 0 (fun _ => true) true fuel t cs = some y) : cs.length = P.cellsOf t := by
  obtain ⟨xs, n, _, _, hcl, _⟩ := DataW.trod_struct hs h
  exact hcl
end
end Go.Proofs.YtfnkmigcklmghaaDoor

/- What is kept when all but some blocks may have turned ('Off'); blocks that are known by their cells; a store of what lies there already. Nothing of the program is named here. -/
namespace Go.Proofs.YtfnkmigcklmghaaDoor
open Go.RowKit (wrap64 intOf Below)
set_option linter.unusedVariables false

structure Off (X : Nat → Prop) (w w' : World) : Prop where
  os : w'.os = w.os
  tape : w'.tape = w.tape
  output : w'.output = w.output
  size : w.heap.size ≤ w'.heap.size
  block : ∀ k, k < w.heap.size → ¬ X k → w'.heap[k]? = w.heap[k]?
section
variable {X Y : Nat → Prop} {a b c w w' : World}
theorem Off.refl (X : Nat → Prop) (w : World) : Off X w w := ⟨rfl, rfl, rfl, Nat.le_refl _, fun _ _ _ => rfl⟩
theorem Off.trans (h : Off X a b) (k : Off X b c) : Off X a c :=
  ⟨k.os.trans h.os, k.tape.trans h.tape, k.output.trans h.output, Nat.le_trans h.size k.size, fun i hi hx => (k.block i (Nat.lt_of_lt_of_le hi h.size) hx).trans (h.block i hi hx)⟩
/-- The second step may turn what has been made since, too. -/
theorem Off.trans_new (h : Off X a b) (k : Off Y b c) (hY : ∀ i, Y i → X i ∨ a.heap.size ≤ i) : Off X a c :=
  ⟨k.os.trans h.os, k.tape.trans h.tape, k.output.trans h.output, Nat.le_trans h.size k.size, fun i hi hx => (k.block i (Nat.lt_of_lt_of_le hi h.size) (fun hy => by rcases hY i hy with h' | h' <;> first | exact hx h' | omega)).trans (h.block i hi hx)⟩
theorem Off.mono (h : Off X a b) (hY : ∀ i, i < a.heap.size → X i → Y i) : Off Y a b :=
  ⟨h.os, h.tape, h.output, h.size, fun i hi hy => h.block i hi (fun hx => hy (hY i hi hx))⟩
theorem Off.of_below {B : Nat} (h : Below B a b) (hB : ∀ i, B ≤ i → i < a.heap.size → X i) : Off X a b :=
  ⟨h.os, h.tape, h.output, h.size, fun i hi hx => h.block i (Nat.lt_of_not_le fun h' => hx (hB i h' hi))⟩
theorem Off.since (h : Below a.heap.size a b) : Off X a b := Off.of_below h (fun i h1 h2 => absurd h2 (by omega))
theorem Off.below {B : Nat} (h : Off X a b) (hB : B ≤ a.heap.size) (hX : ∀ i, X i → B ≤ i) : Below B a b :=
  ⟨h.os, h.tape, h.output, h.size, fun i hi => h.block i (by omega) (fun hx => by have := hX i hx; omega)⟩
theorem Off.drew (h : Off X a b) : Off X a b.drew := ⟨h.os, h.tape, h.output, h.size, h.block⟩
theorem Off.drewN (h : Off X a b) (n : Nat) : Off X a (b.drewN n) := ⟨h.os, h.tape, h.output, h.size, h.block⟩
theorem Off.alloc (h : Off X a b) (o : Obj) : Off X a (b.alloc o) := h.trans (Off.since ((Below.refl _ _).alloc (Nat.le_refl _) o))
theorem Off.setCell (h : Off X a b) {p : Addr} (hp : X p.block ∨ a.heap.size ≤ p.block) (u : Value) : Off X a (b.setCell p u) :=
  ⟨h.os, h.tape, h.output, by simp only [World.setCell, Array.size_modify]; exact h.size, fun k hk hx => (Below.heap_setCell _ _ _ _ (fun e => by subst e; rcases hp with h' | h' <;> first | exact hx h' | omega)).trans (h.block k hk hx)⟩
theorem Off.grown {row : Option Nat} (h : Off X a b) (hg : b.grownBy c row) (hr : ∀ k, row = some k → X k ∨ a.heap.size ≤ k) : Off X a c :=
  h.trans_new (Y := fun k => row = some k) ⟨hg.os, hg.tape, hg.output, hg.size, fun k hk hx => hg.block k hk (fun e => hx e.symm)⟩ (fun i hi => hr i hi)
theorem Off.cell (h : Off X a b) {p : Addr} (hp : p.block < a.heap.size) (hx : ¬ X p.block) : b.cell? p = a.cell? p := World.cell?_of_block (h.block _ hp hx)
theorem Off.frozen (h : Off X a b) {p : Addr} (hp : p.block < a.heap.size) (hx : ¬ X p.block) : b.frozen? p = a.frozen? p := World.frozen?_of_block (h.block _ hp hx)
end

/-- A store of what lies there already turns nothing. -/
theorem setCell_same {w : World} {p : Addr} {v : Value} (h : w.cell? p = some v) : w.setCell p v = w := by
  have hh : (w.setCell p v).heap = w.heap := by
    apply Array.ext
    · simp [World.setCell]
    · intro i h1 h2
      simp only [World.setCell, Array.getElem_modify]
      split
      · rename_i he
        subst he
        unfold World.cell? at h
        rw [Array.getElem?_eq_getElem h2] at h
        revert h
        split
        · rename_i c e f hc
          intro h
          simp only [Option.some.injEq] at hc
          rw [hc]
          split at h
          · cases h
          · rename_i hs
            simp only [hs, if_false, Bool.false_eq_true]
            congr 1
            obtain ⟨hlt, rfl⟩ := Array.getElem?_eq_some_iff.1 h
            rw [Array.setIfInBounds_def, dif_pos hlt, Array.set_getElem_self]
        · intro h; cases h
      · rfl
  cases w
  simp only [World.setCell] at hh ⊢
  rw [hh]

/-- Block g's cells from off on are cs, and may be written. -/
def WinAt (w : World) (g off : Nat) (cs : List Value) : Prop :=
  ∃ cur T, w.heap[g]? = some (.cells cur T (0, 0)) ∧ ∀ j (h : j < cs.length), cur[off + j]? = some cs[j]
section
variable {w w' : World} {g off : Nat} {cs : List Value}
theorem WinAt.cell (h : WinAt w g off cs) {j : Nat} (hj : j < cs.length) : w.cell? ⟨g, off + j, none⟩ = some cs[j] := by
  obtain ⟨cur, T, hg, hc⟩ := h
  simp only [World.cell?, hg, Option.isSome_none, Bool.false_eq_true, if_false]
  exact hc j hj
theorem WinAt.free (h : WinAt w g off cs) (o : Nat) : w.frozen? ⟨g, o, none⟩ = false := by
  obtain ⟨cur, T, hg, hc⟩ := h
  simp [World.frozen?, hg]
theorem WinAt.lt (h : WinAt w g off cs) : g < w.heap.size := by
  obtain ⟨cur, T, hg, hc⟩ := h
  exact (Array.getElem?_eq_some_iff.1 hg).1
theorem WinAt.kept (h : WinAt w g off cs) (hb : w'.heap[g]? = w.heap[g]?) : WinAt w' g off cs := by
  obtain ⟨cur, T, hg, hc⟩ := h
  exact ⟨cur, T, hb.trans hg, hc⟩
theorem WinAt.stays {X : Nat → Prop} (h : WinAt w g off cs) (ho : Off X w w') (hx : ¬ X g) : WinAt w' g off cs := h.kept (ho.block g h.lt hx)
/-- A part of it. -/
theorem WinAt.part (h : WinAt w g off cs) (k n : Nat) (hk : k + n ≤ cs.length) : WinAt w g (off + k) ((cs.drop k).take n) := by
  obtain ⟨cur, T, hg, hc⟩ := h
  refine ⟨cur, T, hg, fun j hj => ?_⟩
  simp only [List.length_take, List.length_drop] at hj
  rw [Nat.add_assoc, hc (k + j) (by omega)]
  simp
end
theorem flatten_at {α : Type} {k : Nat} : ∀ (css : List (List α)), (∀ cs ∈ css, cs.length = k) → ∀ i (hi : i < css.length) j (hj : j < css[i].length), css.flatten[i * k + j]? = some css[i][j]
  | [], _, i, hi, _, _ => by simp at hi
  | cs :: css, hk, 0, hi, j, hj => by
    simp only [List.getElem_cons_zero] at hj
    simp only [List.flatten_cons, Nat.zero_mul, Nat.zero_add, List.getElem_cons_zero]
    rw [List.getElem?_append_left hj, List.getElem?_eq_getElem hj]
  | cs :: css, hk, i + 1, hi, j, hj => by
    have h0 : cs.length = k := hk cs (by simp)
    simp only [List.getElem_cons_succ] at hj
    have ih := flatten_at css (fun c hc => hk c (by simp [hc])) i (by simpa using hi) j hj
    simp only [List.flatten_cons, List.getElem_cons_succ]
    rw [List.getElem?_append_right (by rw [h0, Nat.succ_mul]; omega), h0, show (i + 1) * k + j - k = i * k + j by rw [Nat.succ_mul]; omega]
    exact ih
theorem flatten_len {α : Type} {k : Nat} : ∀ (css : List (List α)), (∀ cs ∈ css, cs.length = k) → css.flatten.length = css.length * k
  | [], _ => by simp
  | cs :: css, hk => by
    have ih := flatten_len css (fun c hc => hk c (by simp [hc]))
    simp only [List.flatten_cons, List.length_append, List.length_cons, ih, hk cs (by simp), Nat.succ_mul]
    omega
/-- A row of the call's own, element by element: block, and where. -/
theorem ownsRow_win {w : World} {base : Nat} {e : TypeId} {k : Nat} {v : Value} {n : Nat} {css : List (List Value)} (h : w.ownsRow base e k v n css.flatten) (hk : ∀ cs ∈ css, cs.length = k) {g : Nat} (hg : v.ownBlock = some g) {i : Nat} (hi : i < css.length) : WinAt w g (i * k) css[i] := by
  rcases h.2 with ⟨rfl, _⟩ | ⟨g', cap, cur, rfl, _, hgg, _, _, _, htake⟩
  · simp [Value.ownBlock] at hg
  · simp [Value.ownBlock] at hg
    subst hg
    refine ⟨cur, e, hgg, fun j hj => ?_⟩
    have hlen : css[i].length = k := hk _ (List.getElem_mem hi)
    have hfl := flatten_at css hk i hi j hj
    rw [← htake, List.getElem?_take] at hfl
    split at hfl
    · simpa using hfl
    · cases hfl
end Go.Proofs.YtfnkmigcklmghaaDoor

/- Steps (api.Op) by value: what a walk needs of them; the statements' own copy of one (hallmarklaw04.own). -/
namespace Go.Proofs.YtfnkmigcklmghaaDoor
open Go.RowKit (wrap64 intOf Below)
set_option linter.unusedVariables false

theorem bcell {W w1 : World} (hb : Below W.heap.size W w1) : (∀ b o, b < W.heap.size → w1.cell? ⟨b, o, none⟩ = W.cell? ⟨b, o, none⟩) ∧ (∀ b o, b < W.heap.size → w1.frozen? ⟨b, o, none⟩ = W.frozen? ⟨b, o, none⟩) :=
  ⟨fun b o h => hb.cell (p := ⟨b, o, none⟩) h, fun b o h => hb.frozen (p := ⟨b, o, none⟩) h⟩
theorem info_int : (Tryd.prog.info? 3).map (fun i => (i.zero, i.size, i.bytes)) = some (some (.int .i64 0), 1, 8) := by kernel_rfl

/-- Two blocks that were just laid, a third behind them, and what has grown since. -/
theorem cell_laid {w w2 : World} {C0 C1 C2 : Array Value} {t0 t1 t2 : TypeId} (hb : Below (w.heap.size + 2) (((w.alloc (.cells C0 t0)).alloc (.cells C1 t1)).alloc (.cells C2 t2)) w2) :
    (∀ j, w2.cell? ⟨w.heap.size, j, none⟩ = C0[j]?) ∧ (∀ j, w2.cell? ⟨w.heap.size + 1, j, none⟩ = C1[j]?) ∧ (∀ j, w2.frozen? ⟨w.heap.size, j, none⟩ = false) ∧ (∀ j, w2.frozen? ⟨w.heap.size + 1, j, none⟩ = false) := by
  refine ⟨fun j => ?_, fun j => ?_, fun j => ?_, fun j => ?_⟩
  · rw [hb.cell (p := ⟨w.heap.size, j, none⟩) (by simp), World.cell?_alloc_lt _ _ _ (by simp <;> omega), World.cell?_alloc_lt _ _ _ (by simp), World.cell?_alloc_mark]
  · have h1 : w.heap.size + 1 = (w.alloc (.cells C0 t0)).heap.size := by simp
    rw [hb.cell (p := ⟨w.heap.size + 1, j, none⟩) (by simp), World.cell?_alloc_lt _ _ _ (by simp), h1, World.cell?_alloc_mark]
  · rw [hb.frozen (p := ⟨w.heap.size, j, none⟩) (by simp), RowKit.frozen?_alloc_cells, RowKit.frozen?_alloc_cells, World.frozen?_alloc_at _ _ _ _ rfl]
  · rw [hb.frozen (p := ⟨w.heap.size + 1, j, none⟩) (by simp), RowKit.frozen?_alloc_cells, World.frozen?_alloc_at _ _ _ _ (by simp)]

end Go.Proofs.YtfnkmigcklmghaaDoor

/- A program (api.Prog) in memory of the call's own, to its depth: what its lists hold, and in which blocks these lie. -/
namespace Go.Proofs.YtfnkmigcklmghaaDoor
open Go.RowKit (wrap64 intOf Below)
set_option linter.unusedVariables false

/-- A slice of numbers of the call's own, in a block of S. -/
def NumsO (w : World) (S : Nat → Prop) (v : Value) (Z : List Int) : Prop :=
  OwnsI w 0 3 v Z ∧ (∀ b, v.ownBlock = some b → S b) ∧ Z.length * 8 ≤ 140737488351232 ∧ ∀ z ∈ Z, InR z
/-- A slice of structs of k cells each, of the call's own. -/
def RowO {α : Type} (T k : Nat) (Q : World → (Nat → Prop) → List Value → α → Prop) (w : World) (S : Nat → Prop) (v : Value) (xs : List α) : Prop :=
  ∃ css : List (List Value), w.ownsRow 0 T k v xs.length css.flatten ∧ css.length = xs.length ∧ (∀ cs ∈ css, cs.length = k) ∧ (∀ b, v.ownBlock = some b → S b) ∧ xs.length ≤ 140737488351232 ∧
    ∀ i (h : i < xs.length) (h' : i < css.length), Q w (fun b => S b ∧ v.ownBlock ≠ some b) css[i] xs[i]
def OpO (w : World) (S : Nat → Prop) (cs : List Value) (x : OpD) : Prop :=
  ∃ l, cs = [.int .i64 x.K, .int .i64 x.A, .int .i64 x.B, .int .i64 x.C, .int .i64 x.N, .string x.S, l, .bool x.T] ∧ InR x.K ∧ InR x.A ∧ InR x.B ∧ InR x.C ∧ InR x.N ∧ x.S.size ≤ 140737488351232 ∧ NumsO w S l x.L
def EndO (w : World) (S : Nat → Prop) (cs : List Value) (x : EndD) : Prop :=
  ∃ l m, cs = [.int .i64 x.K, .int .i64 x.A, .int .i64 x.To, .int .i64 x.Else, l, m] ∧ InR x.K ∧ InR x.A ∧ InR x.To ∧ InR x.Else ∧ NumsO w S l x.L ∧ NumsO w S m x.M
def BlockO (w : World) (S : Nat → Prop) (cs : List Value) (x : BlockD) : Prop :=
  ∃ p o es, cs = p :: o :: es ∧ NumsO w S p x.params ∧ RowO 38 8 OpO w S o x.ops ∧ EndO w S es x.fin
def FuncO (w : World) (S : Nat → Prop) (cs : List Value) (x : FuncD) : Prop := ∃ b, cs = [.int .i64 x.ret, b] ∧ InR x.ret ∧ RowO 59 8 BlockO w S b x.blocks
def SigO (w : World) (S : Nat → Prop) (cs : List Value) (x : SigD) : Prop := ∃ p, cs = [p, .int .i64 x.ret] ∧ NumsO w S p x.params ∧ InR x.ret
def ClassO (w : World) (S : Nat → Prop) (cs : List Value) (x : ClassD) : Prop := ∃ f m, cs = [f, m] ∧ NumsO w S f x.fields ∧ NumsO w S m x.methods
def ProgO (w : World) (S : Nat → Prop) (cs : List Value) (x : ProgD) : Prop := ∃ s c f, cs = [s, c, f] ∧ RowO 52 2 SigO w S s x.sigs ∧ RowO 54 2 ClassO w S c x.classes ∧ RowO 47 2 FuncO w S f x.funcs

/-- What keeps the blocks of S keeps what is read of them; and S may grow by blocks that are not there. -/
def Holds {α : Type} (Q : World → (Nat → Prop) → List Value → α → Prop) : Prop :=
  ∀ (w w' : World) (S S' : Nat → Prop) (cs : List Value) (x : α), (∀ b, b < w.heap.size → S b → w'.heap[b]? = w.heap[b]? ∧ S' b) → Q w S cs x → Q w' S' cs x
theorem ownsRow_heap {w w' : World} {base e k : Nat} {v : Value} {n : Nat} {xs : List Value} (h : w.ownsRow base e k v n xs) (hb : ∀ b, v.ownBlock = some b → b < w.heap.size → w'.heap[b]? = w.heap[b]?) : w'.ownsRow base e k v n xs := by
  refine ⟨h.1, ?_⟩
  rcases h.2 with hn | ⟨g, cap, cur, rfl, hg, hh, rest⟩
  · exact .inl hn
  · exact .inr ⟨g, cap, cur, rfl, hg, by rw [hb g rfl (Array.getElem?_eq_some_iff.1 hh).1]; exact hh, rest⟩
theorem NumsO.holds {w w' : World} {S S' : Nat → Prop} {v : Value} {Z : List Int} (hb : ∀ b, b < w.heap.size → S b → w'.heap[b]? = w.heap[b]? ∧ S' b) (h : NumsO w S v Z) : NumsO w' S' v Z := by
  obtain ⟨h1, h2, h3⟩ := h
  exact ⟨ownsRow_heap h1 (fun b hv hlt => (hb b hlt (h2 b hv)).1), fun b hv => (hb b (h1.lt b hv).2 (h2 b hv)).2, h3⟩
theorem RowO.holds {α : Type} {T k : Nat} {Q : World → (Nat → Prop) → List Value → α → Prop} (hQ : Holds Q) {w w' : World} {S S' : Nat → Prop} {v : Value} {xs : List α} (hb : ∀ b, b < w.heap.size → S b → w'.heap[b]? = w.heap[b]? ∧ S' b) (h : RowO T k Q w S v xs) : RowO T k Q w' S' v xs := by
  obtain ⟨css, h1, h2, h3, h4, h5, h6⟩ := h
  exact ⟨css, ownsRow_heap h1 (fun b hv hlt => (hb b hlt (h4 b hv)).1), h2, h3, fun b hv => (hb b (h1.lt b hv).2 (h4 b hv)).2, h5, fun i hi hi' => hQ _ _ _ _ _ _ (fun b hlt hs => ⟨(hb b hlt hs.1).1, (hb b hlt hs.1).2, hs.2⟩) (h6 i hi hi')⟩
theorem OpO.holds : Holds OpO := fun _ _ _ _ _ _ hb ⟨l, e, h1, h2, h3, h4, h5, h6, h⟩ => ⟨l, e, h1, h2, h3, h4, h5, h6, h.holds hb⟩
theorem EndO.holds : Holds EndO := fun _ _ _ _ _ _ hb ⟨l, m, e, h1, h2, h3, h4, h, h'⟩ => ⟨l, m, e, h1, h2, h3, h4, h.holds hb, h'.holds hb⟩
theorem BlockO.holds : Holds BlockO := fun _ _ _ _ _ _ hb ⟨p, o, es, e, h1, h2, h3⟩ => ⟨p, o, es, e, h1.holds hb, h2.holds OpO.holds hb, EndO.holds _ _ _ _ _ _ hb h3⟩
theorem FuncO.holds : Holds FuncO := fun _ _ _ _ _ _ hb ⟨b, e, h1, h2⟩ => ⟨b, e, h1, h2.holds BlockO.holds hb⟩
theorem SigO.holds : Holds SigO := fun _ _ _ _ _ _ hb ⟨p, e, h1, h2⟩ => ⟨p, e, h1.holds hb, h2⟩
theorem ClassO.holds : Holds ClassO := fun _ _ _ _ _ _ hb ⟨f, m, e, h1, h2⟩ => ⟨f, m, e, h1.holds hb, h2.holds hb⟩
theorem ProgO.holds : Holds ProgO := fun _ _ _ _ _ _ hb ⟨s, c, f, e, h1, h2, h3⟩ => ⟨s, c, f, e, h1.holds SigO.holds hb, h2.holds ClassO.holds hb, h3.holds FuncO.holds hb⟩
theorem Holds.off {α : Type} {Q : World → (Nat → Prop) → List Value → α → Prop} (hQ : Holds Q) {X : Nat → Prop} {w w' : World} {S : Nat → Prop} {cs : List Value} {x : α} (h : Q w S cs x) (ho : Off X w w') (hx : ∀ b, S b → ¬ X b) : Q w' S cs x :=
  hQ _ _ _ _ _ _ (fun b hlt hs => ⟨ho.block b hlt (hx b hs), hs⟩) h
theorem Holds.wider {α : Type} {Q : World → (Nat → Prop) → List Value → α → Prop} (hQ : Holds Q) {w : World} {S S' : Nat → Prop} {cs : List Value} {x : α} (h : Q w S cs x) (hs : ∀ b, b < w.heap.size → S b → S' b) : Q w S' cs x :=
  hQ _ _ _ _ _ _ (fun b hlt hh => ⟨rfl, hs b hlt hh⟩) h
theorem NumsO.off {X : Nat → Prop} {w w' : World} {S : Nat → Prop} {v : Value} {Z : List Int} (h : NumsO w S v Z) (ho : Off X w w') (hx : ∀ b, S b → ¬ X b) : NumsO w' S v Z :=
  h.holds (fun b hlt hs => ⟨ho.block b hlt (hx b hs), hs⟩)
theorem NumsO.wider {w : World} {S S' : Nat → Prop} {v : Value} {Z : List Int} (h : NumsO w S v Z) (hs : ∀ b, b < w.heap.size → S b → S' b) : NumsO w S' v Z :=
  h.holds (fun b hlt hh => ⟨rfl, hs b hlt hh⟩)
theorem RowO.off {α : Type} {T k : Nat} {Q : World → (Nat → Prop) → List Value → α → Prop} (hQ : Holds Q) {X : Nat → Prop} {w w' : World} {S : Nat → Prop} {v : Value} {xs : List α} (h : RowO T k Q w S v xs) (ho : Off X w w') (hx : ∀ b, S b → ¬ X b) : RowO T k Q w' S v xs :=
  h.holds hQ (fun b hlt hs => ⟨ho.block b hlt (hx b hs), hs⟩)
theorem RowO.wider {α : Type} {T k : Nat} {Q : World → (Nat → Prop) → List Value → α → Prop} (hQ : Holds Q) {w : World} {S S' : Nat → Prop} {v : Value} {xs : List α} (h : RowO T k Q w S v xs) (hs : ∀ b, b < w.heap.size → S b → S' b) : RowO T k Q w S' v xs :=
  h.holds hQ (fun b hlt hh => ⟨rfl, hs b hlt hh⟩)

/-- What is the call's own is read as what came in is. -/
def ReadsAs {α : Type} (Q : World → (Nat → Prop) → List Value → α → Prop) (R : World → List Value → α → Prop) : Prop := ∀ (w : World) (S : Nat → Prop) (cs : List Value) (x : α), Q w S cs x → R w cs x
theorem NumsO.reads {w : World} {S : Nat → Prop} {v : Value} {Z : List Int} (h : NumsO w S v Z) : NumsV w v Z := by
  obtain ⟨h1, h2, h3, h4⟩ := h
  obtain ⟨a, n, c, rfl, hat⟩ := h1.nums
  refine ⟨a, n, c, rfl, hat, fun ha => ?_, by rw [← hat.1]; exact h3, h4⟩
  subst ha
  rcases h1.2 with ⟨he, _⟩ | ⟨g, cap, cur, he, _⟩
  · cases he; rfl
  · cases he
theorem RowO.reads {α : Type} {T k : Nat} {Q : World → (Nat → Prop) → List Value → α → Prop} {R : World → List Value → α → Prop} (hR : ReadsAs Q R) {w : World} {S : Nat → Prop} {v : Value} {xs : List α} (h : RowO T k Q w S v xs) : RowV R k w v xs := by
  obtain ⟨css, h1, h2, h3, h4, h5, h6⟩ := h
  have hown := h1
  rcases h1.2 with ⟨rfl, h0⟩ | ⟨g, cap, cur, rfl, hB, hg, hc1, hc2, _⟩
  · exact ⟨none, 0, 0, rfl, h0, fun _ => rfl, by omega, fun h => absurd h (by omega)⟩
  · refine ⟨_, _, cap, rfl, rfl, (fun h => by cases h), by omega, fun _ => ⟨g, 0, rfl, (Array.getElem?_eq_some_iff.1 hg).1, fun i hi => ?_⟩⟩
    have hi' : i < css.length := by omega
    refine ⟨css[i], h3 _ (List.getElem_mem hi'), fun j hj => ?_, hR _ _ _ _ (h6 i hi hi')⟩
    rw [Nat.zero_add]
    exact (ownsRow_win hown h3 rfl hi').cell hj
theorem OpO.reads : ReadsAs OpO OpQ := fun _ _ _ _ ⟨l, e, h1, h2, h3, h4, h5, h6, h⟩ => ⟨l, e, h1, h2, h3, h4, h5, h6, h.reads⟩
theorem EndO.reads : ReadsAs EndO EndQ := fun _ _ _ _ ⟨l, m, e, h1, h2, h3, h4, h, h'⟩ => ⟨l, m, e, h1, h2, h3, h4, h.reads, h'.reads⟩
theorem BlockO.reads : ReadsAs BlockO BlockQ := fun _ _ _ _ ⟨p, o, es, e, h1, h2, h3⟩ => ⟨p, o, es, e, h1.reads, h2.reads OpO.reads, EndO.reads _ _ _ _ h3⟩
theorem FuncO.reads : ReadsAs FuncO FuncQ := fun _ _ _ _ ⟨b, e, h1, h2⟩ => ⟨b, e, h1, h2.reads BlockO.reads⟩
theorem SigO.reads : ReadsAs SigO SigQ := fun _ _ _ _ ⟨p, e, h1, h2⟩ => ⟨p, e, h1.reads, h2⟩
theorem ClassO.reads : ReadsAs ClassO ClassQ := fun _ _ _ _ ⟨f, m, e, h1, h2⟩ => ⟨f, m, e, h1.reads, h2.reads⟩
theorem ProgO.reads : ReadsAs ProgO ProgQ := fun _ _ _ _ ⟨s, c, f, e, h1, h2, h3⟩ => ⟨s, c, f, e, h1.reads SigO.reads, h2.reads ClassO.reads, h3.reads FuncO.reads⟩
end Go.Proofs.YtfnkmigcklmghaaDoor

/- Layer 3, P3.1: wire.Put and the document's Put, walked: they are the bytes ahead, and the number's. -/
namespace Go.Proofs.YtfnkmigcklmghaaDoor
open Go.RowKit (wrap64 intOf Below)
set_option linter.unusedVariables false

theorem info_u8 : (Tryd.prog.info? 5).map (fun i => (i.zero, i.size, i.bytes)) = some (some (.int .u8 0), 1, 1) := by kernel_rfl
theorem size_u8 (w : World) : (sizeOf 5).run Tryd.prog w = .ok 1 w := size_of_one info_u8 w

/-- A slice of bytes of the call's own comes back. -/
def BytesPost (B : Nat) (L : List UInt8) (w : World) (e : Ending) (w' : World) : Prop :=
  ∃ va vn vc, e = .returned (.slice va vn vc) ∧ OwnsB w' B 5 (.slice va vn vc) L ∧ Below B w w'
theorem OwnsB.read {w : World} {B : Nat} {e : TypeId} {a : Option Addr} {n c : Nat} {l : List UInt8} (h : OwnsB w B e (.slice a n c) l) : BytesAt w a n c l := by
  obtain ⟨a', n', c', he, hat⟩ := h.at
  cases he
  exact hat

theorem apart_any (a : Option Addr) (n c : Nat) (L : List UInt8) (room : Nat) (w : World) (hat : BytesAt w a n c L) (hn : n + room ≤ 140737488355328) :
    Calls Tryd.prog 151 #[.slice a n c, .int .i64 (room : Int)] w (BytesPost w.heap.size L w) := by
  obtain ⟨i0, hi, hz0, hz1, hz2⟩ := info_parts info_u8
  have hmk : ∀ u : World, (Instr.makeSlice 30 (.int .i64 0) (.int .i64 ((n : Int) + (room : Int)))).run Tryd.prog u =
      .ok (.slice (some ⟨u.heap.size, 0, none⟩) 0 (n + room)) (u.alloc (.cells (madeCells #[.int .u8 0] (n + room)) 5)) := fun u => by
    have h := run_make (P := Tryd.prog) u 30 5 i0 (.int .u8 0) Tryd.underlying30 hi hz0 .i64 .i64 0 ((n : Int) + (room : Int)) (by omega) (by omega) (by rw [hz2]; omega) (by omega)
    have e : ((n : Int) + (room : Int)).toNat = n + room := by omega
    rw [e] at h
    simpa [hz1, Value.cells] using h
  clear hz0 hz1 hz2 hi
  go_enter Tryd.func151, Tryd.ntmps151
  go_wp2_with (at_builtin; refine wpList_append_read _ rfl _ _ 30 rfl 5 Tryd.underlying30 info_u8 w.heap.size _ [] rfl (OwnsB.made _ _ (Nat.le_refl _) (by unfold maxLen; omega) (by simp [size_madeCells])) (by simp) a n c L rfl (hat.below ((Below.refl w.heap.size w).alloc (Nat.le_refl _) _) (Nat.le_refl _)) (by simp; omega) ?_; intro va vn vc w2 hown2 hat2 hb2)
  go_ret
  exact ⟨va, vn, vc, rfl, hown2, ((Below.refl w.heap.size w).alloc (Nat.le_refl _) _).trans hb2⟩

theorem unsigned_any (n : Int) (w : World) (h0 : -9223372036854775808 ≤ n) (h1 : n ≤ 9223372036854775807) :
    Calls Tryd.prog 152 #[.int .i64 n] w fun e w' => e = .returned (.int .u64 (zz n : Int)) ∧ w = w' := by
  by_cases hn : n < 0
  · have hz : 2 * (-1 - n) + 1 = (zz n : Int) := by unfold zz; rw [if_pos hn]; omega
    go_enter Tryd.func152, Tryd.ntmps152
    go_wp2
    go_ret
    exact ⟨rfl, rfl⟩
  · have hz : 2 * n = (zz n : Int) := by unfold zz; rw [if_neg hn]; omega
    go_enter Tryd.func152, Tryd.ntmps152
    go_wp2
    go_ret
    exact ⟨rfl, rfl⟩

/-- A byte that goes on, and the last one. -/
def goOn (y : Nat) : UInt8 := UInt8.ofNat (y % 128 + 128)
theorem goOn_or (y : Nat) : bits BinOp.or IntKind.u8 ((y : Int) % 256) 128 = ((goOn y).toNat : Int) := by
  have H : ∀ k : Fin 256, bits BinOp.or IntKind.u8 (k.val : Int) 128 = ((k.val % 128 + 128 : Nat) : Int) := by decide +kernel
  have h := H ⟨y % 256, by omega⟩
  have e1 : ((y : Int) % 256) = (((y % 256 : Nat)) : Int) := by omega
  have e2 : y % 256 % 128 = y % 128 := by omega
  rw [e1, h]
  unfold goOn
  rw [byte_nat _ (by omega)]
  simp only
  rw [e2]
/-- y is left, and f more bytes may come. -/
def Room (f y : Nat) : Prop := f ≤ 9 ∧ y * 128 ^ (9 - f) < 18446744073709551616
theorem Room.start {n : Int} (h0 : -9223372036854775808 ≤ n) (h1 : n ≤ 9223372036854775807) : Room 9 (zz n) := ⟨Nat.le_refl _, by have := zz_lt h0 h1; simpa using this⟩
theorem Room.more {f y : Nat} (h : Room f y) (hy : 128 ≤ y) : ∃ g, f = g + 1 ∧ putF f y = goOn y :: putF g (y / 128) ∧ Room g (y / 128) := by
  obtain ⟨h1, h2⟩ := h
  cases f with
  | zero => rw [show 9 - 0 = 9 from rfl, pow9] at h2; omega
  | succ g =>
    refine ⟨g, rfl, ?_, by omega, ?_⟩
    · conv => lhs; unfold putF
      rw [if_neg (by omega)]
      rfl
    · have := split_num y (128 ^ (9 - (g + 1)))
      have e : 9 - g = 9 - (g + 1) + 1 := by omega
      rw [e, Nat.pow_succ]
      omega
theorem Room.le {f y : Nat} (h : Room f y) : y ≤ 18446744073709551615 := by
  have h1 := h.2
  have h2 := pow_pos' (9 - f)
  have h3 : y * 1 ≤ y * 128 ^ (9 - f) := Nat.mul_le_mul_left y h2
  omega
theorem Room.last {f y : Nat} (hy : y < 128) : putF f y = [UInt8.ofNat y] := by
  cases f with
  | zero => rfl
  | succ f => unfold putF; rw [if_pos hy]

set_option maxRecDepth 100000 in
theorem grown_any (B : Nat) (v : Value) (l : List UInt8) (n : Int) (w : World) (hown : OwnsB w B 5 v l) (hB : B ≤ w.heap.size) (hl : l.length + 10 ≤ 140737488355328) (h0 : -9223372036854775808 ≤ n) (h1 : n ≤ 9223372036854775807) :
    Calls Tryd.prog 150 #[v, .int .i64 n] w (BytesPost B (l ++ putL n) w) := by
  have HO := Lib.hid hown
  clear hown
  go_enter Tryd.func150, Tryd.ntmps150
  go_wp2_with (go_at_call 152; (with_reducible refine (unsigned_any n _ h0 h1).mono ?_); rintro e w' ⟨rfl, rfl⟩)
  go_loopw [0, 5] (fun bv zv wr => ∃ (f y : Nat) (pre : List UInt8), zv = .int .u64 (y : Int) ∧ pre.length ≤ 9 - f ∧ RowKit.Hid (Room f y) ∧ RowKit.Hid (pre ++ putF f y = putL n) ∧ RowKit.Hid (OwnsB wr B 5 bv (l ++ pre)) ∧ RowKit.Hid (Below B w wr)) (fun _ zv _ => (intOf zv).toNat)
  case atStart => exact ⟨9, zz n, [], rfl, Nat.zero_le _, Lib.hid (Room.start h0 h1), Lib.hid rfl, Lib.hid (by rw [List.append_nil]; exact HO.out), Lib.hid (Below.refl _ _)⟩
  case round =>
    obtain ⟨f, y, pre, rfl, hpl, HR, HP, HW, HB⟩ := hrel
    have hsz := HB.out.size
    by_cases hlt : 128 ≤ y
    · obtain ⟨g, rfl, hput, hroom⟩ := HR.out.more hlt
      have hg : g + 1 ≤ 9 := HR.out.1
      have hor := goOn_or y
      have HQ : RowKit.Hid ((pre ++ [goOn y]) ++ putF g (y / 128) = putL n) := Lib.hid (by rw [← HP.out, hput, List.append_assoc]; rfl)
      have HM := Lib.hid hroom
      have HL : RowKit.Hid ((l ++ pre).length + 1 ≤ 140737488355328) := Lib.hid (by rw [List.length_append]; omega)
      clear hput hroom
      go_wp2_with (at_builtin; refine wpList_append_bytes _ rfl _ _ 30 rfl 5 Tryd.underlying30 info_u8 B _ (l ++ pre) rfl HW.out (by omega) _ 1 1 _ [goOn y] rfl (by simp) rfl rfl HL.out ?_; intro v2 w2 hown2 hb2 hz2)

      have HW2 : RowKit.Hid (OwnsB w2 B 5 v2 (l ++ (pre ++ [goOn y]))) := Lib.hid (by rw [← List.append_assoc]; exact hown2)
      have HB2 := Lib.hid (HB.out.trans hb2)
      clear hown2 hb2 hz2 hor
      go_wp2
      go_roundw
      case rel => exact ⟨g, y / 128, pre ++ [goOn y], by go_num, by simp; omega, HM, HQ, HW2, HB2⟩
      case measure => simp [intOf]; omega
    · have hlast : putF f y = [UInt8.ofNat y] := Room.last (by omega)
      have HQ : RowKit.Hid (pre ++ [UInt8.ofNat y] = putL n) := Lib.hid (by rw [← HP.out, hlast])
      have HL : RowKit.Hid ((l ++ pre).length + 1 ≤ 140737488355328) := Lib.hid (by rw [List.length_append]; omega)
      have HC : RowKit.Hid (#[Value.int .u8 (y : Int)] = ([UInt8.ofNat y].map byteV).toArray) := Lib.hid (by simp [byteV]; omega)
      clear hlast
      go_wp2_with (at_builtin; refine wpList_append_bytes _ rfl _ _ 30 rfl 5 Tryd.underlying30 info_u8 B _ (l ++ pre) rfl HW.out (by omega) _ 1 1 _ [UInt8.ofNat y] rfl (by simp) HC.out rfl HL.out ?_; intro v2 w2 hown2 hb2 hz2)
      rw [List.append_assoc, HQ.out] at hown2
      obtain ⟨va, vn, vc, rfl, hat⟩ := hown2.at
      have HB2 := Lib.hid (HB.out.trans hb2)
      go_ret
      exact ⟨va, vn, vc, rfl, hown2, HB2.out⟩

theorem apart_lit (a : Option Addr) (n c : Nat) (L : List UInt8) (w : World) (hat : BytesAt w a n c L) (hn : n + 10 ≤ 140737488355328) :
    Calls Tryd.prog 151 #[.slice a n c, .int .i64 10] w (BytesPost w.heap.size L w) := apart_any a n c L 10 w hat hn
theorem apart_none (a : Option Addr) (n c : Nat) (L : List UInt8) (w : World) (hat : BytesAt w a n c L) (hn : n ≤ 140737488355328) :
    Calls Tryd.prog 151 #[.slice a n c, .int .i64 0] w (BytesPost w.heap.size L w) := apart_any a n c L 0 w hat hn

theorem put_any (a : Option Addr) (n c : Nat) (L : List UInt8) (m : Int) (w : World) (hat : BytesAt w a n c L) (hn : n + 10 ≤ 140737488355328) (h0 : -9223372036854775808 ≤ m) (h1 : m ≤ 9223372036854775807) :
    Calls Tryd.prog 148 #[.slice a n c, .int .i64 m] w (BytesPost w.heap.size (L ++ putL m) w) := by
  have HL : L.length + 10 ≤ 140737488355328 := by rw [hat.1]; exact hn
  have HA := Lib.hid hat
  clear hat
  go_enter Tryd.func148, Tryd.ntmps148
  go_wp2_with (go_at_call 151; (with_reducible refine (apart_lit a n c L _ HA.out hn).mono ?_); rintro e w1 ⟨va, vn, vc, rfl, hown1, hb1⟩; have HB1 := Lib.hid hb1; have HO1 := Lib.hid hown1; clear hb1 hown1)
  have hz := HB1.out.size
  refine (grown_any w.heap.size _ L m w1 HO1.out hz HL h0 h1).mono ?_
  rintro e w2 ⟨va2, vn2, vc2, rfl, hown2, hb2⟩
  have HB2 := Lib.hid (HB1.out.trans hb2)
  have HO2 := Lib.hid hown2
  clear hb2 hown2
  go_wp2
  go_ret
  exact ⟨va2, vn2, vc2, rfl, HO2.out, HB2.out⟩

theorem goOn_rem (y : Nat) : (128 : Int) + (y : Int) % 128 = ((goOn y).toNat : Int) := by
  unfold goOn
  rw [byte_nat _ (by omega)]
  omega

set_option maxRecDepth 100000 in
theorem ref_put (a : Option Addr) (n c : Nat) (L : List UInt8) (m : Int) (w : World) (hat : BytesAt w a n c L) (hn : n + 10 ≤ 140737488355328) (h0 : -9223372036854775808 ≤ m) (h1 : m ≤ 9223372036854775807) :
    Calls Tryd.prog 62 #[.slice a n c, .int .i64 m] w (BytesPost w.heap.size (L ++ putL m) w) := by
  have HLn : L.length + 10 ≤ 140737488355328 := by rw [hat.1]; exact hn
  have HA := Lib.hid hat
  clear hat
  by_cases hneg : m < 0
  all_goals
    have hz : (if m < 0 then 2 * (-1 - m) + 1 else 2 * m) = (zz m : Int) := by unfold zz; split <;> omega
    first | rw [if_pos hneg] at hz | rw [if_neg hneg] at hz
    have HZ := Lib.hid hz
    go_enter Tryd.func62, Tryd.ntmps62
    go_wp2_with (at_builtin; refine wpList_append_read _ rfl _ _ 30 rfl 5 Tryd.underlying30 info_u8 w.heap.size _ [] rfl (OwnsB.empty w 5) (by simp) a n c L rfl (HA.out.below ((Below.refl w.heap.size w).alloc (Nat.le_refl _) _) (Nat.le_refl _)) (by simp; omega) ?_; intro va vn vc w2 hown2 hat2 hb2; have HO := Lib.hid hown2; have HB0 := Lib.hid (((Below.refl w.heap.size w).alloc (Nat.le_refl _) (.cells #[] 5)).trans hb2); clear hown2 hat2 hb2)
    go_loopw [5, 6] (fun bv zv wr => ∃ (f y : Nat) (pre : List UInt8), zv = .int .u64 (y : Int) ∧ pre.length ≤ 9 - f ∧ RowKit.Hid (Room f y) ∧ RowKit.Hid (pre ++ putF f y = putL m) ∧ RowKit.Hid (OwnsB wr w.heap.size 5 bv (L ++ pre)) ∧ RowKit.Hid (Below w.heap.size w wr)) (fun _ zv _ => (intOf zv).toNat)
    case atStart => exact ⟨9, zz m, [], rfl, Nat.zero_le _, Lib.hid (Room.start h0 h1), Lib.hid rfl, Lib.hid (by rw [List.append_nil]; exact HO.out), HB0⟩
    case round =>
      obtain ⟨f, y, pre, rfl, hpl, HR, HP, HW, HB⟩ := hrel
      have hsz := HB.out.size
      have hyle := HR.out.le
      by_cases hlt : 128 ≤ y
      · obtain ⟨g, rfl, hput, hroom⟩ := HR.out.more hlt
        have hg : g + 1 ≤ 9 := HR.out.1
        have hor := goOn_rem y
        have HQ : RowKit.Hid ((pre ++ [goOn y]) ++ putF g (y / 128) = putL m) := Lib.hid (by rw [← HP.out, hput, List.append_assoc]; rfl)
        have HM := Lib.hid hroom
        have HL : RowKit.Hid ((L ++ pre).length + 1 ≤ 140737488355328) := Lib.hid (by rw [List.length_append]; omega)
        have HC : RowKit.Hid (#[Value.int .u8 (128 + (y : Int) % 128)] = ([goOn y].map byteV).toArray) := Lib.hid (by rw [hor]; rfl)
        clear hput hroom hor
        go_wp2_with (at_builtin; refine wpList_append_bytes _ rfl _ _ 30 rfl 5 Tryd.underlying30 info_u8 w.heap.size _ (L ++ pre) rfl HW.out (by omega) _ 1 1 _ [goOn y] rfl (by simp) HC.out rfl HL.out ?_; intro v2 w2 hown2 hb2 hz2)
        have HW2 : RowKit.Hid (OwnsB w2 w.heap.size 5 v2 (L ++ (pre ++ [goOn y]))) := Lib.hid (by rw [← List.append_assoc]; exact hown2)
        have HB2 := Lib.hid (HB.out.trans hb2)
        clear hown2 hb2 hz2
        go_wp2
        go_roundw
        case rel => exact ⟨g, y / 128, pre ++ [goOn y], by go_num, by simp; omega, HM, HQ, HW2, HB2⟩
        case measure => simp [intOf]; omega
      · have hlast : putF f y = [UInt8.ofNat y] := Room.last (by omega)
        have HQ : RowKit.Hid (pre ++ [UInt8.ofNat y] = putL m) := Lib.hid (by rw [← HP.out, hlast])
        have HL : RowKit.Hid ((L ++ pre).length + 1 ≤ 140737488355328) := Lib.hid (by rw [List.length_append]; omega)
        have HC : RowKit.Hid (#[Value.int .u8 (y : Int)] = ([UInt8.ofNat y].map byteV).toArray) := Lib.hid (by simp [byteV]; omega)
        clear hlast
        go_wp2_with (at_builtin; refine wpList_append_bytes _ rfl _ _ 30 rfl 5 Tryd.underlying30 info_u8 w.heap.size _ (L ++ pre) rfl HW.out (by omega) _ 1 1 _ [UInt8.ofNat y] rfl (by simp) HC.out rfl HL.out ?_; intro v2 w2 hown2 hb2 hz2)
        rw [List.append_assoc, HQ.out] at hown2
        obtain ⟨va3, vn3, vc3, rfl, hat⟩ := hown2.at
        have HB2 := Lib.hid (HB.out.trans hb2)
        go_ret
        exact ⟨va3, vn3, vc3, rfl, hown2, HB2.out⟩
end Go.Proofs.YtfnkmigcklmghaaDoor

/- 'append(l, x)': a struct behind the others, of the call's own. Nothing of the program is named here but the types of what is listed. -/
namespace Go.Proofs.YtfnkmigcklmghaaDoor
open Go.RowKit (wrap64 intOf Below)
set_option linter.unusedVariables false

/-- Where the cells of a list lie, if there are any. -/
theorem RowV.cells {α : Type} {Q : World → List Value → α → Prop} {k : Nat} {w : World} {v : Value} {xs : List α} (h : RowV Q k w v xs) :
    ∃ (a : Option Addr) (c g off : Nat), v = .slice a xs.length c ∧ (a = none → c = 0) ∧ xs.length ≤ 140737488351232 ∧ (0 < xs.length → a = some ⟨g, off, none⟩ ∧ g < w.heap.size ∧
      ∀ i (h : i < xs.length), ∃ cs : List Value, cs.length = k ∧ (∀ j (hj : j < cs.length), w.cell? ⟨g, off + i * k + j, none⟩ = some cs[j]) ∧ Q w cs xs[i]) := by
  obtain ⟨a, n, c, rfl, hl, hnil, hcap, hpos⟩ := h
  subst hl
  by_cases h0 : 0 < xs.length
  · obtain ⟨g, off, e1, e2, e3⟩ := hpos h0
    exact ⟨a, c, g, off, rfl, hnil, hcap, fun _ => ⟨e1, e2, e3⟩⟩
  · exact ⟨a, c, 0, 0, rfl, hnil, hcap, fun h => absurd h h0⟩
/-- In blocks from B on. -/
def From (B : Nat) : Nat → Prop := fun b => B ≤ b
theorem From.mono {B B' : Nat} (h : B ≤ B') (b : Nat) : From B' b → From B b := fun hb => Nat.le_trans h hb
theorem ownsRow_base {w : World} {base base' e k : Nat} {v : Value} {n : Nat} {xs : List Value} (h : w.ownsRow base e k v n xs) (hb : ∀ b, v.ownBlock = some b → base' ≤ b) : w.ownsRow base' e k v n xs := by
  refine ⟨h.1, ?_⟩
  rcases h.2 with hn | ⟨g, cap, cur, rfl, hg, rest⟩
  · exact .inl hn
  · exact .inr ⟨g, cap, cur, rfl, hb g rfl, rest⟩
theorem RowO.none {α : Type} {T k : Nat} {Q : World → (Nat → Prop) → List Value → α → Prop} (w : World) (S : Nat → Prop) : RowO T k Q w S (.slice none 0 0) ([] : List α) :=
  ⟨[], World.ownsRow_nil _ _ _ _, rfl, (fun cs h => by cases h), (fun b h => by cases h), Nat.zero_le _, fun i h _ => absurd h (by simp)⟩
theorem RowO.own {α : Type} {T k : Nat} {Q : World → (Nat → Prop) → List Value → α → Prop} {w : World} {S : Nat → Prop} {v : Value} {xs : List α} (h : RowO T k Q w S v xs) {b : Nat} (hb : v.ownBlock = some b) : S b ∧ b < w.heap.size := by
  obtain ⟨css, h1, h2, h3, h4, h5, h6⟩ := h
  exact ⟨h4 b hb, (h1.lt b hb).2⟩

theorem wpList_append_elem {P : Program} (w : World) {ops : Array Oper} {rest : List Oper} {o : Oper} {a : Act} {Q' : Exit → Act → World → Prop} (hgd : o.guard = none) (s x : Operand) (t : TypeId)
    (ho : o.op = .call { callee := .builtin .append, args := #[s, x], argTypes := #[t, t] }) (e : TypeId) (ht : P.underlying t = some (.slice e)) (z : Value) (k bytes : Nat)
    (hinfo : (P.info? e).map (fun i => (i.zero, i.size, i.bytes)) = some (some z, k, bytes)) (hzs : z.cells.size = k) (hk : 0 < k) (hby : bytes ≤ 1000)
    {α : Type} {Q : World → (Nat → Prop) → List Value → α → Prop} (hQ : Holds Q) (B : Nat) (v : Value) (xs : List α) (hs : a.eval s = v) (hrow : RowO e k Q w (From B) v xs) (hB : B ≤ w.heap.size)
    (C : Array Value) (c g : Nat) (hx : a.eval x = .slice (some ⟨g, 0, none⟩) 1 c) (hg : g = w.heap.size) (hC : C.size = k) (h1 : ∀ u ∈ C.toList, u.oneCell' = true)
    (y : α) (B' : Nat) (hy : Q w (From B') C.toList y) (hBB : B ≤ B') (hfar : ∀ b, v.ownBlock = some b → b < B') (hn : xs.length ≤ 100000)
    (h : ∀ va vn vc w', RowO e k Q w' (From B) (.slice va vn vc) (xs ++ [y]) → Below B w w' → wpList P ops Q' rest (a.put o.dst (.slice va vn vc)) w') : wpList P ops Q' (o :: rest) a (w.alloc (.cells C e)) := by
  obtain ⟨i0, hi, hz0, hz1, hz2⟩ := info_parts hinfo
  subst hg
  have hrow' := hrow
  obtain ⟨css, r1, r2, r3, r4, r5, r6⟩ := hrow
  have hown := ownsRow_base r1 (base' := B) (fun b hb => r4 b hb)
  refine wpList_append_lies _ hgd s x t ho B e i0 z k bytes ht hi hz0 hz1 hz2 hzs hk v xs.length css.flatten hs (World.ownsRow.alloc hown _) ⟨w.heap.size, 0, none⟩ 1 c C.toList hx (by simp [hC]) (World.news_of_block (heap_alloc_new w _)) h1 (by omega) (by unfold maxLen; omega) (Nat.le_trans (Nat.mul_le_mul (show xs.length + 1 ≤ 100001 by omega) hby) (by decide)) (by simp; omega) (w.heap.size + 1) (by simp) ?_
  intro g' cap w' hown' hgrow hat hlt
  have hkeep : ∀ b, b < w.heap.size → v.ownBlock ≠ some b → w'.heap[b]? = w.heap[b]? := fun b hb hne => (hgrow.block b (by simp; omega) (fun e => hne e.symm)).trans (heap_alloc_old w _ hb)
  have hne' : ∀ b, b < w.heap.size → v.ownBlock ≠ some b → g' ≠ b := fun b hb hne e => by
    subst e
    rcases hat with h' | h'
    · exact hne h'
    · omega
  have hgB : B ≤ g' := by
    rcases hat with h' | h'
    · exact r4 g' h'
    · omega
  refine h _ _ _ w' ⟨css ++ [C.toList], ?_, by simp [r2], ?_, ?_, by simp; omega, ?_⟩ ?_
  · rw [List.flatten_append, List.length_append]
    simpa using ownsRow_base hown' (base' := 0) (fun _ _ => Nat.zero_le _)
  · intro cs hcs
    rcases List.mem_append.1 hcs with h' | h'
    · exact r3 cs h'
    · simp only [List.mem_singleton] at h'; subst h'; simpa using hC
  · intro b hb
    simp only [Value.ownBlock, Option.some.injEq] at hb
    subst hb
    exact hgB
  · intro i hi1 hi2
    by_cases hii : i < xs.length
    · have hic : i < css.length := by omega
      rw [List.getElem_append_left hic, List.getElem_append_left hii]
      exact hQ _ _ _ _ _ _ (fun b hb hS => ⟨hkeep b hb hS.2, hS.1, by simp only [Value.ownBlock, ne_eq, Option.some.injEq]; exact hne' b hb hS.2⟩) (r6 i hii hic)
    · have hie : i = xs.length := by simp at hi1; omega
      subst hie
      rw [List.getElem_append_right (by omega), List.getElem_append_right (by omega)]
      simp only [r2, Nat.sub_self, List.getElem_cons_zero]
      refine hQ _ _ _ _ _ _ (fun b hb hS => ?_) hy
      have hnb : v.ownBlock ≠ some b := fun e => by have := hfar b e; have h2 : B' ≤ b := hS; omega
      exact ⟨hkeep b hb hnb, Nat.le_trans hBB hS, by simp only [Value.ownBlock, ne_eq, Option.some.injEq]; exact hne' b hb hnb⟩
  · exact Below.grown ((Below.refl B w).alloc hB _) hgrow (by simp; omega) (fun k hk => r4 k hk)
end Go.Proofs.YtfnkmigcklmghaaDoor

/- Layer 4, P4.1: package kind's Fields, walked: it reads the letters off its table. -/
namespace Go.Proofs.YtfnkmigcklmghaaDoor
open Go.RowKit (wrap64 intOf Below)
set_option linter.unusedVariables false

/-- The table of fields holds what it was laid with. -/
def FT (w : World) : Prop := ∀ k : Nat, k < 26 → w.cell? ⟨2, k, none⟩ = some (.string (mk (fieldsL (k : Int))))
theorem FT.lt {w : World} (h : FT w) : 2 < w.heap.size := World.block_lt_of_cell? _ _ (h 0 (by omega))
theorem FT.below {w w' : World} {B : Nat} (h : FT w) (hb : Below B w w') (hB : 2 < B) : FT w' := fun k hk => by
  rw [hb.cell (p := ⟨2, k, none⟩) hB]; exact h k hk
theorem FT.since {w w' : World} (h : FT w) (hb : Below w.heap.size w w') : FT w' := h.below hb h.lt

set_option maxRecDepth 100000 in
theorem kfields_any (K : Int) (w : World) (hft : FT w) :
    Calls Tryd.prog 36 #[.int .i64 K] w fun e w' => e = .returned (.string (mk (fieldsL K))) ∧ w = w' := by
  by_cases h0 : K < 0
  · have HF := Lib.hid (fields_none (K := K) (.inl h0))
    clear hft
    go_enter Tryd.func36, Tryd.ntmps36
    go_wp2
    go_ret
    exact ⟨by rw [HF.out]; rfl, rfl⟩
  · by_cases h1 : 25 < K
    · have HF := Lib.hid (fields_none (K := K) (.inr h1))
      have h0' : 0 ≤ K := by omega
      have h1' : 26 ≤ K := by omega
      clear hft h0
      go_enter Tryd.func36, Tryd.ntmps36
      go_wp2
      go_ret
      exact ⟨by rw [HF.out]; rfl, rfl⟩
    · obtain ⟨k, rfl⟩ := Int.eq_ofNat_of_zero_le (show 0 ≤ K by omega)
      have hk : k < 26 := by omega
      have hcell := hft k hk
      have h0' : ¬ ((k : Int) < 0) := by omega
      have h1' : ¬ (26 ≤ (k : Int)) := by omega
      clear hft h0 h1
      go_enter Tryd.func36, Tryd.ntmps36
      go_wp2
      go_ret
      exact ⟨rfl, rfl⟩
end Go.Proofs.YtfnkmigcklmghaaDoor

/- A region that draws its order and whose last step stores into a cell that it has read: S, which the reads rest on, need not stand behind that last step, for it waits for all of them. Nothing of the program is named here. -/
namespace Go.Proofs.YtfnkmigcklmghaaDoor
set_option linter.unusedVariables false
section
variable {P : Program} {ops : Array Oper} {Q : Exit → Act → World → Prop} {md : Region.Mode} {S : World → Prop} {z : Nat}

/-- Whatever order is picked, S standing behind each step but z. -/
def wpAnyZ (P : Program) (md : Region.Mode) (ops : Array Oper) (Q : Exit → Act → World → Prop) (S : World → Prop) (z : Nat) : Nat → Array Bool → Act → World → Prop
  | 0, listed, a, w => Region.ready md ops listed = [] ∧ Q .normal a w
  | fuel + 1, listed, a, w =>
    (Region.ready md ops listed = [] → Q .normal a w) ∧
    ∀ i ∈ Region.ready md ops listed, wpOp P ops Q i (fun a' w' => (i ≠ z → S w') ∧ wpAnyZ P md ops Q S z fuel (listed.setIfInBounds i true) a' w') a w
theorem wpAny_of_Z : ∀ (fuel : Nat) (listed : Array Bool) (a : Act) (w : World), wpAnyZ P md ops Q S z fuel listed a w → wpAny P md ops Q fuel listed a w
  | 0, _, _, _, h => h
  | fuel + 1, _, _, _, h => ⟨h.1, fun i hi => wpOp_mono (fun a' w' h' => wpAny_of_Z fuel _ a' w' h'.2) (h.2 i hi)⟩
/-- z waits for i. -/
def waits (md : Region.Mode) (ops : Array Oper) (z i : Nat) : Bool := ((ops[z]?).map fun o => o.after.any fun e => Region.binds md e && e.on == i).getD false
theorem waits_spec {i : Nat} (h : waits md ops z i = true) : ∃ o, ops[z]? = some o ∧ ∃ e ∈ o.after, Region.binds md e = true ∧ e.on = i := by
  unfold waits at h
  cases ho : ops[z]? with
  | none => simp [ho] at h
  | some o =>
    simp only [ho, Option.map_some, Option.getD_some, Array.any_eq_true, Bool.and_eq_true, beq_iff_eq] at h
    obtain ⟨k, hk, h1, h2⟩ := h
    exact ⟨o, rfl, o.after[k], Array.getElem_mem hk, h1, h2⟩
theorem not_both {i : Nat} {listed : Array Bool} (hw : waits md ops z i = true) (hi : listed.getD i true = false) : z ∉ Region.ready md ops listed := by
  intro hz
  obtain ⟨o, ho, e, he, hb, rfl⟩ := waits_spec hw
  obtain ⟨_, o', ho', hall⟩ := mem_ready.1 hz
  rw [ho] at ho'
  cases ho'
  have h1 := hall e he hb
  rcases Nat.lt_or_ge e.on listed.size with h' | h'
  · simp [h'] at hi h1; rw [hi] at h1; cases h1
  · simp [Array.getElem?_eq_none h'] at h1
theorem wpAnyZ_first {i : Nat} {oi : Oper} {v : Value} (hi : ops[i]? = some oi) (hsel : ∀ (j : Nat) (o : Oper) cs b, ops[j]? = some o → o.op ≠ .select cs b)
    (hQ : ∀ c a w, Q (.panic c) (a.put oi.dst v) w → Q (.panic c) a w) (hz : waits md ops z i = true) :
    ∀ (fuel : Nat) (listed : Array Bool) (a : Act) (w : World),
      (∀ j oj, ops[j]? = some oj → j ≠ i → listed.getD j true = false → (∀ e ∈ oj.after, Region.binds md e = true → e.on ≠ i) → oi.apart ops oj = true) →
      i ∈ Region.ready md ops listed → YieldsIf P ops S oi v a → S w →
      wpAnyZ P md ops Q S z fuel (listed.setIfInBounds i true) (a.put oi.dst v) w → wpAnyZ P md ops Q S z (fuel + 1) listed a w := by
  intro fuel
  induction fuel with
  | zero =>
    intro listed a w _ hr hy hS H
    refine ⟨fun h => (by rw [h] at hr; cases hr), fun j hj => ?_⟩
    by_cases hji : j = i
    · subst hji; exact hy.wpOp hi hS ⟨fun _ => hS, H⟩
    · have := ready_mono hj hji
      rw [H.1] at this
      cases this
  | succ fuel ih =>
    intro listed a w hfree hr hy hS H
    refine ⟨fun h => (by rw [h] at hr; cases hr), fun j hj => ?_⟩
    by_cases hji : j = i
    · subst hji; exact hy.wpOp hi hS ⟨fun _ => hS, H⟩
    · have hjz : j ≠ z := fun e => not_both hz (mem_ready.1 hr).1 (e ▸ hj)
      have h1 := H.2 j (ready_mono hj hji)
      obtain ⟨hjun, oj, hoj, hall⟩ := mem_ready.1 hj
      have hnot : ∀ e ∈ oj.after, Region.binds md e = true → e.on ≠ i := fun e he hb heq => by
        have g1 := hall e he hb
        have g0 := (mem_ready.1 hr).1
        rw [heq] at g1
        rcases Nat.lt_or_ge i listed.size with h' | h'
        · simp [h'] at g0 g1; rw [g0] at g1; cases g1
        · simp [Array.getElem?_eq_none h'] at g1
      have h2 := wpOp_putIf hoj (hfree j oj hoj hji hjun hnot) (fun cs b => hsel i oi cs b hi) (fun cs b => hsel j oj cs b hoj) hQ hy h1
      have hfree' : ∀ k ok, ops[k]? = some ok → k ≠ i → (listed.setIfInBounds j true).getD k true = false →
          (∀ e ∈ ok.after, Region.binds md e = true → e.on ≠ i) → oi.apart ops ok = true := fun k ok hk hki hun hno => by
        refine hfree k ok hk hki ?_ hno
        by_cases hjk : j = k
        · subst hjk; exact hjun
        · rw [getD_set_ne true hjk] at hun; exact hun
      refine wpOp_mono (fun a' w' h3 => ⟨fun _ => h3.2.1 hjz, ih (listed.setIfInBounds j true) a' w' hfree' (ready_mono hr (Ne.symm hji)) h3.1 (h3.2.1 hjz) ?_⟩) h2
      rw [Array.setIfInBounds_comm _ _ hji]
      exact h3.2.2
theorem wpAnyZ_take {i : Nat} {oi : Oper} {v : Value} {fuel : Nat} {listed : Array Bool} {a : Act} {w : World} (hi : ops[i]? = some oi)
    (hs : Region.noSelect ops = true) (hf : Region.free md ops listed i = true) (hr : (Region.ready md ops listed).contains i = true) (hz : waits md ops z i = true)
    (hQ : ∀ c a w, Q (.panic c) (a.put oi.dst v) w → Q (.panic c) a w) (hy : YieldsIf P ops S oi v a) (hS : S w)
    (h : wpAnyZ P md ops Q S z fuel (listed.setIfInBounds i true) (a.put oi.dst v) w) : wpAnyZ P md ops Q S z (fuel + 1) listed a w :=
  wpAnyZ_first hi (Region.noSelect_spec hs) hQ hz fuel listed a w (Region.free_spec hi hf) (by simpa using hr) hy hS h
theorem wpAnyZ_one {i : Nat} {o : Oper} {fuel : Nat} {listed : Array Bool} {a : Act} {w : World} (hr : Region.ready md ops listed = [i]) (ho : ops[i]? = some o)
    (h : ∀ K' : Act → World → Prop, Shut (∀ a w, S w → (S w → wpAnyZ P md ops Q S z fuel (listed.setIfInBounds i true) a w) → K' a w) → if Region.wanted o (yielded ops a.tmps) = true then Oper.wp P o a w K' Q else K' (a.put o.dst undef) w) :
    wpAnyZ P md ops Q S z (fuel + 1) listed a w := by
  refine ⟨fun h0 => (by rw [hr] at h0; cases h0), fun j hj => ?_⟩
  rw [hr, List.mem_singleton] at hj
  subst hj
  exact wpOp_step ho (fun K' hK => h K' (fun a w hS hW => hK a w ⟨fun _ => hS, hW hS⟩))
theorem wpAnyZ_two {i j : Nat} {o p : Oper} {fuel : Nat} {listed : Array Bool} {a : Act} {w : World} (hr : Region.ready md ops listed = [i, j]) (ho : ops[i]? = some o) (hp : ops[j]? = some p)
    (h : ∀ K' : Act → World → Prop, Shut (∀ a w, S w → (S w → wpAnyZ P md ops Q S z fuel (listed.setIfInBounds i true) a w) → K' a w) → if Region.wanted o (yielded ops a.tmps) = true then Oper.wp P o a w K' Q else K' (a.put o.dst undef) w)
    (h' : ∀ K' : Act → World → Prop, Shut (∀ a w, S w → (S w → wpAnyZ P md ops Q S z fuel (listed.setIfInBounds j true) a w) → K' a w) → if Region.wanted p (yielded ops a.tmps) = true then Oper.wp P p a w K' Q else K' (a.put p.dst undef) w) :
    wpAnyZ P md ops Q S z (fuel + 1) listed a w := by
  refine ⟨fun h0 => (by rw [hr] at h0; cases h0), fun k hk => ?_⟩
  rw [hr] at hk
  simp only [List.mem_cons, List.not_mem_nil, or_false] at hk
  rcases hk with rfl | rfl
  · exact wpOp_step ho (fun K' hK => h K' (fun a w hS hW => hK a w ⟨fun _ => hS, hW hS⟩))
  · exact wpOp_step hp (fun K' hK => h' K' (fun a w hS hW => hK a w ⟨fun _ => hS, hW hS⟩))
theorem wpAnyZ_last {o : Oper} {fuel : Nat} {listed : Array Bool} {a : Act} {w : World} (hr : Region.ready md ops listed = [z]) (ho : ops[z]? = some o) (hd : Region.ready md ops (listed.setIfInBounds z true) = [])
    (h : ∀ K' : Act → World → Prop, Shut (∀ a w, Q .normal a w → K' a w) → if Region.wanted o (yielded ops a.tmps) = true then Oper.wp P o a w K' Q else K' (a.put o.dst undef) w) :
    wpAnyZ P md ops Q S z (fuel + 1) listed a w := by
  refine ⟨fun h0 => (by rw [hr] at h0; cases h0), fun j hj => ?_⟩
  rw [hr, List.mem_singleton] at hj
  subst hj
  exact wpOp_step ho (fun K' hK => h K' (fun a w hW => hK a w ⟨fun e => absurd rfl e, by
    cases fuel with
    | zero => exact ⟨hd, hW⟩
    | succ n => exact ⟨fun _ => hW, by rw [hd]; simp⟩⟩))
theorem wp_region_Z {id : Nat} (z : Nat) {a : Act} {w : World} (hm : P.follows .mixedOrders = true) (hS : S w.drew)
    (h : S w.drew → wpAnyZ P .any ops Q S z ops.size (Array.replicate ops.size false) a w.drew) : (Code.region id ops true).wp P Q a w :=
  wp_region_any hm (wpAny_of_Z _ _ _ _ (h hS))
end
end Go.Proofs.YtfnkmigcklmghaaDoor
