/- Layer 2, plain: how a text is quoted (P2.2), byte by byte, on lists of bytes; that a quote is read in one way (P2.3). Nothing of the program is named here. -/
import Derived.Lib.Bytealg
import Derived.Lib.Strings
import Derived.WalkKit
import Derived.ProofKit
import Derived.Laws.AppendOwn
import Derived.Laws.MakeOwn
import Derived.Laws.IdiomStrings
import Derived.Below
import Derived.Deep.AppendLies
import Derived.OpenShut
import Derived.Laws.AppendOwnNone
import Derived.SizedLaws
import Derived.Deep.QuietTactic
import Derived.BigQuiet
import Derived.Laws.Slices
import Derived.Test.YtgnfinojnmkkkaaRows
import Derived.Lib.Hide
import Derived.Outline
import Derived.Handy
import Derived.Lib.SmallJoins
import Derived.Maps.AppendAt
import Derived.Maps.OwnSet
import Derived.OwnWalk
import Derived.RangeFuncRecord
import Derived.Scope
import Derived.ControlIn
import Derived.RangeFuncIn
import Derived.LoopNIn
import Derived.Deep.DeepCutAuto
import Derived.RangeFuncNested
import Derived.Shelf.Abstract
import Derived.Shelf.RegionOpen
import Derived.RangeFuncBound
import Derived.RangeFuncCalls
import Derived.RangeFuncLeaves
import Derived.OwnWalkIn
import Derived.TacticsInMore
import Derived.LoopIn
import Derived.RangeFuncBox
import Derived.WalkSmall
import Derived.Deep.RegionHeld
namespace Go.Proofs.Ytgnfinojnmkkkaa
set_option linter.unusedVariables false

/-- A text out of its bytes. -/
def mk (l : List UInt8) : ByteArray := ⟨l.toArray⟩
theorem mk_list (l : List UInt8) : (mk l).data.toList = l := by simp [mk]
theorem mk_of (s : ByteArray) : mk s.data.toList = s := by unfold mk; rw [Array.toArray_toList]
theorem mk_size (l : List UInt8) : (mk l).size = l.length := by simp [mk, ByteArray.size]
theorem mk_inj {a b : List UInt8} (h : mk a = mk b) : a = b := by rw [← mk_list a, h, mk_list]
theorem list_len (s : ByteArray) : s.data.toList.length = s.size := by rw [Array.length_toList]; rfl
theorem list_at (s : ByteArray) (k : Nat) (h : k < s.size) : s.data.toList[k]? = some s[k] := by
  rw [List.getElem?_eq_getElem (by rw [list_len]; exact h)]; rfl
def digit (n : Nat) : UInt8 := if n < 10 then UInt8.ofNat (48 + n) else UInt8.ofNat (87 + n)
def markI (n : Int) : Bool := n == 34 || n == 92
def shownI (n : Int) : Bool := decide (32 ≤ n) && decide (n ≤ 126)
def mark (c : UInt8) : Bool := markI c.toNat
def shown (c : UInt8) : Bool := shownI c.toNat
/-- What a quote tells one byte as. -/
def enc (c : UInt8) : List UInt8 := if mark c then [92, c] else if shown c then [c] else [92, digit (c.toNat / 16), digit (c.toNat % 16)]
def encs (l : List UInt8) : List UInt8 := l.flatMap enc
def quoteL (l : List UInt8) : List UInt8 := 34 :: (encs l ++ [34])

theorem encs_nil : encs [] = [] := rfl
theorem encs_cons (c : UInt8) (l : List UInt8) : encs (c :: l) = enc c ++ encs l := by simp [encs]
theorem encs_append (a b : List UInt8) : encs (a ++ b) = encs a ++ encs b := by simp [encs]
theorem encs_snoc (a : List UInt8) (c : UInt8) : encs (a ++ [c]) = encs a ++ enc c := by simp [encs]
theorem enc_len (c : UInt8) : 1 ≤ (enc c).length ∧ (enc c).length ≤ 3 := by
  unfold enc; split
  · simp
  · split <;> simp
theorem encs_len (l : List UInt8) : l.length ≤ (encs l).length ∧ (encs l).length ≤ 3 * l.length := by
  induction l with
  | nil => simp [encs_nil]
  | cons c l ih => rw [encs_cons]; have := enc_len c; simp only [List.length_append, List.length_cons]; omega
theorem quoteL_len (l : List UInt8) : (quoteL l).length = (encs l).length + 2 := by simp [quoteL]

/-- Which place among the sixteen digits a byte has; below 0: none. -/
def hx (a : UInt8) : Int := Lib.indexByte [48, 49, 50, 51, 52, 53, 54, 55, 56, 57, 97, 98, 99, 100, 101, 102] a
/-- The byte that two digits are, if a quote tells it so. -/
def hex2 (a b : UInt8) : Option UInt8 :=
  if hx a < 0 ∨ hx b < 0 then none else
  if shownI (16 * hx a + hx b) then none else some (UInt8.ofNat (16 * hx a + hx b).toNat)
/-- The byte that a piece of a quote begins with, and what stands behind it. -/
def firstP : List UInt8 → Option (UInt8 × List UInt8)
  | [] => none
  | c :: r => if c = 92 then
      (match r with
       | [] => none
       | d :: r1 => if mark d then some (d, r1) else
          (match r1 with
           | [] => none
           | e :: r2 => (hex2 d e).map fun x => (x, r2)))
    else if shown c && !mark c then some (c, r) else none

theorem bytes_all {p : UInt8 → Prop} (h : ∀ n : Fin 256, p (UInt8.ofNat n.val)) (c : UInt8) : p c := by
  have := h ⟨c.toNat, c.toNat_lt⟩
  simpa using this
theorem hx_range (a : UInt8) : -1 ≤ hx a ∧ hx a < 16 := by
  revert a; apply bytes_all; decide +kernel
theorem hx_digit (a : UInt8) : 0 ≤ hx a → digit (hx a).toNat = a ∧ mark a = false := by
  revert a; apply bytes_all; decide +kernel
theorem digit_hx (n : Nat) (h : n < 16) : hx (digit n) = n := by
  have H : ∀ k : Fin 16, hx (digit k.val) = (k.val : Int) := by decide +kernel
  exact H ⟨n, h⟩
theorem digit_mark (n : Nat) (h : n < 16) : mark (digit n) = false := by
  have H : ∀ k : Fin 16, mark (digit k.val) = false := by decide +kernel
  exact H ⟨n, h⟩
theorem mark_shown (c : UInt8) (h : mark c = true) : shown c = true := by
  revert c; apply bytes_all; decide +kernel
theorem mark_bs : mark 92 = true := by decide

theorem enc_mark {c : UInt8} (h : mark c = true) : enc c = [92, c] := by unfold enc; rw [if_pos h]
theorem enc_plain {c : UInt8} (h : mark c = false) (h2 : shown c = true) : enc c = [c] := by unfold enc; rw [if_neg (by rw [h]; decide), if_pos h2]
theorem enc_hex {c : UInt8} (h : shown c = false) : enc c = [92, digit (c.toNat / 16), digit (c.toNat % 16)] := by
  have hm : mark c = false := by
    cases e : mark c
    · rfl
    · rw [mark_shown c e] at h; cases h
  unfold enc; rw [if_neg (by rw [hm]; decide), if_neg (by rw [h]; decide)]

theorem hex2_enc {c : UInt8} (h : shown c = false) : hex2 (digit (c.toNat / 16)) (digit (c.toNat % 16)) = some c := by
  have hc := c.toNat_lt
  have e1 := digit_hx (c.toNat / 16) (by omega)
  have e2 := digit_hx (c.toNat % 16) (by omega)
  have e3 : 16 * ((c.toNat / 16 : Nat) : Int) + ((c.toNat % 16 : Nat) : Int) = (c.toNat : Int) := by omega
  unfold hex2
  rw [e1, e2, if_neg (by omega), e3]
  have : shownI (c.toNat : Int) = false := h
  rw [this]
  simp
theorem hex2_sound {a b x : UInt8} (h : hex2 a b = some x) : shown x = false ∧ digit (x.toNat / 16) = a ∧ digit (x.toNat % 16) = b ∧ mark a = false := by
  unfold hex2 at h
  have ra := hx_range a
  have rb := hx_range b
  split at h
  · cases h
  rename_i hn
  split at h
  · cases h
  rename_i hs
  have hx' : x = UInt8.ofNat (16 * hx a + hx b).toNat := (Option.some.inj h).symm
  have hv : x.toNat = (16 * hx a + hx b).toNat := by
    rw [hx']; simp; omega
  have h1 : x.toNat / 16 = (hx a).toNat := by omega
  have h2 : x.toNat % 16 = (hx b).toNat := by omega
  refine ⟨?_, ?_, ?_, (hx_digit a (by omega)).2⟩
  · unfold shown
    rw [show (x.toNat : Int) = 16 * hx a + hx b by omega]
    simpa using hs
  · rw [h1]; exact (hx_digit a (by omega)).1
  · rw [h2]; exact (hx_digit b (by omega)).1

/-- A byte's piece of a quote is read as the byte, whatever is behind. -/
theorem firstP_enc (c : UInt8) (r : List UInt8) : firstP (enc c ++ r) = some (c, r) := by
  cases hm : mark c
  · cases hs : shown c
    · rw [enc_hex hs]
      have hd : mark (digit (c.toNat / 16)) = false := digit_mark _ (by have := c.toNat_lt; omega)
      simp only [List.cons_append, List.nil_append, firstP, if_true, hd, Bool.false_eq_true, if_false, hex2_enc hs, Option.map_some]
    · rw [enc_plain hm hs]
      have hne : c ≠ 92 := by intro e; subst e; rw [mark_bs] at hm; cases hm
      simp [firstP, hne, hs, hm]
  · rw [enc_mark hm]
    simp [firstP, hm]
/-- What is read is a byte's piece. -/
theorem firstP_sound {l : List UInt8} {c : UInt8} {r : List UInt8} (h : firstP l = some (c, r)) : l = enc c ++ r := by
  cases l with
  | nil => cases h
  | cons a l =>
    simp only [firstP] at h
    split at h
    · rename_i ha
      subst ha
      cases l with
      | nil => cases h
      | cons d r1 =>
        simp only at h
        split at h
        · rename_i hd
          simp only [Option.some.injEq, Prod.mk.injEq] at h
          obtain ⟨rfl, rfl⟩ := h
          rw [enc_mark hd]; rfl
        · cases r1 with
          | nil => cases h
          | cons e r2 =>
            simp only [Option.map_eq_some_iff, Prod.mk.injEq] at h
            obtain ⟨x, hx', rfl, rfl⟩ := h
            obtain ⟨hs, h1, h2, _⟩ := hex2_sound hx'
            rw [enc_hex hs, h1, h2]; rfl
    · split at h
      · rename_i _ hsm
        simp only [Option.some.injEq, Prod.mk.injEq] at h
        obtain ⟨rfl, rfl⟩ := h
        simp only [Bool.and_eq_true, Bool.not_eq_true'] at hsm
        rw [enc_plain hsm.2 hsm.1]; rfl
      · cases h

theorem enc_cancel {c d : UInt8} {r q : List UInt8} (h : enc c ++ r = enc d ++ q) : c = d ∧ r = q := by
  have := firstP_enc c r
  rw [h, firstP_enc d q] at this
  simp only [Option.some.injEq, Prod.mk.injEq] at this
  exact ⟨this.1.symm, this.2.symm⟩
theorem enc_ne (c : UInt8) : enc c ≠ [] := by have := enc_len c; intro e; rw [e] at this; simp at this
/-- What was read is the text's beginning, and what is left tells its end. -/
theorem encs_cancel : ∀ {a t r : List UInt8}, encs a ++ r = encs t → ∃ q, t = a ++ q ∧ r = encs q
  | [], t, r, h => ⟨t, rfl, by simpa [encs_nil] using h⟩
  | c :: a, [], r, h => by
    rw [encs_cons, encs_nil] at h
    have h1 := (List.append_eq_nil_iff.1 (List.append_eq_nil_iff.1 h).1).1
    exact absurd h1 (enc_ne c)
  | c :: a, d :: t, r, h => by
    rw [encs_cons, encs_cons, List.append_assoc] at h
    obtain ⟨rfl, h2⟩ := enc_cancel h
    obtain ⟨q, rfl, hq⟩ := encs_cancel h2
    exact ⟨q, rfl, hq⟩
theorem encs_inj {a t : List UInt8} (h : encs a = encs t) : a = t := by
  obtain ⟨q, rfl, hq⟩ := encs_cancel (a := a) (t := t) (r := []) (by rw [List.append_nil]; exact h)
  have h0 : q.length ≤ 0 := by
    have := (encs_len q).1
    rw [← hq] at this
    simpa using this
  have hq0 : q = [] := List.eq_nil_of_length_eq_zero (by omega)
  subst hq0
  simp
theorem quoteL_inj {a t : List UInt8} (h : quoteL a = quoteL t) : a = t := by
  unfold quoteL at h
  simp only [List.cons.injEq, true_and] at h
  exact encs_inj (List.append_cancel_right h)

/-- What a quote is, is text t; or it is none. -/
def Reads (L : List UInt8) (v : List UInt8) (ok : Bool) : Prop := (ok = true ∧ quoteL v = L) ∨ (ok = false ∧ v = [] ∧ ∀ t, quoteL t ≠ L)
theorem Reads.same {L v v' : List UInt8} {ok ok' : Bool} (h : Reads L v ok) (h' : Reads L v' ok') : v = v' ∧ ok = ok' := by
  rcases h with ⟨rfl, h⟩ | ⟨rfl, rfl, h⟩ <;> rcases h' with ⟨rfl, h'⟩ | ⟨rfl, rfl, h'⟩
  · exact ⟨quoteL_inj (h.trans h'.symm), rfl⟩
  · exact absurd h (h' v)
  · exact absurd h' (h v')
  · exact ⟨rfl, rfl⟩
/-- All bytes of a quote can be shown. -/
theorem enc_shown (c : UInt8) : ∀ x ∈ enc c, shown x = true := by
  revert c; apply bytes_all; decide +kernel
theorem quoteL_shown (l : List UInt8) : ∀ x ∈ quoteL l, shown x = true := by
  intro x hx
  simp only [quoteL, List.mem_cons, List.mem_append, List.not_mem_nil, or_false, encs, List.mem_flatMap] at hx
  rcases hx with rfl | ⟨c, _, h⟩ | rfl
  · decide
  · exact enc_shown c x h
  · decide
end Go.Proofs.Ytgnfinojnmkkkaa

/- A row of bytes that a call made itself: told by the list of its bytes; what append, make and the way back to a text do to it. Nothing of the program is named here. -/
namespace Go.Proofs.Ytgnfinojnmkkkaa
open Go.RowKit (wrap64 intOf Below)
set_option linter.unusedVariables false

def byteV (c : UInt8) : Value := .int .u8 c.toNat
/-- The slice v is the call's own (from block B on) and holds the bytes l. -/
def OwnsB (w : World) (B : Nat) (e : TypeId) (v : Value) (l : List UInt8) : Prop := w.ownsRow B e 1 v l.length (l.map byteV)

theorem OwnsB.alloc {w : World} {B : Nat} {e : TypeId} {v : Value} {l : List UInt8} (h : OwnsB w B e v l) (o : Obj) : OwnsB (w.alloc o) B e v l := World.ownsRow.alloc h o
theorem OwnsB.drew {w : World} {B : Nat} {e : TypeId} {v : Value} {l : List UInt8} (h : OwnsB w B e v l) : OwnsB w.drew B e v l := h
theorem OwnsB.nil (w : World) (B : Nat) (e : TypeId) : OwnsB w B e (.slice none 0 0) [] := World.ownsRow_nil w B e 1
theorem OwnsB.made {w : World} {B : Nat} {e : TypeId} (cur : Array Value) (cap : Nat) (hB : B ≤ w.heap.size) (hm : cap ≤ maxLen) (hs : cur.size = cap) : OwnsB (w.alloc (.cells cur e)) B e (.slice (some ⟨w.heap.size, 0, none⟩) 0 cap) [] :=
  World.ownsRow_made w cur cap hB hm (by rw [hs, Nat.mul_one])
theorem OwnsB.lt {w : World} {B : Nat} {e : TypeId} {v : Value} {l : List UInt8} (h : OwnsB w B e v l) : ∀ k, v.ownBlock = some k → B ≤ k ∧ k < w.heap.size := World.ownsRow.lt h
theorem OwnsB.shape {w : World} {B : Nat} {e : TypeId} {v : Value} {l : List UInt8} (h : OwnsB w B e v l) : ∃ (a : Option Addr) (c : Nat), v = .slice a l.length c := by
  rcases h.2 with ⟨rfl, h0⟩ | ⟨g, cap, cur, rfl, _⟩
  · rw [h0]; exact ⟨none, 0, rfl⟩
  · exact ⟨_, cap, rfl⟩
/-- A row just built out of bytes. -/
theorem OwnsB.built {w : World} {B : Nat} {e : TypeId} (l : List UInt8) (C : Array Value) (n : Nat) (hC : C = (l.map byteV).toArray) (hB : B ≤ w.heap.size) (hn : l.length = n) (hm : n ≤ maxLen) : OwnsB (w.alloc (.cells C e)) B e (.slice (some ⟨w.heap.size, 0, none⟩) n n) l := by
  subst hn hC
  refine ⟨by simp, .inr ⟨w.heap.size, _, (l.map byteV).toArray, rfl, hB, heap_alloc_new w _, Nat.le_refl _, hm, by simp, ?_⟩⟩
  simp only [Nat.mul_one]
  exact List.take_of_length_le (by simp)

/-- What has grown behind it changes nothing of it. -/
theorem OwnsB.below {w w' : World} {B : Nat} {e : TypeId} {v : Value} {l : List UInt8} (h : OwnsB w B e v l) (hb : Below w.heap.size w w') : OwnsB w' B e v l := by
  refine ⟨h.1, ?_⟩
  rcases h.2 with hn | ⟨g, cap, cur, rfl, hB, hg, rest⟩
  · exact .inl hn
  · refine .inr ⟨g, cap, cur, rfl, hB, ?_, rest⟩
    rw [hb.block g (Array.getElem?_eq_some_iff.1 hg).1]
    exact hg
theorem byteV_one {l : List UInt8} : ∀ u ∈ l.map byteV, u.oneCell' = true := by
  intro u hu
  obtain ⟨c, _, rfl⟩ := List.mem_map.1 hu
  rfl

/-- 'append(b, c1, c2 ..)': bytes that lie in a row just built, behind those that b holds. -/
theorem wpList_append_bytes {P : Program} (w : World) {ops : Array Oper} {rest : List Oper} {o : Oper} {a : Act} {Q : Exit → Act → World → Prop} (hgd : o.guard = none) (s x : Operand) (t : TypeId)
    (ho : o.op = .call { callee := .builtin .append, args := #[s, x], argTypes := #[t, t] }) (e : TypeId) (ht : P.underlying t = some (.slice e))
    (hinfo : (P.info? e).map (fun i => (i.zero, i.size, i.bytes)) = some (some (.int .u8 0), 1, 1))
    (B : Nat) (v : Value) (l : List UInt8) (hs : a.eval s = v) (hown : OwnsB w B e v l) (hB : B ≤ w.heap.size)
    (C : Array Value) (m c g : Nat) (news : List UInt8) (hx : a.eval x = .slice (some ⟨g, 0, none⟩) m c) (hg : g = w.heap.size) (hC : C = (news.map byteV).toArray) (hm : news.length = m)
    (hlen : l.length + m ≤ 140737488355328)
    (h : ∀ v' w', OwnsB w' B e v' (l ++ news) → Below B w w' → w.heap.size < w'.heap.size → wpList P ops Q rest (a.put o.dst v') w') : wpList P ops Q (o :: rest) a (w.alloc (.cells C e)) := by
  obtain ⟨i0, hi, hz0, hz1, hz2⟩ := info_parts hinfo
  subst hC hm hg
  refine wpList_append_own _ hgd s x t ho B e i0 (.int .u8 0) 1 1 ht hi hz0 hz1 hz2 rfl (by decide) v l.length (l.map byteV) hs (hown.alloc _) ⟨w.heap.size, 0, none⟩ news.length c (news.map byteV) hx (by simp) (fun j u hu => ?_) byteV_one (by unfold maxLen; omega) (by omega) (by simp; omega) ?_
  · have hadd : (⟨w.heap.size, 0, none⟩ : Addr).add j = ⟨w.heap.size, j, none⟩ := by unfold Addr.add; split <;> simp_all
    rw [hadd, World.cell?_alloc_mark]
    simpa using hu
  · intro v' w' hown' hgrow _
    refine h v' w' ?_ ?_ ?_
    · show w'.ownsRow B e 1 v' (l ++ news).length ((l ++ news).map byteV)
      rw [List.map_append, List.length_append]
      exact hown'
    · exact Below.grown ((Below.refl B w).alloc hB _) hgrow (by simp; omega) (fun k hk => (hown.lt k hk).1)
    · have := hgrow.size
      simp at this
      omega

/-- The same as one step of a region that draws its order. -/
theorem step_append_bytes {P : Program} {u : World} {ops : Array Oper} {o : Oper} {a : Act} {K : Act → World → Prop} {Q : Exit → Act → World → Prop} {E : Prop} (hgd : o.guard = none) (s x : Operand) (t : TypeId)
    (ho : o.op = .call { callee := .builtin .append, args := #[s, x], argTypes := #[t, t] }) (e : TypeId) (ht : P.underlying t = some (.slice e))
    (hinfo : (P.info? e).map (fun i => (i.zero, i.size, i.bytes)) = some (some (.int .u8 0), 1, 1))
    (B : Nat) (v : Value) (l : List UInt8) (hs : a.eval s = v) (hown : OwnsB u B e v l) (hB : B ≤ u.heap.size)
    (m c g : Nat) (news : List UInt8) (hx : a.eval x = .slice (some ⟨g, 0, none⟩) m c) (fr : Nat × Nat) (hg : u.heap[g]? = some (.cells (news.map byteV).toArray e fr)) (hm : news.length = m) (hpos : 0 < m)
    (hlen : l.length + m ≤ 140737488355328)
    (h : ∀ v' w', OwnsB w' B e v' (l ++ news) → Below B u w' → K (a.put o.dst v') w') :
    if Region.wanted o (yielded ops a.tmps) = true then Oper.wp P o a u K Q else E := by
  obtain ⟨i0, hi, hz0, hz1, hz2⟩ := info_parts hinfo
  subst hm
  refine step_append_lies u hgd s x t ho B e i0 (.int .u8 0) 1 1 ht hi hz0 hz1 hz2 rfl (by decide) v l.length (l.map byteV) hs hown ⟨g, 0, none⟩ news.length c (news.map byteV) hx (by simp) (World.news_of_block hg) byteV_one hpos (by unfold maxLen; omega) (by omega) hB u.heap.size rfl ?_
  intro g' cap w' hown' hgrow hat hlt
  refine h _ w' ?_ ?_
  · show w'.ownsRow B e 1 (.slice (some ⟨g', 0, none⟩) (l.length + news.length) cap) (l ++ news).length ((l ++ news).map byteV)
    rw [List.map_append, List.length_append]
    exact hown'
  · exact Below.grown (Below.refl B u) hgrow hB (fun k hk => (hown.lt k hk).1)

/-- 'string(b)' of bytes that the call made. -/
theorem run_string_own {P : Program} {w : World} {B : Nat} {e : TypeId} {v : Value} {l : List UInt8} (h : OwnsB w B e v l) (src dst : TypeId) (hs : P.underlying src = some (.slice e)) (he : P.underlying e = some (.int .u8)) (hd : P.underlying dst = some .string)
    (hne : l ≠ []) : (convert src dst v).run P w = .ok (.string (mk l)) w := by
  have hown := h
  rcases h.2 with ⟨_, h0⟩ | ⟨g, cap, cur, rfl, _⟩
  · exact absurd (List.eq_nil_of_length_eq_zero h0) hne
  · exact run_convert_bytes_back w src dst e ⟨g, 0, none⟩ cap l hs he hd (fun j hj => by
      have := World.ownsRow.cells hown (g := g) rfl j (byteV l[j]) (by rw [List.getElem?_map, List.getElem?_eq_getElem hj]; rfl)
      exact this)
/-- 'string(b)' of a row that the call made, also one of no bytes. -/
theorem run_string_own_any {P : Program} {w : World} {B : Nat} {e : TypeId} {v : Value} {l : List UInt8} (h : OwnsB w B e v l) (src dst : TypeId) (hs : P.underlying src = some (.slice e)) (he : P.underlying e = some (.int .u8)) (hd : P.underlying dst = some .string)
    (hne : v ≠ .slice none 0 0) : (convert src dst v).run P w = .ok (.string (mk l)) w := by
  have hown := h
  rcases h.2 with ⟨rfl, h0⟩ | ⟨g, cap, cur, rfl, _⟩
  · exact absurd rfl hne
  · exact run_convert_bytes_back w src dst e ⟨g, 0, none⟩ cap l hs he hd (fun j hj => by
      have := World.ownsRow.cells hown (g := g) rfl j (byteV l[j]) (by rw [List.getElem?_map, List.getElem?_eq_getElem hj]; rfl)
      exact this)
/-- 'string(b)' of whatever bytes of the call's own. -/
theorem run_string_own_all {P : Program} {w : World} {B : Nat} {e : TypeId} {v : Value} {l : List UInt8} (h : OwnsB w B e v l) (src dst : TypeId) (hs : P.underlying src = some (.slice e)) (he : P.underlying e = some (.int .u8)) (hd : P.underlying dst = some .string) :
    (convert src dst v).run P w = .ok (.string (mk l)) w := by
  by_cases hv : v = .slice none 0 0
  · have h0 : l = [] := by
      rcases h.2 with ⟨_, h0⟩ | ⟨g, cap, cur, hv', _⟩
      · exact List.eq_nil_of_length_eq_zero h0
      · rw [hv] at hv'; cases hv'
    subst hv h0
    rw [run_convert_bytes_string w src dst e none 0 0 hs he hd]
    simp [Conv.bytesToString]
    rfl
  · exact run_string_own_any h src dst hs he hd hv
end Go.Proofs.Ytgnfinojnmkkkaa

/- Slices of numbers of 64 bits that came in (nil or not), and their copies by append to a new empty slice: what a walk needs of them. Nothing of the program is named here. -/
namespace Go.Proofs.Ytgnfinojnmkkkaa
open Go.RowKit (wrap64 intOf Below)

theorem addr_block (a : Addr) (j : Nat) : (a.add j).block = a.block := by unfold Addr.add; split <;> rfl
theorem addr_plain (b off j : Nat) : (⟨b, off, none⟩ : Addr).add j = ⟨b, off + j, none⟩ := by
  unfold Addr.add; split
  · rename_i h; subst h; rfl
  · rfl
/-- The number at place k (0 behind the end). -/
def nth (L : List Int) (k : Nat) : Int := L.getD k 0
/-- The cells of a slice of numbers. -/
def CellsAt (w : World) (b off : Nat) (zs : List Int) : Prop := ∀ j, j < zs.length → w.cell? ⟨b, off + j, none⟩ = some (.int .i64 (nth zs j))
/-- A slice of numbers that came in: nil, or a length with its cells. -/
def IntsAt (w : World) (v : Value) (zs : List Int) : Prop :=
  (v = .slice none 0 0 ∧ zs = []) ∨
  ∃ (a : Addr) (c : Nat), v = .slice (some a) zs.length c ∧ zs.length * 8 ≤ 140737488351232 ∧ (∀ j, j < zs.length → a.block < w.heap.size) ∧ ∀ j, j < zs.length → w.cell? (a.add j) = some (.int .i64 (nth zs j))

theorem IntsAt.below {w w' : World} {v : Value} {zs : List Int} {B : Nat} (h : IntsAt w v zs) (hb : Below B w w') (hB : w.heap.size ≤ B) : IntsAt w' v zs := by
  rcases h with h | ⟨a, c, hv, hl, hlt, hc⟩
  · exact Or.inl h
  · refine Or.inr ⟨a, c, hv, hl, fun j hj => Nat.lt_of_lt_of_le (hlt j hj) hb.size, fun j hj => ?_⟩
    rw [hb.cell (p := a.add j) (Nat.lt_of_lt_of_le (by rw [addr_block]; exact hlt j hj) hB)]
    exact hc j hj
theorem IntsAt.len {w : World} {v : Value} {zs : List Int} (h : IntsAt w v zs) : zs.length * 8 ≤ 140737488351232 := by
  rcases h with ⟨_, rfl⟩ | ⟨a, c, _, hl, _⟩
  · exact Nat.zero_le _
  · exact hl
theorem IntsAt.cells {w : World} {v : Value} {zs : List Int} (h : IntsAt w v zs) (hne : 0 < zs.length) :
    ∃ (b off c : Nat), v = .slice (some ⟨b, off, none⟩) zs.length c ∧ b < w.heap.size ∧ CellsAt w b off zs := by
  rcases h with ⟨_, rfl⟩ | ⟨⟨b, off, spot⟩, c, hv, _, hlt, hc⟩
  · exact absurd hne (by simp)
  · have hs : spot = none := by simpa [Addr.add] using World.cell?_spot (hc 0 hne)
    subst hs
    exact ⟨b, off, c, hv, hlt 0 hne, fun j hj => by have := hc j hj; rwa [addr_plain] at this⟩
theorem IntsAt.shape {w : World} {v : Value} {zs : List Int} (h : IntsAt w v zs) : ∃ (a : Option Addr) (c : Nat), v = .slice a zs.length c := by
  rcases h with ⟨rfl, rfl⟩ | ⟨a, c, hv, _⟩
  · exact ⟨none, 0, rfl⟩
  · exact ⟨some a, c, hv⟩

theorem CellsAt.below {w w' : World} {b off : Nat} {zs : List Int} {B : Nat} (h : CellsAt w b off zs) (hb : Below B w w') (hB : b < B) : CellsAt w' b off zs := fun j hj => by
  rw [hb.cell (p := ⟨b, off + j, none⟩) hB]; exact h j hj

/-- 'append([]T{}, xs...)' where xs came in: a new row with its numbers. -/
theorem wpList_copy_ints {P : Program} (w : World) {ops : Array Oper} {rest : List Oper} {o : Oper} {a : Act} {Q : Exit → Act → World → Prop} (hgd : o.guard = none) (s x : Operand) (t : TypeId)
    (ho : o.op = .call { callee := .builtin .append, args := #[s, x], argTypes := #[t, t] }) (e : TypeId) (ht : P.underlying t = some (.slice e))
    (hinfo : (P.info? e).map (fun i => (i.zero, i.size, i.bytes)) = some (some (.int .i64 0), 1, 8))
    (g0 : Nat) (hs : a.eval s = .slice (some ⟨g0, 0, none⟩) 0 0) (hg0 : w.heap[g0]? = some (.cells #[] e (0, 0))) (hlt0 : g0 < w.heap.size)
    (v : Value) (zs : List Int) (hx : a.eval x = v) (hv : IntsAt w v zs)
    (h : ∀ g cap w', g0 ≤ g → g < w'.heap.size → zs.length ≤ cap → cap ≤ maxLen → CellsAt w' g 0 zs → Below g0 w w' → wpList P ops Q rest (a.put o.dst (.slice (some ⟨g, 0, none⟩) zs.length cap)) w') :
    wpList P ops Q (o :: rest) a w := by
  obtain ⟨i0, hi, hz0, hz1, hz2⟩ := info_parts hinfo
  have hown : w.ownsRow g0 e 1 (.slice (some ⟨g0, 0, none⟩) 0 0) 0 [] :=
    ⟨rfl, .inr ⟨g0, 0, #[], rfl, Nat.le_refl _, hg0, Nat.le_refl _, Nat.zero_le _, rfl, rfl⟩⟩
  rcases hv with ⟨rfl, rfl⟩ | ⟨ad, c, rfl, hlen, _, hcell⟩
  · exact wpList_append_own_none hgd s x t ho g0 e i0 1 ht hi _ 0 [] hs hown hx (h g0 0 w (Nat.le_refl _) hlt0 (Nat.le_refl _) (Nat.zero_le _) (fun j hj => by simp at hj) (Below.refl _ _))
  · refine wpList_append_own w hgd s x t ho g0 e i0 (.int .i64 0) 1 8 ht hi hz0 hz1 hz2 rfl (by decide) _ 0 [] hs hown ad zs.length c (zs.map (Value.int .i64)) hx (by simp) (fun j u hu => ?_) (fun u hu => ?_) (by unfold maxLen; omega) (by omega) (by omega) ?_
    · rw [List.getElem?_map] at hu
      obtain ⟨z, hz, rfl⟩ := Option.map_eq_some_iff.1 hu
      have hj : j < zs.length := (List.getElem?_eq_some_iff.1 hz).1
      rw [hcell j hj]
      unfold nth
      rw [List.getD_eq_getElem?_getD, hz]; rfl
    · obtain ⟨z, _, rfl⟩ := List.mem_map.1 hu; rfl
    · intro v' w' hown' hgrow hnil
      have hown2 := hown'
      have hltv := hown'.lt
      obtain ⟨_, hcase⟩ := hown'
      rcases hcase with ⟨rfl, _⟩ | ⟨g, cap, cur, rfl, hg, hheap, hn, hcap, _, _⟩
      · exact absurd (hnil.1 rfl).1 (by simp)
      · simp only [Nat.zero_add] at hn ⊢
        refine h g cap w' hg (hltv g rfl).2 hn hcap (fun j hj => ?_) ?_
        · have := hown2.cells (g := g) rfl j (.int .i64 (nth zs j)) (by
            rw [List.nil_append, List.getElem?_map, List.getElem?_eq_getElem hj]
            unfold nth
            rw [List.getD_eq_getElem?_getD, List.getElem?_eq_getElem hj]; rfl)
          rwa [addr_plain] at this
        · exact Below.grown (Below.refl _ _) hgrow (by omega) (fun k hk => by cases hk; exact Nat.le_refl _)

/-! ### A call that leaves the world alone, inside a region that draws its order -/
theorem quiet_add_left {P : Program} {f : FuncId} {args : Array Value} {w : World} {a n : Nat} {v : Value}
    (h : Calls P f args (w.drewN (a + n)) fun e w' => e = .returned v ∧ w.drewN (a + n) = w') :
    Calls P f args (w.drewN (a + n)) fun e w'' => e = .returned v ∧ ∃ m, w'' = w.drewN (a + m) :=
  h.mono fun _ _ ⟨he, hm⟩ => ⟨he, n, hm.symm⟩
theorem quiet_left {P : Program} {f : FuncId} {args : Array Value} {w : World} {n : Nat} {v : Value}
    (h : Calls P f args (w.drewN n) fun e w' => e = .returned v ∧ w.drewN n = w') : Calls P f args (w.drewN n) fun e w'' => e = .returned v ∧ ∃ m, w'' = w.drewN m :=
  h.mono fun _ _ ⟨he, hm⟩ => ⟨he, n, hm.symm⟩

/-! ### From the readings -/
theorem nth_take (zs : List Int) (n j : Nat) (h : j < n) : nth (zs.take n) j = zs.getD j 0 := by
  unfold nth
  rw [List.getD_eq_getElem?_getD, List.getElem?_take, if_pos h, ← List.getD_eq_getElem?_getD]
theorem wf_i64_range {n : Int} (h : (Lit.int .i64 n).wf = true) : -9223372036854775808 ≤ n ∧ n ≤ 9223372036854775807 := by
  simp only [Lit.wf, IntKind.min, IntKind.max, IntKind.signed, IntKind.bits, Bool.and_eq_true, decide_eq_true_eq, if_true] at h
  omega
end Go.Proofs.Ytgnfinojnmkkkaa

/- A slice of bytes that is read (it came in, or the call made it, or it is a part of such a one; nil or not): told by the list of its bytes; its parts, its text, and what append makes of it. Nothing of the program is named here. -/
namespace Go.Proofs.Ytgnfinojnmkkkaa
open Go.RowKit (wrap64 intOf Below)
set_option linter.unusedVariables false

/-- The slice (a, n, c) reads as the bytes L. -/
def BytesAt (w : World) (a : Option Addr) (n c : Nat) (L : List UInt8) : Prop :=
  L.length = n ∧ n ≤ c ∧ c ≤ maxLen ∧ (a = none → c = 0) ∧ (0 < n → ∃ g off, a = some ⟨g, off, none⟩ ∧ g < w.heap.size) ∧
  ∀ ad, a = some ad → ∀ j (h : j < L.length), w.cell? (ad.add j) = some (byteV L[j])

theorem BytesAt.nil (w : World) : BytesAt w none 0 0 [] := ⟨rfl, Nat.le_refl _, Nat.zero_le _, fun _ => rfl, fun h => absurd h (by omega), fun _ h => by cases h⟩
theorem BytesAt.below {w w' : World} {a : Option Addr} {n c : Nat} {L : List UInt8} {B : Nat} (h : BytesAt w a n c L) (hb : Below B w w') (hB : w.heap.size ≤ B) : BytesAt w' a n c L := by
  obtain ⟨h1, h2, h3, h4, h5, h6⟩ := h
  refine ⟨h1, h2, h3, h4, fun hn => ?_, fun ad ha j hj => ?_⟩
  · obtain ⟨g, off, e, hg⟩ := h5 hn
    exact ⟨g, off, e, Nat.lt_of_lt_of_le hg hb.size⟩
  · obtain ⟨g, off, e, hg⟩ := h5 (by omega)
    rw [ha] at e
    cases e
    rw [hb.cell (p := (⟨g, off, none⟩ : Addr).add j) (by rw [addr_block]; exact Nat.lt_of_lt_of_le hg hB)]
    exact h6 _ ha j hj
theorem BytesAt.drewN {w : World} {a : Option Addr} {n c : Nat} {L : List UInt8} (h : BytesAt w a n c L) (q : Nat) : BytesAt (w.drewN q) a n c L :=
  h.below (B := w.heap.size) ⟨rfl, rfl, rfl, Nat.le_refl _, fun _ _ => rfl⟩ (Nat.le_refl _)
/-- Where its cells lie, if there are any. -/
theorem BytesAt.cells {w : World} {a : Option Addr} {n c : Nat} {L : List UInt8} (h : BytesAt w a n c L) (hn : 0 < n) :
    ∃ g off, a = some ⟨g, off, none⟩ ∧ g < w.heap.size ∧ ∀ j (h : j < L.length), w.cell? ⟨g, off + j, none⟩ = some (byteV L[j]) := by
  obtain ⟨h1, h2, h3, h4, h5, h6⟩ := h
  obtain ⟨g, off, e, hg⟩ := h5 hn
  refine ⟨g, off, e, hg, fun j hj => ?_⟩
  have := h6 _ e j hj
  rwa [addr_plain] at this
/-- What the call made is read so. -/
theorem OwnsB.at {w : World} {B : Nat} {e : TypeId} {v : Value} {l : List UInt8} (h : OwnsB w B e v l) : ∃ a n c, v = .slice a n c ∧ BytesAt w a n c l := by
  have hown := h
  rcases h.2 with ⟨rfl, h0⟩ | ⟨g, cap, cur, rfl, hB, hg, h1, h2, _⟩
  · obtain rfl := List.eq_nil_of_length_eq_zero h0
    exact ⟨none, 0, 0, rfl, BytesAt.nil w⟩
  · refine ⟨_, _, cap, rfl, rfl, h1, h2, (fun h => by cases h), fun _ => ⟨g, 0, rfl, (hown.lt g rfl).2⟩, fun ad ha j hj => ?_⟩
    cases ha
    exact World.ownsRow.cells hown (g := g) rfl j (byteV l[j]) (by rw [List.getElem?_map, List.getElem?_eq_getElem hj]; rfl)

/-- Its text. -/
theorem run_text {P : Program} {w : World} {a : Option Addr} {n c : Nat} {L : List UInt8} (h : BytesAt w a n c L) (src dst e : TypeId) (hs : P.underlying src = some (.slice e)) (he : P.underlying e = some (.int .u8)) (hd : P.underlying dst = some .string) :
    (convert src dst (.slice a n c)).run P w = .ok (.string (mk L)) w := by
  obtain ⟨h1, h2, h3, h4, h5, h6⟩ := h
  subst h1
  cases a with
  | none =>
    have : c = 0 := h4 rfl
    have h0 : L = [] := List.eq_nil_of_length_eq_zero (by omega)
    subst h0
    rw [run_convert_bytes_string w src dst e none _ c hs he hd]
    simp [Conv.bytesToString]
    rfl
  | some ad => exact run_convert_bytes_back w src dst e ad c L hs he hd (fun j hj => h6 ad rfl j hj)

/-- The address from place k on. -/
def fromA (a : Option Addr) (c k : Nat) : Option Addr := if c = k then a else a.map (·.add k)
theorem fromA_some (a : Addr) (c k : Nat) (h : k < c) : fromA (some a) c k = some (a.add k) := by
  unfold fromA; rw [if_neg (by omega)]; rfl
theorem BytesAt.drop {w : World} {a : Option Addr} {n c : Nat} {L : List UInt8} (h : BytesAt w a n c L) (k : Nat) (hk : k ≤ n) : BytesAt w (fromA a c k) (n - k) (c - k) (L.drop k) := by
  obtain ⟨h1, h2, h3, h4, h5, h6⟩ := h
  refine ⟨by rw [List.length_drop, h1], by omega, by omega, fun ha => ?_, fun hn => ?_, fun ad ha j hj => ?_⟩
  · unfold fromA at ha
    split at ha
    · have := h4 ha; omega
    · cases a with
      | none => have := h4 rfl; omega
      | some x => cases ha
  · obtain ⟨g, off, e, hg⟩ := h5 (by omega)
    subst e
    rw [fromA_some _ _ _ (by omega), addr_plain]
    exact ⟨g, off + k, rfl, hg⟩
  · rw [List.length_drop] at hj
    obtain ⟨g, off, e, hg⟩ := h5 (by omega)
    subst e
    rw [fromA_some _ _ _ (by omega), addr_plain] at ha
    cases ha
    have := h6 _ rfl (k + j) (by omega)
    rw [addr_plain] at this ⊢
    rw [show off + k + j = off + (k + j) by omega, this, List.getElem_drop]
theorem BytesAt.take {w : World} {a : Option Addr} {n c : Nat} {L : List UInt8} (h : BytesAt w a n c L) (k : Nat) (hk : k ≤ n) : BytesAt w a k c (L.take k) := by
  obtain ⟨h1, h2, h3, h4, h5, h6⟩ := h
  refine ⟨by rw [List.length_take, h1]; omega, by omega, h3, h4, fun hn => h5 (by omega), fun ad ha j hj => ?_⟩
  rw [List.length_take] at hj
  rw [h6 ad ha j (by omega), List.getElem_take]

theorem size_of_one {P : Program} {e : TypeId} (h : (P.info? e).map (fun i => (i.zero, i.size, i.bytes)) = some (some (.int .u8 0), 1, 1)) (w : World) : (sizeOf e).run P w = .ok 1 w := by
  obtain ⟨i0, hi, hz0, hz1, hz2⟩ := info_parts h
  simp [sizeOf, typeInfo, hi, hz1]
theorem add_zero (a : Addr) : a.add 0 = a := by unfold Addr.add; simp
theorem elem_is {P : Program} {t e : TypeId} (ht : P.underlying t = some (.slice e)) : P.elem t = e := by simp [Program.elem, ht]
section
variable {P : Program} {t e : TypeId} (ht : P.underlying t = some (.slice e)) (hz : ∀ w, (sizeOf e).run P w = .ok 1 w)
theorem under_elem {P : Program} {t e : TypeId} (ht : P.underlying t = some (.slice e)) : P.underlying t = some (.slice (P.elem t)) := by rw [elem_is ht]; exact ht
include ht hz
/-- 'b[k:]'. -/
theorem run_from (a : Option Addr) (n c k : Nat) (hk : k ≤ n) (w : World) : (Instr.slice t (.slice a n c) (some (.int .i64 (k : Int))) none none).run P w = .ok (.slice (fromA a c k) (n - k) (c - k)) w := by
  rw [run_slice_l w t a n c (under_elem ht) .i64 k (by omega) (by omega), elem_is ht, hz w]
  simp [Result.andThen, sliced, fromA]
/-- 'b[:k]'. -/
theorem run_to (a : Option Addr) (n c k : Nat) (hk : k ≤ c) (w : World) : (Instr.slice t (.slice a n c) none (some (.int .i64 (k : Int))) none).run P w = .ok (.slice a k c) w := by
  rw [run_slice_h w t a n c (under_elem ht) .i64 k (by omega) (by omega), elem_is ht, hz w]
  cases a <;> simp [Result.andThen, sliced, add_zero]
/-- 'b[k:h]'. -/
theorem run_part (a : Option Addr) (n c k h : Nat) (hk : k ≤ h) (hh : h ≤ c) (w : World) : (Instr.slice t (.slice a n c) (some (.int .i64 (k : Int))) (some (.int .i64 (h : Int))) none).run P w = .ok (.slice (fromA a c k) (h - k) (c - k)) w := by
  rw [run_slice_lh w t a n c (under_elem ht) .i64 .i64 k h (by omega) (by omega) (by omega), elem_is ht, hz w]
  simp [Result.andThen, sliced, fromA]
end

/-- 'append(b, x...)': b the call's own, x whatever is read. -/
theorem wpList_append_read {P : Program} (w : World) {ops : Array Oper} {rest : List Oper} {o : Oper} {a : Act} {Q : Exit → Act → World → Prop} (hgd : o.guard = none) (s x : Operand) (t : TypeId)
    (ho : o.op = .call { callee := .builtin .append, args := #[s, x], argTypes := #[t, t] }) (e : TypeId) (ht : P.underlying t = some (.slice e))
    (hinfo : (P.info? e).map (fun i => (i.zero, i.size, i.bytes)) = some (some (.int .u8 0), 1, 1))
    (B : Nat) (v : Value) (l : List UInt8) (hs : a.eval s = v) (hown : OwnsB w B e v l) (hB : B ≤ w.heap.size)
    (xa : Option Addr) (m c : Nat) (news : List UInt8) (hx : a.eval x = .slice xa m c) (hat : BytesAt w xa m c news)
    (hlen : l.length + m ≤ 140737488355328)
    (h : ∀ va vn vc w', OwnsB w' B e (.slice va vn vc) (l ++ news) → BytesAt w' va vn vc (l ++ news) → Below B w w' → wpList P ops Q rest (a.put o.dst (.slice va vn vc)) w') : wpList P ops Q (o :: rest) a w := by
  obtain ⟨i0, hi, hz0, hz1, hz2⟩ := info_parts hinfo
  obtain ⟨h1, h2, h3, h4, h5, h6⟩ := hat
  subst h1
  cases xa with
  | none =>
    have : c = 0 := h4 rfl
    have h0 : news = [] := List.eq_nil_of_length_eq_zero (by omega)
    subst h0 this
    refine wpList_append_own_none hgd s x t ho B e i0 1 ht hi v l.length (l.map byteV) hs hown hx ?_
    obtain ⟨va, vn, vc, rfl, hat⟩ := hown.at
    exact h va vn vc w (by rw [List.append_nil]; exact hown) (by rw [List.append_nil]; exact hat) (Below.refl _ _)
  | some ad =>
    refine wpList_append_own _ hgd s x t ho B e i0 (.int .u8 0) 1 1 ht hi hz0 hz1 hz2 rfl (by decide) v l.length (l.map byteV) hs hown ad news.length c (news.map byteV) hx (by simp) (fun j u hu => ?_) byteV_one (by unfold maxLen; omega) (by omega) hB ?_
    · rw [List.getElem?_map] at hu
      obtain ⟨z, hz, rfl⟩ := Option.map_eq_some_iff.1 hu
      obtain ⟨hj, rfl⟩ := List.getElem?_eq_some_iff.1 hz
      exact h6 ad rfl j hj
    · intro v' w' hown' hgrow _
      have hown2 : OwnsB w' B e v' (l ++ news) := by
        show w'.ownsRow B e 1 v' (l ++ news).length ((l ++ news).map byteV)
        rw [List.map_append, List.length_append]
        exact hown'
      obtain ⟨va, vn, vc, rfl, hat⟩ := hown2.at
      exact h va vn vc w' hown2 hat (Below.grown (Below.refl B w) hgrow hB (fun k hk => (hown.lt k hk).1))
/-- An empty row that was just written out ('[]byte{}') is the call's own. -/
theorem OwnsB.empty (w : World) (e : TypeId) : OwnsB (w.alloc (.cells #[] e)) w.heap.size e (.slice (some ⟨w.heap.size, 0, none⟩) 0 0) [] :=
  OwnsB.built [] #[] 0 rfl (Nat.le_refl _) rfl (Nat.zero_le _)
theorem OwnsB.mono {w : World} {B B' : Nat} {e : TypeId} {v : Value} {l : List UInt8} (h : OwnsB w B e v l) (hB : B' ≤ B) : OwnsB w B' e v l := by
  refine ⟨h.1, ?_⟩
  rcases h.2 with hn | ⟨g, cap, cur, rfl, hg, rest⟩
  · exact .inl hn
  · exact .inr ⟨g, cap, cur, rfl, Nat.le_trans hB hg, rest⟩
end Go.Proofs.Ytgnfinojnmkkkaa

/- A slice of numbers of 64 bits: one that is read, and one that the call made itself: told by the list of its numbers. Nothing of the program is named here. -/
namespace Go.Proofs.Ytgnfinojnmkkkaa
open Go.RowKit (wrap64 intOf Below)
set_option linter.unusedVariables false

def numV (z : Int) : Value := .int .i64 z
theorem nth_is {Z : List Int} {j : Nat} (h : j < Z.length) : nth Z j = Z[j] := by
  unfold nth; rw [List.getD_eq_getElem?_getD, List.getElem?_eq_getElem h]; rfl
/-- The slice at a, of n numbers, reads as Z. -/
def NumsAt (w : World) (a : Option Addr) (n : Nat) (Z : List Int) : Prop :=
  Z.length = n ∧ (0 < n → ∃ g off, a = some ⟨g, off, none⟩ ∧ g < w.heap.size ∧ ∀ j (h : j < Z.length), w.cell? ⟨g, off + j, none⟩ = some (numV Z[j]))
theorem NumsAt.nil (w : World) (a : Option Addr) : NumsAt w a 0 [] := ⟨rfl, fun h => absurd h (by omega)⟩
theorem NumsAt.below {w w' : World} {a : Option Addr} {n : Nat} {Z : List Int} {B : Nat} (h : NumsAt w a n Z) (hb : Below B w w') (hB : w.heap.size ≤ B) : NumsAt w' a n Z := by
  refine ⟨h.1, fun hn => ?_⟩
  obtain ⟨g, off, e, hg, hc⟩ := h.2 hn
  refine ⟨g, off, e, Nat.lt_of_lt_of_le hg hb.size, fun j hj => ?_⟩
  rw [hb.cell (p := ⟨g, off + j, none⟩) (Nat.lt_of_lt_of_le hg hB)]
  exact hc j hj
theorem NumsAt.since {w w' : World} {a : Option Addr} {n : Nat} {Z : List Int} (h : NumsAt w a n Z) (hb : Below w.heap.size w w') : NumsAt w' a n Z := h.below hb (Nat.le_refl _)
theorem NumsAt.drewN {w : World} {a : Option Addr} {n : Nat} {Z : List Int} (h : NumsAt w a n Z) (q : Nat) : NumsAt (w.drewN q) a n Z :=
  h.below (B := w.heap.size) ⟨rfl, rfl, rfl, Nat.le_refl _, fun _ _ => rfl⟩ (Nat.le_refl _)
/-- What came in. -/
theorem IntsAt.nums {w : World} {v : Value} {Z : List Int} (h : IntsAt w v Z) : ∃ a c, v = .slice a Z.length c ∧ NumsAt w a Z.length Z := by
  rcases h with ⟨rfl, rfl⟩ | ⟨⟨b, off, spot⟩, c, rfl, hl, hlt, hc⟩
  · exact ⟨none, 0, rfl, NumsAt.nil w none⟩
  · refine ⟨_, c, rfl, rfl, fun hn => ?_⟩
    have hs : spot = none := by simpa [Addr.add] using World.cell?_spot (hc 0 hn)
    subst hs
    refine ⟨b, off, rfl, hlt 0 hn, fun j hj => ?_⟩
    have := hc j hj
    rw [addr_plain, nth_is hj] at this
    exact this
theorem CellsAt.nums {w : World} {g off : Nat} {Z : List Int} (h : CellsAt w g off Z) (hg : g < w.heap.size) : NumsAt w (some ⟨g, off, none⟩) Z.length Z :=
  ⟨rfl, fun _ => ⟨g, off, rfl, hg, fun j hj => by rw [h j hj, nth_is hj]; rfl⟩⟩

/-- The slice v is the call's own (from block B on) and holds the numbers Z. -/
def OwnsI (w : World) (B : Nat) (e : TypeId) (v : Value) (Z : List Int) : Prop := w.ownsRow B e 1 v Z.length (Z.map numV)
theorem OwnsI.lt {w : World} {B : Nat} {e : TypeId} {v : Value} {Z : List Int} (h : OwnsI w B e v Z) : ∀ k, v.ownBlock = some k → B ≤ k ∧ k < w.heap.size := World.ownsRow.lt h
theorem OwnsI.made {w : World} {B : Nat} {e : TypeId} (cur : Array Value) (cap : Nat) (hB : B ≤ w.heap.size) (hm : cap ≤ maxLen) (hs : cur.size = cap) : OwnsI (w.alloc (.cells cur e)) B e (.slice (some ⟨w.heap.size, 0, none⟩) 0 cap) [] :=
  World.ownsRow_made w cur cap hB hm (by rw [hs, Nat.mul_one])
theorem OwnsI.below {w w' : World} {B : Nat} {e : TypeId} {v : Value} {Z : List Int} (h : OwnsI w B e v Z) (hb : Below w.heap.size w w') : OwnsI w' B e v Z := by
  refine ⟨h.1, ?_⟩
  rcases h.2 with hn | ⟨g, cap, cur, rfl, hB, hg, rest⟩
  · exact .inl hn
  · refine .inr ⟨g, cap, cur, rfl, hB, ?_, rest⟩
    rw [hb.block g (Array.getElem?_eq_some_iff.1 hg).1]
    exact hg
theorem OwnsI.mono {w : World} {B B' : Nat} {e : TypeId} {v : Value} {Z : List Int} (h : OwnsI w B e v Z) (hB : B' ≤ B) : OwnsI w B' e v Z := by
  refine ⟨h.1, ?_⟩
  rcases h.2 with hn | ⟨g, cap, cur, rfl, hg, rest⟩
  · exact .inl hn
  · exact .inr ⟨g, cap, cur, rfl, Nat.le_trans hB hg, rest⟩
theorem OwnsI.nums {w : World} {B : Nat} {e : TypeId} {v : Value} {Z : List Int} (h : OwnsI w B e v Z) : ∃ a n c, v = .slice a n c ∧ NumsAt w a n Z := by
  have hown := h
  rcases h.2 with ⟨rfl, h0⟩ | ⟨g, cap, cur, rfl, hB, hg, h1, h2, _⟩
  · obtain rfl := List.eq_nil_of_length_eq_zero h0
    exact ⟨none, 0, 0, rfl, NumsAt.nil w none⟩
  · refine ⟨_, _, cap, rfl, rfl, fun _ => ⟨g, 0, rfl, (hown.lt g rfl).2, fun j hj => ?_⟩⟩
    have := World.ownsRow.cells hown (g := g) rfl j (numV Z[j]) (by rw [List.getElem?_map, List.getElem?_eq_getElem hj]; rfl)
    rwa [addr_plain] at this
/-- 'append(l, z)': a number behind the others. -/
theorem wpList_append_num {P : Program} (w : World) {ops : Array Oper} {rest : List Oper} {o : Oper} {a : Act} {Q : Exit → Act → World → Prop} (hgd : o.guard = none) (s x : Operand) (t : TypeId)
    (ho : o.op = .call { callee := .builtin .append, args := #[s, x], argTypes := #[t, t] }) (e : TypeId) (ht : P.underlying t = some (.slice e))
    (hinfo : (P.info? e).map (fun i => (i.zero, i.size, i.bytes)) = some (some (.int .i64 0), 1, 8))
    (B : Nat) (v : Value) (Z : List Int) (hs : a.eval s = v) (hown : OwnsI w B e v Z) (hB : B ≤ w.heap.size)
    (C : Array Value) (c g : Nat) (z : Int) (hx : a.eval x = .slice (some ⟨g, 0, none⟩) 1 c) (hg : g = w.heap.size) (hC : C = #[.int .i64 z])
    (hlen : (Z.length + 1) * 8 ≤ 140737488355328)
    (h : ∀ v' w', OwnsI w' B e v' (Z ++ [z]) → Below B w w' → wpList P ops Q rest (a.put o.dst v') w') : wpList P ops Q (o :: rest) a (w.alloc (.cells C e)) := by
  obtain ⟨i0, hi, hz0, hz1, hz2⟩ := info_parts hinfo
  subst hC hg
  refine wpList_append_own _ hgd s x t ho B e i0 (.int .i64 0) 1 8 ht hi hz0 hz1 hz2 rfl (by decide) v Z.length (Z.map numV) hs (World.ownsRow.alloc hown _) ⟨w.heap.size, 0, none⟩ 1 c [.int .i64 z] hx rfl (fun j u hu => ?_) (by intro u hu; simp at hu; subst hu; rfl) (by unfold maxLen; omega) hlen (by simp; omega) ?_
  · rw [addr_plain, Nat.zero_add, World.cell?_alloc_mark]
    simpa using hu
  · intro v' w' hown' hgrow _
    refine h v' w' ?_ ?_
    · show w'.ownsRow B e 1 v' (Z ++ [z]).length ((Z ++ [z]).map numV)
      rw [List.map_append, List.length_append]
      exact hown'
    · exact Below.grown ((Below.refl B w).alloc hB _) hgrow (by simp; omega) (fun k hk => (hown.lt k hk).1)

/-- 'append([]int64{}, l...)' as one step of a region that draws its order. -/
theorem step_copy_nums {P : Program} {u : World} {ops : Array Oper} {o : Oper} {a : Act} {K : Act → World → Prop} {Q : Exit → Act → World → Prop} {E : Prop} (hgd : o.guard = none) (s x : Operand) (t : TypeId)
    (ho : o.op = .call { callee := .builtin .append, args := #[s, x], argTypes := #[t, t] }) (e : TypeId) (ht : P.underlying t = some (.slice e))
    (hinfo : (P.info? e).map (fun i => (i.zero, i.size, i.bytes)) = some (some (.int .i64 0), 1, 8))
    (b : Addr) (hs : a.eval s = .slice (some b) 0 0) (xv : Value) (Z : List Int) (hx : a.eval x = xv) (hat : IntsAt u xv Z)
    (h : ∀ va n c w', NumsAt w' va n Z → Below u.heap.size u w' → K (a.put o.dst (.slice va n c)) w') :
    if Region.wanted o (yielded ops a.tmps) = true then Oper.wp P o a u K Q else E := by
  have hw : Region.wanted o (yielded ops a.tmps) = true := by simp [Region.wanted, hgd]
  rw [if_pos hw]
  obtain ⟨i0, hi, hz0, hz1, hz2⟩ := info_parts hinfo
  rcases hat with ⟨rfl, rfl⟩ | ⟨ad, c, rfl, hlen, _, hcell⟩
  · have hrun : (Builtin.append_ #[t, t] o.type #[.slice (some b) 0 0, .slice none 0 0]).run P u = .ok (.slice (some b) 0 0) u := by
      simp [Builtin.append_, run_underlying ht, sizeOf, typeInfo, hi, Builtin.lenOf, Builtin.firstCells, storeCells]
    unfold Oper.wp
    simp [execOp, ho, resolve, invoke, builtin, hs, hx, hrun, Result.andThen]
    exact h (some b) 0 0 u (NumsAt.nil u _) (Below.refl _ _)
  · by_cases h0 : Z.length = 0
    · have hZ := List.eq_nil_of_length_eq_zero h0
      subst hZ
      have hrun : (Builtin.append_ #[t, t] o.type #[.slice (some b) 0 0, .slice (some ad) 0 c]).run P u = .ok (.slice (some b) 0 0) u := by
        simp [Builtin.append_, run_underlying ht, sizeOf, typeInfo, hi, Builtin.lenOf, Builtin.firstCells, storeCells, loadCells, loadCellsFrom]
      unfold Oper.wp
      simp [execOp, ho, resolve, invoke, builtin, hs, hx, hrun, Result.andThen]
      exact h (some b) 0 0 u (NumsAt.nil u _) (Below.refl _ _)
    · have hrun := run_append_grow (P := P) (w := u) t o.type e i0 (.int .i64 0) ht hi hz0 b 0 0 [] (by simp) (fun j v hj => by simp at hj) ad Z.length c (Z.map numV) (by rw [hz1]; simp) (fun j y hy => by
        rw [List.getElem?_map] at hy
        obtain ⟨z, hz, rfl⟩ := Option.map_eq_some_iff.1 hy
        obtain ⟨hj, rfl⟩ := List.getElem?_eq_some_iff.1 hz
        rw [hcell j hj, nth_is hj]; rfl) (by omega) (by omega) (by rw [hz2]; exact growslice_fits (by omega) (by omega))
      have hnum : NumsAt (u.drew.alloc (.cells (#[] ++ (Z.map numV).toArray ++ Builtin.zeroCells (Value.int .i64 0).cells (grownCap u (0 + Z.length) 0 e - (0 + Z.length))) e)) (some ⟨u.heap.size, 0, none⟩) Z.length Z := by
        refine ⟨rfl, fun hn => ⟨u.heap.size, 0, rfl, by simp, fun j hj => ?_⟩⟩
        have hm := World.cell?_alloc_mark u.drew (#[] ++ (Z.map numV).toArray ++ Builtin.zeroCells (Value.int .i64 0).cells (grownCap u (0 + Z.length) 0 e - (0 + Z.length))) e (0, 0) j
        rw [Nat.zero_add j]
        refine Eq.trans hm ?_
        rw [Array.getElem?_append_left (by simpa using hj)]
        simp [hj]
      have hb : Below u.heap.size u (u.drew.alloc (.cells (#[] ++ (Z.map numV).toArray ++ Builtin.zeroCells (Value.int .i64 0).cells (grownCap u (0 + Z.length) 0 e - (0 + Z.length))) e)) := ((Below.refl u.heap.size u).drew).alloc (Nat.le_refl _) _
      have hk := h _ _ (grownCap u (0 + Z.length) 0 e) _ hnum hb
      have e0 : (0 : Nat) + Z.length = Z.length := Nat.zero_add _
      unfold Oper.wp
      simp only [execOp, ho, resolve, invoke, builtin, List.map_toArray, List.map_cons, List.map_nil, hs, hx, Sem.run_bind, Sem.run_pure, Result.andThen_ok, hrun]
      rw [e0] at hk ⊢
      first | exact hk | exact Or.inl hk
/-- The same as a step of a walk. -/
theorem wpList_copy_nums {P : Program} (w : World) {ops : Array Oper} {rest : List Oper} {o : Oper} {a : Act} {Q : Exit → Act → World → Prop} (hgd : o.guard = none) (s x : Operand) (t : TypeId)
    (ho : o.op = .call { callee := .builtin .append, args := #[s, x], argTypes := #[t, t] }) (e : TypeId) (ht : P.underlying t = some (.slice e))
    (hinfo : (P.info? e).map (fun i => (i.zero, i.size, i.bytes)) = some (some (.int .i64 0), 1, 8))
    (g0 : Nat) (hs : a.eval s = .slice (some ⟨g0, 0, none⟩) 0 0) (hg0 : w.heap[g0]? = some (.cells #[] e (0, 0))) (hlt0 : g0 < w.heap.size)
    (xv : Value) (Z : List Int) (hx : a.eval x = xv) (hat : IntsAt w xv Z)
    (h : ∀ va n c w', NumsAt w' va n Z → Below g0 w w' → wpList P ops Q rest (a.put o.dst (.slice va n c)) w') : wpList P ops Q (o :: rest) a w := by
  refine wpList_copy_ints w hgd s x t ho e ht hinfo g0 hs hg0 hlt0 xv Z hx hat ?_
  intro g cap w' hg hlt hn hm hc hb
  exact h _ _ _ w' (CellsAt.nums hc hlt) hb
end Go.Proofs.Ytgnfinojnmkkkaa

/- Slices of numbers of 64 bits, more: appended to a row of the call's own from whatever is read; copied to a row that was just written out. Nothing of the program is named here. -/
namespace Go.Proofs.Ytgnfinojnmkkkaa
open Go.RowKit (wrap64 intOf Below)
set_option linter.unusedVariables false

theorem NumsAt.at {w : World} {a : Option Addr} {n : Nat} {Z : List Int} (h : NumsAt w a n Z) (hn : 0 < n) : ∃ ad, a = some ad ∧ ∀ j (h : j < Z.length), w.cell? (ad.add j) = some (numV Z[j]) := by
  obtain ⟨g, off, rfl, _, hc⟩ := h.2 hn
  exact ⟨_, rfl, fun j hj => by rw [addr_plain]; exact hc j hj⟩
theorem OwnsI.read {w : World} {B : Nat} {e : TypeId} {a : Option Addr} {n c : Nat} {Z : List Int} (h : OwnsI w B e (.slice a n c) Z) : NumsAt w a n Z := by
  obtain ⟨a', n', c', he, hat⟩ := h.nums
  cases he
  exact hat
theorem OwnsI.empty (w : World) (e : TypeId) : OwnsI (w.alloc (.cells #[] e)) w.heap.size e (.slice (some ⟨w.heap.size, 0, none⟩) 0 0) [] :=
  OwnsI.made #[] 0 (Nat.le_refl _) (Nat.zero_le _) rfl

theorem OwnsI.laid {w : World} {e : TypeId} {n B : Nat} (hn : n = w.heap.size) (hB : B ≤ n) : OwnsI (w.alloc (.cells #[] e)) B e (.slice (some ⟨n, 0, none⟩) 0 0) [] := by
  subst hn; exact OwnsI.made #[] 0 hB (Nat.zero_le _) rfl
theorem OwnsI.setCell {w : World} {B : Nat} {e : TypeId} {v : Value} {Z : List Int} (h : OwnsI w B e v Z) (p : Addr) (x : Value) (hp : p.block < B) : OwnsI (w.setCell p x) B e v Z := by
  refine ⟨h.1, ?_⟩
  rcases h.2 with hn | ⟨g, cap, cur, rfl, hg, hh, rest⟩
  · exact .inl hn
  · refine .inr ⟨g, cap, cur, rfl, hg, ?_, rest⟩
    rw [Below.heap_setCell _ _ _ _ (by omega)]
    exact hh
/-- 'append(b, x...)': b the call's own, x whatever is read. -/
theorem wpList_append_nums {P : Program} (w : World) {ops : Array Oper} {rest : List Oper} {o : Oper} {a : Act} {Q : Exit → Act → World → Prop} (hgd : o.guard = none) (s x : Operand) (t : TypeId)
    (ho : o.op = .call { callee := .builtin .append, args := #[s, x], argTypes := #[t, t] }) (e : TypeId) (ht : P.underlying t = some (.slice e))
    (hinfo : (P.info? e).map (fun i => (i.zero, i.size, i.bytes)) = some (some (.int .i64 0), 1, 8))
    (B : Nat) (v : Value) (Z : List Int) (hs : a.eval s = v) (hown : OwnsI w B e v Z) (hB : B ≤ w.heap.size)
    (xa : Option Addr) (m c : Nat) (news : List Int) (hx : a.eval x = .slice xa m c) (hnil : xa = none → c = 0) (hat : NumsAt w xa m news)
    (hlen : (Z.length + m) * 8 ≤ 140737488355328)
    (h : ∀ va vn vc w', OwnsI w' B e (.slice va vn vc) (Z ++ news) → Below B w w' → wpList P ops Q rest (a.put o.dst (.slice va vn vc)) w') : wpList P ops Q (o :: rest) a w := by
  obtain ⟨i0, hi, hz0, hz1, hz2⟩ := info_parts hinfo
  have h1 := hat.1
  cases xa with
  | none =>
    have hm : m = 0 := by
      by_cases h0 : 0 < m
      · obtain ⟨g, off, he, _⟩ := hat.2 h0; cases he
      · omega
    have hc : c = 0 := hnil rfl
    subst hm hc
    have h0 : news = [] := List.eq_nil_of_length_eq_zero h1
    subst h0
    refine wpList_append_own_none hgd s x t ho B e i0 1 ht hi v Z.length (Z.map numV) hs hown hx ?_
    obtain ⟨va, vn, vc, rfl, hat⟩ := hown.nums
    exact h va vn vc w (by rw [List.append_nil]; exact hown) (Below.refl _ _)
  | some ad =>
    subst h1
    refine wpList_append_own _ hgd s x t ho B e i0 (.int .i64 0) 1 8 ht hi hz0 hz1 hz2 rfl (by decide) v Z.length (Z.map numV) hs hown ad news.length c (news.map numV) hx (by simp) (fun j u hu => ?_) (fun u hu => by obtain ⟨z, _, rfl⟩ := List.mem_map.1 hu; rfl) (by unfold maxLen; omega) hlen hB ?_
    · rw [List.getElem?_map] at hu
      obtain ⟨z, hz, rfl⟩ := Option.map_eq_some_iff.1 hu
      obtain ⟨hj, rfl⟩ := List.getElem?_eq_some_iff.1 hz
      obtain ⟨ad', he, hcell⟩ := hat.at (by omega)
      cases he
      exact hcell j hj
    · intro v' w' hown' hgrow _
      have hown2 : OwnsI w' B e v' (Z ++ news) := by
        show w'.ownsRow B e 1 v' (Z ++ news).length ((Z ++ news).map numV)
        rw [List.map_append, List.length_append]
        exact hown'
      obtain ⟨va, vn, vc, rfl, hat⟩ := hown2.nums
      exact h va vn vc w' hown2 (Below.grown (Below.refl B w) hgrow hB (fun k hk => (hown.lt k hk).1))

/-- 'append([]int{}, x...)': nothing that was there turns; what comes is new, or the empty row itself. -/
theorem run_copy_read {P : Program} (w : World) (t ty e : TypeId) (ht : P.underlying t = some (.slice e)) (hinfo : (P.info? e).map (fun i => (i.zero, i.size, i.bytes)) = some (some (.int .i64 0), 1, 8))
    (b : Addr) (xa : Option Addr) (m c : Nat) (Z : List Int) (hat : NumsAt w xa m Z) (hlen : m * 8 ≤ 140737488355328) :
    ∃ va vc w', (Builtin.append_ #[t, t] ty #[.slice (some b) 0 0, .slice xa m c]).run P w = .ok (.slice (some va) m vc) w' ∧ NumsAt w' (some va) m Z ∧ Below w.heap.size w w' := by
  obtain ⟨i0, hi, hz0, hz1, hz2⟩ := info_parts hinfo
  by_cases h0 : 0 < m
  · obtain ⟨ad, rfl, hcell⟩ := hat.at h0
    have h1 := hat.1
    subst h1
    have hrun := run_append_grow (P := P) (w := w) t ty e i0 (.int .i64 0) ht hi hz0 b 0 0 [] (by simp) (fun j v hj => by simp at hj) ad Z.length c (Z.map numV) (by rw [hz1]; simp) (fun j y hy => by
      rw [List.getElem?_map] at hy
      obtain ⟨z, hz, rfl⟩ := Option.map_eq_some_iff.1 hy
      obtain ⟨hj, rfl⟩ := List.getElem?_eq_some_iff.1 hz
      exact hcell j hj) (by omega) (by omega) (by rw [hz2]; exact growslice_fits (by omega) (by omega))
    have hnum : NumsAt (w.drew.alloc (.cells (#[] ++ (Z.map numV).toArray ++ Builtin.zeroCells (Value.int .i64 0).cells (grownCap w (0 + Z.length) 0 e - (0 + Z.length))) e)) (some ⟨w.heap.size, 0, none⟩) Z.length Z := by
      refine ⟨rfl, fun hn => ⟨w.heap.size, 0, rfl, by simp, fun j hj => ?_⟩⟩
      have hm := World.cell?_alloc_mark w.drew (#[] ++ (Z.map numV).toArray ++ Builtin.zeroCells (Value.int .i64 0).cells (grownCap w (0 + Z.length) 0 e - (0 + Z.length))) e (0, 0) j
      rw [Nat.zero_add j]
      refine Eq.trans hm ?_
      rw [Array.getElem?_append_left (by simpa using hj)]
      simp [hj]
    have e0 : (0 : Nat) + Z.length = Z.length := Nat.zero_add _
    rw [e0] at hrun hnum
    exact ⟨_, _, _, hrun, hnum, ((Below.refl w.heap.size w).drew).alloc (Nat.le_refl _) _⟩
  · obtain rfl : m = 0 := by omega
    have hZ := List.eq_nil_of_length_eq_zero hat.1
    subst hZ
    refine ⟨b, 0, w, ?_, NumsAt.nil w _, Below.refl _ _⟩
    cases xa <;> simp [Builtin.append_, run_underlying ht, sizeOf, typeInfo, hi, Builtin.lenOf, Builtin.firstCells, storeCells, loadCells, loadCellsFrom]
theorem wpList_copy_read {P : Program} (w : World) {ops : Array Oper} {rest : List Oper} {o : Oper} {a : Act} {Q : Exit → Act → World → Prop} (hgd : o.guard = none) (s x : Operand) (t : TypeId)
    (ho : o.op = .call { callee := .builtin .append, args := #[s, x], argTypes := #[t, t] }) (e : TypeId) (ht : P.underlying t = some (.slice e))
    (hinfo : (P.info? e).map (fun i => (i.zero, i.size, i.bytes)) = some (some (.int .i64 0), 1, 8))
    (b : Addr) (hs : a.eval s = .slice (some b) 0 0) (xa : Option Addr) (m c : Nat) (Z : List Int) (hx : a.eval x = .slice xa m c) (hat : NumsAt w xa m Z) (hlen : m * 8 ≤ 140737488355328)
    (h : ∀ va vc w', NumsAt w' (some va) m Z → Below w.heap.size w w' → wpList P ops Q rest (a.put o.dst (.slice (some va) m vc)) w') : wpList P ops Q (o :: rest) a w := by
  obtain ⟨va, vc, w', hrun, hn, hb⟩ := run_copy_read (P := P) w t o.type e ht hinfo b xa m c Z hat hlen
  refine wpList_plain hgd fun K hK => ?_
  unfold Oper.wp
  simp only [execOp, ho, resolve, invoke, builtin, List.map_toArray, List.map_cons, List.map_nil, hs, hx, Sem.run_bind, Sem.run_pure, Result.andThen_ok, hrun]
  exact hK _ _ (h va vc w' hn hb)
/-- The same as one step of a region that draws its order. -/
theorem step_copy_read {P : Program} {u : World} {ops : Array Oper} {o : Oper} {a : Act} {K : Act → World → Prop} {Q : Exit → Act → World → Prop} {E : Prop} (hgd : Region.wanted o (yielded ops a.tmps) = true) (s x : Operand) (t : TypeId)
    (ho : o.op = .call { callee := .builtin .append, args := #[s, x], argTypes := #[t, t] }) (e : TypeId) (ht : P.underlying t = some (.slice e))
    (hinfo : (P.info? e).map (fun i => (i.zero, i.size, i.bytes)) = some (some (.int .i64 0), 1, 8))
    (b : Addr) (hs : a.eval s = .slice (some b) 0 0) (xa : Option Addr) (m c : Nat) (Z : List Int) (hx : a.eval x = .slice xa m c) (hat : NumsAt u xa m Z) (hlen : m * 8 ≤ 140737488355328)
    (h : ∀ va vc w', NumsAt w' (some va) m Z → Below u.heap.size u w' → K (a.put o.dst (.slice (some va) m vc)) w') :
    if Region.wanted o (yielded ops a.tmps) = true then Oper.wp P o a u K Q else E := by
  rw [if_pos hgd]
  obtain ⟨va, vc, w', hrun, hn, hb⟩ := run_copy_read (P := P) u t o.type e ht hinfo b xa m c Z hat hlen
  have hk := h va vc w' hn hb
  unfold Oper.wp
  simp only [execOp, ho, resolve, invoke, builtin, List.map_toArray, List.map_cons, List.map_nil, hs, hx, Sem.run_bind, Sem.run_pure, Result.andThen_ok, hrun]
  first | exact hk | exact Or.inl hk
theorem below_alloc {w u : World} {o : Obj} (h : Below w.heap.size w u) : Below w.heap.size w (u.alloc o) := h.alloc h.size o
theorem below_drewN {B : Nat} {w u : World} (q : Nat) (h : Below B w u) : Below B w (u.drewN q) := h.trans ⟨rfl, rfl, rfl, Nat.le_refl _, fun _ _ => rfl⟩
end Go.Proofs.Ytgnfinojnmkkkaa

/- Steps (api.Op) by value: what a walk needs of them; the statements' own copy of one (hallmarklaw04.own). -/
namespace Go.Proofs.Ytgnfinojnmkkkaa
open Go.RowKit (wrap64 intOf Below)
set_option linter.unusedVariables false

theorem bcell {W w1 : World} (hb : Below W.heap.size W w1) : (∀ b o, b < W.heap.size → w1.cell? ⟨b, o, none⟩ = W.cell? ⟨b, o, none⟩) ∧ (∀ b o, b < W.heap.size → w1.frozen? ⟨b, o, none⟩ = W.frozen? ⟨b, o, none⟩) :=
  ⟨fun b o h => hb.cell (p := ⟨b, o, none⟩) h, fun b o h => hb.frozen (p := ⟨b, o, none⟩) h⟩
theorem info_int : (Try.prog.info? 3).map (fun i => (i.zero, i.size, i.bytes)) = some (some (.int .i64 0), 1, 8) := by kernel_rfl

/-- Two blocks that were just laid, a third behind them, and what has grown since. -/
theorem cell_laid {w w2 : World} {C0 C1 C2 : Array Value} {t0 t1 t2 : TypeId} (hb : Below (w.heap.size + 2) (((w.alloc (.cells C0 t0)).alloc (.cells C1 t1)).alloc (.cells C2 t2)) w2) :
    (∀ j, w2.cell? ⟨w.heap.size, j, none⟩ = C0[j]?) ∧ (∀ j, w2.cell? ⟨w.heap.size + 1, j, none⟩ = C1[j]?) ∧ (∀ j, w2.frozen? ⟨w.heap.size, j, none⟩ = false) ∧ (∀ j, w2.frozen? ⟨w.heap.size + 1, j, none⟩ = false) := by
  refine ⟨fun j => ?_, fun j => ?_, fun j => ?_, fun j => ?_⟩
  · rw [hb.cell (p := ⟨w.heap.size, j, none⟩) (by simp), World.cell?_alloc_lt _ _ _ (by simp <;> omega), World.cell?_alloc_lt _ _ _ (by simp), World.cell?_alloc_mark]
  · have h1 : w.heap.size + 1 = (w.alloc (.cells C0 t0)).heap.size := by simp
    rw [hb.cell (p := ⟨w.heap.size + 1, j, none⟩) (by simp), World.cell?_alloc_lt _ _ _ (by simp), h1, World.cell?_alloc_mark]
  · rw [hb.frozen (p := ⟨w.heap.size, j, none⟩) (by simp), RowKit.frozen?_alloc_cells, RowKit.frozen?_alloc_cells, World.frozen?_alloc_at _ _ _ _ rfl]
  · rw [hb.frozen (p := ⟨w.heap.size + 1, j, none⟩) (by simp), RowKit.frozen?_alloc_cells, World.frozen?_alloc_at _ _ _ _ (by simp)]

end Go.Proofs.Ytgnfinojnmkkkaa

/- From a walk to a row: a law that returns true and leaves all that was there as it was keeps its promise: each argument reads behind the call as it read before. Nothing of the program is named here. -/
namespace Go.Proofs.Ytgnfinojnmkkkaa
open Go.ChangeShapes Go.WideShapes Go.ChangeAt Go.RowKit

section
variable {H : Type} {enc : TypeId × Value → H} {P : Program}

/-- All arguments read as they did, if below the old heap's size nothing has turned. -/
theorem trodAll_stays (hl : laidOutB P = true) {W W' : World} (hb : Below W.heap.size W W') : ∀ {ts : List TypeId} {vs : List Value} {ds : List (DataW H)} {ps : List MemPlace},
    (∀ t ∈ ts, P.readableRec t = true ∧ t < P.types.size) → DataW.TrodAll enc P W 0 (fun _ => true) true ts vs ds ps → (∀ x ∈ ps, x.block < W.heap.size) →
    DataW.TrodAll enc P W' 0 (fun b => decide (b < W.heap.size)) true ts vs ds ps
  | [], _, _, _, _, h, _ => by
    obtain ⟨rfl, rfl, rfl⟩ := trodAll_nil h
    exact trodAll_mk0
  | t :: ts, _, _, _, ht, h, hlt => by
    obtain ⟨v, vs, d, ds, p, q, rfl, rfl, rfl, h0, hr⟩ := trodAll_cons h
    have h1 := ht t (by simp)
    exact trodAll_cons_mk (Below.trod hl h1.1 h1.2 h0 hb (fun x hx => hlt x (by simp [hx]))) (trodAll_stays hl hb (fun u hu => ht u (by simp [hu])) hr (fun x hx => hlt x (by simp [hx])))

/-- The promise of a law, kept. -/
theorem law_post {f : Func} {s : ChangeSpec} {apart : Bool} {W W' : World} {args : Array Value} {ds gs : List (DataW H)} {before : List MemPlace} {tb : TypeId}
    (hl : laidOutB P = true) (hts : ∀ t ∈ f.params.toList, P.readableRec t = true ∧ t < P.types.size) (hrs : f.resultTypes = #[tb]) (htb : P.underlying tb = some .bool) (hvars : s.vars = [])
    (hfn : s.fn H (ds ++ gs) = { results := [.lit (.bool true)], args := ds }) (hW : DataW.Whole enc P f.params.toList s.vars apart W args.toList ds gs before) (hb : Below W.heap.size W W') :
    s.post enc P f apart true false false W args (.bool true) W' := by
  have hW' := hW
  obtain ⟨p, q, hA, hV, hps, hfz, hnd⟩ := hW
  refine ⟨ds, gs, before, [], p, [], hW', ?_, ?_, ?_, hb.frame _, fun h => by cases h⟩
  · rw [hfn, hrs]
    exact trodAll_cons_mk (shut_bool htb _) trodAll_mk0
  · rw [hfn]
    exact trodAll_stays hl hb hts hA (fun x hx => hW'.lt x (by rw [hps]; simp [hx]))
  · rw [hfn, hvars]; rfl

/-- A slice of numbers of 64 bits that came in, opened. -/
theorem open_ints_at {W : World} {v : Value} {d : DataW H} {p : List MemPlace} {t e : TypeId} {ts : List TypeId} {ds : List (DataW H)} {j : Nat} (ht : P.underlying t = some (.slice e)) (he : P.underlying e = some (.int .i64)) (hc : P.cellsOf e = 1) (h8 : P.bytesOf e = 8)
    (hv : Value.okWide P W .any 0 t v) (h : DataW.Trod enc P W 0 (fun _ => true) true t v d p) (hlt : ∀ x ∈ p, x.block < W.heap.size)
    (hsz : (DataW.weightsEach P ts ds).all (· ≤ reachBytes) = true) (hj : ts[j]? = some t) (hd : ds[j]? = some d) :
    ∃ zs : List Int, IntsAt W v zs ∧ ∀ i, -9223372036854775808 ≤ nth zs i ∧ nth zs i ≤ 9223372036854775807 := by
  obtain ⟨a0, len, cap, rfl⟩ := okWide_slice ht hv
  obtain ⟨fuel, hf⟩ := h
  rcases open_ints ht he hc hf with ⟨hcs, hx⟩ | ⟨a, len', cap', zs, hcs, _, hl, hm, hz, hx, hcell, hwz⟩
  · simp [Value.cells] at hcs
    obtain ⟨rfl, rfl, rfl⟩ := hcs
    exact ⟨[], Or.inl ⟨rfl, rfl⟩, fun i => by unfold nth; simp⟩
  · simp [Value.cells] at hcs
    obtain ⟨rfl, rfl, rfl⟩ := hcs
    simp only [Prod.mk.injEq] at hx
    obtain ⟨rfl, rfl⟩ := hx
    simp only [if_true] at hz
    have hr := sized_slice hsz hj hd ht
    rw [h8] at hr
    simp only [lits, List.length_map, List.length_take, List.length_drop, reachBytes] at hr
    have hlen : (zs.take len).length = len := by simp; omega
    refine ⟨zs.take len, Or.inr ⟨a, cap, by rw [hlen], by omega, fun i hi => hlt (.cell a.block (a.off + i)) (MemPlace.mem_row.2 ⟨i, by omega, rfl⟩), fun i hi => ?_⟩, fun i => ?_⟩
    · rw [nth_take zs len i (by omega)]
      exact hcell i (by omega)
    · by_cases hi : i < len
      · rw [nth_take zs len i hi, List.getD_eq_getElem?_getD, List.getElem?_eq_getElem (by omega)]
        exact wf_i64_range (hwz _ (List.getElem_mem _))
      · unfold nth
        rw [List.getD_eq_getElem?_getD, List.getElem?_eq_none (by omega)]
        simp
end
end Go.Proofs.Ytgnfinojnmkkkaa

/- From a reading to a walk: a slice of bytes, or of numbers of 64 bits, that came in: what it reads as, and how much it is. Nothing of the program is named here. -/
namespace Go.Proofs.Ytgnfinojnmkkkaa
open Go.ChangeShapes Go.WideShapes Go.ChangeAt Go.RowKit

section
variable {H : Type} {enc : TypeId × Value → H} {P : Program}

/-- How much a datum is that is a slice of numbers: as many as it has, at the least. -/
def SliceOf (k : IntKind) (n : Nat) (d : DataW H) : Prop := n = 0 ∨ ∃ (zs ys : List Int), d = .slice (lits k zs) (lits k ys) ∧ zs.length = n

theorem wf_u8_range {n : Int} (h : (Lit.int .u8 n).wf = true) : 0 ≤ n ∧ n ≤ 255 := by
  simp [Lit.wf, IntKind.min, IntKind.max, IntKind.signed, IntKind.bits] at h
  omega

/-- A slice of bytes that came in, opened. -/
theorem open_bytes_at {W : World} {v : Value} {d : DataW H} {p : List MemPlace} {t e : TypeId} {ts : List TypeId} {ds : List (DataW H)} {j : Nat} (ht : P.underlying t = some (.slice e)) (he : P.underlying e = some (.int .u8)) (hc : P.cellsOf e = 1) (h8 : P.bytesOf e = 1)
    (hv : Value.okWide P W .any 0 t v) (h : DataW.Trod enc P W 0 (fun _ => true) true t v d p) (hlt : ∀ x ∈ p, x.block < W.heap.size)
    (hsz : (DataW.weightsEach P ts ds).all (· ≤ reachBytes) = true) (hj : ts[j]? = some t) (hd : ds[j]? = some d) :
    ∃ (a : Option Addr) (n c : Nat) (L : List UInt8), v = .slice a n c ∧ BytesAt W a n c L ∧ n ≤ 140737488351232 ∧ SliceOf .u8 n d := by
  obtain ⟨a0, len, cap, rfl⟩ := okWide_slice ht hv
  obtain ⟨fuel, hf⟩ := h
  rcases open_ints ht he hc hf with ⟨hcs, hx⟩ | ⟨a, len', cap', zs, hcs, _, hl, hm, hz, hx, hcell, hwz⟩
  · simp [Value.cells] at hcs
    obtain ⟨rfl, rfl, rfl⟩ := hcs
    exact ⟨none, 0, 0, [], rfl, BytesAt.nil W, Nat.zero_le _, Or.inl rfl⟩
  · simp [Value.cells] at hcs
    obtain ⟨rfl, rfl, rfl⟩ := hcs
    simp only [Prod.mk.injEq] at hx
    obtain ⟨rfl, rfl⟩ := hx
    simp only [if_true] at hz
    have hr := sized_slice hsz hj hd ht
    rw [h8] at hr
    simp only [lits, List.length_map, List.length_take, List.length_drop, reachBytes] at hr
    refine ⟨some a, len, cap, (zs.take len).map fun n => UInt8.ofNat n.toNat, rfl, ⟨by simp; omega, hl, hm, (fun h => by cases h), fun hn => ?_, fun ad ha i hi => ?_⟩, by omega, Or.inr ⟨zs.take len, zs.drop len, rfl, by simp; omega⟩⟩
    · obtain ⟨b, off, spot⟩ := a
      have hs : spot = none := by simpa [Addr.add] using World.cell?_spot (hcell 0 (by omega))
      subst hs
      exact ⟨b, off, rfl, hlt (.cell b (off + 0)) (MemPlace.mem_row.2 ⟨0, by omega, rfl⟩)⟩
    · cases ha
      rw [List.length_map, List.length_take] at hi
      have hb := wf_u8_range (hwz (zs[i]'(by omega)) (List.getElem_mem _))
      rw [hcell i (by omega), List.getD_eq_getElem?_getD, List.getElem?_eq_getElem (by omega)]
      simp only [List.getElem_map, List.getElem_take, Option.getD_some, byteV, UInt8.toNat_ofNat']
      congr 2
      omega

/-- A slice of numbers of 64 bits that came in: how much it is. -/
theorem open_ints_sized {W : World} {v : Value} {d : DataW H} {p : List MemPlace} {t e : TypeId} {ts : List TypeId} {ds : List (DataW H)} {j : Nat} (ht : P.underlying t = some (.slice e)) (he : P.underlying e = some (.int .i64)) (hc : P.cellsOf e = 1) (h8 : P.bytesOf e = 8)
    (hv : Value.okWide P W .any 0 t v) (h : DataW.Trod enc P W 0 (fun _ => true) true t v d p) (hlt : ∀ x ∈ p, x.block < W.heap.size)
    (hsz : (DataW.weightsEach P ts ds).all (· ≤ reachBytes) = true) (hj : ts[j]? = some t) (hd : ds[j]? = some d) :
    ∃ zs : List Int, IntsAt W v zs ∧ (∀ i, -9223372036854775808 ≤ nth zs i ∧ nth zs i ≤ 9223372036854775807) ∧ SliceOf .i64 zs.length d := by
  obtain ⟨zs, hz, hb⟩ := open_ints_at ht he hc h8 hv h hlt hsz hj hd
  refine ⟨zs, hz, hb, ?_⟩
  obtain ⟨a0, len, cap, rfl⟩ := okWide_slice ht hv
  obtain ⟨fuel, hf⟩ := h
  have hlen : zs.length = len := by
    rcases hz with ⟨h1, h2⟩ | ⟨a, c, h1, _⟩
    · cases h1; rw [h2]; rfl
    · cases h1; rfl
  rcases open_ints ht he hc hf with ⟨hcs, hx⟩ | ⟨a, len', cap', ys, hcs, _, hl, hm, hyz, hx, hcell, hwz⟩
  · simp [Value.cells] at hcs
    obtain ⟨rfl, rfl, rfl⟩ := hcs
    exact Or.inl hlen
  · simp [Value.cells] at hcs
    obtain ⟨rfl, rfl, rfl⟩ := hcs
    simp only [Prod.mk.injEq] at hx
    obtain ⟨rfl, rfl⟩ := hx
    simp only [if_true] at hyz
    exact Or.inr ⟨ys.take len, ys.drop len, rfl, by simp; omega⟩
end
end Go.Proofs.Ytgnfinojnmkkkaa

/- From a reading to a walk: a slice of numbers as a field, and a struct of the eight fields that a step (api.Op) has, that came in by value. Nothing of the program is named here. -/
namespace Go.Proofs.Ytgnfinojnmkkkaa
open Go.ChangeShapes Go.WideShapes Go.ChangeAt Go.RowKit Go.Joins Go.Deep
set_option linter.unusedVariables false

section
variable {H : Type} {enc : TypeId × Value → H} {P : Program} {W : World}

/-- The weights of a struct's fields. -/
theorem sized_agg {ts : List TypeId} {ds : List (DataW H)} (hsz : (DataW.weightsEach P ts ds).all (· ≤ reachBytes) = true) {j : Nat} {t : TypeId} {fs : Array Field} {parts : List (DataW H)} (hj : ts[j]? = some t) (hd : ds[j]? = some (.agg parts)) (hs : P.underlying t = some (.struct fs)) :
    (DataW.weightsEach P (fs.toList.map (·.type)) parts).all (· ≤ reachBytes) = true := by
  rw [List.all_eq_true]
  intro n hn
  have := List.all_eq_true.1 hsz n (DataW.weights_mem_each hj hd n (by simp only [DataW.weights, hs]; exact hn))
  exact this

/-- A slice of numbers of 64 bits, as a field. -/
theorem open_nums_field {fuel : Nat} {t e : TypeId} {v : Value} {y : DataW H × List MemPlace} (ht : P.underlying t = some (.slice e)) (he : P.underlying e = some (.int .i64)) (hc : P.cellsOf e = 1) (h8 : P.bytesOf e = 8)
    (h : DataW.trod enc P W 0 (fun _ => true) true fuel t [v] = some y) (hlt : ∀ x ∈ y.2, x.block < W.heap.size) {ts : List TypeId} {ds : List (DataW H)} (hsz : (DataW.weightsEach P ts ds).all (· ≤ reachBytes) = true) {j : Nat} (hj : ts[j]? = some t) (hd : ds[j]? = some y.1) :
    ∃ (a : Option Addr) (n c : Nat) (Z : List Int), v = .slice a n c ∧ NumsAt W a n Z ∧ (a = none → c = 0) ∧ n * 8 ≤ 140737488351232 ∧ (∀ z ∈ Z, -9223372036854775808 ≤ z ∧ z ≤ 9223372036854775807) ∧ SliceOf .i64 n y.1 := by
  rcases open_ints ht he hc h with ⟨hcs, hx⟩ | ⟨a, len, cap, zs, hcs, _, hl, hm, hz, hx, hcell, hwz⟩
  · simp at hcs
    subst hcs
    exact ⟨none, 0, 0, [], rfl, NumsAt.nil W none, fun _ => rfl, by omega, (fun z hz => by cases hz), Or.inl rfl⟩
  · simp at hcs
    subst hcs hx
    simp only [if_true] at hz
    have hr := sized_slice hsz hj hd ht
    rw [h8] at hr
    simp only [lits, List.length_map, List.length_take, List.length_drop, reachBytes] at hr
    refine ⟨some a, len, cap, zs.take len, rfl, ⟨by simp; omega, fun hn => ?_⟩, (fun h => by cases h), by omega, fun z hz' => wf_i64_range (hwz z (List.mem_of_mem_take hz')), Or.inr ⟨zs.take len, zs.drop len, rfl, by simp; omega⟩⟩
    obtain ⟨b, off, spot⟩ := a
    have hs : spot = none := by simpa [Addr.add] using World.cell?_spot (hcell 0 (by omega))
    subst hs
    refine ⟨b, off, rfl, hlt (.cell b (off + 0)) (MemPlace.mem_row.2 ⟨0, by omega, rfl⟩), fun i hi => ?_⟩
    rw [List.length_take] at hi
    have := hcell i (by omega)
    rw [addr_plain, List.getD_eq_getElem?_getD, List.getElem?_eq_getElem (by omega)] at this
    rw [this, List.getElem_take]
    rfl

/-- A struct of eight fields of one cell each, by value. -/
theorem open_agg8 {r : Reach} {b0 base : Nat} {spare : Nat → Bool} {held : Bool} {t : TypeId} {f0 f1 f2 f3 f4 f5 f6 f7 : Field} {v : Value} {d : DataW H} {p : List MemPlace} (hs : P.underlying t = some (.struct #[f0, f1, f2, f3, f4, f5, f6, f7])) (hone : oneCellFields P #[f0, f1, f2, f3, f4, f5, f6, f7] = true) (hC : P.cellsOf t = 8)
    (hv : Value.okWide P W r b0 t v) (h : DataW.Trod enc P W base spare held t v d p) :
    ∃ (v0 v1 v2 v3 v4 v5 v6 v7 : Value) (y0 y1 y2 y3 y4 y5 y6 y7 : DataW H × List MemPlace) (n : Nat), v = .agg #[v0, v1, v2, v3, v4, v5, v6, v7] ∧ d = .agg [y0.1, y1.1, y2.1, y3.1, y4.1, y5.1, y6.1, y7.1] ∧
      p = y0.2 ++ (y1.2 ++ (y2.2 ++ (y3.2 ++ (y4.2 ++ (y5.2 ++ (y6.2 ++ y7.2)))))) ∧
      DataW.trod enc P W base spare held n f0.type [v0] = some y0 ∧ DataW.trod enc P W base spare held n f1.type [v1] = some y1 ∧ DataW.trod enc P W base spare held n f2.type [v2] = some y2 ∧ DataW.trod enc P W base spare held n f3.type [v3] = some y3 ∧
      DataW.trod enc P W base spare held n f4.type [v4] = some y4 ∧ DataW.trod enc P W base spare held n f5.type [v5] = some y5 ∧ DataW.trod enc P W base spare held n f6.type [v6] = some y6 ∧ DataW.trod enc P W base spare held n f7.type [v7] = some y7 := by
  obtain ⟨cs, rfl, hsz⟩ := okWide_struct hs hv
  obtain ⟨l⟩ := cs
  match l, hsz.trans hC with
  | [c0, c1, c2, c3, c4, c5, c6, c7], _ =>
    obtain ⟨fuel, hf⟩ := h
    obtain ⟨xs, n, _, hx, _, hlen, hg⟩ := DataW.trod_struct hs hf
    obtain ⟨o0, k0⟩ := hone_of hone 0 f0 rfl
    obtain ⟨o1, k1⟩ := hone_of hone 1 f1 rfl
    obtain ⟨o2, k2⟩ := hone_of hone 2 f2 rfl
    obtain ⟨o3, k3⟩ := hone_of hone 3 f3 rfl
    obtain ⟨o4, k4⟩ := hone_of hone 4 f4 rfl
    obtain ⟨o5, k5⟩ := hone_of hone 5 f5 rfl
    obtain ⟨o6, k6⟩ := hone_of hone 6 f6 rfl
    obtain ⟨o7, k7⟩ := hone_of hone 7 f7 rfl
    match xs, hlen with
    | [y0, y1, y2, y3, y4, y5, y6, y7], _ =>
      simp only [Prod.mk.injEq] at hx
      exact ⟨c0, c1, c2, c3, c4, c5, c6, c7, y0, y1, y2, y3, y4, y5, y6, y7, n, rfl, by simpa using hx.1, by simpa using hx.2, by simpa [Value.cells, o0, k0] using hg 0 f0 rfl, by simpa [Value.cells, o1, k1] using hg 1 f1 rfl, by simpa [Value.cells, o2, k2] using hg 2 f2 rfl, by simpa [Value.cells, o3, k3] using hg 3 f3 rfl, by simpa [Value.cells, o4, k4] using hg 4 f4 rfl, by simpa [Value.cells, o5, k5] using hg 5 f5 rfl, by simpa [Value.cells, o6, k6] using hg 6 f6 rfl, by simpa [Value.cells, o7, k7] using hg 7 f7 rfl⟩

/-- What a step that came in is: its numbers, its text, its list. -/
structure OpIn (W : World) (v : Value) (K A B C N : Int) (S : ByteArray) (la : Option Addr) (ln lc : Nat) (T : Bool) (L : List Int) : Prop where
  val : v = .agg #[.int .i64 K, .int .i64 A, .int .i64 B, .int .i64 C, .int .i64 N, .string S, .slice la ln lc, .bool T]
  rK : -9223372036854775808 ≤ K ∧ K ≤ 9223372036854775807
  rA : -9223372036854775808 ≤ A ∧ A ≤ 9223372036854775807
  rB : -9223372036854775808 ≤ B ∧ B ≤ 9223372036854775807
  rC : -9223372036854775808 ≤ C ∧ C ≤ 9223372036854775807
  rN : -9223372036854775808 ≤ N ∧ N ≤ 9223372036854775807
  sS : S.size ≤ 140737488351232
  at_ : NumsAt W la ln L
  nil_ : la = none → lc = 0
  len_ : ln * 8 ≤ 140737488351232
  rL : ∀ z ∈ L, -9223372036854775808 ≤ z ∧ z ≤ 9223372036854775807

theorem open_op {b0 : Nat} {t ti tn tS tl tb : TypeId} {f0 f1 f2 f3 f4 f5 f6 f7 : Field} {v : Value} {d : DataW H} {p : List MemPlace} (hs : P.underlying t = some (.struct #[f0, f1, f2, f3, f4, f5, f6, f7])) (hone : oneCellFields P #[f0, f1, f2, f3, f4, f5, f6, f7] = true) (hC : P.cellsOf t = 8)
    (e0 : f0.type = ti) (e1 : f1.type = ti) (e2 : f2.type = ti) (e3 : f3.type = ti) (e4 : f4.type = tn) (e5 : f5.type = tS) (e6 : f6.type = tl) (e7 : f7.type = tb)
    (hti : P.underlying ti = some (.int .i64)) (htn : P.underlying tn = some (.int .i64)) (htS : P.underlying tS = some .string) (htl : P.underlying tl = some (.slice ti)) (htb : P.underlying tb = some .bool) (hc : P.cellsOf ti = 1) (h8 : P.bytesOf ti = 8)
    (hv : Value.okWide P W .any b0 t v) (h : DataW.Trod enc P W 0 (fun _ => true) true t v d p) (hlt : ∀ x ∈ p, x.block < W.heap.size)
    {ts : List TypeId} {ds : List (DataW H)} (hsz : (DataW.weightsEach P ts ds).all (· ≤ reachBytes) = true) {j : Nat} (hj : ts[j]? = some t) (hd : ds[j]? = some d) :
    ∃ K A B C N S la ln lc T L, OpIn W v K A B C N S la ln lc T L := by
  obtain ⟨v0, v1, v2, v3, v4, v5, v6, v7, y0, y1, y2, y3, y4, y5, y6, y7, n, rfl, rfl, rfl, g0, g1, g2, g3, g4, g5, g6, g7⟩ := open_agg8 hs hone hC hv h
  have hw := sized_agg hsz hj hd hs
  simp only [List.map_cons, List.map_nil] at hw
  rw [e0] at g0; rw [e1] at g1; rw [e2] at g2; rw [e3] at g3; rw [e4] at g4; rw [e5] at g5; rw [e6] at g6; rw [e7] at g7
  obtain ⟨K, hk, hk', rK⟩ := DataW.trod_int hti g0
  obtain ⟨A, ha, ha', rA⟩ := DataW.trod_int hti g1
  obtain ⟨B, hb, hb', rB⟩ := DataW.trod_int hti g2
  obtain ⟨C, hcc, hcc', rC⟩ := DataW.trod_int hti g3
  obtain ⟨N, hN, hN', rN⟩ := DataW.trod_int htn g4
  obtain ⟨S, hS, hS', rS⟩ := DataW.trod_string htS g5
  obtain ⟨T, hT, hT'⟩ := DataW.trod_bool htb g7
  obtain ⟨la, ln, lc, L, rfl, h1, h2, h3, h4, h5⟩ := open_nums_field htl hti hc h8 g6 (fun x hx => hlt x (by simp [hx])) hw (j := 6) (by simp [e6]) rfl
  simp only [List.cons.injEq, and_true] at hk ha hb hcc hN hS hT
  subst hk ha hb hcc hN hS hT
  have hs5 := sized_string hw (j := 5) (bytes := S.data.toList) rfl (by rw [hS']; rfl)
  refine ⟨K, A, B, C, N, S, la, ln, lc, T, L, rfl, wf_i64_range rK, wf_i64_range rA, wf_i64_range rB, wf_i64_range rC, wf_i64_range rN, ?_, h1, h2, h3, h4⟩
  rw [list_len] at hs5
  simpa [reachBytes] using hs5
end
end Go.Proofs.Ytgnfinojnmkkkaa

/- A program (api.Prog) that came in, read to its depth: what its lists hold, and that they hold it in each later world that keeps what lay. Nothing of the program is named here. -/
namespace Go.Proofs.Ytgnfinojnmkkkaa
open Go.ChangeShapes Go.WideShapes Go.ChangeAt Go.RowKit Go.Joins Go.Deep
set_option linter.unusedVariables false

structure OpD where
  (K A B C N : Int) (S : ByteArray) (L : List Int) (T : Bool)
structure EndD where
  (K A To Else : Int) (L M : List Int)
structure BlockD where
  (params : List Int) (ops : List OpD) (fin : EndD)
structure FuncD where
  (ret : Int) (blocks : List BlockD)
structure SigD where
  (params : List Int) (ret : Int)
structure ClassD where
  (fields methods : List Int)
structure ProgD where
  (sigs : List SigD) (classes : List ClassD) (funcs : List FuncD)

def InR (z : Int) : Prop := -9223372036854775808 ≤ z ∧ z ≤ 9223372036854775807
/-- A slice of numbers, as a value. -/
def NumsV (W : World) (v : Value) (Z : List Int) : Prop :=
  ∃ a n c, v = .slice a n c ∧ NumsAt W a n Z ∧ (a = none → c = 0) ∧ n * 8 ≤ 140737488351232 ∧ ∀ z ∈ Z, InR z
/-- A slice of structs of k cells each, as a value. -/
def RowV {α : Type} (Q : World → List Value → α → Prop) (k : Nat) (W : World) (v : Value) (xs : List α) : Prop :=
  ∃ a n c, v = .slice a n c ∧ xs.length = n ∧ (a = none → c = 0) ∧ n ≤ 140737488351232 ∧ (0 < n → ∃ g off, a = some ⟨g, off, none⟩ ∧ g < W.heap.size ∧
    ∀ i (h : i < xs.length), ∃ cs, cs.length = k ∧ (∀ j (hj : j < cs.length), W.cell? ⟨g, off + i * k + j, none⟩ = some cs[j]) ∧ Q W cs xs[i])
def OpQ (W : World) (cs : List Value) (x : OpD) : Prop :=
  ∃ l, cs = [.int .i64 x.K, .int .i64 x.A, .int .i64 x.B, .int .i64 x.C, .int .i64 x.N, .string x.S, l, .bool x.T] ∧ InR x.K ∧ InR x.A ∧ InR x.B ∧ InR x.C ∧ InR x.N ∧ x.S.size ≤ 140737488351232 ∧ NumsV W l x.L
def EndQ (W : World) (cs : List Value) (x : EndD) : Prop :=
  ∃ l m, cs = [.int .i64 x.K, .int .i64 x.A, .int .i64 x.To, .int .i64 x.Else, l, m] ∧ InR x.K ∧ InR x.A ∧ InR x.To ∧ InR x.Else ∧ NumsV W l x.L ∧ NumsV W m x.M
def BlockQ (W : World) (cs : List Value) (x : BlockD) : Prop :=
  ∃ p o es, cs = p :: o :: es ∧ NumsV W p x.params ∧ RowV OpQ 8 W o x.ops ∧ EndQ W es x.fin
def FuncQ (W : World) (cs : List Value) (x : FuncD) : Prop := ∃ b, cs = [.int .i64 x.ret, b] ∧ InR x.ret ∧ RowV BlockQ 8 W b x.blocks
def SigQ (W : World) (cs : List Value) (x : SigD) : Prop := ∃ p, cs = [p, .int .i64 x.ret] ∧ NumsV W p x.params ∧ InR x.ret
def ClassQ (W : World) (cs : List Value) (x : ClassD) : Prop := ∃ f m, cs = [f, m] ∧ NumsV W f x.fields ∧ NumsV W m x.methods
def ProgQ (W : World) (cs : List Value) (x : ProgD) : Prop := ∃ s c f, cs = [s, c, f] ∧ RowV SigQ 2 W s x.sigs ∧ RowV ClassQ 2 W c x.classes ∧ RowV FuncQ 2 W f x.funcs

/-- What holds on wherever what lay is kept. -/
def Lasts {α : Type} (Q : World → List Value → α → Prop) : Prop := ∀ (W W' : World) (cs : List Value) (x : α), Below W.heap.size W W' → Q W cs x → Q W' cs x
theorem NumsV.since {W W' : World} {v : Value} {Z : List Int} (hb : Below W.heap.size W W') (h : NumsV W v Z) : NumsV W' v Z := by
  obtain ⟨a, n, c, e, hat, rest⟩ := h
  exact ⟨a, n, c, e, hat.since hb, rest⟩
theorem RowV.since {α : Type} {Q : World → List Value → α → Prop} (hQ : Lasts Q) {k : Nat} {W W' : World} {v : Value} {xs : List α} (hb : Below W.heap.size W W') (h : RowV Q k W v xs) : RowV Q k W' v xs := by
  obtain ⟨a, n, c, e, hl, hn, hm, hc⟩ := h
  refine ⟨a, n, c, e, hl, hn, hm, fun h0 => ?_⟩
  obtain ⟨g, off, ea, hg, hi⟩ := hc h0
  refine ⟨g, off, ea, Nat.lt_of_lt_of_le hg hb.size, fun i h => ?_⟩
  obtain ⟨cs, hk, hcs, hq⟩ := hi i h
  exact ⟨cs, hk, fun j hj => (hb.cell (p := ⟨g, off + i * k + j, none⟩) hg).trans (hcs j hj), hQ _ _ _ _ hb hq⟩
theorem OpQ.lasts : Lasts OpQ := fun _ _ _ _ hb ⟨l, e, h1, h2, h3, h4, h5, h6, h⟩ => ⟨l, e, h1, h2, h3, h4, h5, h6, h.since hb⟩
theorem EndQ.lasts : Lasts EndQ := fun _ _ _ _ hb ⟨l, m, e, h1, h2, h3, h4, h, h'⟩ => ⟨l, m, e, h1, h2, h3, h4, h.since hb, h'.since hb⟩
theorem BlockQ.lasts : Lasts BlockQ := fun _ _ _ _ hb ⟨p, o, es, e, h1, h2, h3⟩ => ⟨p, o, es, e, h1.since hb, h2.since OpQ.lasts hb, EndQ.lasts _ _ _ _ hb h3⟩
theorem FuncQ.lasts : Lasts FuncQ := fun _ _ _ _ hb ⟨b, e, h1, h2⟩ => ⟨b, e, h1, h2.since BlockQ.lasts hb⟩
theorem SigQ.lasts : Lasts SigQ := fun _ _ _ _ hb ⟨p, e, h1, h2⟩ => ⟨p, e, h1.since hb, h2⟩
theorem ClassQ.lasts : Lasts ClassQ := fun _ _ _ _ hb ⟨f, m, e, h1, h2⟩ => ⟨f, m, e, h1.since hb, h2.since hb⟩
theorem ProgQ.lasts : Lasts ProgQ := fun _ _ _ _ hb ⟨s, c, f, e, h1, h2, h3⟩ => ⟨s, c, f, e, h1.since SigQ.lasts hb, h2.since ClassQ.lasts hb, h3.since FuncQ.lasts hb⟩

section
variable {H : Type} {enc : TypeId × Value → H} {P : Program}
/-- A datum that is as small as each argument is. -/
def Fits (P : Program) (t : TypeId) (d : DataW H) : Prop := (d.weights P t).all (· ≤ reachBytes) = true
theorem Fits.of_each {ts : List TypeId} {ds : List (DataW H)} (h : (DataW.weightsEach P ts ds).all (· ≤ reachBytes) = true) {j : Nat} {t : TypeId} {d : DataW H} (hj : ts[j]? = some t) (hd : ds[j]? = some d) : Fits P t d := by
  unfold Fits
  rw [List.all_eq_true]
  exact fun n hn => List.all_eq_true.1 h n (DataW.weights_mem_each hj hd n hn)
theorem Fits.each {t : TypeId} {d : DataW H} (h : Fits P t d) : (DataW.weightsEach P [t] [d]).all (· ≤ reachBytes) = true := by
  simpa [DataW.weightsEach, Fits] using h
theorem Fits.part {t : TypeId} {fs : Array Field} {parts : List (DataW H)} (hs : P.underlying t = some (.struct fs)) (h : Fits P t (.agg parts)) {j : Nat} {f : Field} {d : DataW H} (hf : fs[j]? = some f) (hd : parts[j]? = some d) : Fits P f.type d := by
  have h1 := sized_agg h.each (j := 0) rfl rfl hs
  exact Fits.of_each h1 (by simp [List.getElem?_map, hf]) hd
theorem weights_mem_all {e : TypeId} {ds : List (DataW H)} {d : DataW H} (hd : d ∈ ds) {n : Nat} (hn : n ∈ d.weights P e) : n ∈ DataW.weightsAll P e ds := by
  induction ds with
  | nil => cases hd
  | cons x r ih =>
    simp only [DataW.weightsAll, List.mem_append]
    rcases List.mem_cons.1 hd with rfl | h
    · exact .inl hn
    · exact .inr (ih h)
theorem Fits.elem {t e : TypeId} {elems spare : List (DataW H)} (ht : P.underlying t = some (.slice e)) (h : Fits P t (.slice elems spare)) {d : DataW H} (hd : d ∈ elems) : Fits P e d := by
  unfold Fits at h ⊢
  rw [List.all_eq_true] at h ⊢
  intro n hn
  refine h n ?_
  simp only [DataW.weights, ht, List.mem_cons, List.mem_append]
  exact .inr (.inl (weights_mem_all hd hn))

/-- Whatever reads as a type's datum is a Q. -/
def Opens {α : Type} (enc : TypeId × Value → H) (P : Program) (t : TypeId) (Q : World → List Value → α → Prop) : Prop :=
  ∀ {W : World} {fuel : Nat} {cs : List Value} {y : DataW H × List MemPlace}, DataW.trod enc P W 0 (fun _ => true) true fuel t cs = some y → (∀ x ∈ y.2, x.block < W.heap.size) → Fits P t y.1 → ∃ x : α, Q W cs x
theorem list_of {α : Type} {R : Nat → α → Prop} : ∀ n : Nat, (∀ i, i < n → ∃ x, R i x) → ∃ xs : List α, xs.length = n ∧ ∀ i (h : i < xs.length), R i xs[i]
  | 0, _ => ⟨[], rfl, fun i h => absurd h (by simp)⟩
  | n + 1, h => by
    obtain ⟨xs, hl, hx⟩ := list_of n (fun i hi => h i (by omega))
    obtain ⟨x, hr⟩ := h n (by omega)
    refine ⟨xs ++ [x], by simp [hl], fun i hi => ?_⟩
    by_cases hi' : i < xs.length
    · rw [List.getElem_append_left hi']; exact hx i hi'
    · have : i = n := by simp [hl] at hi; omega
      subst this
      rw [List.getElem_append_right (by omega)]
      simpa using hr
theorem opens_row {α : Type} {Q : World → List Value → α → Prop} {t e : TypeId} {k : Nat} (ht : P.underlying t = some (.slice e)) (hk : P.cellsOf e = k) (h0 : 0 < k) (hby : 0 < P.bytesOf e) (hQ : Opens enc P e Q) : Opens enc P t (fun W cs xs => ∃ v, cs = [v] ∧ RowV Q k W v xs) := by
  intro W fuel cs y h hlt hfit
  subst hk
  rcases open_slice ht h with ⟨rfl, rfl⟩ | ⟨a, len, cap, m, n, D, Pl, rfl, hb, hl, hm, hmm, rfl, hi⟩
  · exact ⟨[], _, rfl, none, 0, 0, rfl, rfl, fun _ => rfl, by omega, fun h => absurd h (by omega)⟩
  · simp only [if_true] at hmm
    have hw := sized_slice hfit.each (j := 0) rfl rfl ht
    simp only [List.length_map, List.length_range, reachBytes] at hw
    have hlen : len ≤ 140737488351232 := by
      have h1 : len * 1 ≤ (len + (m - len)) * P.bytesOf e := Nat.mul_le_mul (by omega) hby
      omega
    obtain ⟨xs, hxl, hxs⟩ := list_of (R := fun (i : Nat) (x : α) => ∃ cs : List Value, cs.length = P.cellsOf e ∧ (∀ j (hj : j < cs.length), W.cell? ((a.add (i * P.cellsOf e)).add j) = some cs[j]) ∧ Q W cs x) len (fun i hi' => by
      obtain ⟨cs', hc, htr⟩ := hi i (by omega)
      obtain ⟨_, hcl, hcat⟩ := World.cells?_some hc
      have hmem : D i ∈ (List.range len).map D := List.mem_map.2 ⟨i, List.mem_range.2 hi', rfl⟩
      obtain ⟨x, hx⟩ := hQ htr (fun p hp => hlt p (List.mem_append_right _ (List.mem_flatMap.2 ⟨i, List.mem_range.2 (by omega), hp⟩))) (hfit.elem ht hmem)
      exact ⟨x, cs', hcl, fun j hj => by rw [hcat j (by omega), List.getElem?_eq_getElem hj], hx⟩)
    refine ⟨xs, _, rfl, some a, len, cap, rfl, hxl, (fun h => by cases h), hlen, fun hpos => ?_⟩
    obtain ⟨b, off, spot⟩ := a
    have hs : spot = none := by
      obtain ⟨cs0, hcl0, hc0, _⟩ := hxs 0 (by omega)
      have := World.cell?_spot (hc0 0 (by omega))
      simpa [Addr.add] using this
    subst hs
    refine ⟨b, off, rfl, hlt (.cell b (off + 0)) (List.mem_append_left _ (MemPlace.mem_row.2 ⟨0, Nat.mul_pos (by omega) h0, rfl⟩)), fun i h => ?_⟩
    obtain ⟨cs, hcl, hc, hq⟩ := hxs i h
    refine ⟨cs, hcl, fun j hj => ?_, hq⟩
    have := hc j hj
    rw [addr_plain, addr_plain] at this
    exact this
theorem opens_nums {t e : TypeId} (ht : P.underlying t = some (.slice e)) (he : P.underlying e = some (.int .i64)) (hc : P.cellsOf e = 1) (h8 : P.bytesOf e = 8) : Opens enc P t (fun W cs Z => ∃ v, cs = [v] ∧ NumsV W v Z) := by
  intro W fuel cs y h hlt hfit
  have hone : ∃ v, cs = [v] := by
    rcases open_slice ht h with ⟨rfl, _⟩ | ⟨a, len, cap, _, _, _, _, rfl, _⟩ <;> exact ⟨_, rfl⟩
  obtain ⟨v, rfl⟩ := hone
  obtain ⟨a, n, c, Z, e1, h1, h2, h3, h4, _⟩ := open_nums_field ht he hc h8 h hlt hfit.each (j := 0) rfl rfl
  exact ⟨Z, v, rfl, a, n, c, e1, h1, h2, h3, h4⟩
theorem opens_int {t : TypeId} (ht : P.underlying t = some (.int .i64)) : Opens enc P t (fun W cs z => cs = [.int .i64 z] ∧ InR z) := by
  intro W fuel cs y h _ _
  obtain ⟨n, h1, _, h3⟩ := DataW.trod_int ht h
  exact ⟨n, h1, wf_i64_range h3⟩
theorem opens_text {t : TypeId} (ht : P.underlying t = some .string) : Opens enc P t (fun W cs s => cs = [.string s] ∧ s.size ≤ 140737488351232) := by
  intro W fuel cs y h _ hfit
  obtain ⟨s, h1, h2, _⟩ := DataW.trod_string ht h
  have := sized_string hfit.each (j := 0) (bytes := s.data.toList) rfl (by rw [h2]; rfl)
  rw [list_len] at this
  exact ⟨s, h1, by simpa [reachBytes] using this⟩
theorem opens_bool {t : TypeId} (ht : P.underlying t = some .bool) : Opens enc P t (fun W cs b => cs = [.bool b]) := by
  intro W fuel cs y h _ _
  obtain ⟨b, h1, _⟩ := DataW.trod_bool ht h
  exact ⟨b, h1⟩
/-- A part of a struct. -/
theorem opens_part {α : Type} {Q : World → List Value → α → Prop} {t : TypeId} {fs : Array Field} {W : World} {fuel : Nat} {cs : List Value} {y : DataW H × List MemPlace} (hs : P.underlying t = some (.struct fs)) (h : DataW.trod enc P W 0 (fun _ => true) true fuel t cs = some y) (hlt : ∀ x ∈ y.2, x.block < W.heap.size) (hfit : Fits P t y.1)
    (j : Nat) {f : Field} (hf : fs[j]? = some f) {o k : Nat} (ho : f.offset = o) (hk : P.cellsOf f.type = k) {u : TypeId} (hu : f.type = u) (hQ : Opens enc P u Q) : ∃ x, Q W ((cs.drop o).take k) x := by
  subst ho hk hu
  obtain ⟨xs, n, _, rfl, hcl, hxl, hg⟩ := DataW.trod_struct hs h
  have hj : j < xs.length := by rw [hxl]; exact (Array.getElem?_eq_some_iff.1 hf).1
  have hx : xs[j]? = some xs[j] := List.getElem?_eq_getElem hj
  have h1 := (hg j f hf).trans hx
  exact hQ h1 (fun p hp => hlt p (List.mem_flatMap.2 ⟨xs[j], List.getElem_mem _, hp⟩)) (hfit.part hs hf (by rw [List.getElem?_map, hx]; rfl))
theorem struct_len {t : TypeId} {fs : Array Field} {W : World} {fuel : Nat} {cs : List Value} {y : DataW H × List MemPlace} (hs : P.underlying t = some (.struct fs)) (h : DataW.trod enc P W 0 (fun _ => true) true fuel t cs = some y) : cs.length = P.cellsOf t := by
  obtain ⟨xs, n, _, _, hcl, _⟩ := DataW.trod_struct hs h
  exact hcl
end
end Go.Proofs.Ytgnfinojnmkkkaa

/- What is kept when all but some blocks may have turned ('Off'); blocks that are known by their cells; a store of what lies there already. Nothing of the program is named here. -/
namespace Go.Proofs.Ytgnfinojnmkkkaa
open Go.RowKit (wrap64 intOf Below)
set_option linter.unusedVariables false

structure Off (X : Nat → Prop) (w w' : World) : Prop where
  os : w'.os = w.os
  tape : w'.tape = w.tape
  output : w'.output = w.output
  size : w.heap.size ≤ w'.heap.size
  block : ∀ k, k < w.heap.size → ¬ X k → w'.heap[k]? = w.heap[k]?
section
variable {X Y : Nat → Prop} {a b c w w' : World}
theorem Off.refl (X : Nat → Prop) (w : World) : Off X w w := ⟨rfl, rfl, rfl, Nat.le_refl _, fun _ _ _ => rfl⟩
theorem Off.trans (h : Off X a b) (k : Off X b c) : Off X a c :=
  ⟨k.os.trans h.os, k.tape.trans h.tape, k.output.trans h.output, Nat.le_trans h.size k.size, fun i hi hx => (k.block i (Nat.lt_of_lt_of_le hi h.size) hx).trans (h.block i hi hx)⟩
/-- The second step may turn what has been made since, too. -/
theorem Off.trans_new (h : Off X a b) (k : Off Y b c) (hY : ∀ i, Y i → X i ∨ a.heap.size ≤ i) : Off X a c :=
  ⟨k.os.trans h.os, k.tape.trans h.tape, k.output.trans h.output, Nat.le_trans h.size k.size, fun i hi hx => (k.block i (Nat.lt_of_lt_of_le hi h.size) (fun hy => by rcases hY i hy with h' | h' <;> first | exact hx h' | omega)).trans (h.block i hi hx)⟩
theorem Off.mono (h : Off X a b) (hY : ∀ i, i < a.heap.size → X i → Y i) : Off Y a b :=
  ⟨h.os, h.tape, h.output, h.size, fun i hi hy => h.block i hi (fun hx => hy (hY i hi hx))⟩
theorem Off.of_below {B : Nat} (h : Below B a b) (hB : ∀ i, B ≤ i → i < a.heap.size → X i) : Off X a b :=
  ⟨h.os, h.tape, h.output, h.size, fun i hi hx => h.block i (Nat.lt_of_not_le fun h' => hx (hB i h' hi))⟩
theorem Off.since (h : Below a.heap.size a b) : Off X a b := Off.of_below h (fun i h1 h2 => absurd h2 (by omega))
theorem Off.below {B : Nat} (h : Off X a b) (hB : B ≤ a.heap.size) (hX : ∀ i, X i → B ≤ i) : Below B a b :=
  ⟨h.os, h.tape, h.output, h.size, fun i hi => h.block i (by omega) (fun hx => by have := hX i hx; omega)⟩
theorem Off.drew (h : Off X a b) : Off X a b.drew := ⟨h.os, h.tape, h.output, h.size, h.block⟩
theorem Off.drewN (h : Off X a b) (n : Nat) : Off X a (b.drewN n) := ⟨h.os, h.tape, h.output, h.size, h.block⟩
theorem Off.alloc (h : Off X a b) (o : Obj) : Off X a (b.alloc o) := h.trans (Off.since ((Below.refl _ _).alloc (Nat.le_refl _) o))
theorem Off.setCell (h : Off X a b) {p : Addr} (hp : X p.block ∨ a.heap.size ≤ p.block) (u : Value) : Off X a (b.setCell p u) :=
  ⟨h.os, h.tape, h.output, by simp only [World.setCell, Array.size_modify]; exact h.size, fun k hk hx => (Below.heap_setCell _ _ _ _ (fun e => by subst e; rcases hp with h' | h' <;> first | exact hx h' | omega)).trans (h.block k hk hx)⟩
theorem Off.grown {row : Option Nat} (h : Off X a b) (hg : b.grownBy c row) (hr : ∀ k, row = some k → X k ∨ a.heap.size ≤ k) : Off X a c :=
  h.trans_new (Y := fun k => row = some k) ⟨hg.os, hg.tape, hg.output, hg.size, fun k hk hx => hg.block k hk (fun e => hx e.symm)⟩ (fun i hi => hr i hi)
theorem Off.cell (h : Off X a b) {p : Addr} (hp : p.block < a.heap.size) (hx : ¬ X p.block) : b.cell? p = a.cell? p := World.cell?_of_block (h.block _ hp hx)
theorem Off.frozen (h : Off X a b) {p : Addr} (hp : p.block < a.heap.size) (hx : ¬ X p.block) : b.frozen? p = a.frozen? p := World.frozen?_of_block (h.block _ hp hx)
end

/-- A store of what lies there already turns nothing. -/
theorem setCell_same {w : World} {p : Addr} {v : Value} (h : w.cell? p = some v) : w.setCell p v = w := by
  have hh : (w.setCell p v).heap = w.heap := by
    apply Array.ext
    · simp [World.setCell]
    · intro i h1 h2
      simp only [World.setCell, Array.getElem_modify]
      split
      · rename_i he
        subst he
        unfold World.cell? at h
        rw [Array.getElem?_eq_getElem h2] at h
        revert h
        split
        · rename_i c e f hc
          intro h
          simp only [Option.some.injEq] at hc
          rw [hc]
          split at h
          · cases h
          · rename_i hs
            simp only [hs, if_false, Bool.false_eq_true]
            congr 1
            obtain ⟨hlt, rfl⟩ := Array.getElem?_eq_some_iff.1 h
            rw [Array.setIfInBounds_def, dif_pos hlt, Array.set_getElem_self]
        · intro h; cases h
      · rfl
  cases w
  simp only [World.setCell] at hh ⊢
  rw [hh]

/-- Block g's cells from off on are cs, and may be written. -/
def WinAt (w : World) (g off : Nat) (cs : List Value) : Prop :=
  ∃ cur T, w.heap[g]? = some (.cells cur T (0, 0)) ∧ ∀ j (h : j < cs.length), cur[off + j]? = some cs[j]
section
variable {w w' : World} {g off : Nat} {cs : List Value}
theorem WinAt.cell (h : WinAt w g off cs) {j : Nat} (hj : j < cs.length) : w.cell? ⟨g, off + j, none⟩ = some cs[j] := by
  obtain ⟨cur, T, hg, hc⟩ := h
  simp only [World.cell?, hg, Option.isSome_none, Bool.false_eq_true, if_false]
  exact hc j hj
theorem WinAt.free (h : WinAt w g off cs) (o : Nat) : w.frozen? ⟨g, o, none⟩ = false := by
  obtain ⟨cur, T, hg, hc⟩ := h
  simp [World.frozen?, hg]
theorem WinAt.lt (h : WinAt w g off cs) : g < w.heap.size := by
  obtain ⟨cur, T, hg, hc⟩ := h
  exact (Array.getElem?_eq_some_iff.1 hg).1
theorem WinAt.kept (h : WinAt w g off cs) (hb : w'.heap[g]? = w.heap[g]?) : WinAt w' g off cs := by
  obtain ⟨cur, T, hg, hc⟩ := h
  exact ⟨cur, T, hb.trans hg, hc⟩
theorem WinAt.stays {X : Nat → Prop} (h : WinAt w g off cs) (ho : Off X w w') (hx : ¬ X g) : WinAt w' g off cs := h.kept (ho.block g h.lt hx)
/-- A part of it. -/
theorem WinAt.part (h : WinAt w g off cs) (k n : Nat) (hk : k + n ≤ cs.length) : WinAt w g (off + k) ((cs.drop k).take n) := by
  obtain ⟨cur, T, hg, hc⟩ := h
  refine ⟨cur, T, hg, fun j hj => ?_⟩
  simp only [List.length_take, List.length_drop] at hj
  rw [Nat.add_assoc, hc (k + j) (by omega)]
  simp
end
theorem flatten_at {α : Type} {k : Nat} : ∀ (css : List (List α)), (∀ cs ∈ css, cs.length = k) → ∀ i (hi : i < css.length) j (hj : j < css[i].length), css.flatten[i * k + j]? = some css[i][j]
  | [], _, i, hi, _, _ => by simp at hi
  | cs :: css, hk, 0, hi, j, hj => by
    simp only [List.getElem_cons_zero] at hj
    simp only [List.flatten_cons, Nat.zero_mul, Nat.zero_add, List.getElem_cons_zero]
    rw [List.getElem?_append_left hj, List.getElem?_eq_getElem hj]
  | cs :: css, hk, i + 1, hi, j, hj => by
    have h0 : cs.length = k := hk cs (by simp)
    simp only [List.getElem_cons_succ] at hj
    have ih := flatten_at css (fun c hc => hk c (by simp [hc])) i (by simpa using hi) j hj
    simp only [List.flatten_cons, List.getElem_cons_succ]
    rw [List.getElem?_append_right (by rw [h0, Nat.succ_mul]; omega), h0, show (i + 1) * k + j - k = i * k + j by rw [Nat.succ_mul]; omega]
    exact ih
theorem flatten_len {α : Type} {k : Nat} : ∀ (css : List (List α)), (∀ cs ∈ css, cs.length = k) → css.flatten.length = css.length * k
  | [], _ => by simp
  | cs :: css, hk => by
    have ih := flatten_len css (fun c hc => hk c (by simp [hc]))
    simp only [List.flatten_cons, List.length_append, List.length_cons, ih, hk cs (by simp), Nat.succ_mul]
    omega
/-- A row of the call's own, element by element: block, and where. -/
theorem ownsRow_win {w : World} {base : Nat} {e : TypeId} {k : Nat} {v : Value} {n : Nat} {css : List (List Value)} (h : w.ownsRow base e k v n css.flatten) (hk : ∀ cs ∈ css, cs.length = k) {g : Nat} (hg : v.ownBlock = some g) {i : Nat} (hi : i < css.length) : WinAt w g (i * k) css[i] := by
  rcases h.2 with ⟨rfl, _⟩ | ⟨g', cap, cur, rfl, _, hgg, _, _, _, htake⟩
  · simp [Value.ownBlock] at hg
  · simp [Value.ownBlock] at hg
    subst hg
    refine ⟨cur, e, hgg, fun j hj => ?_⟩
    have hlen : css[i].length = k := hk _ (List.getElem_mem hi)
    have hfl := flatten_at css hk i hi j hj
    rw [← htake, List.getElem?_take] at hfl
    split at hfl
    · simpa using hfl
    · cases hfl
end Go.Proofs.Ytgnfinojnmkkkaa

/- Layer 10: what a memory means, and how package heap's memory lies: each block has a role, so that no two parts share one. -/
namespace Go.Proofs.Ytgnfinojnmkkkaa
open Go.RowKit (wrap64 intOf Below)
set_option linter.unusedVariables false
set_option linter.unusedSimpArgs false

/-- A value: its number, its text, its object. -/
abbrev VV := Int × ByteArray × Int
def vvV (x : VV) : Value := .agg #[.int .i64 x.1, .string x.2.1, .int .i64 x.2.2]
def zeroVV : VV := (0, ⟨#[]⟩, 0)
/-- What an object means: its frame's number, whether it is a table (and on the stack), a row's size and values, a table's keys and what is under each. -/
structure PO where
  fr : Int
  tab : Bool
  stack : Bool
  size : Int
  get : Int → VV
  keys : List Int
  under : Int → Int
/-- What a memory means. -/
structure PM where
  limit : Int
  used : Int
  makes : Int
  entered : Int
  objs : List PO
  frs : List Int
def PM.gone (M : PM) (o : PO) : Bool := decide (o.fr ≠ 0 ∧ o.fr ∉ M.frs)
/-- Where an object lies: its block, its body's, its keys, its map and what that reads as. -/
structure GO where
  ptr : Nat
  q : Nat
  ka : Option Addr
  kn : Nat
  kc : Nat
  mp : Nat
  D : DataW Unit
  giv : Bool := false
/-- Where a memory lies. -/
structure GM where
  p : Nat
  oa : Option Addr
  on : Nat
  oc : Nat
  fa : Option Addr
  fn : Nat
  fc : Nat
  gos : List GO
  fss : List (Option Addr × Nat × Nat)
  fms : List (List Nat)
  ρ : Nat → Option (Nat × Nat)
def ptrV (k : Nat) : Value := .pointer (some ⟨k, 0, none⟩)
def OwnsPt (W : World) (B : Nat) (v : Value) (L : List Nat) : Prop := W.ownsRow B 59 1 v L.length (L.map ptrV)
theorem OwnsPt.read {W : World} {B : Nat} {a : Option Addr} {n c : Nat} {L : List Nat} (h : OwnsPt W B (.slice a n c) L) : n = L.length ∧ (0 < n → ∃ g, a = some ⟨g, 0, none⟩ ∧ B ≤ g ∧ g < W.heap.size ∧ ∀ k (hk : k < L.length), W.cell? ⟨g, k, none⟩ = some (ptrV L[k])) := by
  have hown : W.ownsRow B 59 1 (.slice a n c) L.length (L.map ptrV) := h
  rcases h.2 with ⟨e, h0⟩ | ⟨g, cap, cur, e, hB, hh, _⟩
  · cases e
    exact ⟨h0.symm, fun hp => by omega⟩
  · cases e
    refine ⟨rfl, fun _ => ⟨g, rfl, hB, (Array.getElem?_eq_some_iff.1 hh).1, fun k hk => ?_⟩⟩
    have := World.ownsRow.cells hown rfl k (ptrV L[k]) (by rw [List.getElem?_map, List.getElem?_eq_getElem hk]; rfl)
    rwa [addr_plain, Nat.zero_add] at this
def flatFr (l : List (Int × Option Addr × Nat × Nat)) : List Value := l.flatMap fun x => [.int .i64 x.1, .slice x.2.1 x.2.2.1 x.2.2.2]
def OwnsFr (W : World) (B : Nat) (v : Value) (L : List (Int × Option Addr × Nat × Nat)) : Prop := W.ownsRow B 58 2 v L.length (flatFr L)
/-- How a value in a map reads. -/
def valElem (v : Value) : Option (DataW Unit × List MemPlace) :=
  match v with
  | .agg cs => (match cs.toList with
    | [.int .i64 a, .string s, .int .i64 r] => some (.agg [.lit (.int .i64 a), .lit (.string s.data.toList), .lit (.int .i64 r)], [])
    | _ => none)
  | _ => none
def vvD (x : VV) : DataW Unit := .agg [.lit (.int .i64 x.1), .lit (.string x.2.1.data.toList), .lit (.int .i64 x.2.2)]
theorem valElem_vv (x : VV) : valElem (vvV x) = some (vvD x, []) := rfl
theorem valElem_inv {v : Value} {x : VV} {ps : List MemPlace} (h : valElem v = some (vvD x, ps)) : v = vvV x := by
  unfold valElem at h
  cases v with
  | agg cs =>
    simp only at h
    split at h
    · rename_i a s r e
      simp only [Option.some.injEq, Prod.mk.injEq, vvD, DataW.agg.injEq, List.cons.injEq, DataW.lit.injEq, Lit.int.injEq, Lit.string.injEq, true_and, and_true] at h
      obtain ⟨⟨h1, h2, h3⟩, _⟩ := h
      have e2 : cs = #[.int .i64 a, .string s, .int .i64 r] := by rw [← Array.toArray_toList (xs := cs), e]
      have hs : s = x.2.1 := by
        cases s with | mk d1 => cases hx : x.2.1 with | mk d2 => rw [hx] at h2; congr 1; exact Array.toList_inj.1 h2
      subst h1 h3 hs
      rw [e2]
      rfl
    · cases h
  | _ => simp at h
/-! ## The parts, each with the roles of its blocks -/
abbrev Rho := Nat → Option (Nat × Nat)
def Kp (ρ : Rho) (R : Nat × Nat → Prop) (W W' : World) : Prop := ∀ k r, ρ k = some r → R r → W'.heap[k]? = W.heap[k]?
def Ex (ρ ρ' : Rho) : Prop := ∀ k r, ρ k = some r → ρ' k = some r
theorem Ex.refl (ρ : Rho) : Ex ρ ρ := fun _ _ h => h
def dom (ρ : Rho) (b : Nat) : Prop := ∃ r, ρ b = some r
/-- Only blocks with a role, and new ones, have turned; and only these have a role then. -/
structure Sep (W w' : World) (ρ ρ' : Rho) : Prop where
  off : Off (dom ρ) W w'
  new : ∀ b r, ρ' b = some r → dom ρ b ∨ W.heap.size ≤ b
theorem Sep.trans {W u w' : World} {ρ ρ1 ρ2 : Rho} (h : Sep W u ρ ρ1) (k : Sep u w' ρ1 ρ2) : Sep W w' ρ ρ2 :=
  ⟨h.off.trans_new k.off (fun b ⟨r, hr⟩ => h.new b r hr), fun b r hr => (k.new b r hr).elim (fun ⟨r', hr'⟩ => h.new b r' hr') (fun h' => .inr (Nat.le_trans h.off.size h'))⟩
theorem Sep.since {W w' : World} {ρ : Rho} (hb : Below W.heap.size W w') : Sep W w' ρ ρ := ⟨Off.since hb, fun b r hr => .inl ⟨r, hr⟩⟩
/-- What has no role is neither turned nor given one. -/
theorem Sep.free {W w' : World} {ρ ρ' : Rho} (h : Sep W w' ρ ρ') {b : Nat} (hb : b < W.heap.size) (hn : ¬ dom ρ b) : w'.heap[b]? = W.heap[b]? ∧ ¬ dom ρ' b :=
  ⟨h.off.block b hb hn, fun ⟨r, hr⟩ => (h.new b r hr).elim hn (fun h' => by omega)⟩
/-- A slice's block has a role. -/
def RoleS (ρ : Rho) (v : Value) (r : Nat × Nat) : Prop := ∀ k, v.ownBlock = some k → ρ k = some r
theorem RoleS.ex {ρ ρ' : Rho} {v : Value} {r : Nat × Nat} (h : RoleS ρ v r) (he : Ex ρ ρ') : RoleS ρ' v r := fun k hk => he k r (h k hk)
theorem row_kept {W W' : World} {B n z : Nat} {e : TypeId} {v : Value} {xs : List Value} {ρ : Rho} {R : Nat × Nat → Prop} {r : Nat × Nat} (h : W.ownsRow B e z v n xs) (hr : RoleS ρ v r) (hk : Kp ρ R W W') (hR : R r) : W'.ownsRow B e z v n xs := by
  refine ⟨h.1, ?_⟩
  rcases h.2 with hn | ⟨g, cap, cur, rfl, hB, hg, rest⟩
  · exact .inl hn
  · exact .inr ⟨g, cap, cur, rfl, hB, (hk g r (hr g rfl) hR).trans hg, rest⟩
theorem map_kept {W W' : World} {P : Program} {kt : TypeId} {RR : Value → Option (DataW Unit × List MemPlace)} {b n n' : Nat} {D : DataW Unit} (h : W.ownsMap P kt RR b n D) (hb : W'.heap[b]? = W.heap[b]?) (hn : n ≤ n') : W'.ownsMap P kt RR b n' D := by
  obtain ⟨es, clock, he, F, hs, hD⟩ := h
  exact ⟨es, clock, hb.trans he, F, Nat.le_trans hs hn, hD⟩
structure ShellAt (W : World) (ρ : Rho) (i : Nat) (o : PO) (g : GO) : Prop where
  rp : ρ g.ptr = some (2, i)
  rq : ρ g.q = some (3, i)
  blk : W.heap[g.ptr]? = some (.cells #[.int .i64 o.fr, (if o.tab then .pointer none else ptrV g.q), (if o.tab then ptrV g.q else .pointer none)] 72 (0, 0))
structure TabAt (W : World) (B cap : Nat) (ρ : Rho) (i : Nat) (o : PO) (g : GO) : Prop where
  blk : W.heap[g.q]? = some (.cells #[.bool o.stack, .slice g.ka g.kn g.kc, .map (some g.mp)] 76 (0, 0))
  keys : OwnsI W B 2 (.slice g.ka g.kn g.kc) o.keys
  rk : RoleS ρ (.slice g.ka g.kn g.kc) (4, i)
  rm : ρ g.mp = some (5, i)
  map : W.ownsMap Try.prog 2 (plainElem Try.prog 2) g.mp cap g.D
  has : ∀ k : Int, Maps.has g.D (.int .i64 k) = decide (k ∈ o.keys)
  look : ∀ k : Int, g.D.atKey (.int .i64 k) (.lit (.int .i64 0)) = .lit (.int .i64 (o.under k))
  klen : o.keys.length ≤ cap
/-- The given values of object i. -/
def GivAt (W : World) (ρ : Rho) (i : Nat) (o : PO) (g : GO) : Prop := (g.kn : Int) = o.size ∧ (0 < g.kn → ∃ gb cs, g.ka = some ⟨gb, 0, none⟩ ∧ ρ gb = some (4, i) ∧ W.heap[gb]? = some (.cells cs 24 (0, 0)) ∧
  ∀ k : Nat, k < g.kn → cs[k * 3]? = some (.int .i64 (o.get k).1) ∧ cs[k * 3 + 1]? = some (.string (o.get k).2.1) ∧ cs[k * 3 + 2]? = some (.int .i64 (o.get k).2.2))
/-- What was set of slice i. -/
def SetAt (W : World) (cap : Nat) (ρ : Rho) (i : Nat) (o : PO) (g : GO) : Prop := g.ka = none ∧ g.kn = 0 ∧ g.kc = 0 ∧ ρ g.mp = some (5, i) ∧ W.ownsMap Try.prog 2 valElem g.mp cap g.D ∧ ∀ k : Int, g.D.atKey (.int .i64 k) (vvD zeroVV) = vvD (o.get k)
structure RwAt (W : World) (B cap : Nat) (ρ : Rho) (i : Nat) (o : PO) (g : GO) : Prop where
  blk : W.heap[g.q]? = some (.cells #[.int .i64 o.size, .slice g.ka g.kn g.kc, .map (if g.giv then none else some g.mp)] 69 (0, 0))
  body : if g.giv then GivAt W ρ i o g else SetAt W cap ρ i o g
  size : 0 ≤ o.size ∧ o.size ≤ 1048576
def BodyAt (W : World) (B cap : Nat) (ρ : Rho) (i : Nat) (o : PO) (g : GO) : Prop := if o.tab then TabAt W B cap ρ i o g else RwAt W B cap ρ i o g
section
variable {W W' : World} {B cap cap' : Nat} {ρ ρ' : Rho} {R : Nat × Nat → Prop} {i : Nat} {o : PO} {g : GO}
theorem ShellAt.kept (h : ShellAt W ρ i o g) (hk : Kp ρ R W W') (hR : R (2, i)) (he : Ex ρ ρ') : ShellAt W' ρ' i o g :=
  ⟨he _ _ h.rp, he _ _ h.rq, (hk _ _ h.rp hR).trans h.blk⟩
theorem TabAt.kept (h : TabAt W B cap ρ i o g) (hs : ShellAt W ρ i o g) (hk : Kp ρ R W W') (hR : ∀ t, 3 ≤ t → t ≤ 5 → R (t, i)) (he : Ex ρ ρ') (hc : cap ≤ cap') : TabAt W' B cap' ρ' i o g :=
  ⟨(hk _ _ hs.rq (hR 3 (by omega) (by omega))).trans h.blk, row_kept h.keys h.rk hk (hR 4 (by omega) (by omega)), h.rk.ex he, he _ _ h.rm, map_kept h.map (hk _ _ h.rm (hR 5 (by omega) (by omega))) hc, h.has, h.look, Nat.le_trans h.klen hc⟩
theorem RwAt.kept (h : RwAt W B cap ρ i o g) (hs : ShellAt W ρ i o g) (hk : Kp ρ R W W') (hR : ∀ t, 3 ≤ t → t ≤ 5 → R (t, i)) (he : Ex ρ ρ') (hc : cap ≤ cap') : RwAt W' B cap' ρ' i o g := by
  refine ⟨(hk _ _ hs.rq (hR 3 (by omega) (by omega))).trans h.blk, ?_, h.size⟩
  have hb := h.body
  cases hg : g.giv with
  | true =>
    rw [hg] at hb
    obtain ⟨h1, h2⟩ := hb
    refine ⟨h1, fun hp => ?_⟩
    obtain ⟨gb, cs, e, hr, hh, hc⟩ := h2 hp
    exact ⟨gb, cs, e, he _ _ hr, (hk _ _ hr (hR 4 (by omega) (by omega))).trans hh, hc⟩
  | false =>
    rw [hg] at hb
    obtain ⟨h1, h2, h3, h4, h5, h6⟩ := hb
    exact ⟨h1, h2, h3, he _ _ h4, map_kept h5 (hk _ _ h4 (hR 5 (by omega) (by omega))) hc, h6⟩
theorem BodyAt.kept (h : BodyAt W B cap ρ i o g) (hs : ShellAt W ρ i o g) (hk : Kp ρ R W W') (hR : ∀ t, 3 ≤ t → t ≤ 5 → R (t, i)) (he : Ex ρ ρ') (hc : cap ≤ cap') : BodyAt W' B cap' ρ' i o g := by
  unfold BodyAt at h ⊢
  cases ht : o.tab with
  | true => rw [ht] at h; exact TabAt.kept h hs hk hR he hc
  | false => rw [ht] at h; exact RwAt.kept h hs hk hR he hc
end
/-- All objects. -/
structure ObjsAt (W : World) (B cap : Nat) (M : PM) (G : GM) : Prop where
  len : G.gos.length = M.objs.length
  shell : ∀ i (h1 : i < M.objs.length) (h2 : i < G.gos.length), ShellAt W G.ρ i M.objs[i] G.gos[i]
  body : ∀ i (h1 : i < M.objs.length) (h2 : i < G.gos.length), M.gone M.objs[i] = false → BodyAt W B cap G.ρ i M.objs[i] G.gos[i]
/-- The numbers of a memory. -/
structure NumAt (cap : Nat) (M : PM) : Prop where
  limit : 0 ≤ M.limit ∧ M.limit ≤ 16777216
  used : 0 ≤ M.used ∧ M.used ≤ M.limit
  makes : 0 ≤ M.makes ∧ M.makes ≤ cap
  entered : 0 ≤ M.entered ∧ M.entered ≤ cap
  objs : M.objs.length ≤ cap
  frs : M.frs.length ≤ cap
  inc : M.frs.Pairwise (· < ·)
  pos : ∀ f ∈ M.frs, 0 < f ∧ f ≤ M.entered
  fr : ∀ o ∈ M.objs, 0 ≤ o.fr ∧ o.fr ≤ M.entered
structure MemAt (W : World) (B cap : Nat) (M : PM) (G : GM) : Prop where
  range : ∀ k r, G.ρ k = some r → B ≤ k ∧ k < W.heap.size
  rm : G.ρ G.p = some (0, 0)
  blk : W.heap[G.p]? = some (.cells #[.int .i64 M.limit, .int .i64 M.used, .int .i64 M.makes, .slice G.oa G.on G.oc, .slice G.fa G.fn G.fc, .int .i64 M.entered] 46 (0, 0))
  ov : OwnsPt W B (.slice G.oa G.on G.oc) (G.gos.map (·.ptr))
  ro : RoleS G.ρ (.slice G.oa G.on G.oc) (1, 0)
  objs : ObjsAt W B cap M G
  fv : OwnsFr W B (.slice G.fa G.fn G.fc) (M.frs.zip G.fss)
  rf : RoleS G.ρ (.slice G.fa G.fn G.fc) (6, 0)
  flen : G.fss.length = M.frs.length
  mlen : G.fms.length = M.frs.length
  fo : ∀ j (h1 : j < G.fss.length) (h2 : j < G.fms.length), OwnsPt W B (.slice G.fss[j].1 G.fss[j].2.1 G.fss[j].2.2) G.fms[j] ∧ RoleS G.ρ (.slice G.fss[j].1 G.fss[j].2.1 G.fss[j].2.2) (7, j)
  num : NumAt cap M
section
variable {W W' : World} {B cap cap' : Nat} {M : PM} {G : GM}
theorem MemAt.plt (h : MemAt W B cap M G) : B ≤ G.p ∧ G.p < W.heap.size := h.range _ _ h.rm
theorem kp_of_below {ρ : Rho} (hr : ∀ k r, ρ k = some r → B ≤ k ∧ k < W.heap.size) (hb : Below W.heap.size W W') (R : Nat × Nat → Prop) : Kp ρ R W W' := fun k r hk _ => hb.block k (hr k r hk).2
theorem kp_of_off {ρ : Rho} {X : Nat → Prop} (hr : ∀ k r, ρ k = some r → B ≤ k ∧ k < W.heap.size) (hb : Off X W W') {R : Nat × Nat → Prop} (hX : ∀ k r, X k → ρ k = some r → ¬ R r) : Kp ρ R W W' := fun k r hk hR => hb.block k (hr k r hk).2 (fun hx => hX k r hx hk hR)
theorem NumAt.mono (h : NumAt cap M) (hc : cap ≤ cap') : NumAt cap' M :=
  ⟨h.limit, h.used, ⟨h.makes.1, by have := h.makes.2; omega⟩, ⟨h.entered.1, by have := h.entered.2; omega⟩, Nat.le_trans h.objs hc, Nat.le_trans h.frs hc, h.inc, h.pos, h.fr⟩
theorem ObjsAt.kept {R : Nat × Nat → Prop} (h : ObjsAt W B cap M G) (hk : Kp G.ρ R W W') (hR : ∀ t i, 2 ≤ t → t ≤ 5 → R (t, i)) (hc : cap ≤ cap') {ρ' : Rho} (he : Ex G.ρ ρ') : ObjsAt W' B cap' M {G with ρ := ρ'} :=
  ⟨h.len, fun i h1 h2 => (h.shell i h1 h2).kept hk (hR 2 i (by omega) (by omega)) he, fun i h1 h2 hg => (h.body i h1 h2 hg).kept (h.shell i h1 h2) hk (fun t h3 h5 => hR t i (by omega) h5) he hc⟩
/-- Nothing of it has turned. -/
theorem MemAt.since (h : MemAt W B cap M G) (hb : Below W.heap.size W W') : MemAt W' B cap M G := by
  have hk := kp_of_below h.range hb (fun _ => True)
  exact ⟨fun k r hkr => ⟨(h.range k r hkr).1, Nat.lt_of_lt_of_le (h.range k r hkr).2 hb.size⟩, h.rm, (hk _ _ h.rm trivial).trans h.blk, row_kept h.ov h.ro hk trivial, h.ro, h.objs.kept hk (fun _ _ _ _ => trivial) (Nat.le_refl _) (Ex.refl _), row_kept h.fv h.rf hk trivial, h.rf, h.flen, h.mlen, fun j h1 h2 => ⟨row_kept (h.fo j h1 h2).1 (h.fo j h1 h2).2 hk trivial, (h.fo j h1 h2).2⟩, h.num⟩
theorem MemAt.mono (h : MemAt W B cap M G) (hc : cap ≤ cap') : MemAt W B cap' M G := by
  have hk : Kp G.ρ (fun _ => True) W W := fun _ _ _ _ => rfl
  exact ⟨h.range, h.rm, h.blk, h.ov, h.ro, h.objs.kept hk (fun _ _ _ _ => trivial) hc (Ex.refl _), h.fv, h.rf, h.flen, h.mlen, h.fo, h.num.mono hc⟩
/-- What has no role has turned. -/
theorem MemAt.beside (h : MemAt W B cap M G) {X : Nat → Prop} (hb : Off X W W') (hX : ∀ b, X b → ¬ dom G.ρ b) : MemAt W' B cap M G := by
  have hk : Kp G.ρ (fun _ => True) W W' := fun k r hkr _ => hb.block k (h.range k r hkr).2 (fun hx => hX k hx ⟨r, hkr⟩)
  exact ⟨fun k r hkr => ⟨(h.range k r hkr).1, Nat.lt_of_lt_of_le (h.range k r hkr).2 hb.size⟩, h.rm, (hk _ _ h.rm trivial).trans h.blk, row_kept h.ov h.ro hk trivial, h.ro, h.objs.kept hk (fun _ _ _ _ => trivial) (Nat.le_refl _) (Ex.refl _), row_kept h.fv h.rf hk trivial, h.rf, h.flen, h.mlen, fun j h1 h2 => ⟨row_kept (h.fo j h1 h2).1 (h.fo j h1 h2).2 hk trivial, (h.fo j h1 h2).2⟩, h.num⟩
/-- A cell of the memory's own block. -/
theorem MemAt.cell (h : MemAt W B cap M G) (j : Nat) : W.cell? ⟨G.p, j, none⟩ = (#[.int .i64 M.limit, .int .i64 M.used, .int .i64 M.makes, .slice G.oa G.on G.oc, .slice G.fa G.fn G.fc, .int .i64 M.entered] : Array Value)[j]? := by simp [World.cell?, h.blk]
theorem MemAt.free (h : MemAt W B cap M G) (j : Nat) : W.frozen? ⟨G.p, j, none⟩ = false := by simp [World.frozen?, h.blk]
end
end Go.Proofs.Ytgnfinojnmkkkaa

/- Layer 10: package heap's New, Used, Makes, take and object. -/
namespace Go.Proofs.Ytgnfinojnmkkkaa
open Go.RowKit (wrap64 intOf Below)
set_option linter.unusedVariables false
set_option linter.unusedSimpArgs false

def newM (l : Int) : PM := { limit := min (max l 0) 16777216, used := 0, makes := 0, entered := 0, objs := [], frs := [] }
section
variable {W W' : World} {B cap cap' : Nat} {M : PM} {G : GM}
/-- The memory's own numbers are told anew. -/
theorem MemAt.head (h : MemAt W B cap M G) {a b c d : Int} (hk : Kp G.ρ (fun r => r ≠ (0, 0)) W W') (hs : W.heap.size ≤ W'.heap.size)
    (hb : W'.heap[G.p]? = some (.cells #[.int .i64 a, .int .i64 b, .int .i64 c, .slice G.oa G.on G.oc, .slice G.fa G.fn G.fc, .int .i64 d] 46 (0, 0))) (hc : cap ≤ cap')
    (hn : NumAt cap' {M with limit := a, used := b, makes := c, entered := d}) : MemAt W' B cap' {M with limit := a, used := b, makes := c, entered := d} G :=
  ⟨fun k r hkr => ⟨(h.range k r hkr).1, Nat.lt_of_lt_of_le (h.range k r hkr).2 hs⟩, h.rm, hb, row_kept h.ov h.ro hk (by simp), h.ro, ⟨h.objs.len, fun i h1 h2 => (h.objs.shell i h1 h2).kept hk (by simp) (Ex.refl _), fun i h1 h2 hg => (h.objs.body i h1 h2 hg).kept (h.objs.shell i h1 h2) hk (fun t h3 _ => by simp; omega) (Ex.refl _) hc⟩, row_kept h.fv h.rf hk (by simp), h.rf, h.flen, h.mlen, fun j h1 h2 => ⟨row_kept (h.fo j h1 h2).1 (h.fo j h1 h2).2 hk (by simp), (h.fo j h1 h2).2⟩, hn⟩
theorem MemAt.kpSet (h : MemAt W B cap M G) (j : Nat) (v : Value) : Kp G.ρ (fun r => r ≠ (0, 0)) W (W.setCell ⟨G.p, j, none⟩ v) := fun k r hkr hne => Below.heap_setCell _ _ _ _ (fun e => by
  have e' : k = G.p := e
  rw [e', h.rm] at hkr
  exact hne (Option.some.inj hkr).symm)
end
set_option maxRecDepth 100000 in
theorem new_any (l : Int) (w : World) : Calls Try.prog 5 #[.int .i64 l] w fun e w' => ∃ G, e = .returned (.pointer (some ⟨G.p, 0, none⟩)) ∧ MemAt w' w.heap.size 0 (newM l) G ∧ Below w.heap.size w w' := by
  have HM : RowKit.Hid (∀ v : Int, v = min (max l 0) 16777216 → ∀ w', w.alloc (.cells #[.int .i64 v, .int .i64 0, .int .i64 0, .slice none 0 0, .slice none 0 0, .int .i64 0] 46) = w' → ∃ G : GM, G.p = w.heap.size ∧ MemAt w' w.heap.size 0 (newM l) G ∧ Below w.heap.size w w') := Lib.hid (by
    rintro _ rfl _ rfl
    refine ⟨⟨w.heap.size, none, 0, 0, none, 0, 0, [], [], [], fun k => if k = w.heap.size then some (0, 0) else none⟩, rfl, ?_, (Below.refl _ w).alloc (Nat.le_refl _) _⟩
    refine ⟨fun k r hkr => ?_, by simp, World.alloc_heap_new _ _, World.ownsRow_nil _ _ _ 1, (fun k hk => by cases hk), ⟨rfl, fun i h1 _ => absurd h1 (by simp [newM]), fun i h1 _ => absurd h1 (by simp [newM])⟩, World.ownsRow_nil _ _ _ 2, (fun k hk => by cases hk), rfl, rfl, fun j h1 => absurd h1 (by simp), ?_⟩
    · by_cases e : k = w.heap.size
      · subst e; simp
      · simp [e] at hkr
    · refine ⟨by simp only [newM]; omega, by simp only [newM]; omega, by simp [newM], by simp [newM], by simp [newM], by simp [newM], by simp [newM], by simp [newM], by simp [newM]⟩)
  go_enter Try.func5, Try.ntmps5
  go_wp2_with fail
  all_goals (go_ret; first
    | (obtain ⟨G, hp, h1, h2⟩ := HM.out 0 (by omega) _ rfl; exact ⟨G, by rw [hp]; rfl, h1, h2⟩)
    | (obtain ⟨G, hp, h1, h2⟩ := HM.out 16777216 (by omega) _ rfl; exact ⟨G, by rw [hp]; rfl, h1, h2⟩)
    | (obtain ⟨G, hp, h1, h2⟩ := HM.out l (by omega) _ rfl; exact ⟨G, by rw [hp]; rfl, h1, h2⟩))
set_option maxRecDepth 100000 in
theorem used_any {W : World} {B cap : Nat} {M : PM} {G : GM} (h : MemAt W B cap M G) : Calls Try.prog 10 #[.pointer (some ⟨G.p, 0, none⟩)] W fun e w' => e = .returned (.int .i64 M.used) ∧ w' = W := by
  have c1 := h.cell 1
  simp only [List.getElem?_toArray, List.getElem?_cons_succ, List.getElem?_cons_zero] at c1
  clear h
  go_enter Try.func10, Try.ntmps10
  go_wp2_with fail
  go_ret
  exact ⟨rfl, rfl⟩
set_option maxRecDepth 100000 in
theorem makes_any {W : World} {B cap : Nat} {M : PM} {G : GM} (h : MemAt W B cap M G) : Calls Try.prog 11 #[.pointer (some ⟨G.p, 0, none⟩)] W fun e w' => e = .returned (.int .i64 M.makes) ∧ w' = W := by
  have c1 := h.cell 2
  simp only [List.getElem?_toArray, List.getElem?_cons_succ, List.getElem?_cons_zero] at c1
  clear h
  go_enter Try.func11, Try.ntmps11
  go_wp2_with fail
  go_ret
  exact ⟨rfl, rfl⟩
def fits (M : PM) (n : Int) : Bool := decide (M.used + n ≤ M.limit)
def takeM (M : PM) (n : Int) : PM := if fits M n then {M with used := M.used + n} else M
set_option maxRecDepth 100000 in
theorem take_any {W : World} {B cap : Nat} {M : PM} {G : GM} (h : MemAt W B cap M G) (n : Int) (hn : 0 ≤ n ∧ n ≤ 18014398509481984) : Calls Try.prog 47 #[.pointer (some ⟨G.p, 0, none⟩), .int .i64 n] W fun e w' => e = .returned (.bool (fits M n)) ∧ MemAt w' B cap (takeM M n) G ∧ Below B W w' ∧ Off (fun k => k = G.p) W w' := by
  have c0 := h.cell 0
  have c1 := h.cell 1
  simp only [List.getElem?_toArray, List.getElem?_cons_succ, List.getElem?_cons_zero] at c0 c1
  have HM := Lib.hid h
  have hl := h.num.limit
  have hu := h.num.used
  have hw : wrap64 (M.limit - M.used) = M.limit - M.used := by unfold wrap64; omega
  have hB := h.plt
  by_cases hf : M.used + n ≤ M.limit
  · have hlt : ¬ (M.limit - M.used < n) := by omega
    have hdec : decide (M.limit - M.used < n) = false := decide_eq_false hlt
    have HF : RowKit.Hid (fits M n = true) := Lib.hid (decide_eq_true hf)
    have HT : RowKit.Hid (takeM M n = {M with used := M.used + n}) := Lib.hid (by unfold takeM; rw [if_pos HF.out])
    have hw2 : wrap64 (M.used + n) = M.used + n := by unfold wrap64; omega
    have hfr := h.free 1
    have HW : RowKit.Hid (∀ k, MemAt ((W.drewN k).setCell ⟨G.p, 1, none⟩ (.int .i64 (M.used + n))) B cap {M with used := M.used + n} G ∧ Below B W ((W.drewN k).setCell ⟨G.p, 1, none⟩ (.int .i64 (M.used + n))) ∧ Off (fun k => k = G.p) W ((W.drewN k).setCell ⟨G.p, 1, none⟩ (.int .i64 (M.used + n)))) := Lib.hid fun k => ⟨(h.since (below_drewN k (Below.refl _ _))).head ((h.since (below_drewN k (Below.refl _ _))).kpSet 1 _) (by simp [World.setCell]) (by rw [heap_setCell_same (W.drewN k) G.p 1 _ _ _ (h.since (below_drewN k (Below.refl _ _))).blk]; rfl) (Nat.le_refl _) ⟨h.num.limit, ⟨by show 0 ≤ M.used + n; omega, hf⟩, h.num.makes, h.num.entered, h.num.objs, h.num.frs, h.num.inc, h.num.pos, h.num.fr⟩, (below_drewN k (Below.refl B W)).setCell (p := ⟨G.p, 1, none⟩) hB.1 _, ((Off.refl (fun k => k = G.p) W).drewN k).setCell (p := ⟨G.p, 1, none⟩) (.inl rfl) _⟩
    clear h hf
    go_enter Try.func47, Try.ntmps47
    go_wp2_with fail
    go_quiet (fail)
    go_wp2_with fail
    go_ret
    exact ⟨by rw [HF.out]; rfl, by rw [HT.out]; exact (HW.out _).1, (HW.out _).2⟩
  · have hlt : M.limit - M.used < n := by omega
    have hdec : decide (M.limit - M.used < n) = true := decide_eq_true hlt
    have HF : RowKit.Hid (fits M n = false) := Lib.hid (decide_eq_false hf)
    have HT : RowKit.Hid (takeM M n = M) := Lib.hid (by unfold takeM; rw [if_neg (by rw [HF.out]; simp)])
    have HW : RowKit.Hid (∀ k, MemAt (W.drewN k) B cap M G ∧ Below B W (W.drewN k) ∧ Off (fun k => k = G.p) W (W.drewN k)) := Lib.hid fun k => ⟨h.since (below_drewN _ (Below.refl _ _)), below_drewN _ (Below.refl _ _), (Off.refl _ W).drewN k⟩
    clear h hf
    go_enter Try.func47, Try.ntmps47
    go_wp2_with fail
    go_quiet (fail)
    go_wp2_with fail
    go_ret
    exact ⟨by rw [HF.out]; rfl, by rw [HT.out]; exact (HW.out _).1, (HW.out _).2⟩
/-- Object r, if there is one. -/
def objAt (M : PM) (G : GM) (r : Int) : Value := if 1 ≤ r ∧ r ≤ (M.objs.length : Int) then ptrV ((G.gos.map (·.ptr)).getD (r - 1).toNat 0) else .pointer none
set_option maxRecDepth 100000 in
theorem object_any {W : World} {B cap : Nat} {M : PM} {G : GM} (h : MemAt W B cap M G) (r : Int) (hr : -9223372036854775808 ≤ r ∧ r ≤ 9223372036854775807) : Calls Try.prog 40 #[.pointer (some ⟨G.p, 0, none⟩), .int .i64 r] W fun e w' => e = .returned (objAt M G r) ∧ w' = W := by
  have c3 := h.cell 3
  simp only [List.getElem?_toArray, List.getElem?_cons_succ, List.getElem?_cons_zero] at c3
  have hrd := h.ov.read
  have hlen : G.on = M.objs.length := by rw [hrd.1, List.length_map, h.objs.len]
  by_cases h1 : r < 1
  · have HR : RowKit.Hid (objAt M G r = .pointer none) := Lib.hid (by unfold objAt; rw [if_neg (by omega)])
    have hd : decide (r < 1) = true := decide_eq_true h1
    clear h
    go_enter Try.func40, Try.ntmps40
    go_wp2_with fail
    go_ret
    exact ⟨by rw [HR.out]; rfl, rfl⟩
  · have hd : decide (r < 1) = false := decide_eq_false h1
    by_cases h2 : (G.on : Int) < r
    · have HR : RowKit.Hid (objAt M G r = .pointer none) := Lib.hid (by unfold objAt; rw [if_neg (by omega)])
      have hd2 : decide ((G.on : Int) < r) = true := decide_eq_true h2
      clear h hlen hrd
      go_enter Try.func40, Try.ntmps40
      go_wp2_with fail
      go_ret
      exact ⟨by rw [HR.out]; rfl, rfl⟩
    · have hd2 : decide ((G.on : Int) < r) = false := decide_eq_false h2
      obtain ⟨k, rfl⟩ : ∃ k : Nat, r = (k : Int) + 1 := ⟨(r - 1).toNat, by omega⟩
      have hkn : k < G.on := by omega
      have HR : RowKit.Hid (objAt M G ((k : Int) + 1) = ptrV ((G.gos.map (·.ptr)).getD k 0)) := Lib.hid (by unfold objAt; rw [if_pos (by omega)]; congr 2; omega)
      have hkG : k < (G.gos.map (·.ptr)).length := by rw [List.length_map, h.objs.len]; omega
      obtain ⟨gb, e, _, _, hcs⟩ := hrd.2 (by omega)
      have hc := hcs k hkG
      rw [show (G.gos.map (·.ptr))[k] = (G.gos.map (·.ptr)).getD k 0 by rw [List.getD_eq_getElem?_getD, List.getElem?_eq_getElem hkG]; rfl] at hc
      clear hcs
      rw [e] at c3
      obtain ⟨x, hx⟩ : ∃ x, (G.gos.map (·.ptr)).getD k 0 = x := ⟨_, rfl⟩
      rw [hx] at HR hc
      unfold ptrV at hc
      have hw : wrap64 ((k : Int) + 1 - 1) = (k : Int) := by unfold wrap64; omega
      have hk0 : (0 : Int) ≤ (k : Int) := by omega
      have hki : (k : Int) < (G.on : Int) := by omega
      clear h hlen e hx hkG hrd
      go_enter Try.func40, Try.ntmps40
      go_wp2_with fail
      go_ret
      exact ⟨by rw [HR.out]; rfl, rfl⟩
end Go.Proofs.Ytgnfinojnmkkkaa

/- A function that holds a label, inside a fence: a scope through which the run goes without a jump to a label. Nothing of the program is named here. -/
namespace Go.Proofs.Ytgnfinojnmkkkaa
set_option linter.unusedVariables false
section
variable {F : Fence} {n : Nat} {P : Program} {Q : Exit → Act → World → Prop} {a : Act} {w : World} {b : Frame} {k : List Item} {cs : List Frame}
theorem stepR_scope {c : Code} : step P (lone (b.atR a (.code (.scope c) :: k)) cs w) = .next (lone (b.atR a (.code c :: .inScope c :: k)) cs w) :=
  step_lone_go (by simp [stepG, stepG.exec, Frame.atR])
theorem stepR_inScope {c : Code} : step P (lone (b.atR a (.inScope c :: k)) cs w) = .next (lone (b.atR a k) cs w) :=
  step_lone_go (by simp [stepG, stepG.exec, Frame.atR])
theorem wpIn_scope_straight {c : Code} (h : c.wpIn F n P (Exit.noGoto Q) a w) : (Code.scope c).wpIn F n P Q a w := by
  intro b k cs hro hb hr
  have h0 : (lone (b.atR a (.code (.scope c) :: k)) cs w).fenced P F := fenced_calm hb hr rfl
  obtain ⟨e, a₁, w₁, hq, harr⟩ := h b (.inScope c :: k) cs hro hb hr
  cases e with
  | normal => exact ⟨.normal, a₁, w₁, hq, .head h0 stepR_scope (StepsIn.trans harr (.one (fenced_calm hb hr rfl) stepR_inScope))⟩
  | exit id =>
    have hx : exitTo id (.inScope c :: k) = exitTo id k := by simp [exitTo]
    exact ⟨_, a₁, w₁, hq, fun k' hk => .head h0 stepR_scope (harr.1 k' (by rw [hx]; exact hk)), fun hr' hk => let ⟨k₁, h1, h2⟩ := harr.2 hr' (by rw [hx]; exact hk); ⟨k₁, h1, .head h0 stepR_scope h2⟩⟩
  | goto l => exact hq.elim
  | ret => exact ⟨_, a₁, w₁, hq, .of_steps (.one h0 stepR_scope) harr⟩
  | panic ch => exact ⟨_, a₁, w₁, hq, .of_steps (.one h0 stepR_scope) harr⟩
  | outgrown => exact ⟨_, a₁, w₁, hq, .of_steps (.one h0 stepR_scope) harr⟩
end
theorem noGoto_isret {Q : Exit → Act → World → Prop} {a : Act} {w : World} (h : Q .ret a w) : Exit.noGoto Q .ret a w := h
theorem noGoto_isnormal {Q : Exit → Act → World → Prop} {a : Act} {w : World} (h : Q .normal a w) : Exit.noGoto Q .normal a w := h
/-- A loop whose state is told by a letter of its own, which falls. -/
theorem wpIn_loop_ghost {σ : Type} {F : Fence} {n : Nat} {P : Program} {c : Code} {Q : Exit → Act → World → Prop} {a : Act} {w : World} (St : σ → Act → World → Prop) (μ : σ → Nat) (s0 : σ) (h0 : St s0 a w)
    (round : ∀ s a w (K : Act → World → Prop), St s a w → (∀ s' a' w', St s' a' w' → μ s' < μ s → K a' w') → c.wpIn F n P (Exit.then K Q) a w) : (Code.loop c).wpIn F n P Q a w := by
  have key : ∀ m s a w, μ s ≤ m → St s a w → Code.roundsIn F n P c Q (m + 1) a w := by
    intro m
    induction m with
    | zero => intro s a w hm hs; exact round s a w _ hs (fun s' a' w' _ h => by omega)
    | succ m ih => intro s a w hm hs; exact round s a w _ hs (fun s' a' w' h1 h2 => ih s' a' w' (by omega) h1)
  exact wpIn_loop_rounds _ (key _ s0 a w (Nat.le_refl _) h0)
end Go.Proofs.Ytgnfinojnmkkkaa

/- Layer 10: sort.Search over frames; whether an object is gone. -/
namespace Go.Proofs.Ytgnfinojnmkkkaa
open Go.RowKit (wrap64 intOf Below)
set_option linter.unusedVariables false
set_option linter.unusedSimpArgs false

theorem drewN_add (W : World) (a b : Nat) : ∃ q, (W.drewN a).drewN b = W.drewN q := ⟨a + b, by simp [World.drewN, Nat.add_assoc]⟩
set_option maxRecDepth 100000 in
set_option maxHeartbeats 1000000 in
theorem search_any {W : World} {d : Nat → Bool} {b1 b2 : Nat} (n : Nat) (hn : n ≤ 1099511627776) (hmono : ∀ i j, i ≤ j → d i = true → d j = true)
    (hc : ∀ k : Nat, k < n → ∀ q, Calls Try.prog 54 #[.int .i64 (k : Int), .pointer (some ⟨b1, 0, none⟩), .pointer (some ⟨b2, 0, none⟩)] (W.drewN q) fun e w' => e = .returned (.bool (d k)) ∧ ∃ q', w' = W.drewN q') :
    Calls Try.prog 53 #[.int .i64 (n : Int), .func (.func 54) #[] #[.pointer (some ⟨b1, 0, none⟩), .pointer (some ⟨b2, 0, none⟩)]] W fun e w' => ∃ k : Nat, e = .returned (.int .i64 (k : Int)) ∧ k ≤ n ∧ (∀ i, i < k → d i = false) ∧ (∀ i, k ≤ i → i < n → d i = true) ∧ ∃ q, w' = W.drewN q := by
  have HC := Lib.hid hc
  have HMO := Lib.hid hmono
  clear hc hmono
  go_enter Try.func53, Try.ntmps53
  go_wp2_with fail
  go_loopw [5, 6] (fun v5 v6 wr => ∃ i j : Nat, i ≤ j ∧ j ≤ n ∧ v5 = .int .i64 (i : Int) ∧ v6 = .int .i64 (j : Int) ∧ RowKit.Hid ((∀ x, x < i → d x = false) ∧ (∀ x, j ≤ x → x < n → d x = true) ∧ ∃ q, wr = W.drewN q)) (fun v5 v6 _ => (intOf v6).toNat - (intOf v5).toNat)
  case atStart => exact ⟨0, n, Nat.zero_le _, Nat.le_refl _, rfl, rfl, Lib.hid ⟨fun x hx => absurd hx (by omega), fun x h1 h2 => absurd h1 (by omega), 0, rfl⟩⟩
  case round =>
    obtain ⟨i, j, hij, hj, rfl, rfl, HI⟩ := hrel
    by_cases hlt : i < j
    · obtain ⟨m, hm⟩ : ∃ m : Nat, m = (i + j) / 2 := ⟨_, rfl⟩
      have hmi : i ≤ m := by omega
      have hmj : m < j := by omega
      have hs : wrap64 ((i : Int) + (j : Int)) = ((i + j : Nat) : Int) := by unfold wrap64; omega
      have hii : (i : Int) < (j : Int) := by omega
      go_upto_region 4 with fail
      have hmid : ((i : Int) + (j : Int)) / 2 = (m : Int) := by omega
      rw [hmid]
      obtain ⟨hI1, hI2, q, rfl⟩ := HI.out
      have CD := Lib.hid (HC.out m (by omega) q)
      have HIA := Lib.hid (And.intro hI1 hI2)
      have HWM : RowKit.Hid (wrap64 ((m : Int) + 1) = ((m + 1 : Nat) : Int)) := Lib.hid (by unfold wrap64; omega)
      clear hm hs hI1 hI2 HI
      cases hd : d m with
      | true =>
        have HN : RowKit.Hid (∀ q', ((∀ x, x < i → d x = false) ∧ (∀ x, m ≤ x → x < n → d x = true) ∧ ∃ q, W.drewN q' = W.drewN q)) := Lib.hid fun q' => ⟨HIA.out.1, fun x h1 _ => HMO.out m x h1 hd, q', rfl⟩
        rw [hd] at CD
        clear hd
        go_wp2_with (go_at_call 54; refine CD.out.mono ?_; rintro e u ⟨rfl, q', rfl⟩)
        go_roundw
        case rel => exact ⟨i, m, hmi, by omega, rfl, rfl, Lib.hid (HN.out _)⟩
        case measure => simp [intOf]; omega
      | false =>
        have HN : RowKit.Hid (∀ q', ((∀ x, x < m + 1 → d x = false) ∧ (∀ x, j ≤ x → x < n → d x = true) ∧ ∃ q, W.drewN q' = W.drewN q)) := Lib.hid fun q' => ⟨fun x hx => (by
          cases hdx : d x with
          | false => rfl
          | true => (have h3 := HMO.out x m (by omega) hdx; rw [hd] at h3; cases h3)), HIA.out.2, q', rfl⟩
        rw [hd] at CD
        clear hd
        go_wp2_with (go_at_call 54; refine CD.out.mono ?_; rintro e u ⟨rfl, q', rfl⟩)
        go_roundw
        case rel => exact ⟨m + 1, j, by omega, hj, by go_num, rfl, Lib.hid (HN.out _)⟩
        case measure => simp [intOf]; omega
    · obtain rfl : i = j := by omega
      have hii : ¬ ((i : Int) < (i : Int)) := by omega
      go_wp2_with fail
      go_ret
      exact ⟨i, rfl, hj, HI.out.1, HI.out.2.1, HI.out.2.2⟩
theorem OwnsFr.read {W : World} {B : Nat} {a : Option Addr} {n c : Nat} {L : List (Int × Option Addr × Nat × Nat)} (h : OwnsFr W B (.slice a n c) L) : n = L.length ∧ (0 < n → ∃ g, a = some ⟨g, 0, none⟩ ∧ B ≤ g ∧ g < W.heap.size ∧ ∀ k (hk : k < L.length), W.cell? ⟨g, k * 2, none⟩ = some (.int .i64 L[k].1) ∧ W.cell? ⟨g, k * 2 + 1, none⟩ = some (.slice L[k].2.1 L[k].2.2.1 L[k].2.2.2)) := by
  have hown : W.ownsRow B 58 2 (.slice a n c) L.length (flatFr L) := h
  have hat : ∀ (l : List (Int × Option Addr × Nat × Nat)) (i : Nat) (h : i < l.length), (flatFr l)[i * 2]? = some (.int .i64 l[i].1) ∧ (flatFr l)[i * 2 + 1]? = some (.slice l[i].2.1 l[i].2.2.1 l[i].2.2.2) := by
    intro l
    induction l with
    | nil => intro i h; exact absurd h (by simp)
    | cons x l ih =>
      intro i h
      have e : flatFr (x :: l) = .int .i64 x.1 :: .slice x.2.1 x.2.2.1 x.2.2.2 :: flatFr l := rfl
      rw [e]
      cases i with
      | zero => exact ⟨rfl, rfl⟩
      | succ i =>
        have := ih i (by simpa using h)
        rw [show (i + 1) * 2 = i * 2 + 1 + 1 by omega]
        simpa using this
  rcases h.2 with ⟨e, h0⟩ | ⟨g, cap, cur, e, hB, hh, _⟩
  · cases e
    exact ⟨h0.symm, fun hp => by omega⟩
  · cases e
    refine ⟨rfl, fun _ => ⟨g, rfl, hB, (Array.getElem?_eq_some_iff.1 hh).1, fun k hk => ?_⟩⟩
    obtain ⟨h1, h2⟩ := hat L k hk
    have c1 := World.ownsRow.cells hown rfl _ _ h1
    have c2 := World.ownsRow.cells hown rfl _ _ h2
    rw [addr_plain, Nat.zero_add] at c1 c2
    exact ⟨c1, c2⟩
/-- Frame k's number is no less than z. -/
def frGe (F : List Int) (z : Int) (k : Nat) : Bool := match F[k]? with | some f => decide (z ≤ f) | none => true
theorem frGe_mono {F : List Int} {z : Int} (hp : F.Pairwise (· < ·)) : ∀ i j, i ≤ j → frGe F z i = true → frGe F z j = true := by
  intro i j hij h
  unfold frGe at h ⊢
  by_cases hj : j < F.length
  · have hi : i < F.length := by omega
    rw [List.getElem?_eq_getElem hi] at h
    rw [List.getElem?_eq_getElem hj]
    simp only [decide_eq_true_eq] at h ⊢
    by_cases e : i = j
    · subst e; exact h
    · have := List.pairwise_iff_getElem.1 hp i j hi hj (by omega)
      omega
  · rw [List.getElem?_eq_none (by omega)]
/-- What the search finds tells whether the number is there. -/
theorem fr_found {F : List Int} {z : Int} (hp : F.Pairwise (· < ·)) {k : Nat} (hk : k ≤ F.length) (h1 : ∀ i, i < k → frGe F z i = false) (h2 : ∀ i, k ≤ i → i < F.length → frGe F z i = true) : z ∈ F ↔ ∃ h : k < F.length, F[k] = z := by
  constructor
  · intro hz
    obtain ⟨i, hi, e⟩ := List.mem_iff_getElem.1 hz
    have hge : frGe F z i = true := by unfold frGe; rw [List.getElem?_eq_getElem hi, e]; simp
    have hki : k ≤ i := by
      refine Nat.le_of_not_lt fun hlt => ?_
      have h3 := h1 i hlt
      rw [hge] at h3
      cases h3
    have hkl : k < F.length := by omega
    refine ⟨hkl, ?_⟩
    have hgk := h2 k (Nat.le_refl _) hkl
    unfold frGe at hgk
    rw [List.getElem?_eq_getElem hkl] at hgk
    simp only [decide_eq_true_eq] at hgk
    by_cases e2 : k = i
    · subst e2; exact e
    · have := List.pairwise_iff_getElem.1 hp k i hkl hi (by omega)
      omega
  · rintro ⟨h, e⟩
    rw [← e]
    exact List.getElem_mem h
section
variable {W : World} {B cap : Nat} {M : PM} {G : GM}
theorem MemAt.frn (h : MemAt W B cap M G) : G.fn = M.frs.length := by
  have := h.fv.read.1
  rw [this, List.length_zip, h.flen]
  exact Nat.min_self _
theorem MemAt.frc (h : MemAt W B cap M G) (h0 : 0 < M.frs.length) : ∃ g, G.fa = some ⟨g, 0, none⟩ ∧ g < W.heap.size ∧ ∀ k (hk : k < M.frs.length), W.cell? ⟨g, k * 2, none⟩ = some (.int .i64 M.frs[k]) := by
  obtain ⟨g, e, _, hg, hc⟩ := h.fv.read.2 (by rw [h.frn]; exact h0)
  refine ⟨g, e, hg, fun k hk => ?_⟩
  have h1 := (hc k (by rw [List.length_zip, h.flen]; omega)).1
  rw [List.getElem_zip] at h1
  exact h1
end
set_option maxRecDepth 100000 in
theorem gonef_any {W : World} {b1 b2 p x g n c : Nat} {F : List Int} {z : Int} (k : Nat) (hk : k < F.length) (hn : n = F.length)
    (c1 : W.cell? ⟨b1, 0, none⟩ = some (.pointer (some ⟨p, 0, none⟩))) (c2 : W.cell? ⟨b2, 0, none⟩ = some (.pointer (some ⟨x, 0, none⟩))) (c3 : W.cell? ⟨p, 4, none⟩ = some (.slice (some ⟨g, 0, none⟩) n c)) (c4 : W.cell? ⟨g, k * 2, none⟩ = some (.int .i64 F[k])) (c5 : W.cell? ⟨x, 0, none⟩ = some (.int .i64 z)) :
    Calls Try.prog 54 #[.int .i64 (k : Int), .pointer (some ⟨b1, 0, none⟩), .pointer (some ⟨b2, 0, none⟩)] W fun e w' => e = .returned (.bool (frGe F z k)) ∧ ∃ q', w' = W.drewN q' := by
  have HF : RowKit.Hid (frGe F z k = decide (z ≤ F[k])) := Lib.hid (by unfold frGe; rw [List.getElem?_eq_getElem hk])
  have hk0 : (0 : Int) ≤ (k : Int) := by omega
  have hkn : (k : Int) < (n : Int) := by omega
  obtain ⟨y, hy⟩ : ∃ y, F[k] = y := ⟨_, rfl⟩
  rw [hy] at HF c4
  clear hy hn
  go_enter Try.func54, Try.ntmps54
  go_wp2_with fail
  go_quiet (fail)
  go_wp2_with fail
  go_ret
  exact ⟨by rw [HF.out]; rfl, _, rfl⟩
end Go.Proofs.Ytgnfinojnmkkkaa

/- Layer 10: whether an object is gone; its size; a table, a row, that can be asked. -/
namespace Go.Proofs.Ytgnfinojnmkkkaa
open Go.RowKit (wrap64 intOf Below)
set_option linter.unusedVariables false
set_option linter.unusedSimpArgs false

section
variable {W : World} {B cap : Nat} {M : PM} {G : GM}
/-- The cells of object i. -/
theorem MemAt.shellCells (h : MemAt W B cap M G) {i : Nat} (hi : i < M.objs.length) (hg : i < G.gos.length) : G.gos[i].ptr < W.heap.size ∧ W.cell? ⟨G.gos[i].ptr, 0, none⟩ = some (.int .i64 M.objs[i].fr) ∧ W.cell? ⟨G.gos[i].ptr, 1, none⟩ = some (if M.objs[i].tab then .pointer none else ptrV G.gos[i].q) ∧ W.cell? ⟨G.gos[i].ptr, 2, none⟩ = some (if M.objs[i].tab then ptrV G.gos[i].q else .pointer none) := by
  have hs := h.objs.shell i hi hg
  exact ⟨(h.range _ _ hs.rp).2, by simp [World.cell?, hs.blk], by simp [World.cell?, hs.blk], by simp [World.cell?, hs.blk]⟩
theorem two_boxes (W : World) (u v : Value) (T1 T2 : TypeId) : ((W.alloc (.cells #[u] T1)).alloc (.cells #[v] T2)).cell? ⟨W.heap.size, 0, none⟩ = some u ∧ ((W.alloc (.cells #[u] T1)).alloc (.cells #[v] T2)).cell? ⟨W.heap.size + 1, 0, none⟩ = some v := by
  constructor
  · rw [World.cell?_of_block (a := ⟨W.heap.size, 0, none⟩) ((World.grownBy_alloc (W.alloc (.cells #[u] T1)) _ none).block W.heap.size (by simp) (fun e => by cases e))]
    exact World.cell?_alloc_mark _ _ _ _ _
  · rw [show W.heap.size + 1 = (W.alloc (.cells #[u] T1)).heap.size by simp]
    exact World.cell?_alloc_mark _ _ _ _ _
end
set_option maxRecDepth 100000 in
set_option maxHeartbeats 1000000 in
theorem gone_o_any {W : World} {B cap : Nat} {M : PM} {G : GM} (h : MemAt W B cap M G) (hcap : cap ≤ 1099511627776) (i : Nat) (hi : i < M.objs.length) (hg : i < G.gos.length) :
    Calls Try.prog 41 #[.pointer (some ⟨G.p, 0, none⟩), .pointer (some ⟨G.gos[i].ptr, 0, none⟩)] W fun e w' => e = .returned (.bool (M.gone M.objs[i])) ∧ Below W.heap.size W w' := by
  obtain ⟨hx, hx0, _, _⟩ := h.shellCells hi hg
  obtain ⟨x, hxe⟩ : ∃ x, G.gos[i].ptr = x := ⟨_, rfl⟩
  rw [hxe] at hx hx0 ⊢
  obtain ⟨W1, hW1⟩ : ∃ w, (W.alloc (.cells #[.pointer (some ⟨G.p, 0, none⟩)] 27)).alloc (.cells #[.pointer (some ⟨x, 0, none⟩)] 59) = w := ⟨_, rfl⟩
  have hb1 : Below W.heap.size W W1 := by rw [← hW1]; exact ((Below.refl _ W).alloc (Nat.le_refl _) _).alloc (by simp) _
  have hbx := two_boxes W (.pointer (some ⟨G.p, 0, none⟩)) (.pointer (some ⟨x, 0, none⟩)) 27 59
  rw [hW1] at hbx
  obtain ⟨k1, k2⟩ := hbx
  have kx : W1.cell? ⟨x, 0, none⟩ = some (.int .i64 M.objs[i].fr) := (hb1.cell (p := ⟨x, 0, none⟩) hx).trans hx0
  have HB := Lib.hid hb1
  have HM := Lib.hid (h.since hb1)
  obtain ⟨z, hz⟩ : ∃ z, M.objs[i].fr = z := ⟨_, rfl⟩
  have HG : RowKit.Hid (M.gone M.objs[i] = decide (z ≠ 0 ∧ z ∉ M.frs)) := Lib.hid (by unfold PM.gone; rw [hz])
  rw [hz] at kx
  by_cases hz0 : z = 0
  · subst hz0
    have HR : RowKit.Hid (M.gone M.objs[i] = false) := Lib.hid (by rw [HG.out]; simp)
    clear h hx0 hz hxe hb1
    go_enter Try.func41, Try.ntmps41
    go_wp2_with fail
    try rw [hW1]
    go_ret
    exact ⟨by rw [HR.out]; rfl, by first | exact HB.out | (rw [hW1]; exact HB.out)⟩
  · have hzb : (z == 0) = false := by simpa using hz0
    have hfl : M.frs.length ≤ cap := h.num.frs
    have k4 := HM.out.cell 4
    simp only [List.getElem?_toArray, List.getElem?_cons_succ, List.getElem?_cons_zero] at k4
    have hfn : G.fn = M.frs.length := h.frn
    have HFR := Lib.hid h.num.inc
    have CS := Lib.hid (search_any (W := W1) (d := frGe M.frs z) (b1 := W.heap.size) (b2 := W.heap.size + 1) M.frs.length (by omega) (frGe_mono h.num.inc) (fun k hk q => by
      obtain ⟨g, e, hg', hc⟩ := HM.out.frc (by omega)
      rw [e] at k4
      have hr := gonef_any (W := W1.drewN q) (b1 := W.heap.size) (b2 := W.heap.size + 1) (p := G.p) (x := x) (g := g) (n := G.fn) (c := G.fc) (F := M.frs) (z := z) k hk hfn k1 k2 k4 (hc k hk) kx
      refine hr.mono ?_
      rintro e' w' ⟨he, q', hq'⟩
      obtain ⟨q2, hq2⟩ := drewN_add W1 q q'
      exact ⟨he, q2, hq'.trans hq2⟩))
    rw [hfn] at k4
    have HND : RowKit.Hid (∀ k (hk : k < M.frs.length), ∃ g, G.fa = some ⟨g, 0, none⟩ ∧ W1.cell? ⟨g, k * 2, none⟩ = some (.int .i64 M.frs[k])) := Lib.hid fun k hk => by
      obtain ⟨g, e, _, hc⟩ := HM.out.frc (by omega)
      exact ⟨g, e, hc k hk⟩
    clear h hx0 hz hxe hb1 hx
    go_enter Try.func41, Try.ntmps41
    go_upto_region 1 with fail
    try rw [hW1]
    clear hW1
    go_upto_region 4 with (go_at_call 53; refine CS.out.mono ?_; rintro e u ⟨k, rfl, hk, hs1, hs2, q, rfl⟩; have HFO := Lib.hid (fr_found HFR.out hk hs1 hs2); clear hs1 hs2)
    have HBQ : RowKit.Hid (∀ a b, Below W.heap.size W ((W1.drewN a).drewN b)) := Lib.hid fun a b => below_drewN _ (below_drewN _ HB.out)
    by_cases hkn : k = M.frs.length
    · have hkb : ((k : Int) == (M.frs.length : Int)) = true := by rw [hkn]; simp
      have HR : RowKit.Hid (M.gone M.objs[i] = true) := Lib.hid (by
        rw [HG.out, decide_eq_true_eq]
        refine ⟨hz0, fun hin => ?_⟩
        obtain ⟨h1, _⟩ := HFO.out.1 hin
        omega)
      clear hz0 hk
      go_quiet (fail)
      go_wp2_with fail
      go_ret
      exact ⟨by rw [HR.out]; rfl, HBQ.out _ _⟩
    · have hkl : k < M.frs.length := by omega
      have hkb : ((k : Int) == (M.frs.length : Int)) = false := by rw [beq_eq_false_iff_ne]; omega
      have hkb2 : (k == M.frs.length) = false := by rw [beq_eq_false_iff_ne]; omega
      obtain ⟨g, e, hc⟩ := HND.out k hkl
      obtain ⟨y, hy⟩ : ∃ y, M.frs[k] = y := ⟨_, rfl⟩
      rw [hy] at hc
      rw [e] at k4
      have hki : (k : Int) < (M.frs.length : Int) := by omega
      have hk0 : (0 : Int) ≤ (k : Int) := by omega
      have HR : RowKit.Hid (M.gone M.objs[i] = (y != z)) := Lib.hid (by
        rw [HG.out]
        by_cases hyz : y = z
        · subst hyz
          rw [decide_eq_false (fun hh => hh.2 (HFO.out.2 ⟨hkl, hy⟩))]
          simp
        · rw [decide_eq_true ⟨hz0, fun hin => by obtain ⟨h1, h2⟩ := HFO.out.1 hin; rw [hy] at h2; exact hyz h2⟩]
          rw [eq_comm, bne_iff_ne]; exact hyz)
      clear hz0 hk e hy
      go_quiet (fail)
      go_wp2_with fail
      go_ret
      exact ⟨by rw [HR.out]; rfl, HBQ.out _ _⟩
end Go.Proofs.Ytgnfinojnmkkkaa

/- Layer 10: a table, a row, that can be asked; an object's size. -/
namespace Go.Proofs.Ytgnfinojnmkkkaa
open Go.RowKit (wrap64 intOf Below)
set_option linter.unusedVariables false
set_option linter.unusedSimpArgs false

def PM.obj (M : PM) (r : Int) : Option PO := if 1 ≤ r then M.objs[(r - 1).toNat]? else none
/-- What comes of asking for a table; for value i of a row. -/
def ansT (M : PM) (r : Int) : Int := match M.obj r with | none => 6 | some o => if o.tab then (if M.gone o then 5 else 0) else 6
def ansR (M : PM) (r i : Int) : Int := match M.obj r with | none => 6 | some o => if o.tab then 6 else (if M.gone o then 5 else (if i < 0 ∨ o.size ≤ i then 2 else 0))
def GM.body (G : GM) (r : Int) : Nat := (G.gos.map (·.q)).getD (r - 1).toNat 0
def tabRes (M : PM) (G : GM) (r : Int) : Value := if ansT M r = 0 then ptrV (G.body r) else .pointer none
theorem two_end {v v' : Value} {a a' : Int} (h1 : v = v') (h2 : a = a') : Ending.returned (.tuple #[v', .int .i64 a']) = .returned (.tuple #[v, .int .i64 a]) := by rw [h1, h2]
section
variable {M : PM} {G : GM}
theorem obj_none {r : Int} (h : M.obj r = none) : objAt M G r = .pointer none := by
  unfold PM.obj at h
  unfold objAt
  by_cases h1 : 1 ≤ r
  · rw [if_pos h1] at h
    have := List.getElem?_eq_none_iff.1 h
    rw [if_neg (by omega)]
  · rw [if_neg (by omega)]
theorem obj_some {r : Int} {o : PO} (hl : G.gos.length = M.objs.length) (h : M.obj r = some o) : ∃ (i : Nat) (h1 : i < M.objs.length) (h2 : i < G.gos.length), r = (i : Int) + 1 ∧ M.objs[i] = o ∧ objAt M G r = ptrV G.gos[i].ptr ∧ G.body r = G.gos[i].q := by
  unfold PM.obj at h
  by_cases h1 : 1 ≤ r
  · rw [if_pos h1] at h
    obtain ⟨h2, h3⟩ := List.getElem?_eq_some_iff.1 h
    have h4 : (r - 1).toNat < G.gos.length := by omega
    refine ⟨(r - 1).toNat, h2, h4, by omega, h3, ?_, ?_⟩
    · unfold objAt
      rw [if_pos (by omega), List.getD_eq_getElem?_getD, List.getElem?_map, List.getElem?_eq_getElem h4]
      rfl
    · unfold GM.body
      rw [List.getD_eq_getElem?_getD, List.getElem?_map, List.getElem?_eq_getElem h4]
      rfl
  · rw [if_neg h1] at h; cases h
end
set_option maxRecDepth 100000 in
theorem table_any {W : World} {B cap : Nat} {M : PM} {G : GM} (h : MemAt W B cap M G) (hcap : cap ≤ 1099511627776) (r : Int) (hr : -9223372036854775808 ≤ r ∧ r ≤ 9223372036854775807) :
    Calls Try.prog 45 #[.pointer (some ⟨G.p, 0, none⟩), .int .i64 r] W fun e w' => e = .returned (.tuple #[tabRes M G r, .int .i64 (ansT M r)]) ∧ Below W.heap.size W w' := by
  have CO := Lib.hid (object_any h r hr)
  cases ho : M.obj r with
  | none =>
    have HA : RowKit.Hid (tabRes M G r = .pointer none ∧ ansT M r = 6) := Lib.hid (by have h6 : ansT M r = 6 := (by unfold ansT; rw [ho]); exact ⟨by unfold tabRes; rw [h6]; rfl, h6⟩)
    rw [obj_none ho] at CO
    clear h ho
    go_enter Try.func45, Try.ntmps45
    go_wp2_with (go_at_call 40; refine CO.out.mono ?_; rintro e u ⟨rfl, hu⟩; rw [hu]; clear hu u)
    go_ret2
    exact ⟨two_end HA.out.1 HA.out.2, Below.refl _ _⟩
  | some o =>
    obtain ⟨i, h1, h2, hri, hoi, hob, hbo⟩ := obj_some h.objs.len ho
    obtain ⟨hx, hx0, hx1, hx2⟩ := h.shellCells h1 h2
    have CG := Lib.hid (gone_o_any h hcap i h1 h2)
    rw [hob] at CO
    rw [hoi] at hx1 hx2 CG
    unfold ptrV at CO hx1 hx2
    obtain ⟨x, hxe⟩ : ∃ x, G.gos[i].ptr = x := ⟨_, rfl⟩
    obtain ⟨q, hq⟩ : ∃ q, G.gos[i].q = q := ⟨_, rfl⟩
    rw [hxe] at hx hx1 hx2 CO CG
    rw [hq] at hx2 hbo
    cases ht : o.tab with
    | false =>
      have HA : RowKit.Hid (tabRes M G r = .pointer none ∧ ansT M r = 6) := Lib.hid (by have h6 : ansT M r = 6 := (by unfold ansT; rw [ho]; simp [ht]); exact ⟨by unfold tabRes; rw [h6]; rfl, h6⟩)
      rw [ht] at hx2
      clear h ho hob hbo hoi hx0 hx1 hri hxe hq ht
      simp only [if_false, Bool.false_eq_true] at hx2
      go_enter Try.func45, Try.ntmps45
      go_wp2_with (go_at_call 40; refine CO.out.mono ?_; rintro e u ⟨rfl, hu⟩; rw [hu]; clear hu u)
      go_ret2
      exact ⟨two_end HA.out.1 HA.out.2, Below.refl _ _⟩
    | true =>
      rw [ht] at hx2
      simp only [if_true] at hx2
      cases hg : M.gone o with
      | true =>
        have HA : RowKit.Hid (tabRes M G r = .pointer none ∧ ansT M r = 5) := Lib.hid (by have h6 : ansT M r = 5 := (by unfold ansT; rw [ho]; simp [ht, hg]); exact ⟨by unfold tabRes; rw [h6]; rfl, h6⟩)
        rw [hg] at CG
        clear h ho hob hbo hoi hx0 hx1 hri hxe hq ht hg
        go_enter Try.func45, Try.ntmps45
        go_wp2_with (first
          | (go_at_call 40; refine CO.out.mono ?_; rintro e u ⟨rfl, hu⟩; rw [hu]; clear hu u)
          | (go_at_call 41; refine CG.out.mono ?_; rintro e u ⟨rfl, hb⟩; have HB := Lib.hid hb; clear hb))
        go_ret2
        exact ⟨two_end HA.out.1 HA.out.2, HB.out⟩
      | false =>
        have HA : RowKit.Hid (tabRes M G r = .pointer (some ⟨q, 0, none⟩) ∧ ansT M r = 0) := Lib.hid (by have h6 : ansT M r = 0 := (by unfold ansT; rw [ho]; simp [ht, hg]); exact ⟨by unfold tabRes; rw [if_pos h6, hbo]; rfl, h6⟩)
        rw [hg] at CG
        clear h ho hob hbo hoi hx0 hx1 hri hxe hq ht hg
        go_enter Try.func45, Try.ntmps45
        go_wp2_with (first
          | (go_at_call 40; refine CO.out.mono ?_; rintro e u ⟨rfl, hu⟩; rw [hu]; clear hu u)
          | (go_at_call 41; refine CG.out.mono ?_; rintro e u ⟨rfl, hb⟩; have HB := Lib.hid hb; have hy2 := (hb.cell (p := ⟨x, 2, none⟩) hx).trans hx2; clear hb))
        go_ret2
        exact ⟨two_end HA.out.1 HA.out.2, HB.out⟩
set_option maxRecDepth 100000 in
theorem sizerow_any {W : World} {x q : Nat} {z : Int} (c1 : W.cell? ⟨x, 2, none⟩ = some (.pointer none)) (c2 : W.cell? ⟨x, 1, none⟩ = some (.pointer (some ⟨q, 0, none⟩))) (c3 : W.cell? ⟨q, 0, none⟩ = some (.int .i64 z)) :
    Calls Try.prog 42 #[.pointer (some ⟨x, 0, none⟩)] W fun e w' => e = .returned (.int .i64 z) ∧ w' = W := by
  go_enter Try.func42, Try.ntmps42
  go_wp2_with fail
  go_ret
  exact ⟨rfl, rfl⟩
set_option maxRecDepth 100000 in
theorem sizetab_any {W : World} {x q : Nat} {a : Option Addr} {n c : Nat} (hn : n ≤ 1099511627776) (c1 : W.cell? ⟨x, 2, none⟩ = some (.pointer (some ⟨q, 0, none⟩))) (c3 : W.cell? ⟨q, 1, none⟩ = some (.slice a n c)) :
    Calls Try.prog 42 #[.pointer (some ⟨x, 0, none⟩)] W fun e w' => e = .returned (.int .i64 (n : Int)) ∧ w' = W := by
  go_enter Try.func42, Try.ntmps42
  go_wp2_with fail
  go_ret
  exact ⟨rfl, rfl⟩
end Go.Proofs.Ytgnfinojnmkkkaa

/- Layer 7, plain: where blocks go, and in which order they are met and left: a walk that calls itself, and one by a list. Nothing of the program is named here. -/
namespace Go.Proofs.Ytgnfinojnmkkkaa
set_option linter.unusedVariables false

/-- Where an end goes, with which values. -/
def tgts (e : EndD) : List (Int × List Int) := if e.K = 0 then [(e.To, e.L)] else if e.K = 1 then [(e.To, e.L), (e.Else, e.M)] else []
def tos (e : EndD) : List Int := (tgts e).map (·.1)
def nextL (e : EndD) : List Int := if e.K = 0 then [e.To] else if e.K = 1 then (if e.To = e.Else then [e.To] else [e.To, e.Else]) else []
theorem mem_next {e : EndD} {n : Int} : n ∈ nextL e ↔ n ∈ tos e := by
  unfold nextL tos tgts
  split
  · simp
  · split
    · split
      · rename_i h; simp [h]
      · simp
    · simp
def noEnd : EndD := ⟨2, 0, 0, 0, [], []⟩
def theEnd (f : FuncD) (k : Nat) : EndD := match f.blocks[k]? with | some b => b.fin | none => noEnd
def toF (f : FuncD) (k : Nat) : List Int := tos (theEnd f k)
def nxF (f : FuncD) (k : Nat) : List Int := nextL (theEnd f k)

section
variable (N : Nat) (nx : Nat → List Int)
def There (N : Nat) (z : Int) : Prop := 0 ≤ z ∧ z < (N : Int)
instance (z : Int) : Decidable (There N z) := by unfold There; infer_instance
/-- A block walked: which were met, and left (the last one first). -/
def walkF : Nat → List Int × List Int → Int → List Int × List Int
  | 0, s, _ => s
  | k + 1, s, b => if ¬ There N b ∨ b ∈ s.1 then s else (((nx b.toNat).foldl (walkF k) (s.1 ++ [b], s.2)).1, b :: ((nx b.toNat).foldl (walkF k) (s.1 ++ [b], s.2)).2)
def Inv (met : List Int) : Prop := met.Nodup ∧ ∀ x ∈ met, There N x
end
section
variable {N : Nat} {nx : Nat → List Int}
theorem walkF_skip {k : Nat} {s : List Int × List Int} {b : Int} (h : ¬ There N b ∨ b ∈ s.1) : walkF N nx k s b = s := by
  cases k with
  | zero => rfl
  | succ k => unfold walkF; rw [if_pos h]
theorem walkF_go {k : Nat} {s : List Int × List Int} {b : Int} (h : There N b) (h2 : b ∉ s.1) : walkF N nx (k + 1) s b = (((nx b.toNat).foldl (walkF N nx k) (s.1 ++ [b], s.2)).1, b :: ((nx b.toNat).foldl (walkF N nx k) (s.1 ++ [b], s.2)).2) := by
  rw [walkF, if_neg (by intro h'; rcases h' with h' | h'; exact h' h; exact h2 h')]
theorem Inv.len {met : List Int} (h : Inv N met) : met.length ≤ N := by
  have h1 := List.Nodup.length_le_of_subset h.1 (l₂ := (List.range N).map Int.ofNat) (fun x hx => by
    have h0 := h.2 x hx
    obtain ⟨k, rfl⟩ := Int.eq_ofNat_of_zero_le h0.1
    exact List.mem_map.2 ⟨k, List.mem_range.2 (by have := h0.2; omega), rfl⟩)
  simpa using h1
theorem Inv.nil : Inv N [] := ⟨List.nodup_nil, fun x hx => by cases hx⟩
theorem Inv.more {met : List Int} {b : Int} (h : Inv N met) (hb : There N b) (hn : b ∉ met) : Inv N (met ++ [b]) :=
  ⟨List.nodup_append.2 ⟨h.1, by simp, fun a ha c hc e => by simp at hc; subst hc; subst e; exact hn ha⟩, fun x hx => by
    rcases List.mem_append.1 hx with hx | hx
    · exact h.2 x hx
    · simp at hx; subst hx; exact hb⟩
theorem Inv.room {met : List Int} {b : Int} (h : Inv N met) (hb : There N b) (hn : b ∉ met) : met.length < N := by
  have := (h.more hb hn).len
  simp at this
  omega
/-- What was met stays met. -/
theorem walk_mono : ∀ (k : Nat) (s : List Int × List Int) (b : Int), ∃ t u, (walkF N nx k s b).1 = s.1 ++ t ∧ (walkF N nx k s b).2 = u ++ s.2
  | 0, s, b => ⟨[], [], by simp [walkF], by simp [walkF]⟩
  | k + 1, s, b => by
    by_cases h : ¬ There N b ∨ b ∈ s.1
    · exact ⟨[], [], by rw [walkF_skip h]; simp, by rw [walkF_skip h]; simp⟩
    · have hT : There N b := Classical.byContradiction fun h' => h (.inl h')
      have hM : b ∉ s.1 := fun h' => h (.inr h')
      have fold : ∀ (l : List Int) (s : List Int × List Int), ∃ t u, (l.foldl (walkF N nx k) s).1 = s.1 ++ t ∧ (l.foldl (walkF N nx k) s).2 = u ++ s.2 := by
        intro l
        induction l with
        | nil => intro s; exact ⟨[], [], by simp, by simp⟩
        | cons n l ih =>
          intro s
          obtain ⟨t1, u1, h1, h2⟩ := walk_mono k s n
          obtain ⟨t2, u2, h3, h4⟩ := ih (walkF N nx k s n)
          exact ⟨t1 ++ t2, u2 ++ u1, by rw [List.foldl_cons, h3, h1, List.append_assoc], by rw [List.foldl_cons, h4, h2, List.append_assoc]⟩
      obtain ⟨t, u, h1, h2⟩ := fold (nx b.toNat) (s.1 ++ [b], s.2)
      rw [walkF_go hT hM]
      exact ⟨[b] ++ t, b :: u, by simp only; rw [h1]; simp, by simp only; rw [h2]; rfl⟩
theorem walk_met {k : Nat} {s : List Int × List Int} {b x : Int} (h : x ∈ s.1) : x ∈ (walkF N nx k s b).1 := by
  obtain ⟨t, u, h1, _⟩ := walk_mono (N := N) (nx := nx) k s b
  rw [h1]
  exact List.mem_append_left _ h
theorem walk_twice (k : Nat) (s : List Int × List Int) (b : Int) : walkF N nx k (walkF N nx k s b) b = walkF N nx k s b := by
  cases k with
  | zero => rfl
  | succ k =>
    by_cases h : ¬ There N b ∨ b ∈ s.1
    · rw [walkF_skip h, walkF_skip h]
    · have hT : There N b := Classical.byContradiction fun h' => h (.inl h')
      have hM : b ∉ s.1 := fun h' => h (.inr h')
      refine walkF_skip (.inr ?_)
      rw [walkF_go hT hM]
      have fold : ∀ (l : List Int) (s : List Int × List Int), b ∈ s.1 → b ∈ (l.foldl (walkF N nx k) s).1 := by
        intro l
        induction l with
        | nil => intro s h; exact h
        | cons n l ih => intro s h; exact ih _ (walk_met h)
      exact fold _ _ (by simp)
end
/-- It is the same whether a block that is named twice is asked for once or twice. -/
theorem fold_next {N : Nat} {nx : Nat → List Int} (k : Nat) (s : List Int × List Int) (e : EndD) : (tos e).foldl (walkF N nx k) s = (nextL e).foldl (walkF N nx k) s := by
  unfold tos nextL tgts
  split
  · rfl
  · split
    · split
      · rename_i h
        simp only [List.map_cons, List.map_nil, List.foldl_cons, List.foldl_nil, ← h, walk_twice]
      · rfl
    · rfl
theorem walk_same (f : FuncD) (N : Nat) : ∀ (k : Nat) (s : List Int × List Int) (b : Int), walkF N (toF f) k s b = walkF N (nxF f) k s b
  | 0, s, b => rfl
  | k + 1, s, b => by
    have hf : walkF N (toF f) k = walkF N (nxF f) k := funext fun s => funext fun b => walk_same f N k s b
    by_cases h : ¬ There N b ∨ b ∈ s.1
    · rw [walkF_skip h, walkF_skip h]
    · have hT : There N b := Classical.byContradiction fun h' => h (.inl h')
      have hM : b ∉ s.1 := fun h' => h (.inr h')
      rw [walkF_go hT hM, walkF_go hT hM, hf]
      unfold toF
      rw [fold_next]
      rfl

section
variable {N : Nat} {nx : Nat → List Int}
/-- What a walk adds. -/
structure Adds (N : Nat) (nx : Nat → List Int) (s s' : List Int × List Int) (from_ : Int → Prop) (t u : List Int) : Prop where
  met : s'.1 = s.1 ++ t
  left : s'.2 = u ++ s.2
  perm : u.Perm t
  inv : Inv N s'.1
  pred : ∀ x ∈ t, from_ x ∨ ∃ p ∈ t, x ∈ nx p.toNat
  clos : ∀ p ∈ t, ∀ n ∈ nx p.toNat, There N n → n ∈ s'.1
theorem walk_adds : ∀ (k : Nat) (s : List Int × List Int) (b : Int), Inv N s.1 → N - s.1.length < k → ∃ t u, Adds N nx s (walkF N nx k s b) (fun x => x = b) t u ∧ (There N b → b ∈ (walkF N nx k s b).1)
  | 0, s, b, _, h => absurd h (by omega)
  | k + 1, s, b, hi, hk => by
    by_cases h : ¬ There N b ∨ b ∈ s.1
    · rw [walkF_skip h]
      exact ⟨[], [], ⟨by simp, by simp, List.Perm.nil, hi, fun x hx => by simp at hx, fun x hx => by simp at hx⟩, fun hT => by rcases h with h | h; exact absurd hT h; exact h⟩
    · have hT : There N b := Classical.byContradiction fun h' => h (.inl h')
      have hM : b ∉ s.1 := fun h' => h (.inr h')
      have fold : ∀ (l : List Int) (s : List Int × List Int), Inv N s.1 → N - s.1.length < k → ∃ t u, Adds N nx s (l.foldl (walkF N nx k) s) (fun x => x ∈ l) t u ∧ ∀ n ∈ l, There N n → n ∈ (l.foldl (walkF N nx k) s).1 := by
        intro l
        induction l with
        | nil => intro s hi hk; exact ⟨[], [], ⟨by simp, by simp, List.Perm.nil, hi, fun x hx => by simp at hx, fun x hx => by simp at hx⟩, fun n hn => by simp at hn⟩
        | cons n l ih =>
          intro s hi hk
          obtain ⟨t1, u1, a1, b1⟩ := walk_adds k s n hi hk
          obtain ⟨t2, u2, a2, b2⟩ := ih (walkF N nx k s n) a1.inv (by rw [a1.met, List.length_append]; omega)
          rw [List.foldl_cons]
          have sub : ∀ x, x ∈ (walkF N nx k s n).1 → x ∈ (l.foldl (walkF N nx k) (walkF N nx k s n)).1 := fun x hx => by rw [a2.met]; exact List.mem_append_left _ hx
          refine ⟨t1 ++ t2, u2 ++ u1, ⟨by rw [a2.met, a1.met, List.append_assoc], by rw [a2.left, a1.left, List.append_assoc], List.perm_append_comm.trans (a1.perm.append a2.perm), a2.inv, fun x hx => ?_, fun p hp m hm hT => ?_⟩, fun m hm hT => ?_⟩
          · rcases List.mem_append.1 hx with hx | hx
            · rcases a1.pred x hx with rfl | ⟨p, hp, h⟩
              · exact .inl (by simp)
              · exact .inr ⟨p, List.mem_append_left _ hp, h⟩
            · rcases a2.pred x hx with h | ⟨p, hp, h⟩
              · exact .inl (by simp [h])
              · exact .inr ⟨p, List.mem_append_right _ hp, h⟩
          · rcases List.mem_append.1 hp with hp | hp
            · exact sub _ (a1.clos p hp m hm hT)
            · exact a2.clos p hp m hm hT
          · rcases List.mem_cons.1 hm with rfl | hm
            · exact sub _ (b1 hT)
            · exact b2 m hm hT
      have hroom := hi.room hT hM
      obtain ⟨t, u, a, c⟩ := fold (nx b.toNat) (s.1 ++ [b], s.2) (hi.more hT hM) (by simp; omega)
      rw [walkF_go hT hM]
      refine ⟨b :: t, b :: u, ⟨by simp only; rw [a.met]; simp, by simp only; rw [a.left]; rfl, a.perm.cons b, a.inv, fun x hx => ?_, fun p hp n hn hTn => ?_⟩, fun _ => by simp only; rw [a.met]; simp⟩
      · rcases List.mem_cons.1 hx with rfl | hx
        · exact .inl rfl
        · rcases a.pred x hx with h | ⟨p, hp, h⟩
          · exact .inr ⟨b, by simp, h⟩
          · exact .inr ⟨p, by simp [hp], h⟩
      · rcases List.mem_cons.1 hp with rfl | hp
        · exact c n hn hTn
        · exact a.clos p hp n hn hTn

/-! ## The walk by a list -/
/-- The first block that is there, and was not met. -/
def firstUn (N : Nat) (met : List Int) (l : List Int) : Option Int := l.find? fun n => decide (There N n ∧ n ∉ met)
/-- A walk by a list (the last one first): it tells all that are left, F in all. -/
inductive Runs (N : Nat) (to_ : Nat → List Int) : List Int → List Int → List Int → List Int → Prop
  | done (met F : List Int) : Runs N to_ [] met F F
  | push {b n : Int} {way met left F : List Int} : firstUn N met (to_ b.toNat) = some n → Runs N to_ (n :: b :: way) (met ++ [n]) left F → Runs N to_ (b :: way) met left F
  | pop {b : Int} {way met left F : List Int} : firstUn N met (to_ b.toNat) = none → Runs N to_ way met (left ++ [b]) F → Runs N to_ (b :: way) met left F
theorem runs_walk : ∀ (k : Nat) (s : List Int × List Int) (b : Int) (way F : List Int), Inv N s.1 → N - s.1.length < k → There N b → b ∉ s.1 → Runs N nx way (walkF N nx k s b).1 (walkF N nx k s b).2.reverse F → Runs N nx (b :: way) (s.1 ++ [b]) s.2.reverse F
  | 0, s, b, _, _, _, h, _, _, _ => absurd h (by omega)
  | k + 1, s, b, way, F, hi, hk, hT, hM, hr => by
    rw [walkF_go hT hM] at hr
    have scan : ∀ (l pre : List Int) (s : List Int × List Int), nx b.toNat = pre ++ l → (∀ x ∈ pre, ¬ There N x ∨ x ∈ s.1) → Inv N s.1 → N - s.1.length < k → Runs N nx way (l.foldl (walkF N nx k) s).1 (b :: (l.foldl (walkF N nx k) s).2).reverse F → Runs N nx (b :: way) s.1 s.2.reverse F := by
      intro l
      induction l with
      | nil =>
        intro pre s hp hpre hi hk hr
        refine .pop ?_ (by simpa using hr)
        unfold firstUn
        rw [List.find?_eq_none]
        intro x hx
        rw [hp, List.append_nil] at hx
        have := hpre x hx
        simp only [decide_eq_true_eq]
        intro h
        rcases this with h' | h'
        · exact h' h.1
        · exact h.2 h'
      | cons n l ih =>
        intro pre s hp hpre hi hk hr
        rw [List.foldl_cons] at hr
        by_cases h : ¬ There N n ∨ n ∈ s.1
        · rw [walkF_skip h] at hr
          exact ih (pre ++ [n]) s (by rw [hp]; simp) (fun x hx => by
            rcases List.mem_append.1 hx with hx | hx
            · exact hpre x hx
            · simp at hx; subst hx; exact h) hi hk hr
        · have hTn : There N n := Classical.byContradiction fun h' => h (.inl h')
          have hMn : n ∉ s.1 := fun h' => h (.inr h')
          obtain ⟨t, u, a, c⟩ := walk_adds (nx := nx) k s n hi hk
          refine .push (n := n) ?_ ?_
          · unfold firstUn
            rw [hp, List.find?_append, List.find?_eq_none.2, Option.none_or, List.find?_cons_of_pos]
            · simp [hTn, hMn]
            · intro x hx
              have := hpre x hx
              simp only [decide_eq_true_eq]
              intro h
              rcases this with h' | h'
              · exact h' h.1
              · exact h.2 h'
          · refine runs_walk k s n (b :: way) F hi hk hTn hMn ?_
            refine ih (pre ++ [n]) (walkF N nx k s n) (by rw [hp]; simp) (fun x hx => ?_) a.inv (by rw [a.met, List.length_append]; omega) hr
            rcases List.mem_append.1 hx with hx | hx
            · rcases hpre x hx with h' | h'
              · exact .inl h'
              · exact .inr (walk_met h')
            · simp at hx; subst hx; exact .inr (c hTn)
    have hroom := hi.room hT hM
    exact scan (nx b.toNat) [] (s.1 ++ [b], s.2) rfl (fun x hx => by simp at hx) (hi.more hT hM) (by simp; omega) hr
end

/-! ## The order -/
def walkAll (f : FuncD) : List Int × List Int := walkF f.blocks.length (nxF f) (f.blocks.length + 1) ([], []) 0
def orderL (f : FuncD) : List Int := (walkAll f).2
theorem runs_all (f : FuncD) (h : 0 < f.blocks.length) : Runs f.blocks.length (toF f) [0] [0] [] (orderL f).reverse := by
  have hw : walkAll f = walkF f.blocks.length (toF f) (f.blocks.length + 1) ([], []) 0 := (walk_same f _ _ _ _).symm
  have := runs_walk (N := f.blocks.length) (nx := toF f) (f.blocks.length + 1) ([], []) 0 [] (orderL f).reverse Inv.nil (by simp) ⟨Int.le_refl _, by omega⟩ (by simp) (by unfold orderL; rw [hw]; exact .done _ _)
  simpa using this
structure Ordered (f : FuncD) (L : List Int) : Prop where
  nodup : L.Nodup
  there : ∀ x ∈ L, There f.blocks.length x
  pred : ∀ x ∈ L, x = 0 ∨ ∃ p ∈ L, x ∈ nxF f p.toNat
  clos : ∀ p ∈ L, ∀ n ∈ nxF f p.toNat, There f.blocks.length n → n ∈ L
theorem order_facts (f : FuncD) : Ordered f (orderL f) := by
  obtain ⟨t, u, a, c⟩ := walk_adds (N := f.blocks.length) (nx := nxF f) (f.blocks.length + 1) ([], []) 0 Inv.nil (by simp)
  have h1 : (walkAll f).1 = t := by have := a.met; simpa [walkAll] using this
  have h2 : orderL f = u := by have := a.left; simpa [orderL, walkAll] using this
  have hinv : Inv f.blocks.length t := by rw [← h1]; exact a.inv
  rw [h2]
  refine ⟨a.perm.nodup_iff.2 hinv.1, fun x hx => hinv.2 x (a.perm.mem_iff.1 hx), fun x hx => ?_, fun p hp n hn hT => ?_⟩
  · rcases a.pred x (a.perm.mem_iff.1 hx) with h | ⟨p, hp, h⟩
    · exact .inl h
    · exact .inr ⟨p, a.perm.mem_iff.2 hp, h⟩
  · have := a.clos p (a.perm.mem_iff.1 hp) n hn hT
    exact a.perm.mem_iff.2 (by rw [← h1]; exact this)
theorem order_nil {f : FuncD} (h : f.blocks.length = 0) : orderL f = [] := by
  have hT : ¬ There f.blocks.length 0 := fun hT => by have := hT.2; omega
  unfold orderL walkAll
  rw [walkF_skip (.inl hT)]
theorem order_head {f : FuncD} (h : 0 < f.blocks.length) : ∃ r, orderL f = 0 :: r := by
  unfold orderL walkAll
  rw [walkF_go ⟨Int.le_refl _, by omega⟩ (by simp)]
  exact ⟨_, rfl⟩
theorem order_len (f : FuncD) : (orderL f).length ≤ f.blocks.length := by
  have h := order_facts f
  exact Inv.len ⟨h.nodup, h.there⟩
end Go.Proofs.Ytgnfinojnmkkkaa

/- Layer 7: package cfg's targets, one by one: the contract of the iterator; which blocks are there; whether a number is in a list. -/
namespace Go.Proofs.Ytgnfinojnmkkkaa
open Go.RowKit
set_option linter.unusedVariables false
set_option linter.unusedSimpArgs false
attribute [local go_sem] Oper.semAt_some

def thereB (n : Nat) (z : Int) : Bool := decide (There n z)
/-- A function by value. -/
abbrev fnV (r : Int) (a : Option Addr) (n c : Nat) : Value := .agg #[.int .i64 r, .slice a n c]
def TherePost (n : Nat) (z : Int) (w : World) (e : Ending) (w' : World) : Prop := e = .returned (.bool (thereB n z)) ∧ Below w.heap.size w w'
/-- A target, its list as it lies. -/
abbrev TgV := Int × Option Addr × Nat × Nat
/-- Where an end goes, its lists as they lie. -/
def tgV (K T E : Int) (la : Option Addr) (ln lc : Nat) (ma : Option Addr) (mn mc : Nat) : List TgV := if K = 0 then [(T, la, ln, lc)] else if K = 1 then [(T, la, ln, lc), (E, ma, mn, mc)] else []
theorem tgV_len (K T E : Int) (la : Option Addr) (ln lc : Nat) (ma : Option Addr) (mn mc : Nat) : (tgV K T E la ln lc ma mn mc).length ≤ 2 := by
  unfold tgV
  repeat' split
  all_goals simp
theorem tgV_tos (e : EndD) (la : Option Addr) (ln lc : Nat) (ma : Option Addr) (mn mc : Nat) : (tgV e.K e.To e.Else la ln lc ma mn mc).map (·.1) = tos e := by
  unfold tgV tos tgts
  repeat' split
  all_goals simp_all
abbrev encT (x : TgV) : Array Value := #[.agg #[.int .i64 x.1, .slice x.2.1 x.2.2.1 x.2.2.2]]
/-- What a round keeps for the iterator. -/
structure KeptT (b : Nat) (W W' : World) : Prop where
  walks : KeepsWalks W W'
  cells : ∀ j, W'.cell? ⟨b, j, none⟩ = W.cell? ⟨b, j, none⟩
theorem KeptT.refl (b : Nat) (W : World) : KeptT b W W := ⟨KeepsWalks.refl W, fun _ => rfl⟩
theorem KeptT.trans {b : Nat} {A B C : World} (h : KeptT b A B) (k : KeptT b B C) : KeptT b A C := ⟨h.walks.trans k.walks, fun j => (k.cells j).trans (h.cells j)⟩
theorem keptT_putObj {b n0 : Nat} (h1 : b < n0) (W : World) (l : Nat) (o o' : Obj) (hl : n0 ≤ l) (ho : W.heap[l]? = some o) (_ : o.isCells = false) (hw : o.isWalk = false) : KeptT b W (W.putObj l o') :=
  ⟨KeepsWalks.putObj _ ho hw, fun j => by simp only [World.cell?, World.putObj_heap_other (show b ≠ l by omega)]⟩
end Go.Proofs.Ytgnfinojnmkkkaa

/- A list of numbers that the call makes, in a box of its own, in the rounds of a range over a function: one more, and what else stands. Nothing of the program is named here. -/
namespace Go.Proofs.Ytgnfinojnmkkkaa
open Go.RowKit
set_option linter.unusedVariables false
theorem OwnsI.grownRow {W W' : World} {B : Nat} {e : TypeId} {v : Value} {Z : List Int} {row : Option Nat} (h : OwnsI W B e v Z) (hg : W.grownBy W' row) (hr : ∀ r, row = some r → ∃ o : Obj, W.heap[r]? = some o ∧ o.isCells = false) : OwnsI W' B e v Z := by
  refine World.ownsRow.kept h hg ?_
  rcases h.2 with ⟨he, _⟩ | ⟨g, cap, cur, he, _, hgb, _⟩
  · exact .inl (by rw [he]; rfl)
  · refine .inr fun e' => ?_
    obtain ⟨o, ho, hc⟩ := hr g (by rw [← e', he]; rfl)
    rw [hgb] at ho; cases ho; cases hc
theorem Boxed.grownRow {W W' : World} {B : Nat} {t : TypeId} {v : Value} {row : Option Nat} (h : Boxed W B t v) (hg : W.grownBy W' row) (hr : ∀ r, row = some r → ∃ o : Obj, W.heap[r]? = some o ∧ o.isCells = false) : Boxed W' B t v := by
  refine h.kept hg fun e => ?_
  obtain ⟨o, ho, hc⟩ := hr B e.symm
  have h' : W.heap[B]? = _ := h
  rw [h'] at ho; cases ho; cases hc
theorem cells_grownRow {W W' : World} {B : Nat} {C : Array Value} {t : TypeId} {m : Nat × Nat} {row : Option Nat} (h : W.heap[B]? = some (.cells C t m)) (hg : W.grownBy W' row) (hr : ∀ r, row = some r → ∃ o : Obj, W.heap[r]? = some o ∧ o.isCells = false) : W'.heap[B]? = some (.cells C t m) := by
  refine (hg.block B (Array.getElem?_eq_some_iff.1 h).1 fun e => ?_).trans h
  obtain ⟨o, ho, hc⟩ := hr B e.symm
  rw [h] at ho; cases ho; cases hc
theorem KeepsOthers.of_off {X : Nat → Prop} {W W' : World} (h : Off X W W') (hX : ∀ i, X i → ∀ o, W.heap[i]? = some o → o.isCells = true) : KeepsOthers W W' :=
  ⟨h.size, fun k o hk ho => by
    by_cases hx : X k
    · rw [hX k hx o hk] at ho; cases ho
    · exact (h.block k (Array.getElem?_eq_some_iff.1 hk).1 hx).trans hk⟩
theorem OwnsI.isCells {W : World} {B : Nat} {e : TypeId} {v : Value} {Z : List Int} (h : OwnsI W B e v Z) {i : Nat} (hi : v.ownBlock = some i) {o : Obj} (ho : W.heap[i]? = some o) : o.isCells = true := by
  rcases h.2 with ⟨he, _⟩ | ⟨g, cap, cur, he, _, hgb, _⟩
  · subst he; simp [Value.ownBlock] at hi
  · subst he
    obtain rfl : g = i := by simpa [Value.ownBlock] using hi
    rw [hgb] at ho; cases ho; rfl
/-- Only the box B and the list's own array turn. -/
def PushX (B : Nat) (v : Value) (i : Nat) : Prop := i = B ∨ v.ownBlock = some i
/-- A number behind the others, in a list in a box. -/
theorem push_box {W U w1 : World} {B B0 : Nat} {t e : TypeId} {v v' : Value} {Z : List Int} {z : Int} (hbx : Boxed W B t v) (hown : OwnsI W B0 e v Z) (hBB : B < B0) (hU : Below W.heap.size W U) (ho : OwnsI w1 B0 e v' (Z ++ [z])) (hg : U.grownBy w1 v.ownBlock) :
    Boxed w1 B t v ∧ Boxed (w1.setCell ⟨B, 0, none⟩ v') B t v' ∧ OwnsI (w1.setCell ⟨B, 0, none⟩ v') B0 e v' (Z ++ [z]) ∧ KeepsOthers W (w1.setCell ⟨B, 0, none⟩ v') ∧ Off (PushX B v) W (w1.setCell ⟨B, 0, none⟩ v') := by
  have hlt : B < W.heap.size := hbx.lt
  have hoff1 : Off (PushX B v) W w1 := (Off.since hU).grown hg fun k hk => .inl (.inr hk)
  have hneq : v.ownBlock ≠ some B := fun e => by have := (hown.lt B e).1; omega
  have hbU : Boxed U B t v := (hU.block B hlt).trans hbx
  have hb1 : Boxed w1 B t v := hbU.kept hg (fun e => hneq e.symm)
  have hoff : Off (PushX B v) W (w1.setCell ⟨B, 0, none⟩ v') := hoff1.setCell (.inl (.inl rfl)) v'
  refine ⟨hb1, hb1.set v', ho.setCell _ _ hBB, KeepsOthers.of_off hoff fun i hi o hio => ?_, hoff⟩
  rcases hi with rfl | hi
  · have h' : W.heap[i]? = _ := hbx
    rw [h'] at hio; cases hio; rfl
  · exact hown.isCells hi hio
theorem wpListIn_append_num {F : Fence} {n : Nat} {P : Program} (w : World) {ops : Array Oper} {rest : List Oper} {o : Oper} {a : Act} {Q : Exit → Act → World → Prop} (hgd : o.guard = none) (s x : Operand) (t : TypeId)
    (ho : o.op = .call { callee := .builtin .append, args := #[s, x], argTypes := #[t, t] }) (e : TypeId) (ht : P.underlying t = some (.slice e))
    (hinfo : (P.info? e).map (fun i => (i.zero, i.size, i.bytes)) = some (some (.int .i64 0), 1, 8))
    (B : Nat) (v : Value) (Z : List Int) (hs : a.eval s = v) (hown : OwnsI w B e v Z) (hB : B ≤ w.heap.size)
    (C : Array Value) (c g : Nat) (z : Int) (hx : a.eval x = .slice (some ⟨g, 0, none⟩) 1 c) (hg : g = w.heap.size) (hC : C = #[.int .i64 z])
    (hlen : (Z.length + 1) * 8 ≤ 140737488355328)
    (h : ∀ va vn vc w', OwnsI w' B e (.slice va vn vc) (Z ++ [z]) → (w.alloc (.cells C e)).grownBy w' v.ownBlock → wpListIn F n P ops Q rest (a.put o.dst (.slice va vn vc)) w') : wpListIn F n P ops Q (o :: rest) a (w.alloc (.cells C e)) := by
  obtain ⟨i0, hi, hz0, hz1, hz2⟩ := info_parts hinfo
  subst hC hg
  refine wpListIn_append_own _ hgd s x t ho B e i0 (.int .i64 0) 1 8 ht hi hz0 hz1 hz2 rfl (by decide) v Z.length (Z.map numV) hs (World.ownsRow.alloc hown _) ⟨w.heap.size, 0, none⟩ 1 c [.int .i64 z] hx rfl (fun j u hu => ?_) (by intro u hu; simp at hu; subst hu; rfl) (by unfold maxLen; omega) hlen (by simp; omega) ?_
  · rw [addr_plain, Nat.zero_add, World.cell?_alloc_mark]
    simpa using hu
  · intro v' w' hown' hgrow _
    have hown2 : OwnsI w' B e v' (Z ++ [z]) := by
      show w'.ownsRow B e 1 v' (Z ++ [z]).length ((Z ++ [z]).map numV)
      rw [List.map_append, List.length_append]
      exact hown'
    obtain ⟨va, vn, vc, rfl, _⟩ := hown2.nums
    exact h va vn vc w' hown2 hgrow
end Go.Proofs.Ytgnfinojnmkkkaa

/- Layer 7: whether a number is in a list; package cfg's Next: a range over its targets. -/
namespace Go.Proofs.Ytgnfinojnmkkkaa
open Go.RowKit
set_option linter.unusedVariables false
set_option linter.unusedSimpArgs false
attribute [local go_sem] Oper.semAt_some

def inL (Z : List Int) (z : Int) : Bool := decide (z ∈ Z)
def IndexPost (Z : List Int) (z : Int) (w : World) (e : Ending) (w' : World) : Prop := ∃ k : Int, e = .returned (.int .i64 k) ∧ (decide (0 ≤ k) = inL Z z) ∧ -1 ≤ k ∧ k ≤ 140737488355328 ∧ w = w'
theorem take_not {Z : List Int} {z : Int} {i : Nat} (h : i < Z.length) (h1 : z ∉ Z.take i) (h2 : Z[i] ≠ z) : z ∉ Z.take (i + 1) := by
  rw [List.take_succ_eq_append_getElem h, List.mem_append, List.mem_singleton]
  intro h'
  rcases h' with h' | h'
  · exact h1 h'
  · exact h2 h'.symm
/-- Each once. -/
def addN (Z : List Int) (z : Int) : List Int := if inL Z z then Z else Z ++ [z]
def addAll (l : List Int) : List Int := l.foldl addN []
theorem addAll_snoc (l : List Int) (z : Int) : addAll (l ++ [z]) = addN (addAll l) z := by simp [addAll]
theorem addAll_tos (e : EndD) : addAll (tos e) = nextL e := by
  unfold tos tgts nextL
  split
  · simp [addAll, addN, inL]
  · split
    · split
      · rename_i h; simp [addAll, addN, inL, h]
      · rename_i h; have h' : ¬ e.Else = e.To := fun h' => h h'.symm; simp [addAll, addN, inL, h']
    · rfl
theorem addAll_len (l : List Int) : (addAll l).length ≤ l.length := by
  have key : ∀ (l Z : List Int), (l.foldl addN Z).length ≤ Z.length + l.length := by
    intro l
    induction l with
    | nil => intro Z; simp
    | cons z l ih =>
      intro Z
      have h1 := ih (addN Z z)
      have h2 : (addN Z z).length ≤ Z.length + 1 := by unfold addN; split <;> simp
      simp only [List.foldl_cons, List.length_cons]
      omega
  have := key l []
  simpa [addAll] using this

theorem KeptT.off {b : Nat} {X : Nat → Prop} {W W' : World} (h : Off X W W') (hk : KeepsOthers W W') (hb : b < W.heap.size) (hx : ¬ X b) : KeptT b W W' := ⟨hk.walks, fun j => h.cell (p := ⟨b, j, none⟩) hb hx⟩
theorem KeptT.alloc {b : Nat} {W : World} (o : Obj) (hb : b < W.heap.size) : KeptT b W (W.alloc o) := KeptT.off (X := fun _ => False) (Off.since ((Below.refl _ W).alloc (Nat.le_refl _) o)) (KeepsOthers.alloc W o) hb (fun h => h)

end Go.Proofs.Ytgnfinojnmkkkaa

/- A range over a function whose iterator keeps a state of its own in memory, which it turns between two rounds: what the consumer owns (a box, and the row that lies in it) the iterator leaves alone, and the consumer leaves all else. No round leaves the loop. Nothing of the program is named here. -/
namespace Go.Proofs.Ytgnfinojnmkkkaa
open Go.RowKit
set_option linter.unusedVariables false

/-- The consumer's own blocks: its box, and the row that the box's value names. -/
def Owns (B : Nat) (t : TypeId) (W : World) (i : Nat) : Prop := i = B ∨ ∃ v, Boxed W B t v ∧ v.ownBlock = some i
/-- They are cells. -/
def Lies (B : Nat) (t : TypeId) (W : World) : Prop := ∀ i, Owns B t W i → ∃ o : Obj, W.heap[i]? = some o ∧ o.isCells = true
theorem Lies.lt {B : Nat} {t : TypeId} {W : World} (h : Lies B t W) {i : Nat} (hi : Owns B t W i) : i < W.heap.size := by
  obtain ⟨o, ho, _⟩ := h i hi
  exact (Array.getElem?_eq_some_iff.1 ho).1
theorem Lies.not {B : Nat} {t : TypeId} {W : World} (h : Lies B t W) {i : Nat} {o : Obj} (hi : W.heap[i]? = some o) (ho : o.isCells = false) : ¬ Owns B t W i := fun hx => by
  obtain ⟨o', ho', hc⟩ := h i hx
  rw [hi] at ho'; cases ho'; rw [ho] at hc; cases hc
theorem Owns.congr {B : Nat} {t : TypeId} {W W' : World} (h : W'.heap[B]? = W.heap[B]?) (i : Nat) : Owns B t W' i ↔ Owns B t W i := by
  unfold Owns Boxed
  rw [h]
/-- What a round leaves as it was: all that the consumer does not own; and what it owns then is new, or was its own. -/
structure KeepX (B : Nat) (t : TypeId) (W W' : World) : Prop where
  size : W.heap.size ≤ W'.heap.size
  same : ∀ i, i < W.heap.size → ¬ Owns B t W i → W'.heap[i]? = W.heap[i]?
  new : ∀ i, Owns B t W' i → i < W.heap.size → Owns B t W i
theorem KeepX.refl (B : Nat) (t : TypeId) (W : World) : KeepX B t W W := ⟨Nat.le_refl _, fun _ _ _ => rfl, fun _ h _ => h⟩
theorem KeepX.trans {B : Nat} {t : TypeId} {X Y Z : World} (h : KeepX B t X Y) (k : KeepX B t Y Z) : KeepX B t X Z :=
  ⟨Nat.le_trans h.size k.size, fun i hi hn => (k.same i (Nat.lt_of_lt_of_le hi h.size) (fun hy => hn (h.new i hy hi))).trans (h.same i hi hn), fun i hz hi => h.new i (k.new i hz (Nat.lt_of_lt_of_le hi h.size)) hi⟩
/-- What the iterator may do between two rounds, from the side of the consumer: new blocks, and the turn of one that was made since (from block n on) and is none of the consumer's. -/
def AbidesX {β : Type} (n B : Nat) (t : TypeId) (J : β → World → Prop) : Prop :=
  ∀ s W W' row, J s W → W.grownBy W' row → (∀ r, row = some r → n ≤ r ∧ ¬ Owns B t W r) → J s W'
theorem AbidesX.alloc {β : Type} {n B : Nat} {t : TypeId} {J : β → World → Prop} (h : AbidesX n B t J) {s : β} {W : World} (o : Obj) (hs : J s W) : J s (W.alloc o) :=
  h s W _ none hs (World.grownBy_alloc W o none) (fun r e => by cases e)
theorem AbidesX.putObj {β : Type} {n B : Nat} {t : TypeId} {J : β → World → Prop} (h : AbidesX n B t J) {s : β} {W : World} {l : Nat} (o' : Obj) (hs : J s W) (hl : n ≤ l) (hn : ¬ Owns B t W l) : J s (W.putObj l o') :=
  h s W _ (some l) hs (grownBy_putObj' W l o') (fun r e => by cases e; exact ⟨hl, hn⟩)
theorem AbidesX.setCell {β : Type} {n B : Nat} {t : TypeId} {J : β → World → Prop} (h : AbidesX n B t J) {s : β} {W : World} {b : Nat} (v : Value) (hs : J s W) (hl : n ≤ b) (hn : ¬ Owns B t W b) : J s (W.setCell ⟨b, 0, none⟩ v) :=
  h s W _ (some b) hs (grownBy_setCell' W b v) (fun r e => by cases e; exact ⟨hl, hn⟩)
/-- An iterator with a state of its own: its contract; V: what each that comes is. -/
def SeqX {α : Type} (F : Fence) (n : Nat) (P : Program) (g : Nat) (lb : Array Value) (encs : α → Array Value) (B : Nat) (t : TypeId) (S : List α → Prop) (V : α → Prop) (N : Nat) (w : World) : Prop :=
  ∀ (l : Nat) (J : List α → World → Prop) (W : World), Below w.heap.size w W → Lies B t W → AbidesX W.heap.size B t J →
    (∀ pre x W1, J pre W1 → V x → pre.length < N → YieldAt F (n - 1) P l (encs x) W1 fun e W' => e = .returned (.bool true) ∧ J (pre ++ [x]) W' ∧ KeepX B t W1 W' ∧ Lies B t W') →
    J [] W →
    CallsIn F n P g (#[.func (.yield l) #[] #[]] ++ lb) W fun e W' => (∃ v, e = .returned v) ∧ ∃ xs, S xs ∧ J xs W'
/-- The end of a round's body: it goes on. -/
def postX {α : Type} (B : Nat) (t : TypeId) (I : List α → World → Prop) (xs : List α) (W : World) : Exit → Act → World → Prop
  | .normal, _, W' => KeepX B t W W' ∧ I xs W'
  | _, _, _ => False

theorem wpIn_rangeFunc_X {F : Fence} {n : Nat} {P : Program} {α : Type} {g : Operand} {ps : Array Tmp} {assign body : Code} {Q : Exit → Act → World → Prop} {a : Act} {w : World}
    (hro : F.round = none) (h1 : 1 ≤ n) {gf : Nat} {lb : Array Value} (hg : a.eval g = .func (.func gf) #[] lb) (hFg : F.fn gf) (eg : ∀ args w, (callFunc gf args).run P w = .ok (.enter gf args) w)
    {encs : α → Array Value} {B : Nat} {t : TypeId} {S : List α → Prop} {V : α → Prop} {N : Nat} {w0 : World} (hseq : SeqX F (n - 1) P gf lb encs B t S V N w0) (hb0 : Below w0.heap.size w0 w) (hps : ∀ x, (encs x).size = ps.size)
    (I : List α → World → Prop) (hL : ∀ s W, I s W → Lies B t W) (hI : AbidesX w.heap.size B t I) (h0 : I [] w)
    (Ax : α → Act → World → Prop) (hAx : ∀ x a', AbidesX w.heap.size B t (fun (_ : Unit) W => Ax x a' W))
    (hassign : ∀ (l : Nat) (pre : List α) (x : α) (W : World) (K : Act → World → Prop), I pre W → (∀ a' W', KeepX B t W W' → I pre W' → Ax x a' W' → K a' W') →
      assign.wpIn (F.inRound l) (n - 1 - 1) P (Exit.then K (fun _ _ _ => False)) { tmps := (ps.zip (encs x)).foldl (fun t (p, v) => t.setIfInBounds p v) a.tmps, defers := [] } W)
    (hbody : ∀ (l : Nat) (pre : List α) (x : α) (a' : Act) (W : World), w.heap.size ≤ l → (∃ r, W.heap[l]? = some (.loop r)) → I pre W → Ax x a' W → V x → pre.length < N → body.wpIn (F.inRound l) (n - 1 - 1) P (postX B t I (pre ++ [x]) W) a' W)
    (hdone : ∀ (D : Nat) (xs : List α) (W : World), w.heap.size ≤ D → S xs → I xs W → W.heap[D]? = some (.deferred (some [])) → Q .normal { a with defers := { target := .collected D, args := #[] } :: a.defers } W) :
    (Code.rangeFunc g ps assign body).wpIn F n P Q a w := by
  refine wpIn_rangeFunc ?_
  intro fn hfn
  rw [hro]
  obtain ⟨rc, hrc⟩ : ∃ rc : LoopState → Loop, rc = fun st => { state := st, pending := none, fn, tmps := a.tmps, params := ps, assign, body, defers := w.heap.size } := ⟨_, rfl⟩
  have e1 : ((w.alloc (.deferred (some []))).alloc (.loop (rc .ready))).heap[w.heap.size + 1]? = some (.loop (rc .ready)) := by
    have := World.alloc_heap_new (w.alloc (.deferred (some []))) (.loop (rc .ready))
    rwa [World.size_alloc] at this
  have e2 : ((w.alloc (.deferred (some []))).alloc (.loop (rc .ready))).heap[w.heap.size]? = some (.deferred (some [])) :=
    (Below.heap_alloc _ _ _ (by simp)).trans (World.alloc_heap_new w _)
  have e3 : w.heap.size + 2 = ((w.alloc (.deferred (some []))).alloc (.loop (rc .ready))).heap.size := by simp
  have e4 : Below w0.heap.size w0 ((w.alloc (.deferred (some []))).alloc (.loop (rc .ready))) :=
    hb0.trans ((((Below.refl _ w).alloc (Nat.le_refl _) _).alloc (by simp) _).mono hb0.size)
  have e5 : I [] ((w.alloc (.deferred (some []))).alloc (.loop (rc .ready))) := hI.alloc _ (hI.alloc _ h0)
  have hen := run_enterLoop_outer (P := P) (w := w) fn a.tmps ps assign body
  rw [show (Loop.mk .ready none fn a.tmps ps assign body w.heap.size) = rc .ready by rw [hrc]] at hen
  generalize (w.alloc (.deferred (some []))).alloc (.loop (rc .ready)) = W1 at hen e1 e2 e3 e4 e5
  refine ⟨w.heap.size + 1, [{ target := .collected w.heap.size, args := #[] }], W1, { target := .fn (.func gf) lb, args := #[.func (.yield (w.heap.size + 1)) #[] #[]] }, W1, gf,
    #[.func (.yield (w.heap.size + 1)) #[] #[]] ++ lb, W1, hen, ?_, ?_, ?_, fun _ => h1, ?_⟩
  · simp only [resolve, hg]
    simp [go_sem]
  · intro f' hf'; simp [Target.leads] at hf'; subst hf'; exact hFg
  · simp [invoke, go_sem, eg]
  -- what lies at the two blocks of book-keeping stays, for the consumer and for the iterator
  have book : ∀ {X Y : World} {row : Option Nat} {k : Nat} {o : Obj}, k < W1.heap.size → X.heap[k]? = some o → X.grownBy Y row → (∀ r, row = some r → W1.heap.size ≤ r ∧ ¬ Owns B t X r) → Y.heap[k]? = some o := by
    intro X Y row k o hk ho hg hr
    refine (hg.block k (Array.getElem?_eq_some_iff.1 ho).1 (fun e => ?_)).trans ho
    have := (hr k e.symm).1
    omega
  refine (hseq (w.heap.size + 1) (fun pre W => I pre W ∧ W.heap[w.heap.size + 1]? = some (.loop (rc .ready)) ∧ W.heap[w.heap.size]? = some (.deferred (some []))) W1 e4 (hL _ _ e5)
    (fun s X Y row hs hg hr => ⟨hI s X Y row hs.1 hg (fun r e => ⟨by have := (hr r e).1; omega, (hr r e).2⟩), book (by omega) hs.2.1 hg hr, book (by omega) hs.2.2 hg hr⟩) ?_ ⟨e5, e1, e2⟩).mono ?_
  · rintro pre x W ⟨hi, hl, hk⟩ hvx hlen
    have hy := run_yield (P := P) (args := encs x) hl (by rw [hrc]; exact hps x)
    rw [hrc] at hy
    refine ⟨fn, _, assign, body, hy, roundIn_of_wpIn hfn (hassign _ pre x W _ hi ?_)⟩
    clear hy
    intro a' Wa hka hia hax
    have hn1 := (hL _ _ hi).not hl rfl
    have hn2 := (hL _ _ hi).not hk rfl
    have hla : Wa.heap[w.heap.size + 1]? = some (.loop (rc .ready)) := (hka.same _ (Array.getElem?_eq_some_iff.1 hl).1 hn1).trans hl
    have hka2 : Wa.heap[w.heap.size]? = some (.deferred (some [])) := (hka.same _ (Array.getElem?_eq_some_iff.1 hk).1 hn2).trans hk
    have hm1 := (hL _ _ hia).not hla rfl
    have hm2 := (hL _ _ hia).not hka2 rfl
    have hlta : w.heap.size + 1 < Wa.heap.size := (Array.getElem?_eq_some_iff.1 hla).1
    refine ⟨_, run_beginRound hla (by rw [hrc]), ?_⟩
    obtain ⟨Wb, hWb⟩ : ∃ Wb, Wa.putObj (w.heap.size + 1) (.loop { rc .ready with state := .busy }) = Wb := ⟨_, rfl⟩
    have hlb : Wb.heap[w.heap.size + 1]? = some (.loop { rc .ready with state := .busy }) := by rw [← hWb]; exact World.putObj_heap_same hlta
    have hob : ∀ k, k ≠ w.heap.size + 1 → Wb.heap[k]? = Wa.heap[k]? := fun k hk => by rw [← hWb]; exact World.putObj_heap_other hk
    have hsb : Wb.heap.size = Wa.heap.size := by rw [← hWb]; simp
    have hib : I pre Wb := by rw [← hWb]; exact hI.putObj _ hia (by omega) hm1
    have haxb : Ax x a' Wb := by rw [← hWb]; exact (hAx x a').putObj (s := ()) _ hax (by omega) hm1
    have hBne : B ≠ w.heap.size + 1 := fun e => hm1 (.inl e.symm)
    have howb : ∀ i, Owns B t Wb i ↔ Owns B t Wa i := Owns.congr (hob B hBne)
    rw [hWb]
    refine wpIn_mono (hbody _ pre x a' Wb (by omega) ⟨_, hlb⟩ hib haxb hvx hlen) ?_
    rintro e a3 W3 hp
    cases e with
    | normal =>
      obtain ⟨hk3, hi3⟩ := hp
      have hl3 : W3.heap[w.heap.size + 1]? = some (.loop { rc .ready with state := .busy }) := (hk3.same _ (by omega) (fun h => hm1 ((howb _).1 h))).trans hlb
      have hkd3 : W3.heap[w.heap.size]? = some (.deferred (some [])) := (hk3.same _ (by omega) (fun h => hm2 ((howb _).1 h))).trans ((hob _ (by omega)).trans hka2)
      have hn3 := (hL _ _ hi3).not hl3 rfl
      have hlt3 := (Array.getElem?_eq_some_iff.1 hl3).1
      have hen3 := run_endRound (P := P) none hl3
      have hB3 : B ≠ w.heap.size + 1 := fun e => hn3 (.inl e.symm)
      have how3 : ∀ i, Owns B t (W3.putObj (w.heap.size + 1) (.loop (rc .ready))) i ↔ Owns B t W3 i := Owns.congr (World.putObj_heap_other hB3)
      refine ⟨_, W3.putObj (w.heap.size + 1) (.loop (rc .ready)), by rw [hrc] at hen3 ⊢; exact hen3, rfl, ⟨hI.putObj _ hi3 (by omega) hn3, World.putObj_heap_same hlt3, (World.putObj_heap_other (by omega)).trans hkd3⟩, ?_, ?_⟩
      · refine hka.trans ⟨by have := hk3.size; simp; omega, fun i hi hn => ?_, fun i ho hi => ?_⟩
        · by_cases e : i = w.heap.size + 1
          · subst e; exact (World.putObj_heap_same hlt3).trans hla.symm
          · exact (World.putObj_heap_other e).trans ((hk3.same i (by omega) (fun h => hn ((howb i).1 h))).trans (hob i e))
        · exact (howb i).1 (hk3.new i ((how3 i).1 ho) (by omega))
      · intro i ho
        obtain ⟨o, h1, h2⟩ := hL _ _ hi3 i ((how3 i).1 ho)
        refine ⟨o, (World.putObj_heap_other (fun e => ?_)).trans h1, h2⟩
        subst e; rw [hl3] at h1; cases h1; cases h2
    | ret => exact hp.elim
    | exit id => exact hp.elim
    | goto t => exact hp.elim
    | panic ch => exact hp.elim
    | outgrown => exact hp.elim
  · rintro e W2 ⟨⟨v, rfl⟩, xs, hS, hi, hl, hk⟩
    have hn2 := (hL _ _ hi).not hl rfl
    have hend : (Instr.endLoop (w.heap.size + 1)).run P W2 = .ok none (W2.putObj (w.heap.size + 1) (.loop (rc .exhausted))) := by
      have := run_endLoop (P := P) hl (by rw [hrc]; simp)
      rw [hrc] at this ⊢
      exact this
    exact ⟨none, _, hend, hdone _ xs _ (Nat.le_refl _) hS (hI.putObj _ hi (by omega) hn2) ((World.putObj_heap_other (by omega)).trans hk)⟩
end Go.Proofs.Ytgnfinojnmkkkaa

/- 'append(l, z)' on a row of the call's own, and where its array then lies: where it lay, or in a new block. Nothing of the program is named here. -/
namespace Go.Proofs.Ytgnfinojnmkkkaa
open Go.RowKit
set_option linter.unusedVariables false
theorem append_where {P : Program} {w w' : World} {B : Nat} {t ty e : TypeId} {i0 : TypeInfo} (ht : P.underlying t = some (.slice e)) (hi : P.info? e = some i0) (hz0 : i0.zero = some (.int .i64 0)) (hz1 : i0.size = 1) (hz2 : i0.bytes = 8)
    {v v' : Value} {Z : List Int} (hown : OwnsI w B e v Z) {g c : Nat} {z : Int} (hnew : w.cell? ⟨g, 0, none⟩ = some (.int .i64 z)) (hlen : (Z.length + 1) * 8 ≤ 140737488355328)
    (hrun : (Builtin.append_ #[t, t] ty #[v, .slice (some ⟨g, 0, none⟩) 1 c]).run P w = .ok v' w') : ∀ i, v'.ownBlock = some i → v.ownBlock = some i ∨ w.heap.size ≤ i := by
  have hnews : ∀ (j : Nat) (u : Value), ([.int .i64 z] : List Value)[j]? = some u → w.cell? ((⟨g, 0, none⟩ : Addr).add j) = some u := by
    intro j u hu
    obtain ⟨hj, rfl⟩ := List.getElem?_eq_some_iff.1 hu
    simp only [List.length_cons, List.length_nil] at hj
    obtain rfl : j = 0 := by omega
    simpa [Addr.add] using hnew
  have h1 : ∀ u ∈ ([.int .i64 z] : List Value), u.oneCell' = true := by intro u hu; simp at hu; subst hu; rfl
  intro i hiv
  have hown0 : w.ownsRow B e 1 v Z.length (Z.map numV) := hown
  rcases hown0.2 with ⟨rfl, h0⟩ | ⟨g0, cap, cur, rfl, hB, hh, hn, hcap, hsz, htk⟩
  · obtain ⟨v2, w2, hr, ho, _⟩ := run_append_own (P := P) w w.heap.size t ty e i0 (.int .i64 0) 1 8 ht hi hz0 hz1 hz2 rfl (by decide) (.slice none 0 0) 0 [] (World.ownsRow_nil _ _ _ 1) ⟨g, 0, none⟩ 1 c [.int .i64 z] rfl hnews h1 (by unfold maxLen; omega) (by omega) (Nat.le_refl _)
    rw [hrun] at hr
    cases hr
    exact .inr (ho.lt i hiv).1
  · by_cases hf : Z.length + 1 ≤ cap
    · obtain ⟨w2, hr, _, _⟩ := run_append_fits (P := P) w B t ty e i0 1 ht hi hz1 g0 Z.length cap (Z.map numV) hown0 ⟨g, 0, none⟩ 1 c [.int .i64 z] rfl hnews h1 hf
      rw [hrun] at hr
      cases hr
      exact .inl hiv
    · have hr := run_append_grow (P := P) (w := w) t ty e i0 (.int .i64 0) ht hi hz0 ⟨g0, 0, none⟩ Z.length cap (Z.map numV) (by rw [hz1]; simp) (fun j u hj => World.ownsRow.cells hown0 rfl j u hj) ⟨g, 0, none⟩ 1 c [.int .i64 z] (by rw [hz1]; rfl) hnews (by omega) (by omega) (by rw [hz2]; exact growslice_fits (by omega) (by omega))
      rw [hrun] at hr
      cases hr
      simp only [Value.ownBlock, Option.some.injEq] at hiv
      exact .inr (by omega)
theorem wpListIn_append_numW {F : Fence} {n : Nat} {P : Program} (w : World) {ops : Array Oper} {rest : List Oper} {o : Oper} {a : Act} {Q : Exit → Act → World → Prop} (hgd : o.guard = none) (s x : Operand) (t : TypeId)
    (ho : o.op = .call { callee := .builtin .append, args := #[s, x], argTypes := #[t, t] }) (e : TypeId) (ht : P.underlying t = some (.slice e))
    (hinfo : (P.info? e).map (fun i => (i.zero, i.size, i.bytes)) = some (some (.int .i64 0), 1, 8))
    (B : Nat) (v : Value) (Z : List Int) (hs : a.eval s = v) (hown : OwnsI w B e v Z) (hB : B ≤ w.heap.size)
    (C : Array Value) (c g : Nat) (z : Int) (hx : a.eval x = .slice (some ⟨g, 0, none⟩) 1 c) (hg : g = w.heap.size) (hC : C = #[.int .i64 z])
    (hlen : (Z.length + 1) * 8 ≤ 140737488355328)
    (h : ∀ va vn vc w', OwnsI w' B e (.slice va vn vc) (Z ++ [z]) → (w.alloc (.cells C e)).grownBy w' v.ownBlock → (∀ i, (Value.slice va vn vc).ownBlock = some i → v.ownBlock = some i ∨ w.heap.size ≤ i) → wpListIn F n P ops Q rest (a.put o.dst (.slice va vn vc)) w') : wpListIn F n P ops Q (o :: rest) a (w.alloc (.cells C e)) := by
  obtain ⟨i0, hi, hz0, hz1, hz2⟩ := info_parts hinfo
  subst hC hg
  have hcell : (w.alloc (.cells #[.int .i64 z] e)).cell? ⟨w.heap.size, 0, none⟩ = some (.int .i64 z) := by rw [World.cell?_alloc_mark]; rfl
  have hown1 : OwnsI (w.alloc (.cells #[.int .i64 z] e)) B e v Z := World.ownsRow.alloc hown _
  refine wpListIn_plain hgd fun K hK' => ?_
  obtain ⟨v', w', hrun, r1, r2, _⟩ := run_append_own (P := P) (w.alloc (.cells #[.int .i64 z] e)) B t o.type e i0 (.int .i64 0) 1 8 ht hi hz0 hz1 hz2 rfl (by decide) v Z.length (Z.map numV) hown1 ⟨w.heap.size, 0, none⟩ 1 c [.int .i64 z] rfl (fun j u hu => by
    obtain ⟨hj, rfl⟩ := List.getElem?_eq_some_iff.1 hu
    simp only [List.length_cons, List.length_nil] at hj
    obtain rfl : j = 0 := by omega
    simp [Addr.add]) (by intro u hu; simp at hu; subst hu; rfl) (by unfold maxLen; omega) hlen (by simp; omega)
  have hwh := append_where ht hi hz0 hz1 hz2 hown1 hcell hlen hrun
  have hown2 : OwnsI w' B e v' (Z ++ [z]) := by
    show w'.ownsRow B e 1 v' (Z ++ [z]).length ((Z ++ [z]).map numV)
    rw [List.map_append, List.length_append]
    exact r1
  obtain ⟨va, vn, vc, rfl, _⟩ := hown2.nums
  unfold Oper.wpIn
  refine ⟨?_, ?_⟩
  · simp [Oper.about, ho, resolve, Target.leads, Sem.run_pure]
  · rw [Oper.semAt_plain F _ _ (by rw [ho]; intro c hc'; cases hc')]
    simp [execOp, ho, resolve, invoke, builtin, hs, hx, hrun, Result.andThen]
    exact hK' _ _ (h va vn vc w' hown2 r2 (fun i hi' => (hwh i hi').imp id (fun h' => by simp at h'; omega)))
end Go.Proofs.Ytgnfinojnmkkkaa

/- Layer 7: the state of the walk that tells blocks as they are left: which were met, and the way, in memory of its own, beside a consumer; its steps. -/
namespace Go.Proofs.Ytgnfinojnmkkkaa
open Go.RowKit
set_option linter.unusedVariables false
set_option linter.unusedSimpArgs false

theorem Owns.step {B : Nat} {t : TypeId} {W W' : World} {row : Option Nat} (hg : W.grownBy W' row) (hl : Lies B t W) (hr : ∀ r, row = some r → ¬ Owns B t W r) : (∀ i, Owns B t W' i ↔ Owns B t W i) ∧ Lies B t W' := by
  have hB : B < W.heap.size := hl.lt (.inl rfl)
  have h1 : W'.heap[B]? = W.heap[B]? := hg.block B hB (fun e => hr B e.symm (.inl rfl))
  have h2 := fun i => Owns.congr (t := t) h1 i
  refine ⟨h2, fun i hi => ?_⟩
  have hi' := (h2 i).1 hi
  obtain ⟨o, ho, hc⟩ := hl i hi'
  exact ⟨o, (hg.block i (hl.lt hi') (fun e => hr i e.symm hi')).trans ho, hc⟩
theorem Owns.new {B : Nat} {t : TypeId} {W : World} (hl : Lies B t W) {k : Nat} (hk : W.heap.size ≤ k) : ¬ Owns B t W k := fun h => by have := hl.lt h; omega

/-- Which were met, as truths. -/
def metVals (N : Nat) (met : List Int) : List Value := (List.range N).map fun (i : Nat) => Value.bool (decide ((i : Int) ∈ met))
theorem metVals_len (N : Nat) (met : List Int) : (metVals N met).length = N := by simp [metVals]
theorem metVals_at {N : Nat} {met : List Int} {j : Nat} (hj : j < N) : (metVals N met)[j]? = some (.bool (decide ((j : Int) ∈ met))) := by simp [metVals, hj]
theorem metVals_more {N : Nat} {met : List Int} {j : Nat} (hj : j < N) : (metVals N met).set j (.bool true) = metVals N (met ++ [(j : Int)]) := by
  apply List.ext_getElem
  · simp [metVals]
  · intro i h1 h2
    simp only [metVals, List.getElem_set, List.getElem_map, List.getElem_range, List.mem_append, List.mem_singleton]
    by_cases e : j = i
    · subst e; simp
    · have : ¬ (i : Int) = (j : Int) := by omega
      simp [e, this]
theorem metVals_none (N : Nat) : (madeCells #[Value.bool false] N).toList = metVals N [] := by
  apply List.ext_getElem
  · simp [metVals, madeCells]
  · intro i h1 h2
    simp [metVals, madeCells, Nat.mod_one]

section
variable {w0 : World} {X : Nat → Prop} {B : Nat} {t : TypeId} {n0 bm bw q N : Nat} {W W' : World} {vw : Value} {met way : List Int}
theorem came_grown {w0 W W' : World} {X : Nat → Prop} {B n0 : Nat} {t : TypeId} (h : ∀ i, X i → i < n0 ∧ ¬ Owns B t W i ∧ W.heap[i]? = w0.heap[i]? ∧ i < W.heap.size) {row : Option Nat} (hg : W.grownBy W' row) (ho : ∀ i, Owns B t W' i ↔ Owns B t W i) (hr : ∀ r, row = some r → ¬ X r) : ∀ i, X i → i < n0 ∧ ¬ Owns B t W' i ∧ W'.heap[i]? = w0.heap[i]? ∧ i < W'.heap.size := by
  intro i hi
  obtain ⟨h1, h2, h3, h4⟩ := h i hi
  exact ⟨h1, fun e => h2 ((ho i).1 e), (hg.block i h4 (fun e => hr i e.symm hi)).trans h3, Nat.lt_of_lt_of_le h4 hg.size⟩
theorem rowM_blk (h : W.ownsRow n0 4 1 (.slice (some ⟨q, 0, none⟩) N N) N (metVals N met)) : ∃ cur, W.heap[q]? = some (.cells cur 4 (0, 0)) ∧ n0 ≤ q := by
  rcases h.2 with ⟨e, _⟩ | ⟨g, cap, cur, e, hb, hh, _⟩
  · cases e
  · cases e; exact ⟨cur, hh, hb⟩
theorem rowW_blk {n0 : Nat} {e : TypeId} {way : List Int} (h : OwnsI W n0 e vw way) {i : Nat} (hi : vw.ownBlock = some i) : ∃ cur, W.heap[i]? = some (.cells cur e (0, 0)) ∧ n0 ≤ i := by
  rcases h.2 with ⟨e, _⟩ | ⟨g, cap, cur, e, hb, hh, _⟩
  · subst e; cases hi
  · subst e; cases hi; exact ⟨cur, hh, hb⟩
theorem row_off {v : Value} {row : Option Nat} (h : ∀ r, row = some r → v.ownBlock ≠ some r) : v.ownBlock = none ∨ v.ownBlock ≠ row := by
  cases hv : v.ownBlock with
  | none => exact .inl rfl
  | some i => exact .inr fun e => h i e.symm hv
/-- The marks of the loops that were entered. -/
def Marks (n0 : Nat) (W : World) (Ds : List Nat) : Prop := Ds.Nodup ∧ ∀ D ∈ Ds, W.heap[D]? = some (.deferred (some [])) ∧ n0 ≤ D
def markOf (D : Nat) : Deferred := { target := .collected D, args := #[] }
theorem Marks.kept {n0 : Nat} {W W' : World} {Ds : List Nat} {row : Option Nat} (h : Marks n0 W Ds) (hg : W.grownBy W' row) (hr : ∀ r, row = some r → r ∉ Ds) : Marks n0 W' Ds :=
  ⟨h.1, fun D hD => by
    obtain ⟨h1, h2⟩ := h.2 D hD
    exact ⟨(hg.block D (Array.getElem?_eq_some_iff.1 h1).1 (fun e => hr D e.symm hD)).trans h1, h2⟩⟩
theorem Marks.cells {n0 : Nat} {W : World} {Ds : List Nat} (h : Marks n0 W Ds) {i : Nat} {o : Obj} (hi : W.heap[i]? = some o) (ho : o.isCells = true) : i ∉ Ds := fun hm => by
  rw [(h.2 i hm).1] at hi; cases hi; cases ho
theorem Marks.since {B n0 : Nat} {t : TypeId} {W W' : World} {Ds : List Nat} (h : Marks n0 W Ds) (hk : KeepX B t W W') (hl : Lies B t W) : Marks n0 W' Ds :=
  ⟨h.1, fun D hD => by
    obtain ⟨h1, h2⟩ := h.2 D hD
    exact ⟨(hk.same D (Array.getElem?_eq_some_iff.1 h1).1 (hl.not h1 rfl)).trans h1, h2⟩⟩
theorem Marks.lt {n0 : Nat} {W : World} {Ds : List Nat} (h : Marks n0 W Ds) {D : Nat} (hD : D ∈ Ds) : D < W.heap.size := (Array.getElem?_eq_some_iff.1 (h.2 D hD).1).1
/-- The way out past all marks. -/
theorem leaves_marks {F : Fence} {n : Nat} {P : Program} {fn : Func} {tmps : Array Value} {R : Ending → World → Prop} {n0 B : Nat} {t : TypeId} {β : Type} {J : β → World → Prop} {s : β} (hJ : AbidesX n0 B t J)
    (hR : ∀ W, J s W → LeavesIn F n P fn tmps R [] .returning W) : ∀ (Ds : List Nat) (W : World), Lies B t W → Marks n0 W Ds → J s W → LeavesInM F n P fn tmps R (Ds.map markOf) .returning W
  | [], W, _, _, hs => hR W hs
  | D :: Ds, W, hl, hm, hs => by
    obtain ⟨h1, h2⟩ := hm.2 D (by simp)
    have hnd := List.nodup_cons.1 hm.1
    have hfree := hl.not h1 rfl
    refine ⟨by simp, .inl ⟨D, W.putObj D (.deferred none), rfl, run_takeDeferred h1, ?_⟩⟩
    refine leaves_marks hJ hR Ds _ (Owns.step (grownBy_putObj' W D _) hl (fun r e => by cases e; exact hfree)).2 ?_ (hJ.putObj _ hs h2 hfree)
    exact Marks.kept ⟨hnd.2, fun D' h' => hm.2 D' (List.mem_cons_of_mem _ h')⟩ (grownBy_putObj' W D _) (fun r e => by cases e; exact hnd.1)
end
end Go.Proofs.Ytgnfinojnmkkkaa

/- Layer 7: the document's Targets and Next. -/
namespace Go.Proofs.Ytgnfinojnmkkkaa
open Go.RowKit (wrap64 intOf Below)
set_option linter.unusedVariables false
set_option linter.unusedSimpArgs false

def flatT (l : List TgV) : List Value := l.flatMap fun x => [.int .i64 x.1, .slice x.2.1 x.2.2.1 x.2.2.2]
theorem flatT_len (l : List TgV) : (flatT l).length = l.length * 2 := by
  induction l with
  | nil => rfl
  | cons x l ih => simp only [flatT, List.flatMap_cons, List.length_append, List.length_cons, List.length_nil] at ih ⊢; omega
theorem flatT_at : ∀ (l : List TgV) (i : Nat) (h : i < l.length), (flatT l)[i * 2]? = some (.int .i64 l[i].1) ∧ (flatT l)[i * 2 + 1]? = some (.slice l[i].2.1 l[i].2.2.1 l[i].2.2.2)
  | x :: l, 0, _ => ⟨rfl, rfl⟩
  | x :: l, i + 1, h => by
    have ih := flatT_at l i (by simpa using h)
    have e1 : (i + 1) * 2 = i * 2 + 2 := by omega
    refine ⟨?_, ?_⟩
    · rw [e1]; exact ih.1
    · rw [e1]; exact ih.2
/-- 'append(l, z)': a number behind the others, and what was turned. -/
theorem wpList_append_numG {P : Program} (w : World) {ops : Array Oper} {rest : List Oper} {o : Oper} {a : Act} {Q : Exit → Act → World → Prop} (hgd : o.guard = none) (s x : Operand) (t : TypeId)
    (ho : o.op = .call { callee := .builtin .append, args := #[s, x], argTypes := #[t, t] }) (e : TypeId) (ht : P.underlying t = some (.slice e))
    (hinfo : (P.info? e).map (fun i => (i.zero, i.size, i.bytes)) = some (some (.int .i64 0), 1, 8))
    (B : Nat) (v : Value) (Z : List Int) (hs : a.eval s = v) (hown : OwnsI w B e v Z) (hB : B ≤ w.heap.size)
    (C : Array Value) (c g : Nat) (z : Int) (hx : a.eval x = .slice (some ⟨g, 0, none⟩) 1 c) (hg : g = w.heap.size) (hC : C = #[.int .i64 z])
    (hlen : (Z.length + 1) * 8 ≤ 140737488355328)
    (h : ∀ va vn vc w', OwnsI w' B e (.slice va vn vc) (Z ++ [z]) → (w.alloc (.cells C e)).grownBy w' v.ownBlock → wpList P ops Q rest (a.put o.dst (.slice va vn vc)) w') : wpList P ops Q (o :: rest) a (w.alloc (.cells C e)) := by
  obtain ⟨i0, hi, hz0, hz1, hz2⟩ := info_parts hinfo
  subst hC hg
  refine wpList_append_own _ hgd s x t ho B e i0 (.int .i64 0) 1 8 ht hi hz0 hz1 hz2 rfl (by decide) v Z.length (Z.map numV) hs (World.ownsRow.alloc hown _) ⟨w.heap.size, 0, none⟩ 1 c [.int .i64 z] hx rfl (fun j u hu => ?_) (by intro u hu; simp at hu; subst hu; rfl) (by unfold maxLen; omega) hlen (by simp; omega) ?_
  · rw [addr_plain, Nat.zero_add, World.cell?_alloc_mark]
    simpa using hu
  · intro v' w' hown' hgrow _
    have hown2 : OwnsI w' B e v' (Z ++ [z]) := by
      show w'.ownsRow B e 1 v' (Z ++ [z]).length ((Z ++ [z]).map numV)
      rw [List.map_append, List.length_append]
      exact hown'
    obtain ⟨va, vn, vc, rfl, _⟩ := hown2.nums
    exact h va vn vc w' hown2 hgrow
theorem box_tg (w : World) (C : Array Value) {T1 T2 : TypeId} (W1 : World) (hb : Below (w.heap.size + 1) ((w.alloc (.cells C T1)).alloc (.cells #[] T2)) W1) (j : Nat) : W1.cell? ⟨w.heap.size, j, none⟩ = C[j]? := by
  rw [hb.cell (p := ⟨w.heap.size, j, none⟩) (by show w.heap.size < w.heap.size + 1; omega)]
  rw [World.cell?_of_block (a := ⟨w.heap.size, j, none⟩) ((World.grownBy_alloc (w.alloc (.cells C T1)) _ none).block w.heap.size (by simp) (fun e => by cases e))]
  exact World.cell?_alloc_mark _ _ _ _ _
theorem rowI_blk {W : World} {n0 : Nat} {e : TypeId} {v : Value} {way : List Int} (h : OwnsI W n0 e v way) {i : Nat} (hi : v.ownBlock = some i) : ∃ cur, W.heap[i]? = some (.cells cur e (0, 0)) ∧ n0 ≤ i := by
  rcases h.2 with ⟨e, _⟩ | ⟨g, cap, cur, e, hb, hh, _⟩
  · subst e; cases hi
  · subst e; cases hi; exact ⟨cur, hh, hb⟩
end Go.Proofs.Ytgnfinojnmkkkaa

/- Layer 4, plain: which fields of each kind of step play a part (P4.1). Nothing of the program is named here. -/
namespace Go.Proofs.Ytgnfinojnmkkkaa
set_option linter.unusedVariables false

/-- The letters of the fields that play a part. -/
def fieldsL (K : Int) : List UInt8 :=
  if K = 0 ∨ K = 1 then [78] else if K = 2 then [83] else if K = 3 ∨ K = 11 then [78, 65, 66] else
  if K = 4 ∨ K = 6 ∨ K = 13 ∨ K = 14 ∨ K = 20 ∨ K = 22 ∨ K = 25 then [65] else
  if K = 5 ∨ K = 7 ∨ K = 8 ∨ K = 15 ∨ K = 19 ∨ K = 21 then [65, 66] else
  if K = 9 then [78, 76, 75] else if K = 10 then [78, 65] else if K = 12 then [78, 75] else if K = 16 ∨ K = 18 then [65, 66, 67] else
  if K = 17 then [75] else if K = 23 then [78, 76] else if K = 24 then [78, 65, 76] else []
def hasB (K : Int) (f : UInt8) : Bool := (fieldsL K).contains f
theorem kinds (K : Int) : (K = 0 ∨ K = 1 ∨ K = 2 ∨ K = 3 ∨ K = 4 ∨ K = 5 ∨ K = 6 ∨ K = 7 ∨ K = 8 ∨ K = 9 ∨ K = 10 ∨ K = 11 ∨ K = 12 ∨ K = 13 ∨ K = 14 ∨ K = 15 ∨ K = 16 ∨ K = 17 ∨ K = 18 ∨ K = 19 ∨ K = 20 ∨ K = 21 ∨ K = 22 ∨ K = 23 ∨ K = 24 ∨ K = 25) ∨ (K < 0 ∨ 25 < K) := by omega
theorem fields_none {K : Int} (h : K < 0 ∨ 25 < K) : fieldsL K = [] := by
  unfold fieldsL
  repeat rw [if_neg (by omega)]
/-- All that can be of the seven at once: N, S, A, B, C, L, K. -/
theorem groups (K : Int) : (hasB K 78, hasB K 83, hasB K 65, hasB K 66, hasB K 67, hasB K 76, hasB K 75) ∈
    [(true, false, false, false, false, false, false), (false, true, false, false, false, false, false), (true, false, true, true, false, false, false), (false, false, true, false, false, false, false),
     (false, false, true, true, false, false, false), (true, false, false, false, false, true, true), (true, false, true, false, false, false, false), (true, false, false, false, false, false, true),
     (false, false, true, true, true, false, false), (false, false, false, false, false, false, true), (true, false, false, false, false, true, false), (true, false, true, false, false, true, false), (false, false, false, false, false, false, false)] := by
  rcases kinds K with h | h
  · rcases h with rfl | rfl | rfl | rfl | rfl | rfl | rfl | rfl | rfl | rfl | rfl | rfl | rfl | rfl | rfl | rfl | rfl | rfl | rfl | rfl | rfl | rfl | rfl | rfl | rfl | rfl
    all_goals decide +kernel
  · unfold hasB
    rw [fields_none h]
    decide +kernel
def pickI (b : Bool) (x : Int) : Int := if b then x else 0
def pickS (b : Bool) (s : ByteArray) : ByteArray := if b then s else ⟨#[]⟩
def pickL (b : Bool) (l : List Int) : List Int := if b then l else []
/-- What a step may do. -/
def mayFail (K N : Int) : Int := if K = 5 ∨ K = 7 ∨ K = 13 ∨ K = 15 ∨ K = 16 ∨ K = 21 ∨ K = 24 ∨ (K = 3 ∧ (N = 3 ∨ N = 4)) then 1 else 0
def mayDo (K : Int) : Int := if K = 10 ∨ K = 15 ∨ K = 19 ∨ K = 20 ∨ K = 21 then 2 else if K = 11 ∨ K = 16 ∨ K = 18 then 4 else if K = 9 ∨ K = 12 ∨ K = 13 ∨ K = 17 then 8 else if K = 23 ∨ K = 24 then 16 else if K = 25 then 32 else 0
def flagsI (K N : Int) : Int := mayFail K N + mayDo K
theorem flags_none {K : Int} (N : Int) (h : K < 0 ∨ 25 < K) : flagsI K N = 0 := by
  unfold flagsI mayFail mayDo
  repeat rw [if_neg (by omega)]
  rfl
theorem flags_plain (K N : Int) : flagsI K (pickI (hasB K 78) N) = flagsI K N := by
  rcases kinds K with h | h
  · rcases h with rfl | rfl | rfl | rfl | rfl | rfl | rfl | rfl | rfl | rfl | rfl | rfl | rfl | rfl | rfl | rfl | rfl | rfl | rfl | rfl | rfl | rfl | rfl | rfl | rfl | rfl
    all_goals rfl
  · rw [flags_none _ h, flags_none _ h]
end Go.Proofs.Ytgnfinojnmkkkaa

/- Layer 7, plain: where blocks go forward alone, each stands ahead of those that follow it; how far blocks are away: by a list of what was met, and by rounds. Nothing of the program is named here. -/
namespace Go.Proofs.Ytgnfinojnmkkkaa
set_option linter.unusedVariables false

section
variable {N : Nat} {nx : Nat → List Int}
/-- Each stands ahead of those that follow it. -/
def Topo (N : Nat) (nx : Nat → List Int) (L : List Int) : Prop := ∀ a p c, L = a ++ p :: c → ∀ n ∈ nx p.toNat, There N n → n ∈ c
theorem Topo.cons {b : Int} {L : List Int} (h : Topo N nx L) (hb : ∀ n ∈ nx b.toNat, There N n → n ∈ L) : Topo N nx (b :: L) := by
  intro a p c e n hn hT
  cases a with
  | nil => simp only [List.nil_append, List.cons.injEq] at e; obtain ⟨rfl, rfl⟩ := e; exact hb n hn hT
  | cons x a => simp only [List.cons_append, List.cons.injEq] at e; obtain ⟨rfl, rfl⟩ := e; exact h a p c rfl n hn hT
theorem fold_mono (k : Nat) : ∀ (l : List Int) (s : List Int × List Int), ∃ t u, (l.foldl (walkF N nx k) s).1 = s.1 ++ t ∧ (l.foldl (walkF N nx k) s).2 = u ++ s.2
  | [], s => ⟨[], [], by simp, by simp⟩
  | q :: l, s => by
    obtain ⟨t3, u3, h3, h4⟩ := walk_mono (N := N) (nx := nx) k s q
    obtain ⟨t4, u4, h5, h6⟩ := fold_mono k l (walkF N nx k s q)
    exact ⟨t3 ++ t4, u4 ++ u3, by rw [List.foldl_cons, h5, h3, List.append_assoc], by rw [List.foldl_cons, h6, h4, List.append_assoc]⟩
theorem walk_topo (hf : ∀ p : Int, There N p → ∀ n ∈ nx p.toNat, There N n → p < n) : ∀ (k : Nat) (s : List Int × List Int) (b : Int), Inv N s.1 → N - s.1.length < k → Topo N nx s.2 → (∀ x ∈ s.1, x ∈ s.2 ∨ x < b) → Topo N nx (walkF N nx k s b).2
  | 0, s, b, _, h, _, _ => absurd h (by omega)
  | k + 1, s, b, hi, hk, ht, ho => by
    by_cases h : ¬ There N b ∨ b ∈ s.1
    · rw [walkF_skip h]; exact ht
    · have hT : There N b := Classical.byContradiction fun h' => h (.inl h')
      have hM : b ∉ s.1 := fun h' => h (.inr h')
      have hroom := hi.room hT hM
      -- the open ones are those that were open, and b
      have fold : ∀ (l : List Int) (s : List Int × List Int), (∀ n ∈ l, There N n → b < n) → Inv N s.1 → N - s.1.length < k → Topo N nx s.2 → (∀ x ∈ s.1, x ∈ s.2 ∨ x ≤ b) →
          Topo N nx (l.foldl (walkF N nx k) s).2 ∧ (∀ n ∈ l, There N n → n ∈ (l.foldl (walkF N nx k) s).2) ∧ (∀ x ∈ (l.foldl (walkF N nx k) s).1, x ∈ (l.foldl (walkF N nx k) s).2 ∨ x ≤ b) := by
        intro l
        induction l with
        | nil => intro s _ _ _ h1 h2; exact ⟨h1, fun n hn => by simp at hn, h2⟩
        | cons n l ih =>
          intro s hl hi hk ht ho
          rw [List.foldl_cons]
          obtain ⟨t1, u1, a1, b1⟩ := walk_adds (nx := nx) k s n hi hk
          have ho1 : ∀ x ∈ (walkF N nx k s n).1, x ∈ (walkF N nx k s n).2 ∨ x ≤ b := by
            intro x hx
            rw [a1.met] at hx
            rw [a1.left]
            rcases List.mem_append.1 hx with hx | hx
            · rcases ho x hx with h' | h'
              · exact .inl (List.mem_append_right _ h')
              · exact .inr h'
            · exact .inl (List.mem_append_left _ (a1.perm.mem_iff.2 hx))
          have ht1 : Topo N nx (walkF N nx k s n).2 := by
            by_cases hTn : There N n
            · exact walk_topo hf k s n hi hk ht (fun x hx => by
                rcases ho x hx with h' | h'
                · exact .inl h'
                · exact .inr (by have := hl n (by simp) hTn; omega))
            · rw [walkF_skip (.inl hTn)]; exact ht
          obtain ⟨r1, r2, r3⟩ := ih (walkF N nx k s n) (fun m hm => hl m (List.mem_cons_of_mem _ hm)) a1.inv (by rw [a1.met, List.length_append]; omega) ht1 ho1
          refine ⟨r1, fun m hm hTm => ?_, r3⟩
          rcases List.mem_cons.1 hm with rfl | hm
          · obtain ⟨t2, u2, h1, h2⟩ := fold_mono (N := N) (nx := nx) k l (walkF N nx k s m)
            rw [h2]
            refine List.mem_append_right _ ?_
            rcases ho1 m (b1 hTm) with h' | h'
            · exact h'
            · have := hl m (by simp) hTm; omega
          · exact r2 m hm hTm
      rw [walkF_go hT hM]
      obtain ⟨r1, r2, r3⟩ := fold (nx b.toNat) (s.1 ++ [b], s.2) (hf b hT) (hi.more hT hM) (by simp; omega) ht (fun x hx => by
        rcases List.mem_append.1 hx with hx | hx
        · rcases ho x hx with h' | h'
          · exact .inl h'
          · exact .inr (by omega)
        · simp at hx; exact .inr (by omega))
      exact r1.cons r2
end
theorem order_topo (f : FuncD) (hf : ∀ p : Int, There f.blocks.length p → ∀ n ∈ nxF f p.toNat, There f.blocks.length n → p < n) : Topo f.blocks.length (nxF f) (orderL f) :=
  walk_topo hf _ _ _ Inv.nil (by simp) (fun a p c e => by simp at e) (fun x hx => by simp at hx)

/-! ## How far -/
/-- Numbers that tell how far each block is. -/
structure Far (N : Nat) (nx : Nat → List Int) (D : Nat → Int) : Prop where
  low : ∀ x, x < N → -1 ≤ D x
  zero : ∀ x, x < N → (D x = 0 ↔ x = 0)
  pred : ∀ x, x < N → 0 < D x → ∃ p, p < N ∧ D p = D x - 1 ∧ (x : Int) ∈ nx p
  next : ∀ p, p < N → 0 ≤ D p → ∀ n ∈ nx p, There N n → 0 ≤ D n.toNat ∧ D n.toNat ≤ D p + 1
theorem Far.le {N : Nat} {nx : Nat → List Int} {D E : Nat → Int} (hD : Far N nx D) (hE : Far N nx E) : ∀ (d : Nat) (x : Nat), x < N → D x = d → 0 ≤ E x ∧ E x ≤ d
  | 0, x, hx, h => by
    have h0 : x = 0 := (hD.zero x hx).1 h
    have := (hE.zero x hx).2 h0
    omega
  | d + 1, x, hx, h => by
    obtain ⟨p, hp, hpd, hm⟩ := hD.pred x hx (by omega)
    have ih := Far.le hD hE d p hp (by omega)
    have := hE.next p hp ih.1 _ hm ⟨by omega, by omega⟩
    simp only [Int.toNat_natCast] at this
    omega
theorem Far.unique {N : Nat} {nx : Nat → List Int} {D E : Nat → Int} (hD : Far N nx D) (hE : Far N nx E) (x : Nat) (hx : x < N) : D x = E x := by
  have key : ∀ {D E : Nat → Int}, Far N nx D → Far N nx E → 0 ≤ D x → 0 ≤ E x ∧ E x ≤ D x := by
    intro D E hD hE h
    have := hD.le hE (D x).toNat x hx (by omega)
    omega
  have h1 := hD.low x hx
  have h2 := hE.low x hx
  by_cases h : 0 ≤ D x
  · have a := key hD hE h
    have b := key hE hD a.1
    omega
  · by_cases h' : 0 ≤ E x
    · have b := key hE hD h'
      omega
    · omega
end Go.Proofs.Ytgnfinojnmkkkaa

/- Layer 7, plain: how far blocks are away: by a list of what was met, and by rounds; both tell the one row of numbers that is so. Nothing of the program is named here. -/
namespace Go.Proofs.Ytgnfinojnmkkkaa
set_option linter.unusedVariables false

theorem nth_set {L : List Int} {i : Nat} {z : Int} (h : i < L.length) (x : Nat) : nth (L.set i z) x = if x = i then z else nth L x := by
  unfold nth
  rw [List.getD_eq_getElem?_getD, List.getD_eq_getElem?_getD, List.getElem?_set]
  by_cases e : x = i
  · subst e; rw [if_pos rfl, if_pos rfl, if_pos h]; rfl
  · rw [if_neg (fun e' => e e'.symm), if_neg e]

section
variable {N : Nat} {nx : Nat → List Int}
/-- Where a walk by a list stands: dn are done with, Q are those that were met and not gone through yet. -/
structure Bfs (N : Nat) (nx : Nat → List Int) (DL dn Q : List Int) : Prop where
  len : DL.length = N
  inv : Inv N (dn ++ Q)
  set : ∀ x, x < N → (0 ≤ nth DL x ↔ (x : Int) ∈ dn ++ Q)
  low : ∀ x, x < N → -1 ≤ nth DL x
  zero : ∀ x, x < N → (nth DL x = 0 ↔ x = 0)
  pred : ∀ x, x < N → 0 < nth DL x → ∃ p, p < N ∧ nth DL p = nth DL x - 1 ∧ (x : Int) ∈ nx p
  sorted : Q.Pairwise (fun a b => nth DL a.toNat ≤ nth DL b.toNat)
  bound : ∀ h Q', Q = h :: Q' → ∀ x, x < N → nth DL x ≤ nth DL h.toNat + 1
  clos : ∀ p ∈ dn, ∀ n ∈ nx p.toNat, There N n → 0 ≤ nth DL n.toNat ∧ nth DL n.toNat ≤ nth DL p.toNat + 1
theorem nat_of {N : Nat} {z : Int} (h : There N z) : ∃ k : Nat, z = k ∧ k < N := ⟨z.toNat, by have := h.1; omega, by have := h.1; have := h.2; omega⟩
theorem Bfs.start {DL : List Int} (hN : 0 < N) (hl : DL.length = N) (h : ∀ x, x < N → nth DL x = if x = 0 then 0 else -1) : Bfs N nx DL [] [0] := by
  refine ⟨hl, ⟨by simp, fun x hx => by simp at hx; subst hx; exact ⟨Int.le_refl _, by omega⟩⟩, fun x hx => ?_, fun x hx => ?_, fun x hx => ?_, fun x hx h0 => ?_, by simp, fun h' Q' e x hx => ?_, fun p hp => by simp at hp⟩
  · rw [h x hx]; split <;> simp <;> omega
  · rw [h x hx]; split <;> omega
  · rw [h x hx]; split <;> simp <;> omega
  · rw [h x hx] at h0; split at h0 <;> omega
  · simp at e; obtain ⟨rfl, rfl⟩ := e
    rw [h x hx, show (0 : Int).toNat = 0 by rfl, h 0 hN]; split <;> simp
/-- One more is met. -/
theorem Bfs.push {DL dn Q : List Int} {h t : Int} (B : Bfs N nx DL dn (h :: Q)) (hT : There N t) (hm : t ∈ nx h.toNat) (hn : nth DL t.toNat < 0) : Bfs N nx (DL.set t.toNat (nth DL h.toNat + 1)) dn (h :: (Q ++ [t])) := by
  obtain ⟨k, rfl, hk⟩ := nat_of hT
  obtain ⟨q, hq, hqN⟩ := nat_of (B.inv.2 h (by simp))
  subst hq
  simp only [Int.toNat_natCast] at *
  have hN := B.len
  have hset : ∀ x, nth (DL.set k (nth DL q + 1)) x = if x = k then nth DL q + 1 else nth DL x := nth_set (by omega)
  have hnot : (k : Int) ∉ dn ++ (q : Int) :: Q := fun h' => by have := (B.set k hk).2 h'; omega
  have hq0 : 0 ≤ nth DL q := (B.set q hqN).2 (by simp)
  have hqk : q ≠ k := fun e => by subst e; omega
  have keep : ∀ x, x < N → 0 ≤ nth DL x → nth (DL.set k (nth DL q + 1)) x = nth DL x := fun x hx h0 => by rw [hset, if_neg (fun e => by subst e; omega)]
  have keepm : ∀ x : Int, x ∈ dn ++ (q : Int) :: Q → nth (DL.set k (nth DL q + 1)) x.toNat = nth DL x.toNat := fun x hx => by
    obtain ⟨y, rfl, hy⟩ := nat_of (B.inv.2 x hx)
    exact keep y hy ((B.set y hy).2 hx)
  have e1 : dn ++ (q : Int) :: (Q ++ [(k : Int)]) = (dn ++ (q : Int) :: Q) ++ [(k : Int)] := by simp
  refine ⟨by simpa using hN, ?_, fun x hx => ?_, fun x hx => ?_, fun x hx => ?_, fun x hx h0 => ?_, ?_, fun h' Q' e x hx => ?_, fun p hp n hn' hTn => ?_⟩
  · rw [e1]; exact B.inv.more ⟨by omega, by omega⟩ hnot
  · rw [hset, e1, List.mem_append, ← B.set x hx]
    split
    · rename_i e; subst e; simp; omega
    · rename_i e; simp; omega
  · rw [hset]; have := B.low x hx; split <;> omega
  · rw [hset]
    have := B.zero x hx
    have h0 := B.zero q hqN
    split
    · rename_i e; subst e; constructor <;> intro h' <;> omega
    · exact this
  · rw [hset] at h0 ⊢
    split
    · rename_i e
      subst e
      exact ⟨q, hqN, by rw [keep q hqN hq0]; omega, hm⟩
    · rename_i e
      rw [if_neg e] at h0
      obtain ⟨p, hp, h1, h2⟩ := B.pred x hx h0
      exact ⟨p, hp, by rw [keep p hp (by omega)]; exact h1, h2⟩
  · have hs := B.sorted
    rw [← List.cons_append, List.pairwise_append]
    refine ⟨?_, by simp, fun a ha b hb => ?_⟩
    · refine List.Pairwise.imp_of_mem (fun {a b} ha hb hab => ?_) hs
      rw [keepm a (List.mem_append_right _ ha), keepm b (List.mem_append_right _ hb)]; exact hab
    · simp at hb; subst hb
      rw [keepm a (List.mem_append_right _ ha)]
      obtain ⟨y, rfl, hy⟩ := nat_of (B.inv.2 a (List.mem_append_right _ ha))
      have := B.bound _ _ rfl y hy
      simp only [Int.toNat_natCast] at this ⊢
      rw [hset, if_pos rfl]; exact this
  · simp at e; obtain ⟨rfl, rfl⟩ := e
    have := B.bound _ _ rfl x hx
    simp only [Int.toNat_natCast] at this ⊢
    rw [keep q hqN hq0, hset]
    split <;> omega
  · obtain ⟨y, rfl, hy⟩ := nat_of hTn
    have hp' := keepm p (List.mem_append_left _ hp)
    have := B.clos p hp _ hn' hTn
    simp only [Int.toNat_natCast] at this ⊢
    rw [hp', keep y hy this.1]
    exact this
/-- The first of them is done with. -/
theorem Bfs.pop {DL dn Q : List Int} {h : Int} (B : Bfs N nx DL dn (h :: Q)) (hc : ∀ n ∈ nx h.toNat, There N n → 0 ≤ nth DL n.toNat) : Bfs N nx DL (dn ++ [h]) Q := by
  have e : dn ++ [h] ++ Q = dn ++ h :: Q := by simp
  refine ⟨B.len, by rw [e]; exact B.inv, by rw [e]; exact B.set, B.low, B.zero, B.pred, (List.pairwise_cons.1 B.sorted).2, fun h' Q' e x hx => ?_, fun p hp n hn hT => ?_⟩
  · subst e
    have h1 := B.bound _ _ rfl x hx
    have h2 := (List.pairwise_cons.1 B.sorted).1 h' (by simp)
    omega
  · rcases List.mem_append.1 hp with hp | hp
    · exact B.clos p hp n hn hT
    · simp at hp; subst hp
      obtain ⟨y, rfl, hy⟩ := nat_of hT
      exact ⟨hc _ hn hT, B.bound _ _ rfl _ (by simpa using hy)⟩
theorem Bfs.far {DL dn : List Int} (B : Bfs N nx DL dn []) : Far N nx (nth DL) := by
  refine ⟨B.low, B.zero, B.pred, fun p hp h0 n hn hT => ?_⟩
  have hm := (B.set p hp).1 h0
  rw [List.append_nil] at hm
  have := B.clos _ hm n (by simpa using hn) hT
  simpa using this
theorem Bfs.room {DL dn Q : List Int} {h : Int} (B : Bfs N nx DL dn (h :: Q)) : dn.length < N := by
  have := B.inv.len
  simp at this
  omega

/-! ## By rounds -/
structure Rnd (N : Nat) (nx : Nat → List Int) (DL : List Int) (r : Nat) (Hd : Nat → Int → Prop) : Prop where
  len : DL.length = N
  low : ∀ x, x < N → -1 ≤ nth DL x
  zero : ∀ x, x < N → (nth DL x = 0 ↔ x = 0)
  pred : ∀ x, x < N → 0 < nth DL x → ∃ p, p < N ∧ nth DL p = nth DL x - 1 ∧ (x : Int) ∈ nx p
  bound : ∀ x, x < N → nth DL x ≤ r + 1
  clos : ∀ p, p < N → 0 ≤ nth DL p → ∀ n ∈ nx p, There N n → (nth DL p < r ∨ nth DL p = r ∧ Hd p n) → 0 ≤ nth DL n.toNat ∧ nth DL n.toNat ≤ nth DL p + 1
theorem Rnd.start {DL : List Int} (hl : DL.length = N) (h : ∀ x, x < N → nth DL x = if x = 0 then 0 else -1) : Rnd N nx DL 0 (fun _ _ => False) := by
  refine ⟨hl, fun x hx => ?_, fun x hx => ?_, fun x hx h0 => ?_, fun x hx => ?_, fun p hp h0 n _ _ h' => ?_⟩
  · rw [h x hx]; split <;> omega
  · rw [h x hx]; split <;> simp <;> omega
  · rw [h x hx] at h0; split at h0 <;> omega
  · rw [h x hx]; split <;> simp
  · rcases h' with h' | h'
    · simp at h'; omega
    · exact h'.2.elim
theorem Rnd.weak {DL : List Int} {r : Nat} {Hd Hd' : Nat → Int → Prop} (R : Rnd N nx DL r Hd) (h : ∀ p n, p < N → n ∈ nx p → There N n → nth DL p = r → Hd' p n → Hd p n ∨ 0 ≤ nth DL n.toNat) : Rnd N nx DL r Hd' := by
  refine ⟨R.len, R.low, R.zero, R.pred, R.bound, fun p hp h0 n hn hT h' => ?_⟩
  rcases h' with h' | ⟨h1, h2⟩
  · exact R.clos p hp h0 n hn hT (.inl h')
  · rcases h p n hp hn hT h1 h2 with h3 | h3
    · exact R.clos p hp h0 n hn hT (.inr ⟨h1, h3⟩)
    · obtain ⟨y, rfl, hy⟩ := nat_of hT
      refine ⟨h3, ?_⟩
      have := R.bound y hy
      simp only [Int.toNat_natCast] at this ⊢
      omega
theorem Rnd.put {DL : List Int} {r : Nat} {Hd : Nat → Int → Prop} (R : Rnd N nx DL r Hd) {i : Nat} {t : Int} (hi : i < N) (hT : There N t) (hm : t ∈ nx i) (hr : nth DL i = r) (hn : nth DL t.toNat < 0) : Rnd N nx (DL.set t.toNat (r + 1)) r (fun p n => Hd p n ∨ (p = i ∧ n = t)) := by
  obtain ⟨k, rfl, hk⟩ := nat_of hT
  simp only [Int.toNat_natCast] at *
  have hN := R.len
  have hset : ∀ x, nth (DL.set k ((r : Int) + 1)) x = if x = k then (r : Int) + 1 else nth DL x := nth_set (by omega)
  have keep : ∀ x, 0 ≤ nth DL x → nth (DL.set k ((r : Int) + 1)) x = nth DL x := fun x h0 => by rw [hset, if_neg (fun e => by subst e; omega)]
  refine ⟨by simpa using hN, fun x hx => ?_, fun x hx => ?_, fun x hx h0 => ?_, fun x hx => ?_, fun p hp h0 n hn' hTn h' => ?_⟩
  · rw [hset]; have := R.low x hx; split <;> omega
  · rw [hset]
    have := R.zero x hx
    split
    · rename_i e; subst e; constructor <;> intro h' <;> omega
    · exact this
  · rw [hset] at h0 ⊢
    split
    · rename_i e
      subst e
      exact ⟨i, hi, by rw [keep i (by omega)]; omega, hm⟩
    · rename_i e
      rw [if_neg e] at h0
      obtain ⟨p, hp, h1, h2⟩ := R.pred x hx h0
      exact ⟨p, hp, by rw [keep p (by omega)]; exact h1, h2⟩
  · rw [hset]; have := R.bound x hx; split <;> omega
  · obtain ⟨y, rfl, hy⟩ := nat_of hTn
    have hpk : p ≠ k := fun e => by
      subst e
      rw [hset, if_pos rfl] at h'
      rcases h' with h' | h' <;> omega
    have hp' : nth (DL.set k ((r : Int) + 1)) p = nth DL p := by rw [hset, if_neg hpk]
    rw [hp'] at h0 h' ⊢
    simp only [Int.toNat_natCast]
    rcases h' with h' | ⟨h1, h2 | ⟨rfl, h2⟩⟩
    · have := R.clos p hp h0 _ hn' hTn (.inl h')
      simp only [Int.toNat_natCast] at this
      rw [keep y this.1]; exact this
    · have := R.clos p hp h0 _ hn' hTn (.inr ⟨h1, h2⟩)
      simp only [Int.toNat_natCast] at this
      rw [keep y this.1]; exact this
    · have e : y = k := by omega
      subst e
      rw [hset, if_pos rfl]
      omega
theorem Rnd.turn {DL : List Int} {r : Nat} {Hd : Nat → Int → Prop} (R : Rnd N nx DL r Hd) (h : ∀ p n, p < N → n ∈ nx p → There N n → Hd p n) : Rnd N nx DL (r + 1) (fun _ _ => False) := by
  refine ⟨R.len, R.low, R.zero, R.pred, fun x hx => by have := R.bound x hx; omega, fun p hp h0 n hn hT h' => ?_⟩
  rcases h' with h' | h'
  · exact R.clos p hp h0 n hn hT (by
      by_cases e : nth DL p < r
      · exact .inl e
      · exact .inr ⟨by omega, h p n hp hn hT⟩)
  · exact h'.2.elim
theorem Rnd.lower {DL : List Int} {r : Nat} {Hd : Nat → Int → Prop} (R : Rnd N nx DL r Hd) : ∀ (k : Nat) (x : Nat), x < N → nth DL x = k → ∃ L : List Nat, L.length = k + 1 ∧ (∀ y ∈ L, y < N ∧ 0 ≤ nth DL y ∧ nth DL y ≤ k) ∧ L.Nodup
  | 0, x, hx, h => ⟨[x], rfl, fun y hy => by simp at hy; subst hy; exact ⟨hx, by omega, by omega⟩, by simp⟩
  | k + 1, x, hx, h => by
    obtain ⟨p, hp, h1, h2⟩ := R.pred x hx (by omega)
    obtain ⟨L, hl, hm, hd⟩ := R.lower k p hp (by omega)
    refine ⟨x :: L, by simp [hl], fun y hy => ?_, List.nodup_cons.2 ⟨fun hx' => ?_, hd⟩⟩
    · rcases List.mem_cons.1 hy with rfl | hy
      · exact ⟨hx, by omega, by omega⟩
      · have := hm y hy; exact ⟨this.1, this.2.1, by omega⟩
    · have := hm x hx'; omega
theorem Rnd.far {DL : List Int} {Hd : Nat → Int → Prop} (R : Rnd N nx DL N Hd) : Far N nx (nth DL) := by
  refine ⟨R.low, R.zero, R.pred, fun p hp h0 n hn hT => R.clos p hp h0 n hn hT (.inl ?_)⟩
  obtain ⟨L, hl, hm, hd⟩ := R.lower (nth DL p).toNat p hp (by omega)
  have := List.Nodup.length_le_of_subset hd (l₂ := List.range N) (fun y hy => List.mem_range.2 (hm y hy).1)
  simp at this
  omega
theorem far_same {D E : List Int} (hD : Far N nx (nth D)) (hE : Far N nx (nth E)) (h1 : D.length = N) (h2 : E.length = N) : D = E := by
  apply List.ext_getElem (by omega)
  intro i h3 h4
  rw [← nth_is h3, ← nth_is h4]
  exact hD.unique hE i (by omega)
end
end Go.Proofs.Ytgnfinojnmkkkaa

/- Layer 7, plain: which blocks are ahead of each block. Nothing of the program is named here. -/
namespace Go.Proofs.Ytgnfinojnmkkkaa
set_option linter.unusedVariables false

/-- Of the first k blocks, those that go to block b. -/
def ahL (f : FuncD) (k : Nat) (b : Int) : List Int := ((List.range k).filter fun i => decide (b ∈ nxF f i)).map Int.ofNat
theorem ahL_more (f : FuncD) (k : Nat) (b : Int) : ahL f (k + 1) b = ahL f k b ++ (if b ∈ nxF f k then [(k : Int)] else []) := by
  unfold ahL
  rw [List.range_succ, List.filter_append, List.map_append]
  congr 1
  by_cases h : b ∈ nxF f k <;> simp [h]
theorem ahL_len (f : FuncD) (k : Nat) (b : Int) : (ahL f k b).length ≤ k := by
  unfold ahL
  rw [List.length_map]
  exact Nat.le_trans (List.length_filter_le _ _) (by simp)
theorem ahL_mem {f : FuncD} {k : Nat} {b x : Int} : x ∈ ahL f k b ↔ There k x ∧ b ∈ nxF f x.toNat := by
  unfold ahL There
  simp only [List.mem_map, List.mem_filter, List.mem_range, decide_eq_true_eq]
  constructor
  · rintro ⟨i, ⟨h1, h2⟩, rfl⟩
    exact ⟨⟨by simp, by simp; omega⟩, by simpa using h2⟩
  · rintro ⟨⟨h1, h2⟩, h3⟩
    exact ⟨x.toNat, ⟨by omega, h3⟩, by simp; omega⟩
theorem next_nodup (e : EndD) : (nextL e).Nodup := by
  unfold nextL
  split
  · simp
  · split
    · split
      · simp
      · rename_i h; simp [h]
    · simp
/-- Of each block, those that go to it: all of the first i blocks, and block i's first j. -/
def ahRow (f : FuncD) (i j : Nat) : List (List Int) := (List.range f.blocks.length).map fun (b : Nat) => ahL f i b ++ (if (b : Int) ∈ (nxF f i).take j then [(i : Int)] else [])
theorem ahRow_len (f : FuncD) (i j : Nat) : (ahRow f i j).length = f.blocks.length := by simp [ahRow]
theorem ahRow_at {f : FuncD} {i j b : Nat} (h : b < (ahRow f i j).length) : (ahRow f i j)[b] = ahL f i b ++ (if (b : Int) ∈ (nxF f i).take j then [(i : Int)] else []) := by simp [ahRow]
theorem ahRow_zero (f : FuncD) : ahRow f 0 0 = List.replicate f.blocks.length [] := by
  apply List.ext_getElem
  · simp [ahRow]
  · intro b h1 h2
    rw [ahRow_at]
    simp [ahL]
theorem ahRow_put {f : FuncD} {i j b : Nat} (hj : j < (nxF f i).length) (hb : (nxF f i)[j] = (b : Int)) (h : b < (ahRow f i j).length) : (ahRow f i j).set b ((ahRow f i j)[b] ++ [(i : Int)]) = ahRow f i (j + 1) ∧ (ahRow f i j)[b] = ahL f i b := by
  have hn : (b : Int) ∉ (nxF f i).take j := by
    intro h'
    obtain ⟨k, hk, e⟩ := List.getElem_of_mem h'
    simp only [List.length_take] at hk
    rw [List.getElem_take] at e
    exact List.pairwise_iff_getElem.1 (next_nodup (theEnd f i)) k j (show k < (nxF f i).length by omega) hj (by omega) (e.trans hb.symm)
  refine ⟨?_, by rw [ahRow_at, if_neg hn, List.append_nil]⟩
  apply List.ext_getElem
  · simp [ahRow]
  · intro c h1 h2
    rw [List.getElem_set]
    rw [ahRow_at h2, List.take_succ_eq_append_getElem hj, hb]
    split
    · rename_i e
      subst e
      rw [ahRow_at h, if_neg hn, if_pos (by simp)]
      simp
    · rename_i e
      rw [ahRow_at]
      congr 1
      have e' : ¬ ((c : Int) = (b : Int)) := fun h' => e (by omega)
      simp [e']
theorem ahRow_skip {f : FuncD} {i j : Nat} (hj : j < (nxF f i).length) (hb : ¬ There f.blocks.length (nxF f i)[j]) : ahRow f i j = ahRow f i (j + 1) := by
  apply List.ext_getElem
  · simp [ahRow]
  · intro c h1 h2
    have e' : ¬ ((c : Int) = (nxF f i)[j]) := fun h' => hb (by rw [← h']; simp [ahRow_len] at h1; exact ⟨by omega, by omega⟩)
    have e2 : ((c : Int) ∈ (nxF f i).take (j + 1)) ↔ ((c : Int) ∈ (nxF f i).take j) := by
      rw [List.take_succ_eq_append_getElem hj, List.mem_append, List.mem_singleton]
      exact ⟨fun h => h.resolve_right e', .inl⟩
    rw [ahRow_at h1, ahRow_at h2]
    simp only [e2]
theorem ahRow_turn (f : FuncD) (i : Nat) {j : Nat} (hj : j = (nxF f i).length) : ahRow f i j = ahRow f (i + 1) 0 := by
  subst hj
  apply List.ext_getElem
  · simp [ahRow]
  · intro c h1 h2
    rw [ahRow_at h1, ahRow_at h2, ahL_more, List.take_length]
    simp
end Go.Proofs.Ytgnfinojnmkkkaa

/- A row of rows of numbers, all of the call's own, no two in one array: what it reads as, and one row grown. Nothing of the program is named here. -/
namespace Go.Proofs.Ytgnfinojnmkkkaa
open Go.RowKit
set_option linter.unusedVariables false

/-- v: a row (of type s) of rows (of type e) of numbers, from block B on. -/
structure Rows2 (W : World) (B : Nat) (s e : TypeId) (v : Value) (vs : List Value) (Zs : List (List Int)) : Prop where
  row : W.ownsRow B s 1 v vs.length vs
  len : vs.length = Zs.length
  own : ∀ i (h1 : i < vs.length) (h2 : i < Zs.length), OwnsI W B e vs[i] Zs[i]
  apart : ∀ i j (h1 : i < vs.length) (h2 : j < vs.length), i ≠ j → ∀ k, vs[i].ownBlock = some k → vs[j].ownBlock ≠ some k
theorem ownsI_blk {W : World} {B : Nat} {e : TypeId} {v : Value} {Z : List Int} (h : OwnsI W B e v Z) {i : Nat} (hi : v.ownBlock = some i) : ∃ cur, W.heap[i]? = some (.cells cur e (0, 0)) ∧ B ≤ i := by
  rcases h.2 with ⟨e, _⟩ | ⟨g, cap, cur, e, hb, hh, _⟩
  · subst e; cases hi
  · subst e; cases hi; exact ⟨cur, hh, hb⟩
theorem ownsRow_blk {W : World} {B k n : Nat} {e : TypeId} {v : Value} {xs : List Value} (h : W.ownsRow B e k v n xs) {i : Nat} (hi : v.ownBlock = some i) : ∃ cur, W.heap[i]? = some (.cells cur e (0, 0)) ∧ B ≤ i := by
  rcases h.2 with ⟨e, _⟩ | ⟨g, cap, cur, e, hb, hh, _⟩
  · subst e; cases hi
  · subst e; cases hi; exact ⟨cur, hh, hb⟩
theorem Rows2.kept {W W' : World} {B : Nat} {s e : TypeId} {v : Value} {vs : List Value} {Zs : List (List Int)} (h : Rows2 W B s e v vs Zs) {X : Nat → Prop} (hb : Off X W W') (hX : ∀ i, X i → i < B ∨ ∀ C (t : TypeId), (t = s ∨ t = e) → W.heap[i]? ≠ some (.cells C t (0, 0))) : Rows2 W' B s e v vs Zs := by
  refine ⟨?_, h.len, fun i h1 h2 => ?_, h.apart⟩
  · refine ⟨h.row.1, ?_⟩
    rcases h.row.2 with hn | ⟨g, cap, cur, rfl, hB, hg, rest⟩
    · exact .inl hn
    · refine .inr ⟨g, cap, cur, rfl, hB, ?_, rest⟩
      rw [hb.block g (Array.getElem?_eq_some_iff.1 hg).1 (fun hx => by
        rcases hX g hx with h' | h'
        · omega
        · exact h' cur s (.inl rfl) hg)]
      exact hg
  · have ho := h.own i h1 h2
    refine ⟨ho.1, ?_⟩
    rcases ho.2 with hn | ⟨g, cap, cur, he, hB, hg, rest⟩
    · exact .inl hn
    · refine .inr ⟨g, cap, cur, he, hB, ?_, rest⟩
      rw [hb.block g (Array.getElem?_eq_some_iff.1 hg).1 (fun hx => by
        rcases hX g hx with h' | h'
        · omega
        · exact h' cur e (.inr rfl) hg)]
      exact hg
theorem Rows2.since {W W' : World} {B : Nat} {s e : TypeId} {v : Value} {vs : List Value} {Zs : List (List Int)} (h : Rows2 W B s e v vs Zs) (hb : Below W.heap.size W W') : Rows2 W' B s e v vs Zs :=
  h.kept (X := fun _ => False) (Off.since hb) (fun i hi => hi.elim)
theorem Rows2.mono {W : World} {B B' : Nat} {s e : TypeId} {v : Value} {vs : List Value} {Zs : List (List Int)} (h : Rows2 W B s e v vs Zs) (hB : B' ≤ B) : Rows2 W B' s e v vs Zs := by
  refine ⟨⟨h.row.1, ?_⟩, h.len, fun i h1 h2 => (h.own i h1 h2).mono hB, h.apart⟩
  rcases h.row.2 with hn | ⟨g, cap, cur, rfl, hg, rest⟩
  · exact .inl hn
  · exact .inr ⟨g, cap, cur, rfl, Nat.le_trans hB hg, rest⟩
/-- Row i has grown: it is v' now, and that is stored. -/
theorem Rows2.push {W U w1 : World} {B g n cap i : Nat} {s e : TypeId} {vs : List Value} {Zs : List (List Int)} {v' : Value} {Z' : List Int} (h : Rows2 W B s e (.slice (some ⟨g, 0, none⟩) n cap) vs Zs) (hse : s ≠ e) (hn : n = vs.length) (hi : i < vs.length)
    (hU : Below W.heap.size W U) (hg : U.grownBy w1 (vs[i]).ownBlock) (ho : OwnsI w1 B e v' Z') (hw : ∀ k, v'.ownBlock = some k → (vs[i]).ownBlock = some k ∨ W.heap.size ≤ k) :
    Rows2 (w1.setCell ⟨g, i, none⟩ v') B s e (.slice (some ⟨g, 0, none⟩) n cap) (vs.set i v') (Zs.set i Z') ∧ Below B W (w1.setCell ⟨g, i, none⟩ v') ∧ Off (fun k => (vs[i]).ownBlock = some k ∨ k = g) W (w1.setCell ⟨g, i, none⟩ v') ∧ Off (fun k => (vs[i]).ownBlock = some k) W w1 ∧ (vs[i]).ownBlock ≠ some g := by
  subst hn
  have hiZ : i < Zs.length := by rw [← h.len]; exact hi
  obtain ⟨cur, hgb, hBg⟩ := ownsRow_blk h.row (i := g) rfl
  have hgl : g < W.heap.size := (Array.getElem?_eq_some_iff.1 hgb).1
  have hne : (vs[i]).ownBlock ≠ some g := fun e' => by
    obtain ⟨c2, h2, _⟩ := ownsI_blk (h.own i hi hiZ) e'
    rw [hgb] at h2; cases h2; exact hse rfl
  have hvlt : ∀ k, (vs[i]).ownBlock = some k → k < W.heap.size ∧ B ≤ k := fun k hk => by
    obtain ⟨c2, h2, h3⟩ := ownsI_blk (h.own i hi hiZ) hk
    exact ⟨(Array.getElem?_eq_some_iff.1 h2).1, h3⟩
  have hBW : B ≤ W.heap.size := by omega
  have hoff : Off (fun k => (vs[i]).ownBlock = some k) W w1 := (Off.since hU).grown hg (fun k hk => .inl hk)
  -- the row of rows
  have hrow1 : w1.ownsRow B s 1 (.slice (some ⟨g, 0, none⟩) vs.length cap) vs.length vs := by
    refine ⟨h.row.1, ?_⟩
    rcases h.row.2 with ⟨e', _⟩ | ⟨g', cap', cur', e', hB, hg', rest⟩
    · cases e'
    · cases e'
      exact .inr ⟨g, cap, cur', rfl, hB, (hoff.block g hgl hne).trans hg', rest⟩
  have hst := World.ownsRow.stored hrow1 i v'
  have hoff2 : Off (fun k => (vs[i]).ownBlock = some k ∨ k = g) W (w1.setCell ⟨g, i, none⟩ v') := (hoff.mono (fun k _ hk => .inl hk)).setCell (.inl (.inr rfl)) v'
  have hng : ∀ k, v'.ownBlock = some k → k ≠ g := fun k hk e' => by
    subst e'
    rcases hw k hk with h' | h'
    · exact hne h'
    · omega
  have keepOwn : ∀ {u : Value} {Z : List Int}, OwnsI w1 B e u Z → (∀ k, u.ownBlock = some k → k ≠ g) → OwnsI (w1.setCell ⟨g, i, none⟩ v') B e u Z := by
    intro u Z hu hk
    refine World.ownsRow.kept hu hst.2 ?_
    by_cases e' : u.ownBlock = none
    · exact .inl e'
    · exact .inr fun h' => hk g h' rfl
  refine ⟨⟨by simpa using hst.1, by simp [h.len], fun j h1 h2 => ?_, fun j k h1 h2 hjk b hb => ?_⟩, ?_⟩
  · simp only [List.getElem_set]
    by_cases hij : i = j
    · subst hij
      simp only [if_true]
      exact keepOwn ho hng
    · rw [if_neg hij, if_neg hij]
      have h1' : j < vs.length := by simpa using h1
      have h2' : j < Zs.length := by simpa using h2
      have hoj := h.own j h1' h2'
      have hoj1 : OwnsI w1 B e vs[j] Zs[j] := by
        refine ⟨hoj.1, ?_⟩
        rcases hoj.2 with hn | ⟨g', cap', cur', e', hB, hg', rest⟩
        · exact .inl hn
        · refine .inr ⟨g', cap', cur', e', hB, ?_, rest⟩
          rw [hoff.block g' (Array.getElem?_eq_some_iff.1 hg').1 (fun hx => h.apart i j hi h1' hij g' hx (by rw [e']; rfl))]
          exact hg'
      refine keepOwn hoj1 fun k hk e' => ?_
      subst e'
      obtain ⟨c2, h2, _⟩ := ownsI_blk hoj hk
      rw [hgb] at h2; cases h2; exact hse rfl
  · simp only [List.length_set] at h1 h2
    simp only [List.getElem_set] at hb ⊢
    by_cases hij : i = j
    · rw [if_pos hij] at hb
      have hik : i ≠ k := fun e' => hjk (hij ▸ e')
      rw [if_neg hik]
      rcases hw b hb with h' | h'
      · exact h.apart i k hi h2 hik b h'
      · intro e'
        obtain ⟨c2, h3, _⟩ := ownsI_blk (h.own k h2 (by rw [← h.len]; exact h2)) e'
        have := (Array.getElem?_eq_some_iff.1 h3).1
        omega
    · rw [if_neg hij] at hb
      by_cases hik : i = k
      · rw [if_pos hik]
        intro e'
        rcases hw b e' with h' | h'
        · exact h.apart i j hi h1 hij b h' hb
        · obtain ⟨c2, h3, _⟩ := ownsI_blk (h.own j h1 (by rw [← h.len]; exact h1)) hb
          have := (Array.getElem?_eq_some_iff.1 h3).1
          omega
      · rw [if_neg hik]
        exact h.apart j k h1 h2 hjk b hb
  · exact ⟨hoff2.below hBW (fun k hk => by
      rcases hk with hk | rfl
      · exact (hvlt k hk).2
      · exact hBg), hoff2, hoff, hne⟩
/-- What lies at place i of the row. -/
theorem Rows2.cell {W : World} {B g n cap i : Nat} {s e : TypeId} {vs : List Value} {Zs : List (List Int)} (h : Rows2 W B s e (.slice (some ⟨g, 0, none⟩) n cap) vs Zs) (hi : i < vs.length) : W.cell? ⟨g, i, none⟩ = some vs[i] := by
  have := World.ownsRow.cells h.row rfl i _ (List.getElem?_eq_getElem hi)
  rwa [addr_plain, Nat.zero_add] at this
theorem Rows2.free {W : World} {B g n cap i : Nat} {s e : TypeId} {vs : List Value} {Zs : List (List Int)} (h : Rows2 W B s e (.slice (some ⟨g, 0, none⟩) n cap) vs Zs) (hn : n = vs.length) : W.frozen? ⟨g, i, none⟩ = false := by
  subst hn
  exact World.ownsRow.frozenAt h.row i
theorem made_rows (n : Nat) : (madeCells #[Value.slice none 0 0] n).toList = List.replicate n (.slice none 0 0) := by
  apply List.ext_getElem
  · simp [madeCells]
  · intro i h1 h2
    simp [madeCells, Nat.mod_one]
theorem Rows2.made {w : World} {B n : Nat} {s e : TypeId} (hB : B ≤ w.heap.size) (hn : n ≤ maxLen) :
    Rows2 (w.alloc (.cells (madeCells #[Value.slice none 0 0] n) s)) B s e (.slice (some ⟨w.heap.size, 0, none⟩) n n) (List.replicate n (.slice none 0 0)) (List.replicate n []) := by
  refine ⟨?_, by simp, fun i h1 h2 => ?_, fun i j h1 h2 _ k hk => ?_⟩
  · refine ⟨by simp, .inr ⟨w.heap.size, n, _, by simp, hB, World.alloc_heap_new w _, by simp, hn, by simp [size_madeCells], by rw [made_rows]; simp⟩⟩
  · simp only [List.getElem_replicate]
    exact World.ownsRow_nil _ _ _ 1
  · simp only [List.getElem_replicate] at hk
    cases hk
end Go.Proofs.Ytgnfinojnmkkkaa

/- A region that draws its order and whose last step stores into a cell that it has read: S, which the reads rest on, need not stand behind that last step, for it waits for all of them. Nothing of the program is named here. -/
namespace Go.Proofs.Ytgnfinojnmkkkaa
set_option linter.unusedVariables false
section
variable {P : Program} {ops : Array Oper} {Q : Exit → Act → World → Prop} {md : Region.Mode} {S : World → Prop} {z : Nat}

/-- Whatever order is picked, S standing behind each step but z. -/
def wpAnyZ (P : Program) (md : Region.Mode) (ops : Array Oper) (Q : Exit → Act → World → Prop) (S : World → Prop) (z : Nat) : Nat → Array Bool → Act → World → Prop
  | 0, listed, a, w => Region.ready md ops listed = [] ∧ Q .normal a w
  | fuel + 1, listed, a, w =>
    (Region.ready md ops listed = [] → Q .normal a w) ∧
    ∀ i ∈ Region.ready md ops listed, wpOp P ops Q i (fun a' w' => (i ≠ z → S w') ∧ wpAnyZ P md ops Q S z fuel (listed.setIfInBounds i true) a' w') a w
theorem wpAny_of_Z : ∀ (fuel : Nat) (listed : Array Bool) (a : Act) (w : World), wpAnyZ P md ops Q S z fuel listed a w → wpAny P md ops Q fuel listed a w
  | 0, _, _, _, h => h
  | fuel + 1, _, _, _, h => ⟨h.1, fun i hi => wpOp_mono (fun a' w' h' => wpAny_of_Z fuel _ a' w' h'.2) (h.2 i hi)⟩
/-- z waits for i. -/
def waits (md : Region.Mode) (ops : Array Oper) (z i : Nat) : Bool := ((ops[z]?).map fun o => o.after.any fun e => Region.binds md e && e.on == i).getD false
theorem waits_spec {i : Nat} (h : waits md ops z i = true) : ∃ o, ops[z]? = some o ∧ ∃ e ∈ o.after, Region.binds md e = true ∧ e.on = i := by
  unfold waits at h
  cases ho : ops[z]? with
  | none => simp [ho] at h
  | some o =>
    simp only [ho, Option.map_some, Option.getD_some, Array.any_eq_true, Bool.and_eq_true, beq_iff_eq] at h
    obtain ⟨k, hk, h1, h2⟩ := h
    exact ⟨o, rfl, o.after[k], Array.getElem_mem hk, h1, h2⟩
theorem not_both {i : Nat} {listed : Array Bool} (hw : waits md ops z i = true) (hi : listed.getD i true = false) : z ∉ Region.ready md ops listed := by
  intro hz
  obtain ⟨o, ho, e, he, hb, rfl⟩ := waits_spec hw
  obtain ⟨_, o', ho', hall⟩ := mem_ready.1 hz
  rw [ho] at ho'
  cases ho'
  have h1 := hall e he hb
  rcases Nat.lt_or_ge e.on listed.size with h' | h'
  · simp [h'] at hi h1; rw [hi] at h1; cases h1
  · simp [Array.getElem?_eq_none h'] at h1
theorem wpAnyZ_first {i : Nat} {oi : Oper} {v : Value} (hi : ops[i]? = some oi) (hsel : ∀ (j : Nat) (o : Oper) cs b, ops[j]? = some o → o.op ≠ .select cs b)
    (hQ : ∀ c a w, Q (.panic c) (a.put oi.dst v) w → Q (.panic c) a w) (hz : waits md ops z i = true) :
    ∀ (fuel : Nat) (listed : Array Bool) (a : Act) (w : World),
      (∀ j oj, ops[j]? = some oj → j ≠ i → listed.getD j true = false → (∀ e ∈ oj.after, Region.binds md e = true → e.on ≠ i) → oi.apart ops oj = true) →
      i ∈ Region.ready md ops listed → YieldsIf P ops S oi v a → S w →
      wpAnyZ P md ops Q S z fuel (listed.setIfInBounds i true) (a.put oi.dst v) w → wpAnyZ P md ops Q S z (fuel + 1) listed a w := by
  intro fuel
  induction fuel with
  | zero =>
    intro listed a w _ hr hy hS H
    refine ⟨fun h => (by rw [h] at hr; cases hr), fun j hj => ?_⟩
    by_cases hji : j = i
    · subst hji; exact hy.wpOp hi hS ⟨fun _ => hS, H⟩
    · have := ready_mono hj hji
      rw [H.1] at this
      cases this
  | succ fuel ih =>
    intro listed a w hfree hr hy hS H
    refine ⟨fun h => (by rw [h] at hr; cases hr), fun j hj => ?_⟩
    by_cases hji : j = i
    · subst hji; exact hy.wpOp hi hS ⟨fun _ => hS, H⟩
    · have hjz : j ≠ z := fun e => not_both hz (mem_ready.1 hr).1 (e ▸ hj)
      have h1 := H.2 j (ready_mono hj hji)
      obtain ⟨hjun, oj, hoj, hall⟩ := mem_ready.1 hj
      have hnot : ∀ e ∈ oj.after, Region.binds md e = true → e.on ≠ i := fun e he hb heq => by
        have g1 := hall e he hb
        have g0 := (mem_ready.1 hr).1
        rw [heq] at g1
        rcases Nat.lt_or_ge i listed.size with h' | h'
        · simp [h'] at g0 g1; rw [g0] at g1; cases g1
        · simp [Array.getElem?_eq_none h'] at g1
      have h2 := wpOp_putIf hoj (hfree j oj hoj hji hjun hnot) (fun cs b => hsel i oi cs b hi) (fun cs b => hsel j oj cs b hoj) hQ hy h1
      have hfree' : ∀ k ok, ops[k]? = some ok → k ≠ i → (listed.setIfInBounds j true).getD k true = false →
          (∀ e ∈ ok.after, Region.binds md e = true → e.on ≠ i) → oi.apart ops ok = true := fun k ok hk hki hun hno => by
        refine hfree k ok hk hki ?_ hno
        by_cases hjk : j = k
        · subst hjk; exact hjun
        · rw [getD_set_ne true hjk] at hun; exact hun
      refine wpOp_mono (fun a' w' h3 => ⟨fun _ => h3.2.1 hjz, ih (listed.setIfInBounds j true) a' w' hfree' (ready_mono hr (Ne.symm hji)) h3.1 (h3.2.1 hjz) ?_⟩) h2
      rw [Array.setIfInBounds_comm _ _ hji]
      exact h3.2.2
theorem wpAnyZ_take {i : Nat} {oi : Oper} {v : Value} {fuel : Nat} {listed : Array Bool} {a : Act} {w : World} (hi : ops[i]? = some oi)
    (hs : Region.noSelect ops = true) (hf : Region.free md ops listed i = true) (hr : (Region.ready md ops listed).contains i = true) (hz : waits md ops z i = true)
    (hQ : ∀ c a w, Q (.panic c) (a.put oi.dst v) w → Q (.panic c) a w) (hy : YieldsIf P ops S oi v a) (hS : S w)
    (h : wpAnyZ P md ops Q S z fuel (listed.setIfInBounds i true) (a.put oi.dst v) w) : wpAnyZ P md ops Q S z (fuel + 1) listed a w :=
  wpAnyZ_first hi (Region.noSelect_spec hs) hQ hz fuel listed a w (Region.free_spec hi hf) (by simpa using hr) hy hS h
theorem wpAnyZ_one {i : Nat} {o : Oper} {fuel : Nat} {listed : Array Bool} {a : Act} {w : World} (hr : Region.ready md ops listed = [i]) (ho : ops[i]? = some o)
    (h : ∀ K' : Act → World → Prop, Shut (∀ a w, S w → (S w → wpAnyZ P md ops Q S z fuel (listed.setIfInBounds i true) a w) → K' a w) → if Region.wanted o (yielded ops a.tmps) = true then Oper.wp P o a w K' Q else K' (a.put o.dst undef) w) :
    wpAnyZ P md ops Q S z (fuel + 1) listed a w := by
  refine ⟨fun h0 => (by rw [hr] at h0; cases h0), fun j hj => ?_⟩
  rw [hr, List.mem_singleton] at hj
  subst hj
  exact wpOp_step ho (fun K' hK => h K' (fun a w hS hW => hK a w ⟨fun _ => hS, hW hS⟩))
theorem wpAnyZ_two {i j : Nat} {o p : Oper} {fuel : Nat} {listed : Array Bool} {a : Act} {w : World} (hr : Region.ready md ops listed = [i, j]) (ho : ops[i]? = some o) (hp : ops[j]? = some p)
    (h : ∀ K' : Act → World → Prop, Shut (∀ a w, S w → (S w → wpAnyZ P md ops Q S z fuel (listed.setIfInBounds i true) a w) → K' a w) → if Region.wanted o (yielded ops a.tmps) = true then Oper.wp P o a w K' Q else K' (a.put o.dst undef) w)
    (h' : ∀ K' : Act → World → Prop, Shut (∀ a w, S w → (S w → wpAnyZ P md ops Q S z fuel (listed.setIfInBounds j true) a w) → K' a w) → if Region.wanted p (yielded ops a.tmps) = true then Oper.wp P p a w K' Q else K' (a.put p.dst undef) w) :
    wpAnyZ P md ops Q S z (fuel + 1) listed a w := by
  refine ⟨fun h0 => (by rw [hr] at h0; cases h0), fun k hk => ?_⟩
  rw [hr] at hk
  simp only [List.mem_cons, List.not_mem_nil, or_false] at hk
  rcases hk with rfl | rfl
  · exact wpOp_step ho (fun K' hK => h K' (fun a w hS hW => hK a w ⟨fun _ => hS, hW hS⟩))
  · exact wpOp_step hp (fun K' hK => h' K' (fun a w hS hW => hK a w ⟨fun _ => hS, hW hS⟩))
theorem wpAnyZ_last {o : Oper} {fuel : Nat} {listed : Array Bool} {a : Act} {w : World} (hr : Region.ready md ops listed = [z]) (ho : ops[z]? = some o) (hd : Region.ready md ops (listed.setIfInBounds z true) = [])
    (h : ∀ K' : Act → World → Prop, Shut (∀ a w, Q .normal a w → K' a w) → if Region.wanted o (yielded ops a.tmps) = true then Oper.wp P o a w K' Q else K' (a.put o.dst undef) w) :
    wpAnyZ P md ops Q S z (fuel + 1) listed a w := by
  refine ⟨fun h0 => (by rw [hr] at h0; cases h0), fun j hj => ?_⟩
  rw [hr, List.mem_singleton] at hj
  subst hj
  exact wpOp_step ho (fun K' hK => h K' (fun a w hW => hK a w ⟨fun e => absurd rfl e, by
    cases fuel with
    | zero => exact ⟨hd, hW⟩
    | succ n => exact ⟨fun _ => hW, by rw [hd]; simp⟩⟩))
theorem wp_region_Z {id : Nat} (z : Nat) {a : Act} {w : World} (hm : P.follows .mixedOrders = true) (hS : S w.drew)
    (h : S w.drew → wpAnyZ P .any ops Q S z ops.size (Array.replicate ops.size false) a w.drew) : (Code.region id ops true).wp P Q a w :=
  wp_region_any hm (wpAny_of_Z _ _ _ _ (h hS))
end
end Go.Proofs.Ytgnfinojnmkkkaa

/- From a reading to a walk: a slice of numbers of 8 bits with a sign that came in. Nothing of the program is named here. -/
namespace Go.Proofs.Ytgnfinojnmkkkaa
open Go.ChangeShapes Go.WideShapes Go.ChangeAt Go.RowKit
/-- The slice at a, of n numbers of 8 bits, reads as Z. -/
def I8sAt (w : World) (a : Option Addr) (n : Nat) (Z : List Int) : Prop :=
  Z.length = n ∧ (0 < n → ∃ g off, a = some ⟨g, off, none⟩ ∧ g < w.heap.size ∧ ∀ j (h : j < Z.length), w.cell? ⟨g, off + j, none⟩ = some (.int .i8 Z[j])) ∧ ∀ z ∈ Z, -128 ≤ z ∧ z ≤ 127
theorem I8sAt.since {w w' : World} {a : Option Addr} {n : Nat} {Z : List Int} (h : I8sAt w a n Z) (hb : Below w.heap.size w w') : I8sAt w' a n Z := by
  refine ⟨h.1, fun hn => ?_, h.2.2⟩
  obtain ⟨g, off, e, hg, hc⟩ := h.2.1 hn
  exact ⟨g, off, e, Nat.lt_of_lt_of_le hg hb.size, fun j hj => (hb.cell (p := ⟨g, off + j, none⟩) hg).trans (hc j hj)⟩
theorem wf_i8_range {n : Int} (h : (Lit.int .i8 n).wf = true) : -128 ≤ n ∧ n ≤ 127 := by
  simp [Lit.wf, IntKind.min, IntKind.max, IntKind.signed, IntKind.bits] at h
  omega
section
variable {H : Type} {enc : TypeId × Value → H} {P : Program}
theorem open_i8s_at {W : World} {v : Value} {d : DataW H} {p : List MemPlace} {t e : TypeId} {ts : List TypeId} {ds : List (DataW H)} {j : Nat} (ht : P.underlying t = some (.slice e)) (he : P.underlying e = some (.int .i8)) (hc : P.cellsOf e = 1) (h8 : P.bytesOf e = 1)
    (hv : Value.okWide P W .any 0 t v) (h : DataW.Trod enc P W 0 (fun _ => true) true t v d p) (hlt : ∀ x ∈ p, x.block < W.heap.size)
    (hsz : (DataW.weightsEach P ts ds).all (· ≤ reachBytes) = true) (hj : ts[j]? = some t) (hd : ds[j]? = some d) :
    ∃ (a : Option Addr) (n c : Nat) (L : List Int), v = .slice a n c ∧ I8sAt W a n L ∧ n ≤ 140737488351232 := by
  obtain ⟨a0, len, cap, rfl⟩ := okWide_slice ht hv
  obtain ⟨fuel, hf⟩ := h
  rcases open_ints ht he hc hf with ⟨hcs, hx⟩ | ⟨a, len', cap', zs, hcs, _, hl, hm, hz, hx, hcell, hwz⟩
  · simp [Value.cells] at hcs
    obtain ⟨rfl, rfl, rfl⟩ := hcs
    exact ⟨none, 0, 0, [], rfl, ⟨rfl, fun h => absurd h (by omega), fun z hz => absurd hz (by simp)⟩, Nat.zero_le _⟩
  · simp [Value.cells] at hcs
    obtain ⟨rfl, rfl, rfl⟩ := hcs
    simp only [Prod.mk.injEq] at hx
    obtain ⟨rfl, rfl⟩ := hx
    simp only [if_true] at hz
    have hr := sized_slice hsz hj hd ht
    rw [h8] at hr
    simp only [lits, List.length_map, List.length_take, List.length_drop, reachBytes] at hr
    refine ⟨some a, len, cap, zs.take len, rfl, ⟨by simp; omega, fun hn => ?_, fun z hz' => wf_i8_range (hwz z (List.mem_of_mem_take hz'))⟩, by omega⟩
    obtain ⟨b, off, spot⟩ := a
    have hs : spot = none := by simpa [Addr.add] using World.cell?_spot (hcell 0 (by omega))
    subst hs
    refine ⟨b, off, rfl, hlt (.cell b (off + 0)) (MemPlace.mem_row.2 ⟨0, by omega, rfl⟩), fun i hi => ?_⟩
    rw [List.length_take] at hi
    have h1 := hcell i (by omega)
    rw [addr_plain] at h1
    rw [h1, List.getD_eq_getElem?_getD, List.getElem?_eq_getElem (by omega)]
    simp only [List.getElem_take, Option.getD_some]
end
end Go.Proofs.Ytgnfinojnmkkkaa

/- A region that draws its order and whose last step waits for all others, if not for each of them at once. Nothing of the program is named here. -/
namespace Go.Proofs.Ytgnfinojnmkkkaa
set_option linter.unusedVariables false
section
variable {P : Program} {ops : Array Oper} {Q : Exit → Act → World → Prop} {md : Region.Mode} {S : World → Prop} {z : Nat}
/-- z waits for i, in some steps. -/
def reachB (md : Region.Mode) (ops : Array Oper) : Nat → Nat → Nat → Bool
  | 0, _, _ => false
  | k + 1, j, i => waits md ops j i || (List.range ops.size).any fun q => waits md ops j q && reachB md ops k q i
/-- Whatever was taken, all that it waits for was. -/
def Closed (md : Region.Mode) (ops : Array Oper) (listed : Array Bool) : Prop := ∀ j o, ops[j]? = some o → listed.getD j false = true → ∀ e ∈ o.after, Region.binds md e = true → listed.getD e.on false = true
def closedB (md : Region.Mode) (ops : Array Oper) (listed : Array Bool) : Bool := (List.range ops.size).all fun j => !listed.getD j false || ((ops[j]?).map fun o => o.after.all fun e => !Region.binds md e || listed.getD e.on false).getD true
theorem closed_of {listed : Array Bool} (h : closedB md ops listed = true) : Closed md ops listed := by
  intro j o ho hl e he hb
  have hj : j < ops.size := (Array.getElem?_eq_some_iff.1 ho).1
  have h1 := List.all_eq_true.1 h j (List.mem_range.2 hj)
  rw [hl, ho] at h1
  simp only [Bool.not_true, Bool.false_or, Option.map_some, Option.getD_some, Array.all_eq_true_iff_forall_mem, Bool.or_eq_true, Bool.not_eq_true'] at h1
  rcases h1 e he with h2 | h2
  · rw [hb] at h2; cases h2
  · exact h2
theorem Closed.more {listed : Array Bool} (h : Closed md ops listed) {j : Nat} (hj : j ∈ Region.ready md ops listed) : Closed md ops (listed.setIfInBounds j true) := by
  intro k o ho hl e he hb
  refine getD_set_true ?_
  by_cases hkj : k = j
  · subst hkj
    obtain ⟨_, o', ho', hall⟩ := mem_ready.1 hj
    rw [ho] at ho'; cases ho'
    exact hall e he hb
  · rw [getD_set_ne false (fun e => hkj e.symm)] at hl
    exact h k o ho hl e he hb
theorem reach_listed {listed : Array Bool} (h : Closed md ops listed) {i : Nat} : ∀ (k j : Nat), (∀ o, ops[j]? = some o → ∀ e ∈ o.after, Region.binds md e = true → listed.getD e.on false = true) → reachB md ops k j i = true → listed.getD i false = true
  | 0, _, _, hr => by cases hr
  | k + 1, j, hj, hr => by
    have hw : ∀ q, waits md ops j q = true → listed.getD q false = true := fun q hq => by
      obtain ⟨o, ho, e, he, hb, rfl⟩ := waits_spec hq
      exact hj o ho e he hb
    unfold reachB at hr
    rw [Bool.or_eq_true] at hr
    rcases hr with hr | hr
    · exact hw i hr
    · obtain ⟨q, _, hq⟩ := List.any_eq_true.1 hr
      rw [Bool.and_eq_true] at hq
      exact reach_listed h k q (fun o ho => h q o ho (hw q hq.1)) hq.2
theorem not_bothT {i k : Nat} {listed : Array Bool} (hc : Closed md ops listed) (hw : reachB md ops k z i = true) (hi : listed.getD i true = false) : z ∉ Region.ready md ops listed := by
  intro hz
  obtain ⟨_, o', ho', hall⟩ := mem_ready.1 hz
  have h1 := reach_listed hc k z (fun o ho e he hb => by rw [ho'] at ho; cases ho; exact hall e he hb) hw
  rcases Nat.lt_or_ge i listed.size with h' | h'
  · simp [h'] at hi h1; rw [hi] at h1; cases h1
  · simp [Array.getElem?_eq_none h'] at h1
theorem wpAnyZ_firstT {i kk : Nat} {oi : Oper} {v : Value} (hi : ops[i]? = some oi) (hsel : ∀ (j : Nat) (o : Oper) cs b, ops[j]? = some o → o.op ≠ .select cs b)
    (hQ : ∀ c a w, Q (.panic c) (a.put oi.dst v) w → Q (.panic c) a w) (hz : reachB md ops kk z i = true) :
    ∀ (fuel : Nat) (listed : Array Bool) (a : Act) (w : World), Closed md ops listed →
      (∀ j oj, ops[j]? = some oj → j ≠ i → listed.getD j true = false → (∀ e ∈ oj.after, Region.binds md e = true → e.on ≠ i) → oi.apart ops oj = true) →
      i ∈ Region.ready md ops listed → YieldsIf P ops S oi v a → S w →
      wpAnyZ P md ops Q S z fuel (listed.setIfInBounds i true) (a.put oi.dst v) w → wpAnyZ P md ops Q S z (fuel + 1) listed a w := by
  intro fuel
  induction fuel with
  | zero =>
    intro listed a w _ _ hr hy hS H
    refine ⟨fun h => (by rw [h] at hr; cases hr), fun j hj => ?_⟩
    by_cases hji : j = i
    · subst hji; exact hy.wpOp hi hS ⟨fun _ => hS, H⟩
    · have := ready_mono hj hji
      rw [H.1] at this
      cases this
  | succ fuel ih =>
    intro listed a w hcl hfree hr hy hS H
    refine ⟨fun h => (by rw [h] at hr; cases hr), fun j hj => ?_⟩
    by_cases hji : j = i
    · subst hji; exact hy.wpOp hi hS ⟨fun _ => hS, H⟩
    · have hjz : j ≠ z := fun e => not_bothT hcl hz (mem_ready.1 hr).1 (e ▸ hj)
      have h1 := H.2 j (ready_mono hj hji)
      obtain ⟨hjun, oj, hoj, hall⟩ := mem_ready.1 hj
      have hnot : ∀ e ∈ oj.after, Region.binds md e = true → e.on ≠ i := fun e he hb heq => by
        have g1 := hall e he hb
        have g0 := (mem_ready.1 hr).1
        rw [heq] at g1
        rcases Nat.lt_or_ge i listed.size with h' | h'
        · simp [h'] at g0 g1; rw [g0] at g1; cases g1
        · simp [Array.getElem?_eq_none h'] at g1
      have h2 := wpOp_putIf hoj (hfree j oj hoj hji hjun hnot) (fun cs b => hsel i oi cs b hi) (fun cs b => hsel j oj cs b hoj) hQ hy h1
      have hfree' : ∀ k ok, ops[k]? = some ok → k ≠ i → (listed.setIfInBounds j true).getD k true = false →
          (∀ e ∈ ok.after, Region.binds md e = true → e.on ≠ i) → oi.apart ops ok = true := fun k ok hk hki hun hno => by
        refine hfree k ok hk hki ?_ hno
        by_cases hjk : j = k
        · subst hjk; exact hjun
        · rw [getD_set_ne true hjk] at hun; exact hun
      refine wpOp_mono (fun a' w' h3 => ⟨fun _ => h3.2.1 hjz, ih (listed.setIfInBounds j true) a' w' (hcl.more hj) hfree' (ready_mono hr (Ne.symm hji)) h3.1 (h3.2.1 hjz) ?_⟩) h2
      rw [Array.setIfInBounds_comm _ _ hji]
      exact h3.2.2
theorem wpAnyZ_takeT {i : Nat} {oi : Oper} {v : Value} {fuel : Nat} {listed : Array Bool} {a : Act} {w : World} (kk : Nat) (hi : ops[i]? = some oi)
    (hs : Region.noSelect ops = true) (hf : Region.free md ops listed i = true) (hr : (Region.ready md ops listed).contains i = true) (hz : reachB md ops kk z i = true) (hc : closedB md ops listed = true)
    (hQ : ∀ c a w, Q (.panic c) (a.put oi.dst v) w → Q (.panic c) a w) (hy : YieldsIf P ops S oi v a) (hS : S w)
    (h : wpAnyZ P md ops Q S z fuel (listed.setIfInBounds i true) (a.put oi.dst v) w) : wpAnyZ P md ops Q S z (fuel + 1) listed a w :=
  wpAnyZ_firstT hi (Region.noSelect_spec hs) hQ hz fuel listed a w (closed_of hc) (Region.free_spec hi hf) (by simpa using hr) hy hS h
end
end Go.Proofs.Ytgnfinojnmkkkaa

/- A region that draws its order and whose last steps store into cells that it has read: S, which the reads rest on, need not stand behind the steps from z on, which wait for all reads. Nothing of the program is named here. -/
namespace Go.Proofs.Ytgnfinojnmkkkaa
set_option linter.unusedVariables false
section
variable {P : Program} {ops : Array Oper} {Q : Exit → Act → World → Prop} {md : Region.Mode} {S : World → Prop} {z : Nat}
/-- Whatever order is picked, S standing behind each step ahead of z. -/
def wpAnyT (P : Program) (md : Region.Mode) (ops : Array Oper) (Q : Exit → Act → World → Prop) (S : World → Prop) (z : Nat) : Nat → Array Bool → Act → World → Prop
  | 0, listed, a, w => Region.ready md ops listed = [] ∧ Q .normal a w
  | fuel + 1, listed, a, w =>
    (Region.ready md ops listed = [] → Q .normal a w) ∧
    ∀ i ∈ Region.ready md ops listed, wpOp P ops Q i (fun a' w' => (i < z → S w → S w') ∧ wpAnyT P md ops Q S z fuel (listed.setIfInBounds i true) a' w') a w
theorem wpAny_of_T : ∀ (fuel : Nat) (listed : Array Bool) (a : Act) (w : World), wpAnyT P md ops Q S z fuel listed a w → wpAny P md ops Q fuel listed a w
  | 0, _, _, _, h => h
  | fuel + 1, _, _, _, h => ⟨h.1, fun i hi => wpOp_mono (fun a' w' h' => wpAny_of_T fuel _ a' w' h'.2) (h.2 i hi)⟩
/-- All steps from z on wait for i. -/
def tailB (md : Region.Mode) (ops : Array Oper) (k z i : Nat) : Bool := (List.range ops.size).all fun j => decide (j < z) || reachB md ops k j i
theorem not_tail {i k : Nat} {listed : Array Bool} (hc : Closed md ops listed) (hw : tailB md ops k z i = true) (hi : listed.getD i true = false) {j : Nat} (hj : j ∈ Region.ready md ops listed) : j < z := by
  rcases Nat.lt_or_ge j z with h | h
  · exact h
  · obtain ⟨_, o', ho', _⟩ := mem_ready.1 hj
    have h1 := List.all_eq_true.1 hw j (List.mem_range.2 (Array.getElem?_eq_some_iff.1 ho').1)
    rw [Bool.or_eq_true, decide_eq_true_eq] at h1
    rcases h1 with h1 | h1
    · omega
    · exact absurd hj (not_bothT (z := j) hc h1 hi)
theorem wpAnyT_first {i kk : Nat} {oi : Oper} {v : Value} (hi : ops[i]? = some oi) (hsel : ∀ (j : Nat) (o : Oper) cs b, ops[j]? = some o → o.op ≠ .select cs b)
    (hQ : ∀ c a w, Q (.panic c) (a.put oi.dst v) w → Q (.panic c) a w) (hz : tailB md ops kk z i = true) :
    ∀ (fuel : Nat) (listed : Array Bool) (a : Act) (w : World), Closed md ops listed →
      (∀ j oj, ops[j]? = some oj → j ≠ i → listed.getD j true = false → (∀ e ∈ oj.after, Region.binds md e = true → e.on ≠ i) → oi.apart ops oj = true) →
      i ∈ Region.ready md ops listed → YieldsIf P ops S oi v a → S w →
      wpAnyT P md ops Q S z fuel (listed.setIfInBounds i true) (a.put oi.dst v) w → wpAnyT P md ops Q S z (fuel + 1) listed a w := by
  intro fuel
  induction fuel with
  | zero =>
    intro listed a w _ _ hr hy hS H
    refine ⟨fun h => (by rw [h] at hr; cases hr), fun j hj => ?_⟩
    by_cases hji : j = i
    · subst hji; exact hy.wpOp hi hS ⟨fun _ _ => hS, H⟩
    · have := ready_mono hj hji
      rw [H.1] at this
      cases this
  | succ fuel ih =>
    intro listed a w hcl hfree hr hy hS H
    refine ⟨fun h => (by rw [h] at hr; cases hr), fun j hj => ?_⟩
    by_cases hji : j = i
    · subst hji; exact hy.wpOp hi hS ⟨fun _ _ => hS, H⟩
    · have hjz : j < z := not_tail hcl hz (mem_ready.1 hr).1 hj
      have h1 := H.2 j (ready_mono hj hji)
      obtain ⟨hjun, oj, hoj, hall⟩ := mem_ready.1 hj
      have hnot : ∀ e ∈ oj.after, Region.binds md e = true → e.on ≠ i := fun e he hb heq => by
        have g1 := hall e he hb
        have g0 := (mem_ready.1 hr).1
        rw [heq] at g1
        rcases Nat.lt_or_ge i listed.size with h' | h'
        · simp [h'] at g0 g1; rw [g0] at g1; cases g1
        · simp [Array.getElem?_eq_none h'] at g1
      have h2 := wpOp_putIf hoj (hfree j oj hoj hji hjun hnot) (fun cs b => hsel i oi cs b hi) (fun cs b => hsel j oj cs b hoj) hQ hy h1
      have hfree' : ∀ k ok, ops[k]? = some ok → k ≠ i → (listed.setIfInBounds j true).getD k true = false →
          (∀ e ∈ ok.after, Region.binds md e = true → e.on ≠ i) → oi.apart ops ok = true := fun k ok hk hki hun hno => by
        refine hfree k ok hk hki ?_ hno
        by_cases hjk : j = k
        · subst hjk; exact hjun
        · rw [getD_set_ne true hjk] at hun; exact hun
      refine wpOp_mono (fun a' w' h3 => ⟨fun _ => h3.2.1 hjz, ih (listed.setIfInBounds j true) a' w' (hcl.more hj) hfree' (ready_mono hr (Ne.symm hji)) h3.1 (h3.2.1 hjz hS) ?_⟩) h2
      rw [Array.setIfInBounds_comm _ _ hji]
      exact h3.2.2
theorem wpAnyT_take {i : Nat} {oi : Oper} {v : Value} {fuel : Nat} {listed : Array Bool} {a : Act} {w : World} (kk : Nat) (hi : ops[i]? = some oi)
    (hs : Region.noSelect ops = true) (hf : Region.free md ops listed i = true) (hr : (Region.ready md ops listed).contains i = true) (hz : tailB md ops kk z i = true) (hc : closedB md ops listed = true)
    (hQ : ∀ c a w, Q (.panic c) (a.put oi.dst v) w → Q (.panic c) a w) (hy : YieldsIf P ops S oi v a) (hS : S w)
    (h : wpAnyT P md ops Q S z fuel (listed.setIfInBounds i true) (a.put oi.dst v) w) : wpAnyT P md ops Q S z (fuel + 1) listed a w :=
  wpAnyT_first hi (Region.noSelect_spec hs) hQ hz fuel listed a w (closed_of hc) (Region.free_spec hi hf) (by simpa using hr) hy hS h
theorem wpAnyT_firstW {i : Nat} {oi : Oper} {v : Value} (hi : ops[i]? = some oi) (hsel : ∀ (j : Nat) (o : Oper) cs b, ops[j]? = some o → o.op ≠ .select cs b)
    (hQ : ∀ c a w, Q (.panic c) (a.put oi.dst v) w → Q (.panic c) a w) :
    ∀ (fuel : Nat) (listed : Array Bool) (a : Act) (w : World),
      (∀ j oj, ops[j]? = some oj → j ≠ i → listed.getD j true = false → (∀ e ∈ oj.after, Region.binds md e = true → e.on ≠ i) → oi.apart ops oj = true) →
      i ∈ Region.ready md ops listed → YieldsIf P ops (fun _ => True) oi v a →
      wpAnyT P md ops Q S z fuel (listed.setIfInBounds i true) (a.put oi.dst v) w → wpAnyT P md ops Q S z (fuel + 1) listed a w := by
  intro fuel
  induction fuel with
  | zero =>
    intro listed a w _ hr hy H
    refine ⟨fun h => (by rw [h] at hr; cases hr), fun j hj => ?_⟩
    by_cases hji : j = i
    · subst hji; exact hy.wpOp hi trivial ⟨fun _ hS => hS, H⟩
    · have := ready_mono hj hji
      rw [H.1] at this
      cases this
  | succ fuel ih =>
    intro listed a w hfree hr hy H
    refine ⟨fun h => (by rw [h] at hr; cases hr), fun j hj => ?_⟩
    by_cases hji : j = i
    · subst hji; exact hy.wpOp hi trivial ⟨fun _ hS => hS, H⟩
    · have h1 := H.2 j (ready_mono hj hji)
      obtain ⟨hjun, oj, hoj, hall⟩ := mem_ready.1 hj
      have hnot : ∀ e ∈ oj.after, Region.binds md e = true → e.on ≠ i := fun e he hb heq => by
        have g1 := hall e he hb
        have g0 := (mem_ready.1 hr).1
        rw [heq] at g1
        rcases Nat.lt_or_ge i listed.size with h' | h'
        · simp [h'] at g0 g1; rw [g0] at g1; cases g1
        · simp [Array.getElem?_eq_none h'] at g1
      have h2 := wpOp_putIf hoj (hfree j oj hoj hji hjun hnot) (fun cs b => hsel i oi cs b hi) (fun cs b => hsel j oj cs b hoj) hQ hy h1
      have hfree' : ∀ k ok, ops[k]? = some ok → k ≠ i → (listed.setIfInBounds j true).getD k true = false →
          (∀ e ∈ ok.after, Region.binds md e = true → e.on ≠ i) → oi.apart ops ok = true := fun k ok hk hki hun hno => by
        refine hfree k ok hk hki ?_ hno
        by_cases hjk : j = k
        · subst hjk; exact hjun
        · rw [getD_set_ne true hjk] at hun; exact hun
      refine wpOp_mono (fun a' w' h3 => ⟨fun hjz => h3.2.1 hjz, ih (listed.setIfInBounds j true) a' w' hfree' (ready_mono hr (Ne.symm hji)) h3.1 ?_⟩) h2
      rw [Array.setIfInBounds_comm _ _ hji]
      exact h3.2.2
/-- A step that looks at no world. -/
theorem wpAnyT_takeW {i : Nat} {oi : Oper} {v : Value} {fuel : Nat} {listed : Array Bool} {a : Act} {w : World} (hi : ops[i]? = some oi)
    (hs : Region.noSelect ops = true) (hf : Region.free md ops listed i = true) (hr : (Region.ready md ops listed).contains i = true)
    (hQ : ∀ c a w, Q (.panic c) (a.put oi.dst v) w → Q (.panic c) a w) (hy : YieldsIf P ops (fun _ => True) oi v a)
    (h : wpAnyT P md ops Q S z fuel (listed.setIfInBounds i true) (a.put oi.dst v) w) : wpAnyT P md ops Q S z (fuel + 1) listed a w :=
  wpAnyT_firstW hi (Region.noSelect_spec hs) hQ fuel listed a w (Region.free_spec hi hf) (by simpa using hr) hy h
theorem wpAnyT_one {i : Nat} {o : Oper} {fuel : Nat} {listed : Array Bool} {a : Act} {w : World} (hr : Region.ready md ops listed = [i]) (ho : ops[i]? = some o)
    (h : ∀ K' : Act → World → Prop, Shut (∀ a w, S w → (S w → wpAnyT P md ops Q S z fuel (listed.setIfInBounds i true) a w) → K' a w) → if Region.wanted o (yielded ops a.tmps) = true then Oper.wp P o a w K' Q else K' (a.put o.dst undef) w) :
    wpAnyT P md ops Q S z (fuel + 1) listed a w := by
  refine ⟨fun h0 => (by rw [hr] at h0; cases h0), fun j hj => ?_⟩
  rw [hr, List.mem_singleton] at hj
  subst hj
  exact wpOp_step ho (fun K' hK => h K' (fun a w hS hW => hK a w ⟨fun _ _ => hS, hW hS⟩))
theorem wpAnyT_two {i j : Nat} {o p : Oper} {fuel : Nat} {listed : Array Bool} {a : Act} {w : World} (hr : Region.ready md ops listed = [i, j]) (ho : ops[i]? = some o) (hp : ops[j]? = some p)
    (h : ∀ K' : Act → World → Prop, Shut (∀ a w, S w → (S w → wpAnyT P md ops Q S z fuel (listed.setIfInBounds i true) a w) → K' a w) → if Region.wanted o (yielded ops a.tmps) = true then Oper.wp P o a w K' Q else K' (a.put o.dst undef) w)
    (h' : ∀ K' : Act → World → Prop, Shut (∀ a w, S w → (S w → wpAnyT P md ops Q S z fuel (listed.setIfInBounds j true) a w) → K' a w) → if Region.wanted p (yielded ops a.tmps) = true then Oper.wp P p a w K' Q else K' (a.put p.dst undef) w) :
    wpAnyT P md ops Q S z (fuel + 1) listed a w := by
  refine ⟨fun h0 => (by rw [hr] at h0; cases h0), fun k hk => ?_⟩
  rw [hr] at hk
  simp only [List.mem_cons, List.not_mem_nil, or_false] at hk
  rcases hk with rfl | rfl
  · exact wpOp_step ho (fun K' hK => h K' (fun a w hS hW => hK a w ⟨fun _ _ => hS, hW hS⟩))
  · exact wpOp_step hp (fun K' hK => h' K' (fun a w hS hW => hK a w ⟨fun _ _ => hS, hW hS⟩))
/-- A step from z on. -/
theorem wpAnyT_end {i : Nat} {o : Oper} {fuel : Nat} {listed : Array Bool} {a : Act} {w : World} (hr : Region.ready md ops listed = [i]) (hz : decide (i < z) = false) (ho : ops[i]? = some o)
    (h : ∀ K' : Act → World → Prop, Shut (∀ a w, wpAnyT P md ops Q S z fuel (listed.setIfInBounds i true) a w → K' a w) → if Region.wanted o (yielded ops a.tmps) = true then Oper.wp P o a w K' Q else K' (a.put o.dst undef) w) :
    wpAnyT P md ops Q S z (fuel + 1) listed a w := by
  refine ⟨fun h0 => (by rw [hr] at h0; cases h0), fun j hj => ?_⟩
  rw [hr, List.mem_singleton] at hj
  subst hj
  exact wpOp_step ho (fun K' hK => h K' (fun a w hW => hK a w ⟨fun e => absurd e (of_decide_eq_false hz), hW⟩))
theorem wpAnyT_done {fuel : Nat} {listed : Array Bool} {a : Act} {w : World} (hr : Region.ready md ops listed = []) (h : Q .normal a w) : wpAnyT P md ops Q S z fuel listed a w := by
  cases fuel with
  | zero => exact ⟨hr, h⟩
  | succ n => exact ⟨fun _ => h, by rw [hr]; simp⟩
theorem wp_region_T {id : Nat} (z : Nat) {a : Act} {w : World} (hm : P.follows .mixedOrders = true) (hS : S w.drew)
    (h : S w.drew → wpAnyT P .any ops Q S z ops.size (Array.replicate ops.size false) a w.drew) : (Code.region id ops true).wp P Q a w :=
  wp_region_any hm (wpAny_of_T _ _ _ _ (h hS))
end
end Go.Proofs.Ytgnfinojnmkkkaa
