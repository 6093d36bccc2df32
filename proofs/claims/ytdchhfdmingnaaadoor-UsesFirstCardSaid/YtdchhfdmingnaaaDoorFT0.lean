/- Layer 2, plain: how a text is quoted (P2.2), byte by byte, on lists of bytes; that a quote is read in one way (P2.3). Nothing of the program is named here. -/
import Derived.Lib.Bytealg
import Derived.Lib.Strings
import Derived.WalkKit
import Derived.ProofKit
import Derived.Laws.AppendOwn
import Derived.Laws.MakeOwn
import Derived.Laws.IdiomStrings
import Derived.Below
import Derived.Deep.AppendLies
import Derived.OpenShut
import Derived.Laws.AppendOwnNone
import Derived.SizedLaws
import Derived.Deep.QuietTactic
import Derived.BigQuiet
import Derived.Laws.Slices
import Derived.Lib.SmallJoins
import Derived.Test.YtdchhfdmingnaaaDoorRows
import Derived.Lib.Hide
import Derived.Outline
import Derived.Handy
import Derived.RangeFuncNested
import Derived.Shelf.Abstract
import Derived.Shelf.RegionOpen
import Derived.RangeFuncBound
import Derived.RangeFuncCalls
import Derived.RangeFuncLeaves
import Derived.OwnWalkIn
import Derived.TacticsInMore
import Derived.LoopNIn
import Derived.LoopIn
import Derived.Maps.AppendAt
import Derived.RangeFuncBox
import Derived.OrdersIn
import Derived.Orders
import Derived.Deep.RegionHeld
import Derived.Laws.Bits64b
import Derived.Deep.RegionHeld3
import Derived.Lib.AppendStr
namespace Go.Proofs.YtdchhfdmingnaaaDoor
set_option linter.unusedVariables false
def mk (l : List UInt8) : ByteArray := ⟨l.toArray⟩
theorem mk_list (l : List UInt8) : (mk l).data.toList = l := by simp [mk]
theorem mk_of (s : ByteArray) : mk s.data.toList = s := by unfold mk; rw [Array.toArray_toList]
theorem mk_size (l : List UInt8) : (mk l).size = l.length := by simp [mk, ByteArray.size]
theorem list_len (s : ByteArray) : s.data.toList.length = s.size := by rw [Array.length_toList]; rfl
theorem list_at (s : ByteArray) (k : Nat) (h : k < s.size) : s.data.toList[k]? = some s[k] := by
  rw [List.getElem?_eq_getElem (by rw [list_len]; exact h)]; rfl
def digit (n : Nat) : UInt8 := if n < 10 then UInt8.ofNat (48 + n) else UInt8.ofNat (87 + n)
def markI (n : Int) : Bool := n == 34 || n == 92
def shownI (n : Int) : Bool := decide (32 ≤ n) && decide (n ≤ 126)
def mark (c : UInt8) : Bool := markI c.toNat
def shown (c : UInt8) : Bool := shownI c.toNat
def enc (c : UInt8) : List UInt8 := if mark c then [92, c] else if shown c then [c] else [92, digit (c.toNat / 16), digit (c.toNat % 16)]
def encs (l : List UInt8) : List UInt8 := l.flatMap enc
def quoteL (l : List UInt8) : List UInt8 := 34 :: (encs l ++ [34])
theorem encs_nil : encs [] = [] := rfl
theorem encs_cons (c : UInt8) (l : List UInt8) : encs (c :: l) = enc c ++ encs l := by simp [encs]
theorem enc_len (c : UInt8) : 1 ≤ (enc c).length ∧ (enc c).length ≤ 3 := by
  unfold enc; split
  · simp
  · split <;> simp
theorem encs_len (l : List UInt8) : l.length ≤ (encs l).length ∧ (encs l).length ≤ 3 * l.length := by
  induction l with
  | nil => simp [encs_nil]
  | cons c l ih => rw [encs_cons]; have := enc_len c; simp only [List.length_append, List.length_cons]; omega
def hx (a : UInt8) : Int := Lib.indexByte [48, 49, 50, 51, 52, 53, 54, 55, 56, 57, 97, 98, 99, 100, 101, 102] a
def hex2 (a b : UInt8) : Option UInt8 :=
  if hx a < 0 ∨ hx b < 0 then none else
  if shownI (16 * hx a + hx b) then none else some (UInt8.ofNat (16 * hx a + hx b).toNat)
def firstP : List UInt8 → Option (UInt8 × List UInt8)
  | [] => none
  | c :: r => if c = 92 then
      (match r with
       | [] => none
       | d :: r1 => if mark d then some (d, r1) else
          (match r1 with
           | [] => none
           | e :: r2 => (hex2 d e).map fun x => (x, r2)))
    else if shown c && !mark c then some (c, r) else none
theorem bytes_all {p : UInt8 → Prop} (h : ∀ n : Fin 256, p (UInt8.ofNat n.val)) (c : UInt8) : p c := by
  have := h ⟨c.toNat, c.toNat_lt⟩
  simpa using this
theorem digit_hx (n : Nat) (h : n < 16) : hx (digit n) = n := by
  have H : ∀ k : Fin 16, hx (digit k.val) = (k.val : Int) := by decide +kernel
  exact H ⟨n, h⟩
theorem digit_mark (n : Nat) (h : n < 16) : mark (digit n) = false := by
  have H : ∀ k : Fin 16, mark (digit k.val) = false := by decide +kernel
  exact H ⟨n, h⟩
theorem mark_shown (c : UInt8) (h : mark c = true) : shown c = true := by
  revert c; apply bytes_all; decide +kernel
theorem mark_bs : mark 92 = true := by decide
theorem enc_mark {c : UInt8} (h : mark c = true) : enc c = [92, c] := by unfold enc; rw [if_pos h]
theorem enc_plain {c : UInt8} (h : mark c = false) (h2 : shown c = true) : enc c = [c] := by unfold enc; rw [if_neg (by rw [h]; decide), if_pos h2]
theorem enc_hex {c : UInt8} (h : shown c = false) : enc c = [92, digit (c.toNat / 16), digit (c.toNat % 16)] := by
  have hm : mark c = false := by
    cases e : mark c
    · rfl
    · rw [mark_shown c e] at h; cases h
  unfold enc; rw [if_neg (by rw [hm]; decide), if_neg (by rw [h]; decide)]
theorem hex2_enc {c : UInt8} (h : shown c = false) : hex2 (digit (c.toNat / 16)) (digit (c.toNat % 16)) = some c := by
  have hc := c.toNat_lt
  have e1 := digit_hx (c.toNat / 16) (by omega)
  have e2 := digit_hx (c.toNat % 16) (by omega)
  have e3 : 16 * ((c.toNat / 16 : Nat) : Int) + ((c.toNat % 16 : Nat) : Int) = (c.toNat : Int) := by omega
  unfold hex2
  rw [e1, e2, if_neg (by omega), e3]
  have : shownI (c.toNat : Int) = false := h
  rw [this]
  simp
theorem firstP_enc (c : UInt8) (r : List UInt8) : firstP (enc c ++ r) = some (c, r) := by
  cases hm : mark c
  · cases hs : shown c
    · rw [enc_hex hs]
      have hd : mark (digit (c.toNat / 16)) = false := digit_mark _ (by have := c.toNat_lt; omega)
      simp only [List.cons_append, List.nil_append, firstP, if_true, hd, Bool.false_eq_true, if_false, hex2_enc hs, Option.map_some]
    · rw [enc_plain hm hs]
      have hne : c ≠ 92 := by intro e; subst e; rw [mark_bs] at hm; cases hm
      simp [firstP, hne, hs, hm]
  · rw [enc_mark hm]
    simp [firstP, hm]
theorem enc_cancel {c d : UInt8} {r q : List UInt8} (h : enc c ++ r = enc d ++ q) : c = d ∧ r = q := by
  have := firstP_enc c r
  rw [h, firstP_enc d q] at this
  simp only [Option.some.injEq, Prod.mk.injEq] at this
  exact ⟨this.1.symm, this.2.symm⟩
theorem enc_ne (c : UInt8) : enc c ≠ [] := by have := enc_len c; intro e; rw [e] at this; simp at this
theorem encs_cancel : ∀ {a t r : List UInt8}, encs a ++ r = encs t → ∃ q, t = a ++ q ∧ r = encs q
  | [], t, r, h => ⟨t, rfl, by simpa [encs_nil] using h⟩
  | c :: a, [], r, h => by
    rw [encs_cons, encs_nil] at h
    have h1 := (List.append_eq_nil_iff.1 (List.append_eq_nil_iff.1 h).1).1
    exact absurd h1 (enc_ne c)
  | c :: a, d :: t, r, h => by
    rw [encs_cons, encs_cons, List.append_assoc] at h
    obtain ⟨rfl, h2⟩ := enc_cancel h
    obtain ⟨q, rfl, hq⟩ := encs_cancel h2
    exact ⟨q, rfl, hq⟩
theorem encs_inj {a t : List UInt8} (h : encs a = encs t) : a = t := by
  obtain ⟨q, rfl, hq⟩ := encs_cancel (a := a) (t := t) (r := []) (by rw [List.append_nil]; exact h)
  have h0 : q.length ≤ 0 := by
    have := (encs_len q).1
    rw [← hq] at this
    simpa using this
  have hq0 : q = [] := List.eq_nil_of_length_eq_zero (by omega)
  subst hq0
  simp
theorem quoteL_inj {a t : List UInt8} (h : quoteL a = quoteL t) : a = t := by
  unfold quoteL at h
  simp only [List.cons.injEq, true_and] at h
  exact encs_inj (List.append_cancel_right h)
def Reads (L : List UInt8) (v : List UInt8) (ok : Bool) : Prop := (ok = true ∧ quoteL v = L) ∨ (ok = false ∧ v = [] ∧ ∀ t, quoteL t ≠ L)
theorem Reads.same {L v v' : List UInt8} {ok ok' : Bool} (h : Reads L v ok) (h' : Reads L v' ok') : v = v' ∧ ok = ok' := by
  rcases h with ⟨rfl, h⟩ | ⟨rfl, rfl, h⟩ <;> rcases h' with ⟨rfl, h'⟩ | ⟨rfl, rfl, h'⟩
  · exact ⟨quoteL_inj (h.trans h'.symm), rfl⟩
  · exact absurd h (h' v)
  · exact absurd h' (h v')
  · exact ⟨rfl, rfl⟩
end Go.Proofs.YtdchhfdmingnaaaDoor

/- A row of bytes that a call made itself: told by the list of its bytes; what append, make and the way back to a text do to it. Nothing of the program is named here. -/
namespace Go.Proofs.YtdchhfdmingnaaaDoor
open Go.RowKit (wrap64 intOf Below)
set_option linter.unusedVariables false
def byteV (c : UInt8) : Value := .int .u8 c.toNat
def OwnsB (w : World) (B : Nat) (e : TypeId) (v : Value) (l : List UInt8) : Prop := w.ownsRow B e 1 v l.length (l.map byteV)
theorem OwnsB.alloc {w : World} {B : Nat} {e : TypeId} {v : Value} {l : List UInt8} (h : OwnsB w B e v l) (o : Obj) : OwnsB (w.alloc o) B e v l := World.ownsRow.alloc h o
theorem OwnsB.drew {w : World} {B : Nat} {e : TypeId} {v : Value} {l : List UInt8} (h : OwnsB w B e v l) : OwnsB w.drew B e v l := h
theorem OwnsB.nil (w : World) (B : Nat) (e : TypeId) : OwnsB w B e (.slice none 0 0) [] := World.ownsRow_nil w B e 1
theorem OwnsB.made {w : World} {B : Nat} {e : TypeId} (cur : Array Value) (cap : Nat) (hB : B ≤ w.heap.size) (hm : cap ≤ maxLen) (hs : cur.size = cap) : OwnsB (w.alloc (.cells cur e)) B e (.slice (some ⟨w.heap.size, 0, none⟩) 0 cap) [] :=
  World.ownsRow_made w cur cap hB hm (by rw [hs, Nat.mul_one])
theorem OwnsB.lt {w : World} {B : Nat} {e : TypeId} {v : Value} {l : List UInt8} (h : OwnsB w B e v l) : ∀ k, v.ownBlock = some k → B ≤ k ∧ k < w.heap.size := World.ownsRow.lt h
theorem OwnsB.built {w : World} {B : Nat} {e : TypeId} (l : List UInt8) (C : Array Value) (n : Nat) (hC : C = (l.map byteV).toArray) (hB : B ≤ w.heap.size) (hn : l.length = n) (hm : n ≤ maxLen) : OwnsB (w.alloc (.cells C e)) B e (.slice (some ⟨w.heap.size, 0, none⟩) n n) l := by
  subst hn hC
  refine ⟨by simp, .inr ⟨w.heap.size, _, (l.map byteV).toArray, rfl, hB, heap_alloc_new w _, Nat.le_refl _, hm, by simp, ?_⟩⟩
  simp only [Nat.mul_one]
  exact List.take_of_length_le (by simp)
theorem OwnsB.below {w w' : World} {B : Nat} {e : TypeId} {v : Value} {l : List UInt8} (h : OwnsB w B e v l) (hb : Below w.heap.size w w') : OwnsB w' B e v l := by
  refine ⟨h.1, ?_⟩
  rcases h.2 with hn | ⟨g, cap, cur, rfl, hB, hg, rest⟩
  · exact .inl hn
  · refine .inr ⟨g, cap, cur, rfl, hB, ?_, rest⟩
    rw [hb.block g (Array.getElem?_eq_some_iff.1 hg).1]
    exact hg
theorem byteV_one {l : List UInt8} : ∀ u ∈ l.map byteV, u.oneCell' = true := by
  intro u hu
  obtain ⟨c, _, rfl⟩ := List.mem_map.1 hu
  rfl
theorem wpList_append_bytes {P : Program} (w : World) {ops : Array Oper} {rest : List Oper} {o : Oper} {a : Act} {Q : Exit → Act → World → Prop} (hgd : o.guard = none) (s x : Operand) (t : TypeId)
    (ho : o.op = .call { callee := .builtin .append, args := #[s, x], argTypes := #[t, t] }) (e : TypeId) (ht : P.underlying t = some (.slice e))
    (hinfo : (P.info? e).map (fun i => (i.zero, i.size, i.bytes)) = some (some (.int .u8 0), 1, 1))
    (B : Nat) (v : Value) (l : List UInt8) (hs : a.eval s = v) (hown : OwnsB w B e v l) (hB : B ≤ w.heap.size)
    (C : Array Value) (m c g : Nat) (news : List UInt8) (hx : a.eval x = .slice (some ⟨g, 0, none⟩) m c) (hg : g = w.heap.size) (hC : C = (news.map byteV).toArray) (hm : news.length = m)
    (hlen : l.length + m ≤ 140737488355328)
    (h : ∀ v' w', OwnsB w' B e v' (l ++ news) → Below B w w' → w.heap.size < w'.heap.size → wpList P ops Q rest (a.put o.dst v') w') : wpList P ops Q (o :: rest) a (w.alloc (.cells C e)) := by
  obtain ⟨i0, hi, hz0, hz1, hz2⟩ := info_parts hinfo
  subst hC hm hg
  refine wpList_append_own _ hgd s x t ho B e i0 (.int .u8 0) 1 1 ht hi hz0 hz1 hz2 rfl (by decide) v l.length (l.map byteV) hs (hown.alloc _) ⟨w.heap.size, 0, none⟩ news.length c (news.map byteV) hx (by simp) (fun j u hu => ?_) byteV_one (by unfold maxLen; omega) (by omega) (by simp; omega) ?_
  · have hadd : (⟨w.heap.size, 0, none⟩ : Addr).add j = ⟨w.heap.size, j, none⟩ := by unfold Addr.add; split <;> simp_all
    rw [hadd, World.cell?_alloc_mark]
    simpa using hu
  · intro v' w' hown' hgrow _
    refine h v' w' ?_ ?_ ?_
    · show w'.ownsRow B e 1 v' (l ++ news).length ((l ++ news).map byteV)
      rw [List.map_append, List.length_append]
      exact hown'
    · exact Below.grown ((Below.refl B w).alloc hB _) hgrow (by simp; omega) (fun k hk => (hown.lt k hk).1)
    · have := hgrow.size
      simp at this
      omega
end Go.Proofs.YtdchhfdmingnaaaDoor

/- Slices of numbers of 64 bits that came in (nil or not), and their copies by append to a new empty slice: what a walk needs of them. Nothing of the program is named here. -/
namespace Go.Proofs.YtdchhfdmingnaaaDoor
open Go.RowKit (wrap64 intOf Below)
theorem addr_block (a : Addr) (j : Nat) : (a.add j).block = a.block := by unfold Addr.add; split <;> rfl
theorem addr_plain (b off j : Nat) : (⟨b, off, none⟩ : Addr).add j = ⟨b, off + j, none⟩ := by
  unfold Addr.add; split
  · rename_i h; subst h; rfl
  · rfl
def nth (L : List Int) (k : Nat) : Int := L.getD k 0
def CellsAt (w : World) (b off : Nat) (zs : List Int) : Prop := ∀ j, j < zs.length → w.cell? ⟨b, off + j, none⟩ = some (.int .i64 (nth zs j))
def IntsAt (w : World) (v : Value) (zs : List Int) : Prop :=
  (v = .slice none 0 0 ∧ zs = []) ∨
  ∃ (a : Addr) (c : Nat), v = .slice (some a) zs.length c ∧ zs.length * 8 ≤ 140737488351232 ∧ (∀ j, j < zs.length → a.block < w.heap.size) ∧ ∀ j, j < zs.length → w.cell? (a.add j) = some (.int .i64 (nth zs j))
theorem IntsAt.below {w w' : World} {v : Value} {zs : List Int} {B : Nat} (h : IntsAt w v zs) (hb : Below B w w') (hB : w.heap.size ≤ B) : IntsAt w' v zs := by
  rcases h with h | ⟨a, c, hv, hl, hlt, hc⟩
  · exact Or.inl h
  · refine Or.inr ⟨a, c, hv, hl, fun j hj => Nat.lt_of_lt_of_le (hlt j hj) hb.size, fun j hj => ?_⟩
    rw [hb.cell (p := a.add j) (Nat.lt_of_lt_of_le (by rw [addr_block]; exact hlt j hj) hB)]
    exact hc j hj
theorem IntsAt.len {w : World} {v : Value} {zs : List Int} (h : IntsAt w v zs) : zs.length * 8 ≤ 140737488351232 := by
  rcases h with ⟨_, rfl⟩ | ⟨a, c, _, hl, _⟩
  · exact Nat.zero_le _
  · exact hl
theorem IntsAt.cells {w : World} {v : Value} {zs : List Int} (h : IntsAt w v zs) (hne : 0 < zs.length) :
    ∃ (b off c : Nat), v = .slice (some ⟨b, off, none⟩) zs.length c ∧ b < w.heap.size ∧ CellsAt w b off zs := by
  rcases h with ⟨_, rfl⟩ | ⟨⟨b, off, spot⟩, c, hv, _, hlt, hc⟩
  · exact absurd hne (by simp)
  · have hs : spot = none := by simpa [Addr.add] using World.cell?_spot (hc 0 hne)
    subst hs
    exact ⟨b, off, c, hv, hlt 0 hne, fun j hj => by have := hc j hj; rwa [addr_plain] at this⟩
theorem CellsAt.below {w w' : World} {b off : Nat} {zs : List Int} {B : Nat} (h : CellsAt w b off zs) (hb : Below B w w') (hB : b < B) : CellsAt w' b off zs := fun j hj => by
  rw [hb.cell (p := ⟨b, off + j, none⟩) hB]; exact h j hj
theorem quiet_left {P : Program} {f : FuncId} {args : Array Value} {w : World} {n : Nat} {v : Value}
    (h : Calls P f args (w.drewN n) fun e w' => e = .returned v ∧ w.drewN n = w') : Calls P f args (w.drewN n) fun e w'' => e = .returned v ∧ ∃ m, w'' = w.drewN m :=
  h.mono fun _ _ ⟨he, hm⟩ => ⟨he, n, hm.symm⟩
theorem wf_i64_range {n : Int} (h : (Lit.int .i64 n).wf = true) : -9223372036854775808 ≤ n ∧ n ≤ 9223372036854775807 := by
  simp only [Lit.wf, IntKind.min, IntKind.max, IntKind.signed, IntKind.bits, Bool.and_eq_true, decide_eq_true_eq, if_true] at h
  omega
end Go.Proofs.YtdchhfdmingnaaaDoor

/- A slice of bytes that is read (it came in, or the call made it, or it is a part of such a one; nil or not): told by the list of its bytes; its parts, its text, and what append makes of it. Nothing of the program is named here. -/
namespace Go.Proofs.YtdchhfdmingnaaaDoor
open Go.RowKit (wrap64 intOf Below)
set_option linter.unusedVariables false
def BytesAt (w : World) (a : Option Addr) (n c : Nat) (L : List UInt8) : Prop :=
  L.length = n ∧ n ≤ c ∧ c ≤ maxLen ∧ (a = none → c = 0) ∧ (0 < n → ∃ g off, a = some ⟨g, off, none⟩ ∧ g < w.heap.size) ∧
  ∀ ad, a = some ad → ∀ j (h : j < L.length), w.cell? (ad.add j) = some (byteV L[j])
theorem BytesAt.nil (w : World) : BytesAt w none 0 0 [] := ⟨rfl, Nat.le_refl _, Nat.zero_le _, fun _ => rfl, fun h => absurd h (by omega), fun _ h => by cases h⟩
theorem BytesAt.below {w w' : World} {a : Option Addr} {n c : Nat} {L : List UInt8} {B : Nat} (h : BytesAt w a n c L) (hb : Below B w w') (hB : w.heap.size ≤ B) : BytesAt w' a n c L := by
  obtain ⟨h1, h2, h3, h4, h5, h6⟩ := h
  refine ⟨h1, h2, h3, h4, fun hn => ?_, fun ad ha j hj => ?_⟩
  · obtain ⟨g, off, e, hg⟩ := h5 hn
    exact ⟨g, off, e, Nat.lt_of_lt_of_le hg hb.size⟩
  · obtain ⟨g, off, e, hg⟩ := h5 (by omega)
    rw [ha] at e
    cases e
    rw [hb.cell (p := (⟨g, off, none⟩ : Addr).add j) (by rw [addr_block]; exact Nat.lt_of_lt_of_le hg hB)]
    exact h6 _ ha j hj
theorem BytesAt.drewN {w : World} {a : Option Addr} {n c : Nat} {L : List UInt8} (h : BytesAt w a n c L) (q : Nat) : BytesAt (w.drewN q) a n c L :=
  h.below (B := w.heap.size) ⟨rfl, rfl, rfl, Nat.le_refl _, fun _ _ => rfl⟩ (Nat.le_refl _)
theorem BytesAt.cells {w : World} {a : Option Addr} {n c : Nat} {L : List UInt8} (h : BytesAt w a n c L) (hn : 0 < n) :
    ∃ g off, a = some ⟨g, off, none⟩ ∧ g < w.heap.size ∧ ∀ j (h : j < L.length), w.cell? ⟨g, off + j, none⟩ = some (byteV L[j]) := by
  obtain ⟨h1, h2, h3, h4, h5, h6⟩ := h
  obtain ⟨g, off, e, hg⟩ := h5 hn
  refine ⟨g, off, e, hg, fun j hj => ?_⟩
  have := h6 _ e j hj
  rwa [addr_plain] at this
theorem OwnsB.at {w : World} {B : Nat} {e : TypeId} {v : Value} {l : List UInt8} (h : OwnsB w B e v l) : ∃ a n c, v = .slice a n c ∧ BytesAt w a n c l := by
  have hown := h
  rcases h.2 with ⟨rfl, h0⟩ | ⟨g, cap, cur, rfl, hB, hg, h1, h2, _⟩
  · obtain rfl := List.eq_nil_of_length_eq_zero h0
    exact ⟨none, 0, 0, rfl, BytesAt.nil w⟩
  · refine ⟨_, _, cap, rfl, rfl, h1, h2, (fun h => by cases h), fun _ => ⟨g, 0, rfl, (hown.lt g rfl).2⟩, fun ad ha j hj => ?_⟩
    cases ha
    exact World.ownsRow.cells hown (g := g) rfl j (byteV l[j]) (by rw [List.getElem?_map, List.getElem?_eq_getElem hj]; rfl)
def fromA (a : Option Addr) (c k : Nat) : Option Addr := if c = k then a else a.map (·.add k)
theorem fromA_some (a : Addr) (c k : Nat) (h : k < c) : fromA (some a) c k = some (a.add k) := by
  unfold fromA; rw [if_neg (by omega)]; rfl
theorem BytesAt.drop {w : World} {a : Option Addr} {n c : Nat} {L : List UInt8} (h : BytesAt w a n c L) (k : Nat) (hk : k ≤ n) : BytesAt w (fromA a c k) (n - k) (c - k) (L.drop k) := by
  obtain ⟨h1, h2, h3, h4, h5, h6⟩ := h
  refine ⟨by rw [List.length_drop, h1], by omega, by omega, fun ha => ?_, fun hn => ?_, fun ad ha j hj => ?_⟩
  · unfold fromA at ha
    split at ha
    · have := h4 ha; omega
    · cases a with
      | none => have := h4 rfl; omega
      | some x => cases ha
  · obtain ⟨g, off, e, hg⟩ := h5 (by omega)
    subst e
    rw [fromA_some _ _ _ (by omega), addr_plain]
    exact ⟨g, off + k, rfl, hg⟩
  · rw [List.length_drop] at hj
    obtain ⟨g, off, e, hg⟩ := h5 (by omega)
    subst e
    rw [fromA_some _ _ _ (by omega), addr_plain] at ha
    cases ha
    have := h6 _ rfl (k + j) (by omega)
    rw [addr_plain] at this ⊢
    rw [show off + k + j = off + (k + j) by omega, this, List.getElem_drop]
theorem BytesAt.take {w : World} {a : Option Addr} {n c : Nat} {L : List UInt8} (h : BytesAt w a n c L) (k : Nat) (hk : k ≤ n) : BytesAt w a k c (L.take k) := by
  obtain ⟨h1, h2, h3, h4, h5, h6⟩ := h
  refine ⟨by rw [List.length_take, h1]; omega, by omega, h3, h4, fun hn => h5 (by omega), fun ad ha j hj => ?_⟩
  rw [List.length_take] at hj
  rw [h6 ad ha j (by omega), List.getElem_take]
theorem add_zero (a : Addr) : a.add 0 = a := by unfold Addr.add; simp
theorem elem_is {P : Program} {t e : TypeId} (ht : P.underlying t = some (.slice e)) : P.elem t = e := by simp [Program.elem, ht]
section
variable {P : Program} {t e : TypeId} (ht : P.underlying t = some (.slice e)) (hz : ∀ w, (sizeOf e).run P w = .ok 1 w)
theorem under_elem {P : Program} {t e : TypeId} (ht : P.underlying t = some (.slice e)) : P.underlying t = some (.slice (P.elem t)) := by rw [elem_is ht]; exact ht
include ht hz
theorem run_from (a : Option Addr) (n c k : Nat) (hk : k ≤ n) (w : World) : (Instr.slice t (.slice a n c) (some (.int .i64 (k : Int))) none none).run P w = .ok (.slice (fromA a c k) (n - k) (c - k)) w := by
  rw [run_slice_l w t a n c (under_elem ht) .i64 k (by omega) (by omega), elem_is ht, hz w]
  simp [Result.andThen, sliced, fromA]
end
theorem wpList_append_read {P : Program} (w : World) {ops : Array Oper} {rest : List Oper} {o : Oper} {a : Act} {Q : Exit → Act → World → Prop} (hgd : o.guard = none) (s x : Operand) (t : TypeId)
    (ho : o.op = .call { callee := .builtin .append, args := #[s, x], argTypes := #[t, t] }) (e : TypeId) (ht : P.underlying t = some (.slice e))
    (hinfo : (P.info? e).map (fun i => (i.zero, i.size, i.bytes)) = some (some (.int .u8 0), 1, 1))
    (B : Nat) (v : Value) (l : List UInt8) (hs : a.eval s = v) (hown : OwnsB w B e v l) (hB : B ≤ w.heap.size)
    (xa : Option Addr) (m c : Nat) (news : List UInt8) (hx : a.eval x = .slice xa m c) (hat : BytesAt w xa m c news)
    (hlen : l.length + m ≤ 140737488355328)
    (h : ∀ va vn vc w', OwnsB w' B e (.slice va vn vc) (l ++ news) → BytesAt w' va vn vc (l ++ news) → Below B w w' → wpList P ops Q rest (a.put o.dst (.slice va vn vc)) w') : wpList P ops Q (o :: rest) a w := by
  obtain ⟨i0, hi, hz0, hz1, hz2⟩ := info_parts hinfo
  obtain ⟨h1, h2, h3, h4, h5, h6⟩ := hat
  subst h1
  cases xa with
  | none =>
    have : c = 0 := h4 rfl
    have h0 : news = [] := List.eq_nil_of_length_eq_zero (by omega)
    subst h0 this
    refine wpList_append_own_none hgd s x t ho B e i0 1 ht hi v l.length (l.map byteV) hs hown hx ?_
    obtain ⟨va, vn, vc, rfl, hat⟩ := hown.at
    exact h va vn vc w (by rw [List.append_nil]; exact hown) (by rw [List.append_nil]; exact hat) (Below.refl _ _)
  | some ad =>
    refine wpList_append_own _ hgd s x t ho B e i0 (.int .u8 0) 1 1 ht hi hz0 hz1 hz2 rfl (by decide) v l.length (l.map byteV) hs hown ad news.length c (news.map byteV) hx (by simp) (fun j u hu => ?_) byteV_one (by unfold maxLen; omega) (by omega) hB ?_
    · rw [List.getElem?_map] at hu
      obtain ⟨z, hz, rfl⟩ := Option.map_eq_some_iff.1 hu
      obtain ⟨hj, rfl⟩ := List.getElem?_eq_some_iff.1 hz
      exact h6 ad rfl j hj
    · intro v' w' hown' hgrow _
      have hown2 : OwnsB w' B e v' (l ++ news) := by
        show w'.ownsRow B e 1 v' (l ++ news).length ((l ++ news).map byteV)
        rw [List.map_append, List.length_append]
        exact hown'
      obtain ⟨va, vn, vc, rfl, hat⟩ := hown2.at
      exact h va vn vc w' hown2 hat (Below.grown (Below.refl B w) hgrow hB (fun k hk => (hown.lt k hk).1))
theorem OwnsB.empty (w : World) (e : TypeId) : OwnsB (w.alloc (.cells #[] e)) w.heap.size e (.slice (some ⟨w.heap.size, 0, none⟩) 0 0) [] :=
  OwnsB.built [] #[] 0 rfl (Nat.le_refl _) rfl (Nat.zero_le _)
theorem OwnsB.mono {w : World} {B B' : Nat} {e : TypeId} {v : Value} {l : List UInt8} (h : OwnsB w B e v l) (hB : B' ≤ B) : OwnsB w B' e v l := by
  refine ⟨h.1, ?_⟩
  rcases h.2 with hn | ⟨g, cap, cur, rfl, hg, rest⟩
  · exact .inl hn
  · exact .inr ⟨g, cap, cur, rfl, Nat.le_trans hB hg, rest⟩
end Go.Proofs.YtdchhfdmingnaaaDoor

/- A slice of numbers of 64 bits: one that is read, and one that the call made itself: told by the list of its numbers. Nothing of the program is named here. -/
namespace Go.Proofs.YtdchhfdmingnaaaDoor
open Go.RowKit (wrap64 intOf Below)
set_option linter.unusedVariables false
def numV (z : Int) : Value := .int .i64 z
theorem nth_is {Z : List Int} {j : Nat} (h : j < Z.length) : nth Z j = Z[j] := by
  unfold nth; rw [List.getD_eq_getElem?_getD, List.getElem?_eq_getElem h]; rfl
def NumsAt (w : World) (a : Option Addr) (n : Nat) (Z : List Int) : Prop :=
  Z.length = n ∧ (0 < n → ∃ g off, a = some ⟨g, off, none⟩ ∧ g < w.heap.size ∧ ∀ j (h : j < Z.length), w.cell? ⟨g, off + j, none⟩ = some (numV Z[j]))
theorem NumsAt.nil (w : World) (a : Option Addr) : NumsAt w a 0 [] := ⟨rfl, fun h => absurd h (by omega)⟩
theorem NumsAt.below {w w' : World} {a : Option Addr} {n : Nat} {Z : List Int} {B : Nat} (h : NumsAt w a n Z) (hb : Below B w w') (hB : w.heap.size ≤ B) : NumsAt w' a n Z := by
  refine ⟨h.1, fun hn => ?_⟩
  obtain ⟨g, off, e, hg, hc⟩ := h.2 hn
  refine ⟨g, off, e, Nat.lt_of_lt_of_le hg hb.size, fun j hj => ?_⟩
  rw [hb.cell (p := ⟨g, off + j, none⟩) (Nat.lt_of_lt_of_le hg hB)]
  exact hc j hj
theorem NumsAt.since {w w' : World} {a : Option Addr} {n : Nat} {Z : List Int} (h : NumsAt w a n Z) (hb : Below w.heap.size w w') : NumsAt w' a n Z := h.below hb (Nat.le_refl _)
theorem NumsAt.drewN {w : World} {a : Option Addr} {n : Nat} {Z : List Int} (h : NumsAt w a n Z) (q : Nat) : NumsAt (w.drewN q) a n Z :=
  h.below (B := w.heap.size) ⟨rfl, rfl, rfl, Nat.le_refl _, fun _ _ => rfl⟩ (Nat.le_refl _)
theorem IntsAt.nums {w : World} {v : Value} {Z : List Int} (h : IntsAt w v Z) : ∃ a c, v = .slice a Z.length c ∧ NumsAt w a Z.length Z := by
  rcases h with ⟨rfl, rfl⟩ | ⟨⟨b, off, spot⟩, c, rfl, hl, hlt, hc⟩
  · exact ⟨none, 0, rfl, NumsAt.nil w none⟩
  · refine ⟨_, c, rfl, rfl, fun hn => ?_⟩
    have hs : spot = none := by simpa [Addr.add] using World.cell?_spot (hc 0 hn)
    subst hs
    refine ⟨b, off, rfl, hlt 0 hn, fun j hj => ?_⟩
    have := hc j hj
    rw [addr_plain, nth_is hj] at this
    exact this
theorem CellsAt.nums {w : World} {g off : Nat} {Z : List Int} (h : CellsAt w g off Z) (hg : g < w.heap.size) : NumsAt w (some ⟨g, off, none⟩) Z.length Z :=
  ⟨rfl, fun _ => ⟨g, off, rfl, hg, fun j hj => by rw [h j hj, nth_is hj]; rfl⟩⟩
def OwnsI (w : World) (B : Nat) (e : TypeId) (v : Value) (Z : List Int) : Prop := w.ownsRow B e 1 v Z.length (Z.map numV)
theorem OwnsI.lt {w : World} {B : Nat} {e : TypeId} {v : Value} {Z : List Int} (h : OwnsI w B e v Z) : ∀ k, v.ownBlock = some k → B ≤ k ∧ k < w.heap.size := World.ownsRow.lt h
theorem OwnsI.made {w : World} {B : Nat} {e : TypeId} (cur : Array Value) (cap : Nat) (hB : B ≤ w.heap.size) (hm : cap ≤ maxLen) (hs : cur.size = cap) : OwnsI (w.alloc (.cells cur e)) B e (.slice (some ⟨w.heap.size, 0, none⟩) 0 cap) [] :=
  World.ownsRow_made w cur cap hB hm (by rw [hs, Nat.mul_one])
theorem OwnsI.below {w w' : World} {B : Nat} {e : TypeId} {v : Value} {Z : List Int} (h : OwnsI w B e v Z) (hb : Below w.heap.size w w') : OwnsI w' B e v Z := by
  refine ⟨h.1, ?_⟩
  rcases h.2 with hn | ⟨g, cap, cur, rfl, hB, hg, rest⟩
  · exact .inl hn
  · refine .inr ⟨g, cap, cur, rfl, hB, ?_, rest⟩
    rw [hb.block g (Array.getElem?_eq_some_iff.1 hg).1]
    exact hg
theorem OwnsI.mono {w : World} {B B' : Nat} {e : TypeId} {v : Value} {Z : List Int} (h : OwnsI w B e v Z) (hB : B' ≤ B) : OwnsI w B' e v Z := by
  refine ⟨h.1, ?_⟩
  rcases h.2 with hn | ⟨g, cap, cur, rfl, hg, rest⟩
  · exact .inl hn
  · exact .inr ⟨g, cap, cur, rfl, Nat.le_trans hB hg, rest⟩
theorem OwnsI.nums {w : World} {B : Nat} {e : TypeId} {v : Value} {Z : List Int} (h : OwnsI w B e v Z) : ∃ a n c, v = .slice a n c ∧ NumsAt w a n Z := by
  have hown := h
  rcases h.2 with ⟨rfl, h0⟩ | ⟨g, cap, cur, rfl, hB, hg, h1, h2, _⟩
  · obtain rfl := List.eq_nil_of_length_eq_zero h0
    exact ⟨none, 0, 0, rfl, NumsAt.nil w none⟩
  · refine ⟨_, _, cap, rfl, rfl, fun _ => ⟨g, 0, rfl, (hown.lt g rfl).2, fun j hj => ?_⟩⟩
    have := World.ownsRow.cells hown (g := g) rfl j (numV Z[j]) (by rw [List.getElem?_map, List.getElem?_eq_getElem hj]; rfl)
    rwa [addr_plain] at this
theorem wpList_append_num {P : Program} (w : World) {ops : Array Oper} {rest : List Oper} {o : Oper} {a : Act} {Q : Exit → Act → World → Prop} (hgd : o.guard = none) (s x : Operand) (t : TypeId)
    (ho : o.op = .call { callee := .builtin .append, args := #[s, x], argTypes := #[t, t] }) (e : TypeId) (ht : P.underlying t = some (.slice e))
    (hinfo : (P.info? e).map (fun i => (i.zero, i.size, i.bytes)) = some (some (.int .i64 0), 1, 8))
    (B : Nat) (v : Value) (Z : List Int) (hs : a.eval s = v) (hown : OwnsI w B e v Z) (hB : B ≤ w.heap.size)
    (C : Array Value) (c g : Nat) (z : Int) (hx : a.eval x = .slice (some ⟨g, 0, none⟩) 1 c) (hg : g = w.heap.size) (hC : C = #[.int .i64 z])
    (hlen : (Z.length + 1) * 8 ≤ 140737488355328)
    (h : ∀ v' w', OwnsI w' B e v' (Z ++ [z]) → Below B w w' → wpList P ops Q rest (a.put o.dst v') w') : wpList P ops Q (o :: rest) a (w.alloc (.cells C e)) := by
  obtain ⟨i0, hi, hz0, hz1, hz2⟩ := info_parts hinfo
  subst hC hg
  refine wpList_append_own _ hgd s x t ho B e i0 (.int .i64 0) 1 8 ht hi hz0 hz1 hz2 rfl (by decide) v Z.length (Z.map numV) hs (World.ownsRow.alloc hown _) ⟨w.heap.size, 0, none⟩ 1 c [.int .i64 z] hx rfl (fun j u hu => ?_) (by intro u hu; simp at hu; subst hu; rfl) (by unfold maxLen; omega) hlen (by simp; omega) ?_
  · rw [addr_plain, Nat.zero_add, World.cell?_alloc_mark]
    simpa using hu
  · intro v' w' hown' hgrow _
    refine h v' w' ?_ ?_
    · show w'.ownsRow B e 1 v' (Z ++ [z]).length ((Z ++ [z]).map numV)
      rw [List.map_append, List.length_append]
      exact hown'
    · exact Below.grown ((Below.refl B w).alloc hB _) hgrow (by simp; omega) (fun k hk => (hown.lt k hk).1)
end Go.Proofs.YtdchhfdmingnaaaDoor

/- Slices of numbers of 64 bits, more: appended to a row of the call's own from whatever is read; copied to a row that was just written out. Nothing of the program is named here. -/
namespace Go.Proofs.YtdchhfdmingnaaaDoor
open Go.RowKit (wrap64 intOf Below)
set_option linter.unusedVariables false
theorem NumsAt.at {w : World} {a : Option Addr} {n : Nat} {Z : List Int} (h : NumsAt w a n Z) (hn : 0 < n) : ∃ ad, a = some ad ∧ ∀ j (h : j < Z.length), w.cell? (ad.add j) = some (numV Z[j]) := by
  obtain ⟨g, off, rfl, _, hc⟩ := h.2 hn
  exact ⟨_, rfl, fun j hj => by rw [addr_plain]; exact hc j hj⟩
theorem OwnsI.read {w : World} {B : Nat} {e : TypeId} {a : Option Addr} {n c : Nat} {Z : List Int} (h : OwnsI w B e (.slice a n c) Z) : NumsAt w a n Z := by
  obtain ⟨a', n', c', he, hat⟩ := h.nums
  cases he
  exact hat
theorem OwnsI.empty (w : World) (e : TypeId) : OwnsI (w.alloc (.cells #[] e)) w.heap.size e (.slice (some ⟨w.heap.size, 0, none⟩) 0 0) [] :=
  OwnsI.made #[] 0 (Nat.le_refl _) (Nat.zero_le _) rfl
theorem OwnsI.laid {w : World} {e : TypeId} {n B : Nat} (hn : n = w.heap.size) (hB : B ≤ n) : OwnsI (w.alloc (.cells #[] e)) B e (.slice (some ⟨n, 0, none⟩) 0 0) [] := by
  subst hn; exact OwnsI.made #[] 0 hB (Nat.zero_le _) rfl
theorem OwnsI.setCell {w : World} {B : Nat} {e : TypeId} {v : Value} {Z : List Int} (h : OwnsI w B e v Z) (p : Addr) (x : Value) (hp : p.block < B) : OwnsI (w.setCell p x) B e v Z := by
  refine ⟨h.1, ?_⟩
  rcases h.2 with hn | ⟨g, cap, cur, rfl, hg, hh, rest⟩
  · exact .inl hn
  · refine .inr ⟨g, cap, cur, rfl, hg, ?_, rest⟩
    rw [Below.heap_setCell _ _ _ _ (by omega)]
    exact hh
theorem wpList_append_nums {P : Program} (w : World) {ops : Array Oper} {rest : List Oper} {o : Oper} {a : Act} {Q : Exit → Act → World → Prop} (hgd : o.guard = none) (s x : Operand) (t : TypeId)
    (ho : o.op = .call { callee := .builtin .append, args := #[s, x], argTypes := #[t, t] }) (e : TypeId) (ht : P.underlying t = some (.slice e))
    (hinfo : (P.info? e).map (fun i => (i.zero, i.size, i.bytes)) = some (some (.int .i64 0), 1, 8))
    (B : Nat) (v : Value) (Z : List Int) (hs : a.eval s = v) (hown : OwnsI w B e v Z) (hB : B ≤ w.heap.size)
    (xa : Option Addr) (m c : Nat) (news : List Int) (hx : a.eval x = .slice xa m c) (hnil : xa = none → c = 0) (hat : NumsAt w xa m news)
    (hlen : (Z.length + m) * 8 ≤ 140737488355328)
    (h : ∀ va vn vc w', OwnsI w' B e (.slice va vn vc) (Z ++ news) → Below B w w' → wpList P ops Q rest (a.put o.dst (.slice va vn vc)) w') : wpList P ops Q (o :: rest) a w := by
  obtain ⟨i0, hi, hz0, hz1, hz2⟩ := info_parts hinfo
  have h1 := hat.1
  cases xa with
  | none =>
    have hm : m = 0 := by
      by_cases h0 : 0 < m
      · obtain ⟨g, off, he, _⟩ := hat.2 h0; cases he
      · omega
    have hc : c = 0 := hnil rfl
    subst hm hc
    have h0 : news = [] := List.eq_nil_of_length_eq_zero h1
    subst h0
    refine wpList_append_own_none hgd s x t ho B e i0 1 ht hi v Z.length (Z.map numV) hs hown hx ?_
    obtain ⟨va, vn, vc, rfl, hat⟩ := hown.nums
    exact h va vn vc w (by rw [List.append_nil]; exact hown) (Below.refl _ _)
  | some ad =>
    subst h1
    refine wpList_append_own _ hgd s x t ho B e i0 (.int .i64 0) 1 8 ht hi hz0 hz1 hz2 rfl (by decide) v Z.length (Z.map numV) hs hown ad news.length c (news.map numV) hx (by simp) (fun j u hu => ?_) (fun u hu => by obtain ⟨z, _, rfl⟩ := List.mem_map.1 hu; rfl) (by unfold maxLen; omega) hlen hB ?_
    · rw [List.getElem?_map] at hu
      obtain ⟨z, hz, rfl⟩ := Option.map_eq_some_iff.1 hu
      obtain ⟨hj, rfl⟩ := List.getElem?_eq_some_iff.1 hz
      obtain ⟨ad', he, hcell⟩ := hat.at (by omega)
      cases he
      exact hcell j hj
    · intro v' w' hown' hgrow _
      have hown2 : OwnsI w' B e v' (Z ++ news) := by
        show w'.ownsRow B e 1 v' (Z ++ news).length ((Z ++ news).map numV)
        rw [List.map_append, List.length_append]
        exact hown'
      obtain ⟨va, vn, vc, rfl, hat⟩ := hown2.nums
      exact h va vn vc w' hown2 (Below.grown (Below.refl B w) hgrow hB (fun k hk => (hown.lt k hk).1))
theorem below_drewN {B : Nat} {w u : World} (q : Nat) (h : Below B w u) : Below B w (u.drewN q) := h.trans ⟨rfl, rfl, rfl, Nat.le_refl _, fun _ _ => rfl⟩
end Go.Proofs.YtdchhfdmingnaaaDoor

/- From a walk to a row: a law that returns true and leaves all that was there as it was keeps its promise: each argument reads behind the call as it read before. Nothing of the program is named here. -/
namespace Go.Proofs.YtdchhfdmingnaaaDoor
open Go.ChangeShapes Go.WideShapes Go.ChangeAt Go.RowKit
section
variable {H : Type} {enc : TypeId × Value → H} {P : Program}
theorem trodAll_stays (hl : laidOutB P = true) {W W' : World} (hb : Below W.heap.size W W') : ∀ {ts : List TypeId} {vs : List Value} {ds : List (DataW H)} {ps : List MemPlace},
    (∀ t ∈ ts, P.readableRec t = true ∧ t < P.types.size) → DataW.TrodAll enc P W 0 (fun _ => true) true ts vs ds ps → (∀ x ∈ ps, x.block < W.heap.size) →
    DataW.TrodAll enc P W' 0 (fun b => decide (b < W.heap.size)) true ts vs ds ps
  | [], _, _, _, _, h, _ => by
    obtain ⟨rfl, rfl, rfl⟩ := trodAll_nil h
    exact trodAll_mk0
  | t :: ts, _, _, _, ht, h, hlt => by
    obtain ⟨v, vs, d, ds, p, q, rfl, rfl, rfl, h0, hr⟩ := trodAll_cons h
    have h1 := ht t (by simp)
    exact trodAll_cons_mk (Below.trod hl h1.1 h1.2 h0 hb (fun x hx => hlt x (by simp [hx]))) (trodAll_stays hl hb (fun u hu => ht u (by simp [hu])) hr (fun x hx => hlt x (by simp [hx])))
theorem law_post {f : Func} {s : ChangeSpec} {apart : Bool} {W W' : World} {args : Array Value} {ds gs : List (DataW H)} {before : List MemPlace} {tb : TypeId}
    (hl : laidOutB P = true) (hts : ∀ t ∈ f.params.toList, P.readableRec t = true ∧ t < P.types.size) (hrs : f.resultTypes = #[tb]) (htb : P.underlying tb = some .bool) (hvars : s.vars = [])
    (hfn : s.fn H (ds ++ gs) = { results := [.lit (.bool true)], args := ds }) (hW : DataW.Whole enc P f.params.toList s.vars apart W args.toList ds gs before) (hb : Below W.heap.size W W') :
    s.post enc P f apart true false false W args (.bool true) W' := by
  have hW' := hW
  obtain ⟨p, q, hA, hV, hps, hfz, hnd⟩ := hW
  refine ⟨ds, gs, before, [], p, [], hW', ?_, ?_, ?_, hb.frame _, fun h => by cases h⟩
  · rw [hfn, hrs]
    exact trodAll_cons_mk (shut_bool htb _) trodAll_mk0
  · rw [hfn]
    exact trodAll_stays hl hb hts hA (fun x hx => hW'.lt x (by rw [hps]; simp [hx]))
  · rw [hfn, hvars]; rfl
end
end Go.Proofs.YtdchhfdmingnaaaDoor

/- From a reading to a walk: a slice of bytes, or of numbers of 64 bits, that came in: what it reads as, and how much it is. Nothing of the program is named here. -/
namespace Go.Proofs.YtdchhfdmingnaaaDoor
open Go.ChangeShapes Go.WideShapes Go.ChangeAt Go.RowKit
section
variable {H : Type} {enc : TypeId × Value → H} {P : Program}
def SliceOf (k : IntKind) (n : Nat) (d : DataW H) : Prop := n = 0 ∨ ∃ (zs ys : List Int), d = .slice (lits k zs) (lits k ys) ∧ zs.length = n
end
end Go.Proofs.YtdchhfdmingnaaaDoor

/- From a reading to a walk: a slice of numbers as a field, and a struct of the eight fields that a step (api.Op) has, that came in by value. Nothing of the program is named here. -/
namespace Go.Proofs.YtdchhfdmingnaaaDoor
open Go.ChangeShapes Go.WideShapes Go.ChangeAt Go.RowKit Go.Joins Go.Deep
set_option linter.unusedVariables false
section
variable {H : Type} {enc : TypeId × Value → H} {P : Program} {W : World}
theorem sized_agg {ts : List TypeId} {ds : List (DataW H)} (hsz : (DataW.weightsEach P ts ds).all (· ≤ reachBytes) = true) {j : Nat} {t : TypeId} {fs : Array Field} {parts : List (DataW H)} (hj : ts[j]? = some t) (hd : ds[j]? = some (.agg parts)) (hs : P.underlying t = some (.struct fs)) :
    (DataW.weightsEach P (fs.toList.map (·.type)) parts).all (· ≤ reachBytes) = true := by
  rw [List.all_eq_true]
  intro n hn
  have := List.all_eq_true.1 hsz n (DataW.weights_mem_each hj hd n (by simp only [DataW.weights, hs]; exact hn))
  exact this
theorem open_nums_field {fuel : Nat} {t e : TypeId} {v : Value} {y : DataW H × List MemPlace} (ht : P.underlying t = some (.slice e)) (he : P.underlying e = some (.int .i64)) (hc : P.cellsOf e = 1) (h8 : P.bytesOf e = 8)
    (h : DataW.trod enc P W 0 (fun _ => true) true fuel t [v] = some y) (hlt : ∀ x ∈ y.2, x.block < W.heap.size) {ts : List TypeId} {ds : List (DataW H)} (hsz : (DataW.weightsEach P ts ds).all (· ≤ reachBytes) = true) {j : Nat} (hj : ts[j]? = some t) (hd : ds[j]? = some y.1) :
    ∃ (a : Option Addr) (n c : Nat) (Z : List Int), v = .slice a n c ∧ NumsAt W a n Z ∧ (a = none → c = 0) ∧ n * 8 ≤ 140737488351232 ∧ (∀ z ∈ Z, -9223372036854775808 ≤ z ∧ z ≤ 9223372036854775807) ∧ SliceOf .i64 n y.1 := by
  rcases open_ints ht he hc h with ⟨hcs, hx⟩ | ⟨a, len, cap, zs, hcs, _, hl, hm, hz, hx, hcell, hwz⟩
  · simp at hcs
    subst hcs
    exact ⟨none, 0, 0, [], rfl, NumsAt.nil W none, fun _ => rfl, by omega, (fun z hz => by cases hz), Or.inl rfl⟩
  · simp at hcs
    subst hcs hx
    simp only [if_true] at hz
    have hr := sized_slice hsz hj hd ht
    rw [h8] at hr
    simp only [lits, List.length_map, List.length_take, List.length_drop, reachBytes] at hr
    refine ⟨some a, len, cap, zs.take len, rfl, ⟨by simp; omega, fun hn => ?_⟩, (fun h => by cases h), by omega, fun z hz' => wf_i64_range (hwz z (List.mem_of_mem_take hz')), Or.inr ⟨zs.take len, zs.drop len, rfl, by simp; omega⟩⟩
    obtain ⟨b, off, spot⟩ := a
    have hs : spot = none := by simpa [Addr.add] using World.cell?_spot (hcell 0 (by omega))
    subst hs
    refine ⟨b, off, rfl, hlt (.cell b (off + 0)) (MemPlace.mem_row.2 ⟨0, by omega, rfl⟩), fun i hi => ?_⟩
    rw [List.length_take] at hi
    have := hcell i (by omega)
    rw [addr_plain, List.getD_eq_getElem?_getD, List.getElem?_eq_getElem (by omega)] at this
    rw [this, List.getElem_take]
    rfl
end
end Go.Proofs.YtdchhfdmingnaaaDoor

/- A program (api.Prog) that came in, read to its depth: what its lists hold, and that they hold it in each later world that keeps what lay. Nothing of the program is named here. -/
namespace Go.Proofs.YtdchhfdmingnaaaDoor
open Go.ChangeShapes Go.WideShapes Go.ChangeAt Go.RowKit Go.Joins Go.Deep
set_option linter.unusedVariables false
structure OpD where
  (K A B C N : Int) (S : ByteArray) (L : List Int) (T : Bool)
structure EndD where
  (K A To Else : Int) (L M : List Int)
structure BlockD where
  (params : List Int) (ops : List OpD) (fin : EndD)
structure FuncD where
  (ret : Int) (blocks : List BlockD)
structure SigD where
  (params : List Int) (ret : Int)
structure ClassD where
  (fields methods : List Int)
structure ProgD where
  (sigs : List SigD) (classes : List ClassD) (funcs : List FuncD)
def InR (z : Int) : Prop := -9223372036854775808 ≤ z ∧ z ≤ 9223372036854775807
def NumsV (W : World) (v : Value) (Z : List Int) : Prop :=
  ∃ a n c, v = .slice a n c ∧ NumsAt W a n Z ∧ (a = none → c = 0) ∧ n * 8 ≤ 140737488351232 ∧ ∀ z ∈ Z, InR z
def RowV {α : Type} (Q : World → List Value → α → Prop) (k : Nat) (W : World) (v : Value) (xs : List α) : Prop :=
  ∃ a n c, v = .slice a n c ∧ xs.length = n ∧ (a = none → c = 0) ∧ n ≤ 140737488351232 ∧ (0 < n → ∃ g off, a = some ⟨g, off, none⟩ ∧ g < W.heap.size ∧
    ∀ i (h : i < xs.length), ∃ cs, cs.length = k ∧ (∀ j (hj : j < cs.length), W.cell? ⟨g, off + i * k + j, none⟩ = some cs[j]) ∧ Q W cs xs[i])
def OpQ (W : World) (cs : List Value) (x : OpD) : Prop :=
  ∃ l, cs = [.int .i64 x.K, .int .i64 x.A, .int .i64 x.B, .int .i64 x.C, .int .i64 x.N, .string x.S, l, .bool x.T] ∧ InR x.K ∧ InR x.A ∧ InR x.B ∧ InR x.C ∧ InR x.N ∧ x.S.size ≤ 140737488351232 ∧ NumsV W l x.L
def EndQ (W : World) (cs : List Value) (x : EndD) : Prop :=
  ∃ l m, cs = [.int .i64 x.K, .int .i64 x.A, .int .i64 x.To, .int .i64 x.Else, l, m] ∧ InR x.K ∧ InR x.A ∧ InR x.To ∧ InR x.Else ∧ NumsV W l x.L ∧ NumsV W m x.M
def BlockQ (W : World) (cs : List Value) (x : BlockD) : Prop :=
  ∃ p o es, cs = p :: o :: es ∧ NumsV W p x.params ∧ RowV OpQ 8 W o x.ops ∧ EndQ W es x.fin
def FuncQ (W : World) (cs : List Value) (x : FuncD) : Prop := ∃ b, cs = [.int .i64 x.ret, b] ∧ InR x.ret ∧ RowV BlockQ 8 W b x.blocks
def SigQ (W : World) (cs : List Value) (x : SigD) : Prop := ∃ p, cs = [p, .int .i64 x.ret] ∧ NumsV W p x.params ∧ InR x.ret
def ClassQ (W : World) (cs : List Value) (x : ClassD) : Prop := ∃ f m, cs = [f, m] ∧ NumsV W f x.fields ∧ NumsV W m x.methods
def ProgQ (W : World) (cs : List Value) (x : ProgD) : Prop := ∃ s c f, cs = [s, c, f] ∧ RowV SigQ 2 W s x.sigs ∧ RowV ClassQ 2 W c x.classes ∧ RowV FuncQ 2 W f x.funcs
def Lasts {α : Type} (Q : World → List Value → α → Prop) : Prop := ∀ (W W' : World) (cs : List Value) (x : α), Below W.heap.size W W' → Q W cs x → Q W' cs x
theorem NumsV.since {W W' : World} {v : Value} {Z : List Int} (hb : Below W.heap.size W W') (h : NumsV W v Z) : NumsV W' v Z := by
  obtain ⟨a, n, c, e, hat, rest⟩ := h
  exact ⟨a, n, c, e, hat.since hb, rest⟩
theorem RowV.since {α : Type} {Q : World → List Value → α → Prop} (hQ : Lasts Q) {k : Nat} {W W' : World} {v : Value} {xs : List α} (hb : Below W.heap.size W W') (h : RowV Q k W v xs) : RowV Q k W' v xs := by
  obtain ⟨a, n, c, e, hl, hn, hm, hc⟩ := h
  refine ⟨a, n, c, e, hl, hn, hm, fun h0 => ?_⟩
  obtain ⟨g, off, ea, hg, hi⟩ := hc h0
  refine ⟨g, off, ea, Nat.lt_of_lt_of_le hg hb.size, fun i h => ?_⟩
  obtain ⟨cs, hk, hcs, hq⟩ := hi i h
  exact ⟨cs, hk, fun j hj => (hb.cell (p := ⟨g, off + i * k + j, none⟩) hg).trans (hcs j hj), hQ _ _ _ _ hb hq⟩
theorem OpQ.lasts : Lasts OpQ := fun _ _ _ _ hb ⟨l, e, h1, h2, h3, h4, h5, h6, h⟩ => ⟨l, e, h1, h2, h3, h4, h5, h6, h.since hb⟩
theorem EndQ.lasts : Lasts EndQ := fun _ _ _ _ hb ⟨l, m, e, h1, h2, h3, h4, h, h'⟩ => ⟨l, m, e, h1, h2, h3, h4, h.since hb, h'.since hb⟩
theorem BlockQ.lasts : Lasts BlockQ := fun _ _ _ _ hb ⟨p, o, es, e, h1, h2, h3⟩ => ⟨p, o, es, e, h1.since hb, h2.since OpQ.lasts hb, EndQ.lasts _ _ _ _ hb h3⟩
theorem FuncQ.lasts : Lasts FuncQ := fun _ _ _ _ hb ⟨b, e, h1, h2⟩ => ⟨b, e, h1, h2.since BlockQ.lasts hb⟩
theorem SigQ.lasts : Lasts SigQ := fun _ _ _ _ hb ⟨p, e, h1, h2⟩ => ⟨p, e, h1.since hb, h2⟩
theorem ClassQ.lasts : Lasts ClassQ := fun _ _ _ _ hb ⟨f, m, e, h1, h2⟩ => ⟨f, m, e, h1.since hb, h2.since hb⟩
theorem ProgQ.lasts : Lasts ProgQ := fun _ _ _ _ hb ⟨s, c, f, e, h1, h2, h3⟩ => ⟨s, c, f, e, h1.since SigQ.lasts hb, h2.since ClassQ.lasts hb, h3.since FuncQ.lasts hb⟩
section
variable {H : Type} {enc : TypeId × Value → H} {P : Program}
def Fits (P : Program) (t : TypeId) (d : DataW H) : Prop := (d.weights P t).all (· ≤ reachBytes) = true
theorem Fits.of_each {ts : List TypeId} {ds : List (DataW H)} (h : (DataW.weightsEach P ts ds).all (· ≤ reachBytes) = true) {j : Nat} {t : TypeId} {d : DataW H} (hj : ts[j]? = some t) (hd : ds[j]? = some d) : Fits P t d := by
  unfold Fits
  rw [List.all_eq_true]
  exact fun n hn => List.all_eq_true.1 h n (DataW.weights_mem_each hj hd n hn)
theorem Fits.each {t : TypeId} {d : DataW H} (h : Fits P t d) : (DataW.weightsEach P [t] [d]).all (· ≤ reachBytes) = true := by
  simpa [DataW.weightsEach, Fits] using h
theorem Fits.part {t : TypeId} {fs : Array Field} {parts : List (DataW H)} (hs : P.underlying t = some (.struct fs)) (h : Fits P t (.agg parts)) {j : Nat} {f : Field} {d : DataW H} (hf : fs[j]? = some f) (hd : parts[j]? = some d) : Fits P f.type d := by
  have h1 := sized_agg h.each (j := 0) rfl rfl hs
  exact Fits.of_each h1 (by simp [List.getElem?_map, hf]) hd
theorem weights_mem_all {e : TypeId} {ds : List (DataW H)} {d : DataW H} (hd : d ∈ ds) {n : Nat} (hn : n ∈ d.weights P e) : n ∈ DataW.weightsAll P e ds := by
  induction ds with
  | nil => cases hd
  | cons x r ih =>
    simp only [DataW.weightsAll, List.mem_append]
    rcases List.mem_cons.1 hd with rfl | h
    · exact .inl hn
    · exact .inr (ih h)
theorem Fits.elem {t e : TypeId} {elems spare : List (DataW H)} (ht : P.underlying t = some (.slice e)) (h : Fits P t (.slice elems spare)) {d : DataW H} (hd : d ∈ elems) : Fits P e d := by
  unfold Fits at h ⊢
  rw [List.all_eq_true] at h ⊢
  intro n hn
  refine h n ?_
  simp only [DataW.weights, ht, List.mem_cons, List.mem_append]
  exact .inr (.inl (weights_mem_all hd hn))
def Opens {α : Type} (enc : TypeId × Value → H) (P : Program) (t : TypeId) (Q : World → List Value → α → Prop) : Prop :=
  ∀ {W : World} {fuel : Nat} {cs : List Value} {y : DataW H × List MemPlace}, DataW.trod enc P W 0 (fun _ => true) true fuel t cs = some y → (∀ x ∈ y.2, x.block < W.heap.size) → Fits P t y.1 → ∃ x : α, Q W cs x
theorem list_of {α : Type} {R : Nat → α → Prop} : ∀ n : Nat, (∀ i, i < n → ∃ x, R i x) → ∃ xs : List α, xs.length = n ∧ ∀ i (h : i < xs.length), R i xs[i]
  | 0, _ => ⟨[], rfl, fun i h => absurd h (by simp)⟩
  | n + 1, h => by
    obtain ⟨xs, hl, hx⟩ := list_of n (fun i hi => h i (by omega))
    obtain ⟨x, hr⟩ := h n (by omega)
    refine ⟨xs ++ [x], by simp [hl], fun i hi => ?_⟩
    by_cases hi' : i < xs.length
    · rw [List.getElem_append_left hi']; exact hx i hi'
    · have : i = n := by simp [hl] at hi; omega
      subst this
      rw [List.getElem_append_right (by omega)]
      simpa using hr
theorem opens_row {α : Type} {Q : World → List Value → α → Prop} {t e : TypeId} {k : Nat} (ht : P.underlying t = some (.slice e)) (hk : P.cellsOf e = k) (h0 : 0 < k) (hby : 0 < P.bytesOf e) (hQ : Opens enc P e Q) : Opens enc P t (fun W cs xs => ∃ v, cs = [v] ∧ RowV Q k W v xs) := by
  intro W fuel cs y h hlt hfit
  subst hk
  rcases open_slice ht h with ⟨rfl, rfl⟩ | ⟨a, len, cap, m, n, D, Pl, rfl, hb, hl, hm, hmm, rfl, hi⟩
  · exact ⟨[], _, rfl, none, 0, 0, rfl, rfl, fun _ => rfl, by omega, fun h => absurd h (by omega)⟩
  · simp only [if_true] at hmm
    have hw := sized_slice hfit.each (j := 0) rfl rfl ht
    simp only [List.length_map, List.length_range, reachBytes] at hw
    have hlen : len ≤ 140737488351232 := by
      have h1 : len * 1 ≤ (len + (m - len)) * P.bytesOf e := Nat.mul_le_mul (by omega) hby
      omega
    obtain ⟨xs, hxl, hxs⟩ := list_of (R := fun (i : Nat) (x : α) => ∃ cs : List Value, cs.length = P.cellsOf e ∧ (∀ j (hj : j < cs.length), W.cell? ((a.add (i * P.cellsOf e)).add j) = some cs[j]) ∧ Q W cs x) len (fun i hi' => by
      obtain ⟨cs', hc, htr⟩ := hi i (by omega)
      obtain ⟨_, hcl, hcat⟩ := World.cells?_some hc
      have hmem : D i ∈ (List.range len).map D := List.mem_map.2 ⟨i, List.mem_range.2 hi', rfl⟩
      obtain ⟨x, hx⟩ := hQ htr (fun p hp => hlt p (List.mem_append_right _ (List.mem_flatMap.2 ⟨i, List.mem_range.2 (by omega), hp⟩))) (hfit.elem ht hmem)
      exact ⟨x, cs', hcl, fun j hj => by rw [hcat j (by omega), List.getElem?_eq_getElem hj], hx⟩)
    refine ⟨xs, _, rfl, some a, len, cap, rfl, hxl, (fun h => by cases h), hlen, fun hpos => ?_⟩
    obtain ⟨b, off, spot⟩ := a
    have hs : spot = none := by
      obtain ⟨cs0, hcl0, hc0, _⟩ := hxs 0 (by omega)
      have := World.cell?_spot (hc0 0 (by omega))
      simpa [Addr.add] using this
    subst hs
    refine ⟨b, off, rfl, hlt (.cell b (off + 0)) (List.mem_append_left _ (MemPlace.mem_row.2 ⟨0, Nat.mul_pos (by omega) h0, rfl⟩)), fun i h => ?_⟩
    obtain ⟨cs, hcl, hc, hq⟩ := hxs i h
    refine ⟨cs, hcl, fun j hj => ?_, hq⟩
    have := hc j hj
    rw [addr_plain, addr_plain] at this
    exact this
theorem opens_nums {t e : TypeId} (ht : P.underlying t = some (.slice e)) (he : P.underlying e = some (.int .i64)) (hc : P.cellsOf e = 1) (h8 : P.bytesOf e = 8) : Opens enc P t (fun W cs Z => ∃ v, cs = [v] ∧ NumsV W v Z) := by
  intro W fuel cs y h hlt hfit
  have hone : ∃ v, cs = [v] := by
    rcases open_slice ht h with ⟨rfl, _⟩ | ⟨a, len, cap, _, _, _, _, rfl, _⟩ <;> exact ⟨_, rfl⟩
  obtain ⟨v, rfl⟩ := hone
  obtain ⟨a, n, c, Z, e1, h1, h2, h3, h4, _⟩ := open_nums_field ht he hc h8 h hlt hfit.each (j := 0) rfl rfl
  exact ⟨Z, v, rfl, a, n, c, e1, h1, h2, h3, h4⟩
theorem opens_int {t : TypeId} (ht : P.underlying t = some (.int .i64)) : Opens enc P t (fun W cs z => cs = [.int .i64 z] ∧ InR z) := by
  intro W fuel cs y h _ _
  obtain ⟨n, h1, _, h3⟩ := DataW.trod_int ht h
  exact ⟨n, h1, wf_i64_range h3⟩
theorem opens_text {t : TypeId} (ht : P.underlying t = some .string) : Opens enc P t (fun W cs s => cs = [.string s] ∧ s.size ≤ 140737488351232) := by
  intro W fuel cs y h _ hfit
  obtain ⟨s, h1, h2, _⟩ := DataW.trod_string ht h
  have := sized_string hfit.each (j := 0) (bytes := s.data.toList) rfl (by rw [h2]; rfl)
  rw [list_len] at this
  exact ⟨s, h1, by simpa [reachBytes] using this⟩
theorem opens_bool {t : TypeId} (ht : P.underlying t = some .bool) : Opens enc P t (fun W cs b => cs = [.bool b]) := by
  intro W fuel cs y h _ _
  obtain ⟨b, h1, _⟩ := DataW.trod_bool ht h
  exact ⟨b, h1⟩
theorem opens_part {α : Type} {Q : World → List Value → α → Prop} {t : TypeId} {fs : Array Field} {W : World} {fuel : Nat} {cs : List Value} {y : DataW H × List MemPlace} (hs : P.underlying t = some (.struct fs)) (h : DataW.trod enc P W 0 (fun _ => true) true fuel t cs = some y) (hlt : ∀ x ∈ y.2, x.block < W.heap.size) (hfit : Fits P t y.1)
    (j : Nat) {f : Field} (hf : fs[j]? = some f) {o k : Nat} (ho : f.offset = o) (hk : P.cellsOf f.type = k) {u : TypeId} (hu : f.type = u) (hQ : Opens enc P u Q) : ∃ x, Q W ((cs.drop o).take k) x := by
  subst ho hk hu
  obtain ⟨xs, n, _, rfl, hcl, hxl, hg⟩ := DataW.trod_struct hs h
  have hj : j < xs.length := by rw [hxl]; exact (Array.getElem?_eq_some_iff.1 hf).1
  have hx : xs[j]? = some xs[j] := List.getElem?_eq_getElem hj
  have h1 := (hg j f hf).trans hx
  exact hQ h1 (fun p hp => hlt p (List.mem_flatMap.2 ⟨xs[j], List.getElem_mem _, hp⟩)) (hfit.part hs hf (by rw [List.getElem?_map, hx]; rfl))
theorem struct_len {t : TypeId} {fs : Array Field} {W : World} {fuel : Nat} {cs : List Value} {y : DataW H × List MemPlace} (hs : P.underlying t = some (.struct fs)) (h : DataW.trod enc P W 0 (fun _ => true) true fuel t cs = some y) : cs.length = P.cellsOf t := by
  obtain ⟨xs, n, _, _, hcl, _⟩ := DataW.trod_struct hs h
  exact hcl
end
end Go.Proofs.YtdchhfdmingnaaaDoor

/- Layer 7, plain: where blocks go, and in which order they are met and left: a walk that calls itself, and one by a list. Nothing of the program is named here. -/
namespace Go.Proofs.YtdchhfdmingnaaaDoor
set_option linter.unusedVariables false
def tgts (e : EndD) : List (Int × List Int) := if e.K = 0 then [(e.To, e.L)] else if e.K = 1 then [(e.To, e.L), (e.Else, e.M)] else []
def tos (e : EndD) : List Int := (tgts e).map (·.1)
def nextL (e : EndD) : List Int := if e.K = 0 then [e.To] else if e.K = 1 then (if e.To = e.Else then [e.To] else [e.To, e.Else]) else []
def noEnd : EndD := ⟨2, 0, 0, 0, [], []⟩
def theEnd (f : FuncD) (k : Nat) : EndD := match f.blocks[k]? with | some b => b.fin | none => noEnd
def nxF (f : FuncD) (k : Nat) : List Int := nextL (theEnd f k)
section
variable (N : Nat) (nx : Nat → List Int)
def There (N : Nat) (z : Int) : Prop := 0 ≤ z ∧ z < (N : Int)
instance (z : Int) : Decidable (There N z) := by unfold There; infer_instance
def walkF : Nat → List Int × List Int → Int → List Int × List Int
  | 0, s, _ => s
  | k + 1, s, b => if ¬ There N b ∨ b ∈ s.1 then s else (((nx b.toNat).foldl (walkF k) (s.1 ++ [b], s.2)).1, b :: ((nx b.toNat).foldl (walkF k) (s.1 ++ [b], s.2)).2)
def Inv (met : List Int) : Prop := met.Nodup ∧ ∀ x ∈ met, There N x
end
section
variable {N : Nat} {nx : Nat → List Int}
theorem walkF_skip {k : Nat} {s : List Int × List Int} {b : Int} (h : ¬ There N b ∨ b ∈ s.1) : walkF N nx k s b = s := by
  cases k with
  | zero => rfl
  | succ k => unfold walkF; rw [if_pos h]
theorem walkF_go {k : Nat} {s : List Int × List Int} {b : Int} (h : There N b) (h2 : b ∉ s.1) : walkF N nx (k + 1) s b = (((nx b.toNat).foldl (walkF N nx k) (s.1 ++ [b], s.2)).1, b :: ((nx b.toNat).foldl (walkF N nx k) (s.1 ++ [b], s.2)).2) := by
  rw [walkF, if_neg (by intro h'; rcases h' with h' | h'; exact h' h; exact h2 h')]
theorem Inv.len {met : List Int} (h : Inv N met) : met.length ≤ N := by
  have h1 := List.Nodup.length_le_of_subset h.1 (l₂ := (List.range N).map Int.ofNat) (fun x hx => by
    have h0 := h.2 x hx
    obtain ⟨k, rfl⟩ := Int.eq_ofNat_of_zero_le h0.1
    exact List.mem_map.2 ⟨k, List.mem_range.2 (by have := h0.2; omega), rfl⟩)
  simpa using h1
theorem Inv.nil : Inv N [] := ⟨List.nodup_nil, fun x hx => by cases hx⟩
theorem Inv.more {met : List Int} {b : Int} (h : Inv N met) (hb : There N b) (hn : b ∉ met) : Inv N (met ++ [b]) :=
  ⟨List.nodup_append.2 ⟨h.1, by simp, fun a ha c hc e => by simp at hc; subst hc; subst e; exact hn ha⟩, fun x hx => by
    rcases List.mem_append.1 hx with hx | hx
    · exact h.2 x hx
    · simp at hx; subst hx; exact hb⟩
theorem Inv.room {met : List Int} {b : Int} (h : Inv N met) (hb : There N b) (hn : b ∉ met) : met.length < N := by
  have := (h.more hb hn).len
  simp at this
  omega
end
section
variable {N : Nat} {nx : Nat → List Int}
structure Adds (N : Nat) (nx : Nat → List Int) (s s' : List Int × List Int) (from_ : Int → Prop) (t u : List Int) : Prop where
  met : s'.1 = s.1 ++ t
  left : s'.2 = u ++ s.2
  perm : u.Perm t
  inv : Inv N s'.1
  pred : ∀ x ∈ t, from_ x ∨ ∃ p ∈ t, x ∈ nx p.toNat
  clos : ∀ p ∈ t, ∀ n ∈ nx p.toNat, There N n → n ∈ s'.1
theorem walk_adds : ∀ (k : Nat) (s : List Int × List Int) (b : Int), Inv N s.1 → N - s.1.length < k → ∃ t u, Adds N nx s (walkF N nx k s b) (fun x => x = b) t u ∧ (There N b → b ∈ (walkF N nx k s b).1)
  | 0, s, b, _, h => absurd h (by omega)
  | k + 1, s, b, hi, hk => by
    by_cases h : ¬ There N b ∨ b ∈ s.1
    · rw [walkF_skip h]
      exact ⟨[], [], ⟨by simp, by simp, List.Perm.nil, hi, fun x hx => by simp at hx, fun x hx => by simp at hx⟩, fun hT => by rcases h with h | h; exact absurd hT h; exact h⟩
    · have hT : There N b := Classical.byContradiction fun h' => h (.inl h')
      have hM : b ∉ s.1 := fun h' => h (.inr h')
      have fold : ∀ (l : List Int) (s : List Int × List Int), Inv N s.1 → N - s.1.length < k → ∃ t u, Adds N nx s (l.foldl (walkF N nx k) s) (fun x => x ∈ l) t u ∧ ∀ n ∈ l, There N n → n ∈ (l.foldl (walkF N nx k) s).1 := by
        intro l
        induction l with
        | nil => intro s hi hk; exact ⟨[], [], ⟨by simp, by simp, List.Perm.nil, hi, fun x hx => by simp at hx, fun x hx => by simp at hx⟩, fun n hn => by simp at hn⟩
        | cons n l ih =>
          intro s hi hk
          obtain ⟨t1, u1, a1, b1⟩ := walk_adds k s n hi hk
          obtain ⟨t2, u2, a2, b2⟩ := ih (walkF N nx k s n) a1.inv (by rw [a1.met, List.length_append]; omega)
          rw [List.foldl_cons]
          have sub : ∀ x, x ∈ (walkF N nx k s n).1 → x ∈ (l.foldl (walkF N nx k) (walkF N nx k s n)).1 := fun x hx => by rw [a2.met]; exact List.mem_append_left _ hx
          refine ⟨t1 ++ t2, u2 ++ u1, ⟨by rw [a2.met, a1.met, List.append_assoc], by rw [a2.left, a1.left, List.append_assoc], List.perm_append_comm.trans (a1.perm.append a2.perm), a2.inv, fun x hx => ?_, fun p hp m hm hT => ?_⟩, fun m hm hT => ?_⟩
          · rcases List.mem_append.1 hx with hx | hx
            · rcases a1.pred x hx with rfl | ⟨p, hp, h⟩
              · exact .inl (by simp)
              · exact .inr ⟨p, List.mem_append_left _ hp, h⟩
            · rcases a2.pred x hx with h | ⟨p, hp, h⟩
              · exact .inl (by simp [h])
              · exact .inr ⟨p, List.mem_append_right _ hp, h⟩
          · rcases List.mem_append.1 hp with hp | hp
            · exact sub _ (a1.clos p hp m hm hT)
            · exact a2.clos p hp m hm hT
          · rcases List.mem_cons.1 hm with rfl | hm
            · exact sub _ (b1 hT)
            · exact b2 m hm hT
      have hroom := hi.room hT hM
      obtain ⟨t, u, a, c⟩ := fold (nx b.toNat) (s.1 ++ [b], s.2) (hi.more hT hM) (by simp; omega)
      rw [walkF_go hT hM]
      refine ⟨b :: t, b :: u, ⟨by simp only; rw [a.met]; simp, by simp only; rw [a.left]; rfl, a.perm.cons b, a.inv, fun x hx => ?_, fun p hp n hn hTn => ?_⟩, fun _ => by simp only; rw [a.met]; simp⟩
      · rcases List.mem_cons.1 hx with rfl | hx
        · exact .inl rfl
        · rcases a.pred x hx with h | ⟨p, hp, h⟩
          · exact .inr ⟨b, by simp, h⟩
          · exact .inr ⟨p, by simp [hp], h⟩
      · rcases List.mem_cons.1 hp with rfl | hp
        · exact c n hn hTn
        · exact a.clos p hp n hn hTn
end
def walkAll (f : FuncD) : List Int × List Int := walkF f.blocks.length (nxF f) (f.blocks.length + 1) ([], []) 0
def orderL (f : FuncD) : List Int := (walkAll f).2
structure Ordered (f : FuncD) (L : List Int) : Prop where
  nodup : L.Nodup
  there : ∀ x ∈ L, There f.blocks.length x
  pred : ∀ x ∈ L, x = 0 ∨ ∃ p ∈ L, x ∈ nxF f p.toNat
  clos : ∀ p ∈ L, ∀ n ∈ nxF f p.toNat, There f.blocks.length n → n ∈ L
theorem order_facts (f : FuncD) : Ordered f (orderL f) := by
  obtain ⟨t, u, a, c⟩ := walk_adds (N := f.blocks.length) (nx := nxF f) (f.blocks.length + 1) ([], []) 0 Inv.nil (by simp)
  have h1 : (walkAll f).1 = t := by have := a.met; simpa [walkAll] using this
  have h2 : orderL f = u := by have := a.left; simpa [orderL, walkAll] using this
  have hinv : Inv f.blocks.length t := by rw [← h1]; exact a.inv
  rw [h2]
  refine ⟨a.perm.nodup_iff.2 hinv.1, fun x hx => hinv.2 x (a.perm.mem_iff.1 hx), fun x hx => ?_, fun p hp n hn hT => ?_⟩
  · rcases a.pred x (a.perm.mem_iff.1 hx) with h | ⟨p, hp, h⟩
    · exact .inl h
    · exact .inr ⟨p, a.perm.mem_iff.2 hp, h⟩
  · have := a.clos p (a.perm.mem_iff.1 hp) n hn hT
    exact a.perm.mem_iff.2 (by rw [← h1]; exact this)
theorem order_head {f : FuncD} (h : 0 < f.blocks.length) : ∃ r, orderL f = 0 :: r := by
  unfold orderL walkAll
  rw [walkF_go ⟨Int.le_refl _, by omega⟩ (by simp)]
  exact ⟨_, rfl⟩
theorem order_len (f : FuncD) : (orderL f).length ≤ f.blocks.length := by
  have h := order_facts f
  exact Inv.len ⟨h.nodup, h.there⟩
end Go.Proofs.YtdchhfdmingnaaaDoor

/- Layer 7, plain: which blocks are ahead of each block. Nothing of the program is named here. -/
namespace Go.Proofs.YtdchhfdmingnaaaDoor
set_option linter.unusedVariables false
def ahL (f : FuncD) (k : Nat) (b : Int) : List Int := ((List.range k).filter fun i => decide (b ∈ nxF f i)).map Int.ofNat
theorem ahL_more (f : FuncD) (k : Nat) (b : Int) : ahL f (k + 1) b = ahL f k b ++ (if b ∈ nxF f k then [(k : Int)] else []) := by
  unfold ahL
  rw [List.range_succ, List.filter_append, List.map_append]
  congr 1
  by_cases h : b ∈ nxF f k <;> simp [h]
theorem ahL_len (f : FuncD) (k : Nat) (b : Int) : (ahL f k b).length ≤ k := by
  unfold ahL
  rw [List.length_map]
  exact Nat.le_trans (List.length_filter_le _ _) (by simp)
theorem ahL_mem {f : FuncD} {k : Nat} {b x : Int} : x ∈ ahL f k b ↔ There k x ∧ b ∈ nxF f x.toNat := by
  unfold ahL There
  simp only [List.mem_map, List.mem_filter, List.mem_range, decide_eq_true_eq]
  constructor
  · rintro ⟨i, ⟨h1, h2⟩, rfl⟩
    exact ⟨⟨by simp, by simp; omega⟩, by simpa using h2⟩
  · rintro ⟨⟨h1, h2⟩, h3⟩
    exact ⟨x.toNat, ⟨by omega, h3⟩, by simp; omega⟩
theorem next_nodup (e : EndD) : (nextL e).Nodup := by
  unfold nextL
  split
  · simp
  · split
    · split
      · simp
      · rename_i h; simp [h]
    · simp
def ahRow (f : FuncD) (i j : Nat) : List (List Int) := (List.range f.blocks.length).map fun (b : Nat) => ahL f i b ++ (if (b : Int) ∈ (nxF f i).take j then [(i : Int)] else [])
theorem ahRow_len (f : FuncD) (i j : Nat) : (ahRow f i j).length = f.blocks.length := by simp [ahRow]
theorem ahRow_at {f : FuncD} {i j b : Nat} (h : b < (ahRow f i j).length) : (ahRow f i j)[b] = ahL f i b ++ (if (b : Int) ∈ (nxF f i).take j then [(i : Int)] else []) := by simp [ahRow]
theorem ahRow_zero (f : FuncD) : ahRow f 0 0 = List.replicate f.blocks.length [] := by
  apply List.ext_getElem
  · simp [ahRow]
  · intro b h1 h2
    rw [ahRow_at]
    simp [ahL]
theorem ahRow_put {f : FuncD} {i j b : Nat} (hj : j < (nxF f i).length) (hb : (nxF f i)[j] = (b : Int)) (h : b < (ahRow f i j).length) : (ahRow f i j).set b ((ahRow f i j)[b] ++ [(i : Int)]) = ahRow f i (j + 1) ∧ (ahRow f i j)[b] = ahL f i b := by
  have hn : (b : Int) ∉ (nxF f i).take j := by
    intro h'
    obtain ⟨k, hk, e⟩ := List.getElem_of_mem h'
    simp only [List.length_take] at hk
    rw [List.getElem_take] at e
    exact List.pairwise_iff_getElem.1 (next_nodup (theEnd f i)) k j (show k < (nxF f i).length by omega) hj (by omega) (e.trans hb.symm)
  refine ⟨?_, by rw [ahRow_at, if_neg hn, List.append_nil]⟩
  apply List.ext_getElem
  · simp [ahRow]
  · intro c h1 h2
    rw [List.getElem_set]
    rw [ahRow_at h2, List.take_succ_eq_append_getElem hj, hb]
    split
    · rename_i e
      subst e
      rw [ahRow_at h, if_neg hn, if_pos (by simp)]
      simp
    · rename_i e
      rw [ahRow_at]
      congr 1
      have e' : ¬ ((c : Int) = (b : Int)) := fun h' => e (by omega)
      simp [e']
theorem ahRow_skip {f : FuncD} {i j : Nat} (hj : j < (nxF f i).length) (hb : ¬ There f.blocks.length (nxF f i)[j]) : ahRow f i j = ahRow f i (j + 1) := by
  apply List.ext_getElem
  · simp [ahRow]
  · intro c h1 h2
    have e' : ¬ ((c : Int) = (nxF f i)[j]) := fun h' => hb (by rw [← h']; simp [ahRow_len] at h1; exact ⟨by omega, by omega⟩)
    have e2 : ((c : Int) ∈ (nxF f i).take (j + 1)) ↔ ((c : Int) ∈ (nxF f i).take j) := by
      rw [List.take_succ_eq_append_getElem hj, List.mem_append, List.mem_singleton]
      exact ⟨fun h => h.resolve_right e', .inl⟩
    rw [ahRow_at h1, ahRow_at h2]
    simp only [e2]
theorem ahRow_turn (f : FuncD) (i : Nat) {j : Nat} (hj : j = (nxF f i).length) : ahRow f i j = ahRow f (i + 1) 0 := by
  subst hj
  apply List.ext_getElem
  · simp [ahRow]
  · intro c h1 h2
    rw [ahRow_at h1, ahRow_at h2, ahL_more, List.take_length]
    simp
end Go.Proofs.YtdchhfdmingnaaaDoor

/- Layer 4, plain: which fields of each kind of step play a part (P4.1). Nothing of the program is named here. -/
namespace Go.Proofs.YtdchhfdmingnaaaDoor
set_option linter.unusedVariables false
def fieldsL (K : Int) : List UInt8 :=
  if K = 0 ∨ K = 1 then [78] else if K = 2 then [83] else if K = 3 ∨ K = 11 then [78, 65, 66] else
  if K = 4 ∨ K = 6 ∨ K = 13 ∨ K = 14 ∨ K = 20 ∨ K = 22 ∨ K = 25 then [65] else
  if K = 5 ∨ K = 7 ∨ K = 8 ∨ K = 15 ∨ K = 19 ∨ K = 21 then [65, 66] else
  if K = 9 then [78, 76, 75] else if K = 10 then [78, 65] else if K = 12 then [78, 75] else if K = 16 ∨ K = 18 then [65, 66, 67] else
  if K = 17 then [75] else if K = 23 then [78, 76] else if K = 24 then [78, 65, 76] else []
def hasB (K : Int) (f : UInt8) : Bool := (fieldsL K).contains f
theorem kinds (K : Int) : (K = 0 ∨ K = 1 ∨ K = 2 ∨ K = 3 ∨ K = 4 ∨ K = 5 ∨ K = 6 ∨ K = 7 ∨ K = 8 ∨ K = 9 ∨ K = 10 ∨ K = 11 ∨ K = 12 ∨ K = 13 ∨ K = 14 ∨ K = 15 ∨ K = 16 ∨ K = 17 ∨ K = 18 ∨ K = 19 ∨ K = 20 ∨ K = 21 ∨ K = 22 ∨ K = 23 ∨ K = 24 ∨ K = 25) ∨ (K < 0 ∨ 25 < K) := by omega
theorem fields_none {K : Int} (h : K < 0 ∨ 25 < K) : fieldsL K = [] := by
  unfold fieldsL
  repeat rw [if_neg (by omega)]
def pickI (b : Bool) (x : Int) : Int := if b then x else 0
def pickS (b : Bool) (s : ByteArray) : ByteArray := if b then s else ⟨#[]⟩
def pickL (b : Bool) (l : List Int) : List Int := if b then l else []
end Go.Proofs.YtdchhfdmingnaaaDoor

/- Steps (api.Op) by value: what a walk needs of them; the statements' own copy of one (hallmarklaw04.own). -/
namespace Go.Proofs.YtdchhfdmingnaaaDoor
open Go.RowKit (wrap64 intOf Below)
set_option linter.unusedVariables false
theorem info_int : (Tryd.prog.info? 3).map (fun i => (i.zero, i.size, i.bytes)) = some (some (.int .i64 0), 1, 8) := by kernel_rfl
end Go.Proofs.YtdchhfdmingnaaaDoor

/- Layer 7: package cfg's targets, one by one: the contract of the iterator; which blocks are there; whether a number is in a list. -/
namespace Go.Proofs.YtdchhfdmingnaaaDoor
open Go.RowKit
set_option linter.unusedVariables false
set_option linter.unusedSimpArgs false
attribute [local go_sem] Oper.semAt_some
def thereB (n : Nat) (z : Int) : Bool := decide (There n z)
set_option maxRecDepth 100000 in
theorem there_any (r : Int) (a : Option Addr) (n c : Nat) (z : Int) (w : World) (hn : n ≤ 140737488355328) :
    Calls Tryd.prog 63 #[.agg #[.int .i64 r, .slice a n c], .int .i64 z] w fun e w' => e = .returned (.bool (thereB n z)) ∧ w' = w.alloc (.cells #[.int .i64 r, .slice a n c] 30) := by
  by_cases h0 : 0 ≤ z
  · by_cases h1 : z < (n : Int)
    · have HT : RowKit.Hid (thereB n z = true) := Lib.hid (by unfold thereB; exact decide_eq_true ⟨h0, h1⟩)
      go_enter Tryd.func63, Tryd.ntmps63
      go_wp2_with fail
      go_ret
      exact ⟨by rw [HT.out]; rfl, rfl⟩
    · have HT : RowKit.Hid (thereB n z = false) := Lib.hid (by unfold thereB; exact decide_eq_false (by unfold There; omega))
      go_enter Tryd.func63, Tryd.ntmps63
      go_wp2_with fail
      go_ret
      exact ⟨by rw [HT.out]; rfl, rfl⟩
  · have HT : RowKit.Hid (thereB n z = false) := Lib.hid (by unfold thereB; exact decide_eq_false (by unfold There; omega))
    have h0' : z < 0 := by omega
    go_enter Tryd.func63, Tryd.ntmps63
    go_wp2_with fail
    go_ret
    exact ⟨by rw [HT.out]; rfl, rfl⟩
theorem targets_any (K A T E : Int) (la : Option Addr) (ln lc : Nat) (ma : Option Addr) (mn mc : Nat) (w : World) :
    Calls Tryd.prog 73 #[.agg #[.int .i64 K, .int .i64 A, .int .i64 T, .int .i64 E, .slice la ln lc, .slice ma mn mc]] w fun e w' => e = .returned (.func (.func 80) #[] #[.pointer (some ⟨w.heap.size, 0, none⟩)]) ∧ w' = w.alloc (.cells #[.int .i64 K, .int .i64 A, .int .i64 T, .int .i64 E, .slice la ln lc, .slice ma mn mc] 55) := by
  go_enter Tryd.func73, Tryd.ntmps73
  go_wp2_with fail
  go_ret
  exact ⟨rfl, rfl⟩
abbrev TgV := Int × Option Addr × Nat × Nat
def tgV (K T E : Int) (la : Option Addr) (ln lc : Nat) (ma : Option Addr) (mn mc : Nat) : List TgV := if K = 0 then [(T, la, ln, lc)] else if K = 1 then [(T, la, ln, lc), (E, ma, mn, mc)] else []
theorem tgV_len (K T E : Int) (la : Option Addr) (ln lc : Nat) (ma : Option Addr) (mn mc : Nat) : (tgV K T E la ln lc ma mn mc).length ≤ 2 := by
  unfold tgV
  repeat' split
  all_goals simp
theorem tgV_tos (e : EndD) (la : Option Addr) (ln lc : Nat) (ma : Option Addr) (mn mc : Nat) : (tgV e.K e.To e.Else la ln lc ma mn mc).map (·.1) = tos e := by
  unfold tgV tos tgts
  repeat' split
  all_goals simp_all
abbrev encT (x : TgV) : Array Value := #[.agg #[.int .i64 x.1, .slice x.2.1 x.2.2.1 x.2.2.2]]
structure KeptT (b : Nat) (W W' : World) : Prop where
  walks : KeepsWalks W W'
  cells : ∀ j, W'.cell? ⟨b, j, none⟩ = W.cell? ⟨b, j, none⟩
theorem KeptT.refl (b : Nat) (W : World) : KeptT b W W := ⟨KeepsWalks.refl W, fun _ => rfl⟩
theorem KeptT.trans {b : Nat} {A B C : World} (h : KeptT b A B) (k : KeptT b B C) : KeptT b A C := ⟨h.walks.trans k.walks, fun j => (k.cells j).trans (h.cells j)⟩
theorem keptT_putObj {b n0 : Nat} (h1 : b < n0) (W : World) (l : Nat) (o o' : Obj) (hl : n0 ≤ l) (ho : W.heap[l]? = some o) (_ : o.isCells = false) (hw : o.isWalk = false) : KeptT b W (W.putObj l o') :=
  ⟨KeepsWalks.putObj _ ho hw, fun j => by simp only [World.cell?, World.putObj_heap_other (show b ≠ l by omega)]⟩
set_option maxRecDepth 100000 in
set_option maxHeartbeats 2000000 in
theorem tg_stops (K A T E : Int) (la : Option Addr) (ln lc : Nat) (ma : Option Addr) (mn mc : Nat) (b n : Nat) (w : World) (hb : ∀ j, w.cell? ⟨b, j, none⟩ = (#[.int .i64 K, .int .i64 A, .int .i64 T, .int .i64 E, .slice la ln lc, .slice ma mn mc] : Array Value)[j]?) :
    SeqStopsK Fence.wide n Tryd.prog 80 #[.pointer (some ⟨b, 0, none⟩)] encT (KeptT b) (fun xs => xs = tgV K T E la ln lc ma mn mc) (fun pre => ∃ q, pre = (tgV K T E la ln lc ma mn mc).take q) (tgV K T E la ln lc ma mn mc).length w := by
  intro l J Jx W hW hJ hJx hY h0
  have hlt : b < w.heap.size := World.block_lt_of_cell? (a := ⟨b, 0, none⟩) _ (hb 0)
  have HB : RowKit.Hid (∀ u, KeptT b W u → ∀ j, u.cell? ⟨b, j, none⟩ = (#[.int .i64 K, .int .i64 A, .int .i64 T, .int .i64 E, .slice la ln lc, .slice ma mn mc] : Array Value)[j]?) := Lib.hid fun u hu j => (hu.cells j).trans ((hW.cell (p := ⟨b, j, none⟩) hlt).trans (hb j))
  have c0 := HB.out W (KeptT.refl b W) 0
  have c2 := HB.out W (KeptT.refl b W) 2
  have c4 := HB.out W (KeptT.refl b W) 4
  clear hb hlt hW
  refine callsIn_of_wp Tryd.func80 rfl trivial ?_ rfl
  simp only [Tryd.ntmps80, List.size_toArray, List.length_cons, List.length_nil, Nat.reduceAdd, Nat.reduceSub, Array.replicate_succ, Array.replicate_zero, List.push_toArray, List.append_toArray, List.nil_append, List.cons_append]
  by_cases hK0 : K = 0
  · have hk : (K == 0) = true := by rw [hK0]; rfl
    have HT : RowKit.Hid (tgV K T E la ln lc ma mn mc = [(T, la, ln, lc)]) := Lib.hid (by unfold tgV; rw [if_pos hK0])
    clear hK0
    have hy0 := hY [] (T, la, ln, lc) W h0 (by rw [HT.out]; simp)
    unfold encT at hy0
    obtain ⟨fn, tmps, assign, body, hy, hR⟩ := hy0
    clear hY
    gi_wp2
    refine ⟨(fun h => (nomatch h)), hR.mono ?_⟩
    rintro e W3 (⟨rfl, hJ3, hk3⟩ | ⟨rfl, hJx3⟩)
    · gi_wp2
      go_end0
      exact ⟨⟨_, rfl⟩, .inl ⟨_, HT.out.symm, hJ3⟩⟩
    · gi_wp2
      go_end0
      exact ⟨⟨_, rfl⟩, .inr ⟨_, ⟨1, by rw [HT.out]; rfl⟩, hJx3⟩⟩
  · have hk : (K == 0) = false := by simpa using hK0
    by_cases hK1 : K = 1
    · have hk1 : (K == 1) = true := by rw [hK1]; rfl
      have HT : RowKit.Hid (tgV K T E la ln lc ma mn mc = [(T, la, ln, lc), (E, ma, mn, mc)]) := Lib.hid (by unfold tgV; rw [if_neg hK0, if_pos hK1])
      clear hK0 hK1
      have hy0 := hY [] (T, la, ln, lc) W h0 (by rw [HT.out]; simp)
      have HY1 := Lib.hid fun W1 h => hY [(T, la, ln, lc)] (E, ma, mn, mc) W1 h (by rw [HT.out]; simp)
      unfold encT at hy0 HY1
      obtain ⟨fn, tmps, assign, body, hy, hR⟩ := hy0
      clear hY
      gi_wp2
      refine ⟨(fun h => (nomatch h)), hR.mono ?_⟩
      rintro e W3 (⟨rfl, hJ3, hk3⟩ | ⟨rfl, hJx3⟩)
      · have d3 := HB.out W3 hk3 3
        have d5 := HB.out W3 hk3 5
        obtain ⟨fn2, tmps2, assign2, body2, hy2, hR2⟩ := HY1.out W3 hJ3
        clear hJ3 hk3 hy hR c0 c2 c4
        gi_wp2
        refine ⟨(fun h => (nomatch h)), hR2.mono ?_⟩
        rintro e W4 (⟨rfl, hJ4, hk4⟩ | ⟨rfl, hJx4⟩)
        · gi_wp2
          go_end0
          exact ⟨⟨_, rfl⟩, .inl ⟨_, HT.out.symm, hJ4⟩⟩
        · gi_wp2
          go_end0
          exact ⟨⟨_, rfl⟩, .inr ⟨_, ⟨2, by rw [HT.out]; rfl⟩, hJx4⟩⟩
      · gi_wp2
        go_end0
        exact ⟨⟨_, rfl⟩, .inr ⟨_, ⟨1, by rw [HT.out]; rfl⟩, hJx3⟩⟩
    · have hk1 : (K == 1) = false := by simpa using hK1
      have HT : RowKit.Hid (tgV K T E la ln lc ma mn mc = []) := Lib.hid (by unfold tgV; rw [if_neg hK0, if_neg hK1])
      clear hK0 hK1 hY
      gi_wp2
      go_end0
      exact ⟨⟨_, rfl⟩, .inl ⟨_, HT.out.symm, h0⟩⟩
end Go.Proofs.YtdchhfdmingnaaaDoor

/- What is kept when all but some blocks may have turned ('Off'); blocks that are known by their cells; a store of what lies there already. Nothing of the program is named here. -/
namespace Go.Proofs.YtdchhfdmingnaaaDoor
open Go.RowKit (wrap64 intOf Below)
set_option linter.unusedVariables false
structure Off (X : Nat → Prop) (w w' : World) : Prop where
  os : w'.os = w.os
  tape : w'.tape = w.tape
  output : w'.output = w.output
  size : w.heap.size ≤ w'.heap.size
  block : ∀ k, k < w.heap.size → ¬ X k → w'.heap[k]? = w.heap[k]?
section
variable {X Y : Nat → Prop} {a b c w w' : World}
theorem Off.refl (X : Nat → Prop) (w : World) : Off X w w := ⟨rfl, rfl, rfl, Nat.le_refl _, fun _ _ _ => rfl⟩
theorem Off.trans (h : Off X a b) (k : Off X b c) : Off X a c :=
  ⟨k.os.trans h.os, k.tape.trans h.tape, k.output.trans h.output, Nat.le_trans h.size k.size, fun i hi hx => (k.block i (Nat.lt_of_lt_of_le hi h.size) hx).trans (h.block i hi hx)⟩
theorem Off.trans_new (h : Off X a b) (k : Off Y b c) (hY : ∀ i, Y i → X i ∨ a.heap.size ≤ i) : Off X a c :=
  ⟨k.os.trans h.os, k.tape.trans h.tape, k.output.trans h.output, Nat.le_trans h.size k.size, fun i hi hx => (k.block i (Nat.lt_of_lt_of_le hi h.size) (fun hy => by rcases hY i hy with h' | h' <;> first | exact hx h' | omega)).trans (h.block i hi hx)⟩
theorem Off.mono (h : Off X a b) (hY : ∀ i, i < a.heap.size → X i → Y i) : Off Y a b :=
  ⟨h.os, h.tape, h.output, h.size, fun i hi hy => h.block i hi (fun hx => hy (hY i hi hx))⟩
theorem Off.of_below {B : Nat} (h : Below B a b) (hB : ∀ i, B ≤ i → i < a.heap.size → X i) : Off X a b :=
  ⟨h.os, h.tape, h.output, h.size, fun i hi hx => h.block i (Nat.lt_of_not_le fun h' => hx (hB i h' hi))⟩
theorem Off.since (h : Below a.heap.size a b) : Off X a b := Off.of_below h (fun i h1 h2 => absurd h2 (by omega))
theorem Off.below {B : Nat} (h : Off X a b) (hB : B ≤ a.heap.size) (hX : ∀ i, X i → B ≤ i) : Below B a b :=
  ⟨h.os, h.tape, h.output, h.size, fun i hi => h.block i (by omega) (fun hx => by have := hX i hx; omega)⟩
theorem Off.drew (h : Off X a b) : Off X a b.drew := ⟨h.os, h.tape, h.output, h.size, h.block⟩
theorem Off.drewN (h : Off X a b) (n : Nat) : Off X a (b.drewN n) := ⟨h.os, h.tape, h.output, h.size, h.block⟩
theorem Off.alloc (h : Off X a b) (o : Obj) : Off X a (b.alloc o) := h.trans (Off.since ((Below.refl _ _).alloc (Nat.le_refl _) o))
theorem Off.setCell (h : Off X a b) {p : Addr} (hp : X p.block ∨ a.heap.size ≤ p.block) (u : Value) : Off X a (b.setCell p u) :=
  ⟨h.os, h.tape, h.output, by simp only [World.setCell, Array.size_modify]; exact h.size, fun k hk hx => (Below.heap_setCell _ _ _ _ (fun e => by subst e; rcases hp with h' | h' <;> first | exact hx h' | omega)).trans (h.block k hk hx)⟩
theorem Off.grown {row : Option Nat} (h : Off X a b) (hg : b.grownBy c row) (hr : ∀ k, row = some k → X k ∨ a.heap.size ≤ k) : Off X a c :=
  h.trans_new (Y := fun k => row = some k) ⟨hg.os, hg.tape, hg.output, hg.size, fun k hk hx => hg.block k hk (fun e => hx e.symm)⟩ (fun i hi => hr i hi)
theorem Off.cell (h : Off X a b) {p : Addr} (hp : p.block < a.heap.size) (hx : ¬ X p.block) : b.cell? p = a.cell? p := World.cell?_of_block (h.block _ hp hx)
theorem Off.frozen (h : Off X a b) {p : Addr} (hp : p.block < a.heap.size) (hx : ¬ X p.block) : b.frozen? p = a.frozen? p := World.frozen?_of_block (h.block _ hp hx)
end
def WinAt (w : World) (g off : Nat) (cs : List Value) : Prop :=
  ∃ cur T, w.heap[g]? = some (.cells cur T (0, 0)) ∧ ∀ j (h : j < cs.length), cur[off + j]? = some cs[j]
section
variable {w w' : World} {g off : Nat} {cs : List Value}
theorem WinAt.cell (h : WinAt w g off cs) {j : Nat} (hj : j < cs.length) : w.cell? ⟨g, off + j, none⟩ = some cs[j] := by
  obtain ⟨cur, T, hg, hc⟩ := h
  simp only [World.cell?, hg, Option.isSome_none, Bool.false_eq_true, if_false]
  exact hc j hj
theorem WinAt.free (h : WinAt w g off cs) (o : Nat) : w.frozen? ⟨g, o, none⟩ = false := by
  obtain ⟨cur, T, hg, hc⟩ := h
  simp [World.frozen?, hg]
theorem WinAt.lt (h : WinAt w g off cs) : g < w.heap.size := by
  obtain ⟨cur, T, hg, hc⟩ := h
  exact (Array.getElem?_eq_some_iff.1 hg).1
theorem WinAt.kept (h : WinAt w g off cs) (hb : w'.heap[g]? = w.heap[g]?) : WinAt w' g off cs := by
  obtain ⟨cur, T, hg, hc⟩ := h
  exact ⟨cur, T, hb.trans hg, hc⟩
theorem WinAt.stays {X : Nat → Prop} (h : WinAt w g off cs) (ho : Off X w w') (hx : ¬ X g) : WinAt w' g off cs := h.kept (ho.block g h.lt hx)
theorem WinAt.part (h : WinAt w g off cs) (k n : Nat) (hk : k + n ≤ cs.length) : WinAt w g (off + k) ((cs.drop k).take n) := by
  obtain ⟨cur, T, hg, hc⟩ := h
  refine ⟨cur, T, hg, fun j hj => ?_⟩
  simp only [List.length_take, List.length_drop] at hj
  rw [Nat.add_assoc, hc (k + j) (by omega)]
  simp
end
theorem flatten_at {α : Type} {k : Nat} : ∀ (css : List (List α)), (∀ cs ∈ css, cs.length = k) → ∀ i (hi : i < css.length) j (hj : j < css[i].length), css.flatten[i * k + j]? = some css[i][j]
  | [], _, i, hi, _, _ => by simp at hi
  | cs :: css, hk, 0, hi, j, hj => by
    simp only [List.getElem_cons_zero] at hj
    simp only [List.flatten_cons, Nat.zero_mul, Nat.zero_add, List.getElem_cons_zero]
    rw [List.getElem?_append_left hj, List.getElem?_eq_getElem hj]
  | cs :: css, hk, i + 1, hi, j, hj => by
    have h0 : cs.length = k := hk cs (by simp)
    simp only [List.getElem_cons_succ] at hj
    have ih := flatten_at css (fun c hc => hk c (by simp [hc])) i (by simpa using hi) j hj
    simp only [List.flatten_cons, List.getElem_cons_succ]
    rw [List.getElem?_append_right (by rw [h0, Nat.succ_mul]; omega), h0, show (i + 1) * k + j - k = i * k + j by rw [Nat.succ_mul]; omega]
    exact ih
theorem ownsRow_win {w : World} {base : Nat} {e : TypeId} {k : Nat} {v : Value} {n : Nat} {css : List (List Value)} (h : w.ownsRow base e k v n css.flatten) (hk : ∀ cs ∈ css, cs.length = k) {g : Nat} (hg : v.ownBlock = some g) {i : Nat} (hi : i < css.length) : WinAt w g (i * k) css[i] := by
  rcases h.2 with ⟨rfl, _⟩ | ⟨g', cap, cur, rfl, _, hgg, _, _, _, htake⟩
  · simp [Value.ownBlock] at hg
  · simp [Value.ownBlock] at hg
    subst hg
    refine ⟨cur, e, hgg, fun j hj => ?_⟩
    have hlen : css[i].length = k := hk _ (List.getElem_mem hi)
    have hfl := flatten_at css hk i hi j hj
    rw [← htake, List.getElem?_take] at hfl
    split at hfl
    · simpa using hfl
    · cases hfl
end Go.Proofs.YtdchhfdmingnaaaDoor

/- A list of numbers that the call makes, in a box of its own, in the rounds of a range over a function: one more, and what else stands. Nothing of the program is named here. -/
namespace Go.Proofs.YtdchhfdmingnaaaDoor
open Go.RowKit
set_option linter.unusedVariables false
theorem OwnsI.grownRow {W W' : World} {B : Nat} {e : TypeId} {v : Value} {Z : List Int} {row : Option Nat} (h : OwnsI W B e v Z) (hg : W.grownBy W' row) (hr : ∀ r, row = some r → ∃ o : Obj, W.heap[r]? = some o ∧ o.isCells = false) : OwnsI W' B e v Z := by
  refine World.ownsRow.kept h hg ?_
  rcases h.2 with ⟨he, _⟩ | ⟨g, cap, cur, he, _, hgb, _⟩
  · exact .inl (by rw [he]; rfl)
  · refine .inr fun e' => ?_
    obtain ⟨o, ho, hc⟩ := hr g (by rw [← e', he]; rfl)
    rw [hgb] at ho; cases ho; cases hc
theorem Boxed.grownRow {W W' : World} {B : Nat} {t : TypeId} {v : Value} {row : Option Nat} (h : Boxed W B t v) (hg : W.grownBy W' row) (hr : ∀ r, row = some r → ∃ o : Obj, W.heap[r]? = some o ∧ o.isCells = false) : Boxed W' B t v := by
  refine h.kept hg fun e => ?_
  obtain ⟨o, ho, hc⟩ := hr B e.symm
  have h' : W.heap[B]? = _ := h
  rw [h'] at ho; cases ho; cases hc
theorem cells_grownRow {W W' : World} {B : Nat} {C : Array Value} {t : TypeId} {m : Nat × Nat} {row : Option Nat} (h : W.heap[B]? = some (.cells C t m)) (hg : W.grownBy W' row) (hr : ∀ r, row = some r → ∃ o : Obj, W.heap[r]? = some o ∧ o.isCells = false) : W'.heap[B]? = some (.cells C t m) := by
  refine (hg.block B (Array.getElem?_eq_some_iff.1 h).1 fun e => ?_).trans h
  obtain ⟨o, ho, hc⟩ := hr B e.symm
  rw [h] at ho; cases ho; cases hc
theorem KeepsOthers.of_off {X : Nat → Prop} {W W' : World} (h : Off X W W') (hX : ∀ i, X i → ∀ o, W.heap[i]? = some o → o.isCells = true) : KeepsOthers W W' :=
  ⟨h.size, fun k o hk ho => by
    by_cases hx : X k
    · rw [hX k hx o hk] at ho; cases ho
    · exact (h.block k (Array.getElem?_eq_some_iff.1 hk).1 hx).trans hk⟩
theorem OwnsI.isCells {W : World} {B : Nat} {e : TypeId} {v : Value} {Z : List Int} (h : OwnsI W B e v Z) {i : Nat} (hi : v.ownBlock = some i) {o : Obj} (ho : W.heap[i]? = some o) : o.isCells = true := by
  rcases h.2 with ⟨he, _⟩ | ⟨g, cap, cur, he, _, hgb, _⟩
  · subst he; simp [Value.ownBlock] at hi
  · subst he
    obtain rfl : g = i := by simpa [Value.ownBlock] using hi
    rw [hgb] at ho; cases ho; rfl
def PushX (B : Nat) (v : Value) (i : Nat) : Prop := i = B ∨ v.ownBlock = some i
theorem push_box {W U w1 : World} {B B0 : Nat} {t e : TypeId} {v v' : Value} {Z : List Int} {z : Int} (hbx : Boxed W B t v) (hown : OwnsI W B0 e v Z) (hBB : B < B0) (hU : Below W.heap.size W U) (ho : OwnsI w1 B0 e v' (Z ++ [z])) (hg : U.grownBy w1 v.ownBlock) :
    Boxed w1 B t v ∧ Boxed (w1.setCell ⟨B, 0, none⟩ v') B t v' ∧ OwnsI (w1.setCell ⟨B, 0, none⟩ v') B0 e v' (Z ++ [z]) ∧ KeepsOthers W (w1.setCell ⟨B, 0, none⟩ v') ∧ Off (PushX B v) W (w1.setCell ⟨B, 0, none⟩ v') := by
  have hlt : B < W.heap.size := hbx.lt
  have hoff1 : Off (PushX B v) W w1 := (Off.since hU).grown hg fun k hk => .inl (.inr hk)
  have hneq : v.ownBlock ≠ some B := fun e => by have := (hown.lt B e).1; omega
  have hbU : Boxed U B t v := (hU.block B hlt).trans hbx
  have hb1 : Boxed w1 B t v := hbU.kept hg (fun e => hneq e.symm)
  have hoff : Off (PushX B v) W (w1.setCell ⟨B, 0, none⟩ v') := hoff1.setCell (.inl (.inl rfl)) v'
  refine ⟨hb1, hb1.set v', ho.setCell _ _ hBB, KeepsOthers.of_off hoff fun i hi o hio => ?_, hoff⟩
  rcases hi with rfl | hi
  · have h' : W.heap[i]? = _ := hbx
    rw [h'] at hio; cases hio; rfl
  · exact hown.isCells hi hio
theorem wpListIn_append_num {F : Fence} {n : Nat} {P : Program} (w : World) {ops : Array Oper} {rest : List Oper} {o : Oper} {a : Act} {Q : Exit → Act → World → Prop} (hgd : o.guard = none) (s x : Operand) (t : TypeId)
    (ho : o.op = .call { callee := .builtin .append, args := #[s, x], argTypes := #[t, t] }) (e : TypeId) (ht : P.underlying t = some (.slice e))
    (hinfo : (P.info? e).map (fun i => (i.zero, i.size, i.bytes)) = some (some (.int .i64 0), 1, 8))
    (B : Nat) (v : Value) (Z : List Int) (hs : a.eval s = v) (hown : OwnsI w B e v Z) (hB : B ≤ w.heap.size)
    (C : Array Value) (c g : Nat) (z : Int) (hx : a.eval x = .slice (some ⟨g, 0, none⟩) 1 c) (hg : g = w.heap.size) (hC : C = #[.int .i64 z])
    (hlen : (Z.length + 1) * 8 ≤ 140737488355328)
    (h : ∀ va vn vc w', OwnsI w' B e (.slice va vn vc) (Z ++ [z]) → (w.alloc (.cells C e)).grownBy w' v.ownBlock → wpListIn F n P ops Q rest (a.put o.dst (.slice va vn vc)) w') : wpListIn F n P ops Q (o :: rest) a (w.alloc (.cells C e)) := by
  obtain ⟨i0, hi, hz0, hz1, hz2⟩ := info_parts hinfo
  subst hC hg
  refine wpListIn_append_own _ hgd s x t ho B e i0 (.int .i64 0) 1 8 ht hi hz0 hz1 hz2 rfl (by decide) v Z.length (Z.map numV) hs (World.ownsRow.alloc hown _) ⟨w.heap.size, 0, none⟩ 1 c [.int .i64 z] hx rfl (fun j u hu => ?_) (by intro u hu; simp at hu; subst hu; rfl) (by unfold maxLen; omega) hlen (by simp; omega) ?_
  · rw [addr_plain, Nat.zero_add, World.cell?_alloc_mark]
    simpa using hu
  · intro v' w' hown' hgrow _
    have hown2 : OwnsI w' B e v' (Z ++ [z]) := by
      show w'.ownsRow B e 1 v' (Z ++ [z]).length ((Z ++ [z]).map numV)
      rw [List.map_append, List.length_append]
      exact hown'
    obtain ⟨va, vn, vc, rfl, _⟩ := hown2.nums
    exact h va vn vc w' hown2 hgrow
end Go.Proofs.YtdchhfdmingnaaaDoor

/- A region that draws its order and calls nothing, inside a fence (in a round of a range over a function too): its plain walk serves. Nothing of the program is named here. -/
namespace Go.Proofs.YtdchhfdmingnaaaDoor
set_option linter.unusedVariables false
def calmOp (o : Oper) : Bool :=
  match o.op with
  | .move _ | .assign _ | .alloc _ | .box _ _ | .build _ _ | .buildSlice _ _ _ | .load _ _ | .store _ _ _ | .fieldAddr _ _ _ | .indexAddr _ _ _ | .slice _ _ _ _ _ | .binOp _ _ _ _ _ | .nilCheck _ | .pick _ _ _ => true
  | .call c => (match c.callee with | .builtin .append => true | .builtin .len => true | _ => false)
  | _ => false
section
variable {F : Fence} {n : Nat} {P : Program} {ops : Array Oper} {Q : Exit → Act → World → Prop} {md : Region.Mode}
theorem run_valued {s : Sem Value} {w : World} : (∃ v w', (do let x ← s; pure (Next.value x) : Sem Next).run P w = .ok (.value v) w' ∧ s.run P w = .ok v w') ∨ (∃ h w', (do let x ← s; pure (Next.value x) : Sem Next).run P w = .halt h w') := by
  rw [Sem.run_bind]
  cases h : s.run P w with
  | ok v w' => exact .inl ⟨v, w', by simp [Result.andThen, Sem.run_pure], rfl⟩
  | halt x w' => exact .inr ⟨x, w', by simp [Result.andThen]⟩
theorem run_value_or {s : Sem Next} {w : World} (h : ∀ (x : Next) w', s.run P w = .ok x w' → ∃ v, x = .value v) : (∃ v w', s.run P w = .ok (.value v) w') ∨ (∃ w', s.run P w = .ok .skip w') ∨ (∃ x w', s.run P w = .halt x w') := by
  cases e : s.run P w with
  | ok x w' => obtain ⟨v, rfl⟩ := h x w' e; exact .inl ⟨v, w', rfl⟩
  | halt x w' => exact .inr (.inr ⟨x, w', rfl⟩)
theorem bind_value {α : Type} {m : Sem α} {k : α → Sem Next} (hk : ∀ a w (x : Next) w', (k a).run P w = .ok x w' → ∃ v, x = .value v) (w : World) (x : Next) (w' : World) (h : (m >>= k).run P w = .ok x w') : ∃ v, x = .value v := by
  rw [Sem.run_bind] at h
  cases e : m.run P w with
  | ok a u => rw [e] at h; exact hk a u x w' h
  | halt y u => rw [e] at h; cases h
theorem pure_value {v : Value} (w : World) (x : Next) (w' : World) (h : (pure (Next.value v) : Sem Next).run P w = .ok x w') : ∃ v, x = .value v := by
  rw [Sem.run_pure] at h
  cases h
  exact ⟨_, rfl⟩
theorem panic_value (w : World) (x : Next) (w' : World) (h : (runtimePanic .nilDeref : Sem Next).run P w = .ok x w') : ∃ v, x = .value v := by
  unfold runtimePanic at h
  refine bind_value (fun p u y u' h => ?_) w x w' h
  exact absurd h (by simp only; intro h; cases h)
theorem calm_spec {o : Oper} (h : calmOp o = true) (ρ : Operand → Value) (w : World) :
    (∃ v w', (execOp ρ o).run P w = .ok (.value v) w') ∨ (∃ w', (execOp ρ o).run P w = .ok .skip w') ∨ (∃ x w', (execOp ρ o).run P w = .halt x w') := by
  have val : ∀ s : Sem Value, (∃ v w', (do let x ← s; pure (Next.value x) : Sem Next).run P w = .ok (.value v) w') ∨ (∃ w', (do let x ← s; pure (Next.value x) : Sem Next).run P w = .ok .skip w') ∨ (∃ x w', (do let x ← s; pure (Next.value x) : Sem Next).run P w = .halt x w') := fun s => by
    rcases run_valued (P := P) (s := s) (w := w) with ⟨v, w', h, _⟩ | ⟨x, w', h⟩
    · exact .inl ⟨v, w', h⟩
    · exact .inr (.inr ⟨x, w', h⟩)
  have uni : ∀ s : Sem Unit, (∃ v w', (do s; pure Next.skip : Sem Next).run P w = .ok (.value v) w') ∨ (∃ w', (do s; pure Next.skip : Sem Next).run P w = .ok .skip w') ∨ (∃ x w', (do s; pure Next.skip : Sem Next).run P w = .halt x w') := fun s => by
    rw [Sem.run_bind]
    cases h : s.run P w with
    | ok v w' => exact .inr (.inl ⟨w', by simp [Result.andThen, Sem.run_pure]⟩)
    | halt x w' => exact .inr (.inr ⟨x, w', by simp [Result.andThen]⟩)
  unfold calmOp at h
  unfold execOp
  cases hop : o.op <;> simp only [hop] at h ⊢ <;> first
    | exact val _
    | exact uni _
    | exact .inl ⟨_, _, Sem.run_pure _ _ _⟩
    | (cases h; done)
    | skip
  case pick c x y => exact run_value_or fun r w' e => bind_value (fun b u z u' h => pure_value _ _ _ h) _ _ _ e
  case nilCheck y =>
    refine run_value_or fun r w' e => ?_
    split at e
    · exact panic_value _ _ _ e
    · exact panic_value _ _ _ e
    · exact panic_value _ _ _ e
    · split at e
      · exact panic_value _ _ _ e
      · refine bind_value (fun p u y u' h => ?_) _ _ _ e
        refine bind_value (fun p u y u' h => ?_) _ _ _ h
        split at h
        · exact bind_value (fun p u y u' h => pure_value _ _ _ h) _ _ _ h
        · exact pure_value _ _ _ h
      · exact pure_value _ _ _ e
    · exact pure_value _ _ _ e
  case call c =>
   split at h
   · rename_i hc
     unfold resolve
     simp only [hc, Sem.run_bind, Sem.run_pure, Result.andThen_ok, invoke]
     unfold builtin
     first | exact val _ | skip
   · rename_i hc
     unfold resolve
     simp only [hc, Sem.run_bind, Sem.run_pure, Result.andThen_ok, invoke]
     unfold builtin
     first | exact val _ | skip
   · cases h
theorem calm_about {o : Oper} (h : calmOp o = true) (ρ : Operand → Value) (w : World) : o.about P w ρ = none := by
  unfold calmOp at h
  unfold Oper.about
  cases hop : o.op <;> simp only [hop] at h ⊢
  rename_i c
  unfold resolve
  split at h
  · rename_i hc
    simp only [hc, Sem.run_pure]
    rfl
  · rename_i hc
    simp only [hc, Sem.run_pure]
    rfl
  · cases h
theorem calm_plain {o : Oper} (h : calmOp o = true) : ∀ c, o.op ≠ .defer c := by
  intro c e
  unfold calmOp at h
  rw [e] at h
  cases h
theorem calm_op {o : Oper} (h : calmOp o = true) (hQ : ¬ LetsOut Q) {a : Act} {w : World} {K : Act → World → Prop} (hw : o.wp P a w K Q ∨ (o.asks P a w ∧ LetsOut Q)) : o.wpIn F n P a w K Q := by
  rcases hw with hw | hw
  · refine ⟨fun f hf => (by rw [calm_about h] at hf; exact nomatch hf), ?_⟩
    rw [Oper.semAt_plain F _ _ (calm_plain h)]
    unfold Oper.wp at hw
    rcases calm_spec (P := P) h a.eval w with ⟨v, w', e⟩ | ⟨w', e⟩ | ⟨x, w', e⟩
    · rw [e] at hw ⊢; exact hw
    · rw [e] at hw ⊢; exact hw
    · rw [e] at hw ⊢
      cases x <;> exact hw
  · exact absurd hw.2 hQ
theorem calm_any (hc : ∀ (i : Nat) (o : Oper), ops[i]? = some o → calmOp o = true) (hQ : ¬ LetsOut Q) : ∀ (fuel : Nat) (listed : Array Bool) (a : Act) (w : World), wpAny P md ops Q fuel listed a w → wpAnyIn F n P md ops Q fuel listed a w
  | 0, _, _, _, h => h
  | fuel + 1, _, _, _, h => ⟨h.1, fun i hi => by
      have h1 := h.2 i hi
      unfold wpOp at h1
      unfold wpOpIn
      cases ho : ops[i]? with
      | none => simp only [ho] at h1 ⊢; exact calm_any hc hQ fuel _ _ _ h1
      | some o =>
        simp only [ho] at h1 ⊢
        split at h1
        · rename_i hw
          rw [if_pos hw]
          exact Oper.wpIn_mono (fun a' w' h' => calm_any hc hQ fuel _ a' w' h') (calm_op (hc i o ho) hQ h1)
        · rename_i hw
          rw [if_neg hw]
          exact ⟨fun f hf => (by rw [calm_about (hc i o ho)] at hf; exact nomatch hf), calm_any hc hQ fuel _ _ _ h1⟩⟩
theorem calm_all (h : ops.all calmOp = true) : ∀ (i : Nat) (o : Oper), ops[i]? = some o → calmOp o = true := by
  intro i o ho
  obtain ⟨hi, rfl⟩ := Array.getElem?_eq_some_iff.1 ho
  exact Array.all_eq_true.1 h i hi
theorem wpIn_region_calm {id : Nat} {a : Act} {w : World} (hm : P.follows .mixedOrders = true) (hc : ops.all calmOp = true) (hQ : ¬ LetsOut Q)
    (h : wpAny P .any ops Q ops.size (Array.replicate ops.size false) a w.drew) : (Code.region id ops true).wpIn F n P Q a w :=
  wpIn_region_any hm (calm_any (calm_all hc) hQ _ _ _ _ h)
end
end Go.Proofs.YtdchhfdmingnaaaDoor

/- A region that draws its order and whose last step stores into a cell that it has read: S, which the reads rest on, need not stand behind that last step, for it waits for all of them. Nothing of the program is named here. -/
namespace Go.Proofs.YtdchhfdmingnaaaDoor
set_option linter.unusedVariables false
section
variable {P : Program} {ops : Array Oper} {Q : Exit → Act → World → Prop} {md : Region.Mode} {S : World → Prop} {z : Nat}
def wpAnyZ (P : Program) (md : Region.Mode) (ops : Array Oper) (Q : Exit → Act → World → Prop) (S : World → Prop) (z : Nat) : Nat → Array Bool → Act → World → Prop
  | 0, listed, a, w => Region.ready md ops listed = [] ∧ Q .normal a w
  | fuel + 1, listed, a, w =>
    (Region.ready md ops listed = [] → Q .normal a w) ∧
    ∀ i ∈ Region.ready md ops listed, wpOp P ops Q i (fun a' w' => (i ≠ z → S w') ∧ wpAnyZ P md ops Q S z fuel (listed.setIfInBounds i true) a' w') a w
theorem wpAny_of_Z : ∀ (fuel : Nat) (listed : Array Bool) (a : Act) (w : World), wpAnyZ P md ops Q S z fuel listed a w → wpAny P md ops Q fuel listed a w
  | 0, _, _, _, h => h
  | fuel + 1, _, _, _, h => ⟨h.1, fun i hi => wpOp_mono (fun a' w' h' => wpAny_of_Z fuel _ a' w' h'.2) (h.2 i hi)⟩
def waits (md : Region.Mode) (ops : Array Oper) (z i : Nat) : Bool := ((ops[z]?).map fun o => o.after.any fun e => Region.binds md e && e.on == i).getD false
theorem waits_spec {i : Nat} (h : waits md ops z i = true) : ∃ o, ops[z]? = some o ∧ ∃ e ∈ o.after, Region.binds md e = true ∧ e.on = i := by
  unfold waits at h
  cases ho : ops[z]? with
  | none => simp [ho] at h
  | some o =>
    simp only [ho, Option.map_some, Option.getD_some, Array.any_eq_true, Bool.and_eq_true, beq_iff_eq] at h
    obtain ⟨k, hk, h1, h2⟩ := h
    exact ⟨o, rfl, o.after[k], Array.getElem_mem hk, h1, h2⟩
theorem not_both {i : Nat} {listed : Array Bool} (hw : waits md ops z i = true) (hi : listed.getD i true = false) : z ∉ Region.ready md ops listed := by
  intro hz
  obtain ⟨o, ho, e, he, hb, rfl⟩ := waits_spec hw
  obtain ⟨_, o', ho', hall⟩ := mem_ready.1 hz
  rw [ho] at ho'
  cases ho'
  have h1 := hall e he hb
  rcases Nat.lt_or_ge e.on listed.size with h' | h'
  · simp [h'] at hi h1; rw [hi] at h1; cases h1
  · simp [Array.getElem?_eq_none h'] at h1
theorem wpAnyZ_first {i : Nat} {oi : Oper} {v : Value} (hi : ops[i]? = some oi) (hsel : ∀ (j : Nat) (o : Oper) cs b, ops[j]? = some o → o.op ≠ .select cs b)
    (hQ : ∀ c a w, Q (.panic c) (a.put oi.dst v) w → Q (.panic c) a w) (hz : waits md ops z i = true) :
    ∀ (fuel : Nat) (listed : Array Bool) (a : Act) (w : World),
      (∀ j oj, ops[j]? = some oj → j ≠ i → listed.getD j true = false → (∀ e ∈ oj.after, Region.binds md e = true → e.on ≠ i) → oi.apart ops oj = true) →
      i ∈ Region.ready md ops listed → YieldsIf P ops S oi v a → S w →
      wpAnyZ P md ops Q S z fuel (listed.setIfInBounds i true) (a.put oi.dst v) w → wpAnyZ P md ops Q S z (fuel + 1) listed a w := by
  intro fuel
  induction fuel with
  | zero =>
    intro listed a w _ hr hy hS H
    refine ⟨fun h => (by rw [h] at hr; cases hr), fun j hj => ?_⟩
    by_cases hji : j = i
    · subst hji; exact hy.wpOp hi hS ⟨fun _ => hS, H⟩
    · have := ready_mono hj hji
      rw [H.1] at this
      cases this
  | succ fuel ih =>
    intro listed a w hfree hr hy hS H
    refine ⟨fun h => (by rw [h] at hr; cases hr), fun j hj => ?_⟩
    by_cases hji : j = i
    · subst hji; exact hy.wpOp hi hS ⟨fun _ => hS, H⟩
    · have hjz : j ≠ z := fun e => not_both hz (mem_ready.1 hr).1 (e ▸ hj)
      have h1 := H.2 j (ready_mono hj hji)
      obtain ⟨hjun, oj, hoj, hall⟩ := mem_ready.1 hj
      have hnot : ∀ e ∈ oj.after, Region.binds md e = true → e.on ≠ i := fun e he hb heq => by
        have g1 := hall e he hb
        have g0 := (mem_ready.1 hr).1
        rw [heq] at g1
        rcases Nat.lt_or_ge i listed.size with h' | h'
        · simp [h'] at g0 g1; rw [g0] at g1; cases g1
        · simp [Array.getElem?_eq_none h'] at g1
      have h2 := wpOp_putIf hoj (hfree j oj hoj hji hjun hnot) (fun cs b => hsel i oi cs b hi) (fun cs b => hsel j oj cs b hoj) hQ hy h1
      have hfree' : ∀ k ok, ops[k]? = some ok → k ≠ i → (listed.setIfInBounds j true).getD k true = false →
          (∀ e ∈ ok.after, Region.binds md e = true → e.on ≠ i) → oi.apart ops ok = true := fun k ok hk hki hun hno => by
        refine hfree k ok hk hki ?_ hno
        by_cases hjk : j = k
        · subst hjk; exact hjun
        · rw [getD_set_ne true hjk] at hun; exact hun
      refine wpOp_mono (fun a' w' h3 => ⟨fun _ => h3.2.1 hjz, ih (listed.setIfInBounds j true) a' w' hfree' (ready_mono hr (Ne.symm hji)) h3.1 (h3.2.1 hjz) ?_⟩) h2
      rw [Array.setIfInBounds_comm _ _ hji]
      exact h3.2.2
theorem wpAnyZ_take {i : Nat} {oi : Oper} {v : Value} {fuel : Nat} {listed : Array Bool} {a : Act} {w : World} (hi : ops[i]? = some oi)
    (hs : Region.noSelect ops = true) (hf : Region.free md ops listed i = true) (hr : (Region.ready md ops listed).contains i = true) (hz : waits md ops z i = true)
    (hQ : ∀ c a w, Q (.panic c) (a.put oi.dst v) w → Q (.panic c) a w) (hy : YieldsIf P ops S oi v a) (hS : S w)
    (h : wpAnyZ P md ops Q S z fuel (listed.setIfInBounds i true) (a.put oi.dst v) w) : wpAnyZ P md ops Q S z (fuel + 1) listed a w :=
  wpAnyZ_first hi (Region.noSelect_spec hs) hQ hz fuel listed a w (Region.free_spec hi hf) (by simpa using hr) hy hS h
theorem wpAnyZ_one {i : Nat} {o : Oper} {fuel : Nat} {listed : Array Bool} {a : Act} {w : World} (hr : Region.ready md ops listed = [i]) (ho : ops[i]? = some o)
    (h : ∀ K' : Act → World → Prop, Shut (∀ a w, S w → (S w → wpAnyZ P md ops Q S z fuel (listed.setIfInBounds i true) a w) → K' a w) → if Region.wanted o (yielded ops a.tmps) = true then Oper.wp P o a w K' Q else K' (a.put o.dst undef) w) :
    wpAnyZ P md ops Q S z (fuel + 1) listed a w := by
  refine ⟨fun h0 => (by rw [hr] at h0; cases h0), fun j hj => ?_⟩
  rw [hr, List.mem_singleton] at hj
  subst hj
  exact wpOp_step ho (fun K' hK => h K' (fun a w hS hW => hK a w ⟨fun _ => hS, hW hS⟩))
theorem wpAnyZ_last {o : Oper} {fuel : Nat} {listed : Array Bool} {a : Act} {w : World} (hr : Region.ready md ops listed = [z]) (ho : ops[z]? = some o) (hd : Region.ready md ops (listed.setIfInBounds z true) = [])
    (h : ∀ K' : Act → World → Prop, Shut (∀ a w, Q .normal a w → K' a w) → if Region.wanted o (yielded ops a.tmps) = true then Oper.wp P o a w K' Q else K' (a.put o.dst undef) w) :
    wpAnyZ P md ops Q S z (fuel + 1) listed a w := by
  refine ⟨fun h0 => (by rw [hr] at h0; cases h0), fun j hj => ?_⟩
  rw [hr, List.mem_singleton] at hj
  subst hj
  exact wpOp_step ho (fun K' hK => h K' (fun a w hW => hK a w ⟨fun e => absurd rfl e, by
    cases fuel with
    | zero => exact ⟨hd, hW⟩
    | succ n => exact ⟨fun _ => hW, by rw [hd]; simp⟩⟩))
end
end Go.Proofs.YtdchhfdmingnaaaDoor

/- A range over a function whose iterator keeps a state of its own in memory, which it turns between two rounds: what the consumer owns (a box, and the row that lies in it) the iterator leaves alone, and the consumer leaves all else. No round leaves the loop. Nothing of the program is named here. -/
namespace Go.Proofs.YtdchhfdmingnaaaDoor
open Go.RowKit
set_option linter.unusedVariables false
def Owns (B : Nat) (t : TypeId) (W : World) (i : Nat) : Prop := i = B ∨ ∃ v, Boxed W B t v ∧ v.ownBlock = some i
def Lies (B : Nat) (t : TypeId) (W : World) : Prop := ∀ i, Owns B t W i → ∃ o : Obj, W.heap[i]? = some o ∧ o.isCells = true
theorem Lies.lt {B : Nat} {t : TypeId} {W : World} (h : Lies B t W) {i : Nat} (hi : Owns B t W i) : i < W.heap.size := by
  obtain ⟨o, ho, _⟩ := h i hi
  exact (Array.getElem?_eq_some_iff.1 ho).1
theorem Lies.not {B : Nat} {t : TypeId} {W : World} (h : Lies B t W) {i : Nat} {o : Obj} (hi : W.heap[i]? = some o) (ho : o.isCells = false) : ¬ Owns B t W i := fun hx => by
  obtain ⟨o', ho', hc⟩ := h i hx
  rw [hi] at ho'; cases ho'; rw [ho] at hc; cases hc
theorem Owns.congr {B : Nat} {t : TypeId} {W W' : World} (h : W'.heap[B]? = W.heap[B]?) (i : Nat) : Owns B t W' i ↔ Owns B t W i := by
  unfold Owns Boxed
  rw [h]
structure KeepX (B : Nat) (t : TypeId) (W W' : World) : Prop where
  size : W.heap.size ≤ W'.heap.size
  same : ∀ i, i < W.heap.size → ¬ Owns B t W i → W'.heap[i]? = W.heap[i]?
  new : ∀ i, Owns B t W' i → i < W.heap.size → Owns B t W i
theorem KeepX.refl (B : Nat) (t : TypeId) (W : World) : KeepX B t W W := ⟨Nat.le_refl _, fun _ _ _ => rfl, fun _ h _ => h⟩
theorem KeepX.trans {B : Nat} {t : TypeId} {X Y Z : World} (h : KeepX B t X Y) (k : KeepX B t Y Z) : KeepX B t X Z :=
  ⟨Nat.le_trans h.size k.size, fun i hi hn => (k.same i (Nat.lt_of_lt_of_le hi h.size) (fun hy => hn (h.new i hy hi))).trans (h.same i hi hn), fun i hz hi => h.new i (k.new i hz (Nat.lt_of_lt_of_le hi h.size)) hi⟩
def AbidesX {β : Type} (n B : Nat) (t : TypeId) (J : β → World → Prop) : Prop :=
  ∀ s W W' row, J s W → W.grownBy W' row → (∀ r, row = some r → n ≤ r ∧ ¬ Owns B t W r) → J s W'
theorem AbidesX.alloc {β : Type} {n B : Nat} {t : TypeId} {J : β → World → Prop} (h : AbidesX n B t J) {s : β} {W : World} (o : Obj) (hs : J s W) : J s (W.alloc o) :=
  h s W _ none hs (World.grownBy_alloc W o none) (fun r e => by cases e)
theorem AbidesX.putObj {β : Type} {n B : Nat} {t : TypeId} {J : β → World → Prop} (h : AbidesX n B t J) {s : β} {W : World} {l : Nat} (o' : Obj) (hs : J s W) (hl : n ≤ l) (hn : ¬ Owns B t W l) : J s (W.putObj l o') :=
  h s W _ (some l) hs (grownBy_putObj' W l o') (fun r e => by cases e; exact ⟨hl, hn⟩)
theorem AbidesX.setCell {β : Type} {n B : Nat} {t : TypeId} {J : β → World → Prop} (h : AbidesX n B t J) {s : β} {W : World} {b : Nat} (v : Value) (hs : J s W) (hl : n ≤ b) (hn : ¬ Owns B t W b) : J s (W.setCell ⟨b, 0, none⟩ v) :=
  h s W _ (some b) hs (grownBy_setCell' W b v) (fun r e => by cases e; exact ⟨hl, hn⟩)
end Go.Proofs.YtdchhfdmingnaaaDoor

/- 'append(l, z)' on a row of the call's own, and where its array then lies: where it lay, or in a new block. Nothing of the program is named here. -/
namespace Go.Proofs.YtdchhfdmingnaaaDoor
open Go.RowKit
set_option linter.unusedVariables false
theorem append_where {P : Program} {w w' : World} {B : Nat} {t ty e : TypeId} {i0 : TypeInfo} (ht : P.underlying t = some (.slice e)) (hi : P.info? e = some i0) (hz0 : i0.zero = some (.int .i64 0)) (hz1 : i0.size = 1) (hz2 : i0.bytes = 8)
    {v v' : Value} {Z : List Int} (hown : OwnsI w B e v Z) {g c : Nat} {z : Int} (hnew : w.cell? ⟨g, 0, none⟩ = some (.int .i64 z)) (hlen : (Z.length + 1) * 8 ≤ 140737488355328)
    (hrun : (Builtin.append_ #[t, t] ty #[v, .slice (some ⟨g, 0, none⟩) 1 c]).run P w = .ok v' w') : ∀ i, v'.ownBlock = some i → v.ownBlock = some i ∨ w.heap.size ≤ i := by
  have hnews : ∀ (j : Nat) (u : Value), ([.int .i64 z] : List Value)[j]? = some u → w.cell? ((⟨g, 0, none⟩ : Addr).add j) = some u := by
    intro j u hu
    obtain ⟨hj, rfl⟩ := List.getElem?_eq_some_iff.1 hu
    simp only [List.length_cons, List.length_nil] at hj
    obtain rfl : j = 0 := by omega
    simpa [Addr.add] using hnew
  have h1 : ∀ u ∈ ([.int .i64 z] : List Value), u.oneCell' = true := by intro u hu; simp at hu; subst hu; rfl
  intro i hiv
  have hown0 : w.ownsRow B e 1 v Z.length (Z.map numV) := hown
  rcases hown0.2 with ⟨rfl, h0⟩ | ⟨g0, cap, cur, rfl, hB, hh, hn, hcap, hsz, htk⟩
  · obtain ⟨v2, w2, hr, ho, _⟩ := run_append_own (P := P) w w.heap.size t ty e i0 (.int .i64 0) 1 8 ht hi hz0 hz1 hz2 rfl (by decide) (.slice none 0 0) 0 [] (World.ownsRow_nil _ _ _ 1) ⟨g, 0, none⟩ 1 c [.int .i64 z] rfl hnews h1 (by unfold maxLen; omega) (by omega) (Nat.le_refl _)
    rw [hrun] at hr
    cases hr
    exact .inr (ho.lt i hiv).1
  · by_cases hf : Z.length + 1 ≤ cap
    · obtain ⟨w2, hr, _, _⟩ := run_append_fits (P := P) w B t ty e i0 1 ht hi hz1 g0 Z.length cap (Z.map numV) hown0 ⟨g, 0, none⟩ 1 c [.int .i64 z] rfl hnews h1 hf
      rw [hrun] at hr
      cases hr
      exact .inl hiv
    · have hr := run_append_grow (P := P) (w := w) t ty e i0 (.int .i64 0) ht hi hz0 ⟨g0, 0, none⟩ Z.length cap (Z.map numV) (by rw [hz1]; simp) (fun j u hj => World.ownsRow.cells hown0 rfl j u hj) ⟨g, 0, none⟩ 1 c [.int .i64 z] (by rw [hz1]; rfl) hnews (by omega) (by omega) (by rw [hz2]; exact growslice_fits (by omega) (by omega))
      rw [hrun] at hr
      cases hr
      simp only [Value.ownBlock, Option.some.injEq] at hiv
      exact .inr (by omega)
end Go.Proofs.YtdchhfdmingnaaaDoor

/- Layer 7, plain: where blocks go forward alone, each stands ahead of those that follow it; how far blocks are away: by a list of what was met, and by rounds. Nothing of the program is named here. -/
namespace Go.Proofs.YtdchhfdmingnaaaDoor
set_option linter.unusedVariables false
section
variable {N : Nat} {nx : Nat → List Int}
def Topo (N : Nat) (nx : Nat → List Int) (L : List Int) : Prop := ∀ a p c, L = a ++ p :: c → ∀ n ∈ nx p.toNat, There N n → n ∈ c
theorem Topo.cons {b : Int} {L : List Int} (h : Topo N nx L) (hb : ∀ n ∈ nx b.toNat, There N n → n ∈ L) : Topo N nx (b :: L) := by
  intro a p c e n hn hT
  cases a with
  | nil => simp only [List.nil_append, List.cons.injEq] at e; obtain ⟨rfl, rfl⟩ := e; exact hb n hn hT
  | cons x a => simp only [List.cons_append, List.cons.injEq] at e; obtain ⟨rfl, rfl⟩ := e; exact h a p c rfl n hn hT
end
structure Far (N : Nat) (nx : Nat → List Int) (D : Nat → Int) : Prop where
  low : ∀ x, x < N → -1 ≤ D x
  zero : ∀ x, x < N → (D x = 0 ↔ x = 0)
  pred : ∀ x, x < N → 0 < D x → ∃ p, p < N ∧ D p = D x - 1 ∧ (x : Int) ∈ nx p
  next : ∀ p, p < N → 0 ≤ D p → ∀ n ∈ nx p, There N n → 0 ≤ D n.toNat ∧ D n.toNat ≤ D p + 1
theorem Far.le {N : Nat} {nx : Nat → List Int} {D E : Nat → Int} (hD : Far N nx D) (hE : Far N nx E) : ∀ (d : Nat) (x : Nat), x < N → D x = d → 0 ≤ E x ∧ E x ≤ d
  | 0, x, hx, h => by
    have h0 : x = 0 := (hD.zero x hx).1 h
    have := (hE.zero x hx).2 h0
    omega
  | d + 1, x, hx, h => by
    obtain ⟨p, hp, hpd, hm⟩ := hD.pred x hx (by omega)
    have ih := Far.le hD hE d p hp (by omega)
    have := hE.next p hp ih.1 _ hm ⟨by omega, by omega⟩
    simp only [Int.toNat_natCast] at this
    omega
end Go.Proofs.YtdchhfdmingnaaaDoor

/- Layer 7, plain: how far blocks are away: by a list of what was met, and by rounds; both tell the one row of numbers that is so. Nothing of the program is named here. -/
namespace Go.Proofs.YtdchhfdmingnaaaDoor
set_option linter.unusedVariables false
theorem nth_set {L : List Int} {i : Nat} {z : Int} (h : i < L.length) (x : Nat) : nth (L.set i z) x = if x = i then z else nth L x := by
  unfold nth
  rw [List.getD_eq_getElem?_getD, List.getD_eq_getElem?_getD, List.getElem?_set]
  by_cases e : x = i
  · subst e; rw [if_pos rfl, if_pos rfl, if_pos h]; rfl
  · rw [if_neg (fun e' => e e'.symm), if_neg e]
section
variable {N : Nat} {nx : Nat → List Int}
structure Bfs (N : Nat) (nx : Nat → List Int) (DL dn Q : List Int) : Prop where
  len : DL.length = N
  inv : Inv N (dn ++ Q)
  set : ∀ x, x < N → (0 ≤ nth DL x ↔ (x : Int) ∈ dn ++ Q)
  low : ∀ x, x < N → -1 ≤ nth DL x
  zero : ∀ x, x < N → (nth DL x = 0 ↔ x = 0)
  pred : ∀ x, x < N → 0 < nth DL x → ∃ p, p < N ∧ nth DL p = nth DL x - 1 ∧ (x : Int) ∈ nx p
  sorted : Q.Pairwise (fun a b => nth DL a.toNat ≤ nth DL b.toNat)
  bound : ∀ h Q', Q = h :: Q' → ∀ x, x < N → nth DL x ≤ nth DL h.toNat + 1
  clos : ∀ p ∈ dn, ∀ n ∈ nx p.toNat, There N n → 0 ≤ nth DL n.toNat ∧ nth DL n.toNat ≤ nth DL p.toNat + 1
theorem nat_of {N : Nat} {z : Int} (h : There N z) : ∃ k : Nat, z = k ∧ k < N := ⟨z.toNat, by have := h.1; omega, by have := h.1; have := h.2; omega⟩
theorem Bfs.start {DL : List Int} (hN : 0 < N) (hl : DL.length = N) (h : ∀ x, x < N → nth DL x = if x = 0 then 0 else -1) : Bfs N nx DL [] [0] := by
  refine ⟨hl, ⟨by simp, fun x hx => by simp at hx; subst hx; exact ⟨Int.le_refl _, by omega⟩⟩, fun x hx => ?_, fun x hx => ?_, fun x hx => ?_, fun x hx h0 => ?_, by simp, fun h' Q' e x hx => ?_, fun p hp => by simp at hp⟩
  · rw [h x hx]; split <;> simp <;> omega
  · rw [h x hx]; split <;> omega
  · rw [h x hx]; split <;> simp <;> omega
  · rw [h x hx] at h0; split at h0 <;> omega
  · simp at e; obtain ⟨rfl, rfl⟩ := e
    rw [h x hx, show (0 : Int).toNat = 0 by rfl, h 0 hN]; split <;> simp
theorem Bfs.push {DL dn Q : List Int} {h t : Int} (B : Bfs N nx DL dn (h :: Q)) (hT : There N t) (hm : t ∈ nx h.toNat) (hn : nth DL t.toNat < 0) : Bfs N nx (DL.set t.toNat (nth DL h.toNat + 1)) dn (h :: (Q ++ [t])) := by
  obtain ⟨k, rfl, hk⟩ := nat_of hT
  obtain ⟨q, hq, hqN⟩ := nat_of (B.inv.2 h (by simp))
  subst hq
  simp only [Int.toNat_natCast] at *
  have hN := B.len
  have hset : ∀ x, nth (DL.set k (nth DL q + 1)) x = if x = k then nth DL q + 1 else nth DL x := nth_set (by omega)
  have hnot : (k : Int) ∉ dn ++ (q : Int) :: Q := fun h' => by have := (B.set k hk).2 h'; omega
  have hq0 : 0 ≤ nth DL q := (B.set q hqN).2 (by simp)
  have hqk : q ≠ k := fun e => by subst e; omega
  have keep : ∀ x, x < N → 0 ≤ nth DL x → nth (DL.set k (nth DL q + 1)) x = nth DL x := fun x hx h0 => by rw [hset, if_neg (fun e => by subst e; omega)]
  have keepm : ∀ x : Int, x ∈ dn ++ (q : Int) :: Q → nth (DL.set k (nth DL q + 1)) x.toNat = nth DL x.toNat := fun x hx => by
    obtain ⟨y, rfl, hy⟩ := nat_of (B.inv.2 x hx)
    exact keep y hy ((B.set y hy).2 hx)
  have e1 : dn ++ (q : Int) :: (Q ++ [(k : Int)]) = (dn ++ (q : Int) :: Q) ++ [(k : Int)] := by simp
  refine ⟨by simpa using hN, ?_, fun x hx => ?_, fun x hx => ?_, fun x hx => ?_, fun x hx h0 => ?_, ?_, fun h' Q' e x hx => ?_, fun p hp n hn' hTn => ?_⟩
  · rw [e1]; exact B.inv.more ⟨by omega, by omega⟩ hnot
  · rw [hset, e1, List.mem_append, ← B.set x hx]
    split
    · rename_i e; subst e; simp; omega
    · rename_i e; simp; omega
  · rw [hset]; have := B.low x hx; split <;> omega
  · rw [hset]
    have := B.zero x hx
    have h0 := B.zero q hqN
    split
    · rename_i e; subst e; constructor <;> intro h' <;> omega
    · exact this
  · rw [hset] at h0 ⊢
    split
    · rename_i e
      subst e
      exact ⟨q, hqN, by rw [keep q hqN hq0]; omega, hm⟩
    · rename_i e
      rw [if_neg e] at h0
      obtain ⟨p, hp, h1, h2⟩ := B.pred x hx h0
      exact ⟨p, hp, by rw [keep p hp (by omega)]; exact h1, h2⟩
  · have hs := B.sorted
    rw [← List.cons_append, List.pairwise_append]
    refine ⟨?_, by simp, fun a ha b hb => ?_⟩
    · refine List.Pairwise.imp_of_mem (fun {a b} ha hb hab => ?_) hs
      rw [keepm a (List.mem_append_right _ ha), keepm b (List.mem_append_right _ hb)]; exact hab
    · simp at hb; subst hb
      rw [keepm a (List.mem_append_right _ ha)]
      obtain ⟨y, rfl, hy⟩ := nat_of (B.inv.2 a (List.mem_append_right _ ha))
      have := B.bound _ _ rfl y hy
      simp only [Int.toNat_natCast] at this ⊢
      rw [hset, if_pos rfl]; exact this
  · simp at e; obtain ⟨rfl, rfl⟩ := e
    have := B.bound _ _ rfl x hx
    simp only [Int.toNat_natCast] at this ⊢
    rw [keep q hqN hq0, hset]
    split <;> omega
  · obtain ⟨y, rfl, hy⟩ := nat_of hTn
    have hp' := keepm p (List.mem_append_left _ hp)
    have := B.clos p hp _ hn' hTn
    simp only [Int.toNat_natCast] at this ⊢
    rw [hp', keep y hy this.1]
    exact this
theorem Bfs.pop {DL dn Q : List Int} {h : Int} (B : Bfs N nx DL dn (h :: Q)) (hc : ∀ n ∈ nx h.toNat, There N n → 0 ≤ nth DL n.toNat) : Bfs N nx DL (dn ++ [h]) Q := by
  have e : dn ++ [h] ++ Q = dn ++ h :: Q := by simp
  refine ⟨B.len, by rw [e]; exact B.inv, by rw [e]; exact B.set, B.low, B.zero, B.pred, (List.pairwise_cons.1 B.sorted).2, fun h' Q' e x hx => ?_, fun p hp n hn hT => ?_⟩
  · subst e
    have h1 := B.bound _ _ rfl x hx
    have h2 := (List.pairwise_cons.1 B.sorted).1 h' (by simp)
    omega
  · rcases List.mem_append.1 hp with hp | hp
    · exact B.clos p hp n hn hT
    · simp at hp; subst hp
      obtain ⟨y, rfl, hy⟩ := nat_of hT
      exact ⟨hc _ hn hT, B.bound _ _ rfl _ (by simpa using hy)⟩
theorem Bfs.room {DL dn Q : List Int} {h : Int} (B : Bfs N nx DL dn (h :: Q)) : dn.length < N := by
  have := B.inv.len
  simp at this
  omega
structure Rnd (N : Nat) (nx : Nat → List Int) (DL : List Int) (r : Nat) (Hd : Nat → Int → Prop) : Prop where
  len : DL.length = N
  low : ∀ x, x < N → -1 ≤ nth DL x
  zero : ∀ x, x < N → (nth DL x = 0 ↔ x = 0)
  pred : ∀ x, x < N → 0 < nth DL x → ∃ p, p < N ∧ nth DL p = nth DL x - 1 ∧ (x : Int) ∈ nx p
  bound : ∀ x, x < N → nth DL x ≤ r + 1
  clos : ∀ p, p < N → 0 ≤ nth DL p → ∀ n ∈ nx p, There N n → (nth DL p < r ∨ nth DL p = r ∧ Hd p n) → 0 ≤ nth DL n.toNat ∧ nth DL n.toNat ≤ nth DL p + 1
theorem Rnd.start {DL : List Int} (hl : DL.length = N) (h : ∀ x, x < N → nth DL x = if x = 0 then 0 else -1) : Rnd N nx DL 0 (fun _ _ => False) := by
  refine ⟨hl, fun x hx => ?_, fun x hx => ?_, fun x hx h0 => ?_, fun x hx => ?_, fun p hp h0 n _ _ h' => ?_⟩
  · rw [h x hx]; split <;> omega
  · rw [h x hx]; split <;> simp <;> omega
  · rw [h x hx] at h0; split at h0 <;> omega
  · rw [h x hx]; split <;> simp
  · rcases h' with h' | h'
    · simp at h'; omega
    · exact h'.2.elim
theorem Rnd.put {DL : List Int} {r : Nat} {Hd : Nat → Int → Prop} (R : Rnd N nx DL r Hd) {i : Nat} {t : Int} (hi : i < N) (hT : There N t) (hm : t ∈ nx i) (hr : nth DL i = r) (hn : nth DL t.toNat < 0) : Rnd N nx (DL.set t.toNat (r + 1)) r (fun p n => Hd p n ∨ (p = i ∧ n = t)) := by
  obtain ⟨k, rfl, hk⟩ := nat_of hT
  simp only [Int.toNat_natCast] at *
  have hN := R.len
  have hset : ∀ x, nth (DL.set k ((r : Int) + 1)) x = if x = k then (r : Int) + 1 else nth DL x := nth_set (by omega)
  have keep : ∀ x, 0 ≤ nth DL x → nth (DL.set k ((r : Int) + 1)) x = nth DL x := fun x h0 => by rw [hset, if_neg (fun e => by subst e; omega)]
  refine ⟨by simpa using hN, fun x hx => ?_, fun x hx => ?_, fun x hx h0 => ?_, fun x hx => ?_, fun p hp h0 n hn' hTn h' => ?_⟩
  · rw [hset]; have := R.low x hx; split <;> omega
  · rw [hset]
    have := R.zero x hx
    split
    · rename_i e; subst e; constructor <;> intro h' <;> omega
    · exact this
  · rw [hset] at h0 ⊢
    split
    · rename_i e
      subst e
      exact ⟨i, hi, by rw [keep i (by omega)]; omega, hm⟩
    · rename_i e
      rw [if_neg e] at h0
      obtain ⟨p, hp, h1, h2⟩ := R.pred x hx h0
      exact ⟨p, hp, by rw [keep p (by omega)]; exact h1, h2⟩
  · rw [hset]; have := R.bound x hx; split <;> omega
  · obtain ⟨y, rfl, hy⟩ := nat_of hTn
    have hpk : p ≠ k := fun e => by
      subst e
      rw [hset, if_pos rfl] at h'
      rcases h' with h' | h' <;> omega
    have hp' : nth (DL.set k ((r : Int) + 1)) p = nth DL p := by rw [hset, if_neg hpk]
    rw [hp'] at h0 h' ⊢
    simp only [Int.toNat_natCast]
    rcases h' with h' | ⟨h1, h2 | ⟨rfl, h2⟩⟩
    · have := R.clos p hp h0 _ hn' hTn (.inl h')
      simp only [Int.toNat_natCast] at this
      rw [keep y this.1]; exact this
    · have := R.clos p hp h0 _ hn' hTn (.inr ⟨h1, h2⟩)
      simp only [Int.toNat_natCast] at this
      rw [keep y this.1]; exact this
    · have e : y = k := by omega
      subst e
      rw [hset, if_pos rfl]
      omega
end
end Go.Proofs.YtdchhfdmingnaaaDoor

/- A row of rows of numbers, all of the call's own, no two in one array: what it reads as, and one row grown. Nothing of the program is named here. -/
namespace Go.Proofs.YtdchhfdmingnaaaDoor
open Go.RowKit
set_option linter.unusedVariables false
structure Rows2 (W : World) (B : Nat) (s e : TypeId) (v : Value) (vs : List Value) (Zs : List (List Int)) : Prop where
  row : W.ownsRow B s 1 v vs.length vs
  len : vs.length = Zs.length
  own : ∀ i (h1 : i < vs.length) (h2 : i < Zs.length), OwnsI W B e vs[i] Zs[i]
  apart : ∀ i j (h1 : i < vs.length) (h2 : j < vs.length), i ≠ j → ∀ k, vs[i].ownBlock = some k → vs[j].ownBlock ≠ some k
theorem ownsI_blk {W : World} {B : Nat} {e : TypeId} {v : Value} {Z : List Int} (h : OwnsI W B e v Z) {i : Nat} (hi : v.ownBlock = some i) : ∃ cur, W.heap[i]? = some (.cells cur e (0, 0)) ∧ B ≤ i := by
  rcases h.2 with ⟨e, _⟩ | ⟨g, cap, cur, e, hb, hh, _⟩
  · subst e; cases hi
  · subst e; cases hi; exact ⟨cur, hh, hb⟩
theorem ownsRow_blk {W : World} {B k n : Nat} {e : TypeId} {v : Value} {xs : List Value} (h : W.ownsRow B e k v n xs) {i : Nat} (hi : v.ownBlock = some i) : ∃ cur, W.heap[i]? = some (.cells cur e (0, 0)) ∧ B ≤ i := by
  rcases h.2 with ⟨e, _⟩ | ⟨g, cap, cur, e, hb, hh, _⟩
  · subst e; cases hi
  · subst e; cases hi; exact ⟨cur, hh, hb⟩
theorem Rows2.kept {W W' : World} {B : Nat} {s e : TypeId} {v : Value} {vs : List Value} {Zs : List (List Int)} (h : Rows2 W B s e v vs Zs) {X : Nat → Prop} (hb : Off X W W') (hX : ∀ i, X i → i < B ∨ ∀ C (t : TypeId), (t = s ∨ t = e) → W.heap[i]? ≠ some (.cells C t (0, 0))) : Rows2 W' B s e v vs Zs := by
  refine ⟨?_, h.len, fun i h1 h2 => ?_, h.apart⟩
  · refine ⟨h.row.1, ?_⟩
    rcases h.row.2 with hn | ⟨g, cap, cur, rfl, hB, hg, rest⟩
    · exact .inl hn
    · refine .inr ⟨g, cap, cur, rfl, hB, ?_, rest⟩
      rw [hb.block g (Array.getElem?_eq_some_iff.1 hg).1 (fun hx => by
        rcases hX g hx with h' | h'
        · omega
        · exact h' cur s (.inl rfl) hg)]
      exact hg
  · have ho := h.own i h1 h2
    refine ⟨ho.1, ?_⟩
    rcases ho.2 with hn | ⟨g, cap, cur, he, hB, hg, rest⟩
    · exact .inl hn
    · refine .inr ⟨g, cap, cur, he, hB, ?_, rest⟩
      rw [hb.block g (Array.getElem?_eq_some_iff.1 hg).1 (fun hx => by
        rcases hX g hx with h' | h'
        · omega
        · exact h' cur e (.inr rfl) hg)]
      exact hg
theorem Rows2.since {W W' : World} {B : Nat} {s e : TypeId} {v : Value} {vs : List Value} {Zs : List (List Int)} (h : Rows2 W B s e v vs Zs) (hb : Below W.heap.size W W') : Rows2 W' B s e v vs Zs :=
  h.kept (X := fun _ => False) (Off.since hb) (fun i hi => hi.elim)
theorem Rows2.mono {W : World} {B B' : Nat} {s e : TypeId} {v : Value} {vs : List Value} {Zs : List (List Int)} (h : Rows2 W B s e v vs Zs) (hB : B' ≤ B) : Rows2 W B' s e v vs Zs := by
  refine ⟨⟨h.row.1, ?_⟩, h.len, fun i h1 h2 => (h.own i h1 h2).mono hB, h.apart⟩
  rcases h.row.2 with hn | ⟨g, cap, cur, rfl, hg, rest⟩
  · exact .inl hn
  · exact .inr ⟨g, cap, cur, rfl, Nat.le_trans hB hg, rest⟩
theorem Rows2.push {W U w1 : World} {B g n cap i : Nat} {s e : TypeId} {vs : List Value} {Zs : List (List Int)} {v' : Value} {Z' : List Int} (h : Rows2 W B s e (.slice (some ⟨g, 0, none⟩) n cap) vs Zs) (hse : s ≠ e) (hn : n = vs.length) (hi : i < vs.length)
    (hU : Below W.heap.size W U) (hg : U.grownBy w1 (vs[i]).ownBlock) (ho : OwnsI w1 B e v' Z') (hw : ∀ k, v'.ownBlock = some k → (vs[i]).ownBlock = some k ∨ W.heap.size ≤ k) :
    Rows2 (w1.setCell ⟨g, i, none⟩ v') B s e (.slice (some ⟨g, 0, none⟩) n cap) (vs.set i v') (Zs.set i Z') ∧ Below B W (w1.setCell ⟨g, i, none⟩ v') ∧ Off (fun k => (vs[i]).ownBlock = some k ∨ k = g) W (w1.setCell ⟨g, i, none⟩ v') ∧ Off (fun k => (vs[i]).ownBlock = some k) W w1 ∧ (vs[i]).ownBlock ≠ some g := by
  subst hn
  have hiZ : i < Zs.length := by rw [← h.len]; exact hi
  obtain ⟨cur, hgb, hBg⟩ := ownsRow_blk h.row (i := g) rfl
  have hgl : g < W.heap.size := (Array.getElem?_eq_some_iff.1 hgb).1
  have hne : (vs[i]).ownBlock ≠ some g := fun e' => by
    obtain ⟨c2, h2, _⟩ := ownsI_blk (h.own i hi hiZ) e'
    rw [hgb] at h2; cases h2; exact hse rfl
  have hvlt : ∀ k, (vs[i]).ownBlock = some k → k < W.heap.size ∧ B ≤ k := fun k hk => by
    obtain ⟨c2, h2, h3⟩ := ownsI_blk (h.own i hi hiZ) hk
    exact ⟨(Array.getElem?_eq_some_iff.1 h2).1, h3⟩
  have hBW : B ≤ W.heap.size := by omega
  have hoff : Off (fun k => (vs[i]).ownBlock = some k) W w1 := (Off.since hU).grown hg (fun k hk => .inl hk)
  have hrow1 : w1.ownsRow B s 1 (.slice (some ⟨g, 0, none⟩) vs.length cap) vs.length vs := by
    refine ⟨h.row.1, ?_⟩
    rcases h.row.2 with ⟨e', _⟩ | ⟨g', cap', cur', e', hB, hg', rest⟩
    · cases e'
    · cases e'
      exact .inr ⟨g, cap, cur', rfl, hB, (hoff.block g hgl hne).trans hg', rest⟩
  have hst := World.ownsRow.stored hrow1 i v'
  have hoff2 : Off (fun k => (vs[i]).ownBlock = some k ∨ k = g) W (w1.setCell ⟨g, i, none⟩ v') := (hoff.mono (fun k _ hk => .inl hk)).setCell (.inl (.inr rfl)) v'
  have hng : ∀ k, v'.ownBlock = some k → k ≠ g := fun k hk e' => by
    subst e'
    rcases hw k hk with h' | h'
    · exact hne h'
    · omega
  have keepOwn : ∀ {u : Value} {Z : List Int}, OwnsI w1 B e u Z → (∀ k, u.ownBlock = some k → k ≠ g) → OwnsI (w1.setCell ⟨g, i, none⟩ v') B e u Z := by
    intro u Z hu hk
    refine World.ownsRow.kept hu hst.2 ?_
    by_cases e' : u.ownBlock = none
    · exact .inl e'
    · exact .inr fun h' => hk g h' rfl
  refine ⟨⟨by simpa using hst.1, by simp [h.len], fun j h1 h2 => ?_, fun j k h1 h2 hjk b hb => ?_⟩, ?_⟩
  · simp only [List.getElem_set]
    by_cases hij : i = j
    · subst hij
      simp only [if_true]
      exact keepOwn ho hng
    · rw [if_neg hij, if_neg hij]
      have h1' : j < vs.length := by simpa using h1
      have h2' : j < Zs.length := by simpa using h2
      have hoj := h.own j h1' h2'
      have hoj1 : OwnsI w1 B e vs[j] Zs[j] := by
        refine ⟨hoj.1, ?_⟩
        rcases hoj.2 with hn | ⟨g', cap', cur', e', hB, hg', rest⟩
        · exact .inl hn
        · refine .inr ⟨g', cap', cur', e', hB, ?_, rest⟩
          rw [hoff.block g' (Array.getElem?_eq_some_iff.1 hg').1 (fun hx => h.apart i j hi h1' hij g' hx (by rw [e']; rfl))]
          exact hg'
      refine keepOwn hoj1 fun k hk e' => ?_
      subst e'
      obtain ⟨c2, h2, _⟩ := ownsI_blk hoj hk
      rw [hgb] at h2; cases h2; exact hse rfl
  · simp only [List.length_set] at h1 h2
    simp only [List.getElem_set] at hb ⊢
    by_cases hij : i = j
    · rw [if_pos hij] at hb
      have hik : i ≠ k := fun e' => hjk (hij ▸ e')
      rw [if_neg hik]
      rcases hw b hb with h' | h'
      · exact h.apart i k hi h2 hik b h'
      · intro e'
        obtain ⟨c2, h3, _⟩ := ownsI_blk (h.own k h2 (by rw [← h.len]; exact h2)) e'
        have := (Array.getElem?_eq_some_iff.1 h3).1
        omega
    · rw [if_neg hij] at hb
      by_cases hik : i = k
      · rw [if_pos hik]
        intro e'
        rcases hw b e' with h' | h'
        · exact h.apart i j hi h1 hij b h' hb
        · obtain ⟨c2, h3, _⟩ := ownsI_blk (h.own j h1 (by rw [← h.len]; exact h1)) hb
          have := (Array.getElem?_eq_some_iff.1 h3).1
          omega
      · rw [if_neg hik]
        exact h.apart j k h1 h2 hjk b hb
  · exact ⟨hoff2.below hBW (fun k hk => by
      rcases hk with hk | rfl
      · exact (hvlt k hk).2
      · exact hBg), hoff2, hoff, hne⟩
theorem Rows2.cell {W : World} {B g n cap i : Nat} {s e : TypeId} {vs : List Value} {Zs : List (List Int)} (h : Rows2 W B s e (.slice (some ⟨g, 0, none⟩) n cap) vs Zs) (hi : i < vs.length) : W.cell? ⟨g, i, none⟩ = some vs[i] := by
  have := World.ownsRow.cells h.row rfl i _ (List.getElem?_eq_getElem hi)
  rwa [addr_plain, Nat.zero_add] at this
theorem Rows2.free {W : World} {B g n cap i : Nat} {s e : TypeId} {vs : List Value} {Zs : List (List Int)} (h : Rows2 W B s e (.slice (some ⟨g, 0, none⟩) n cap) vs Zs) (hn : n = vs.length) : W.frozen? ⟨g, i, none⟩ = false := by
  subst hn
  exact World.ownsRow.frozenAt h.row i
theorem made_rows (n : Nat) : (madeCells #[Value.slice none 0 0] n).toList = List.replicate n (.slice none 0 0) := by
  apply List.ext_getElem
  · simp [madeCells]
  · intro i h1 h2
    simp [madeCells, Nat.mod_one]
theorem Rows2.made {w : World} {B n : Nat} {s e : TypeId} (hB : B ≤ w.heap.size) (hn : n ≤ maxLen) :
    Rows2 (w.alloc (.cells (madeCells #[Value.slice none 0 0] n) s)) B s e (.slice (some ⟨w.heap.size, 0, none⟩) n n) (List.replicate n (.slice none 0 0)) (List.replicate n []) := by
  refine ⟨?_, by simp, fun i h1 h2 => ?_, fun i j h1 h2 _ k hk => ?_⟩
  · refine ⟨by simp, .inr ⟨w.heap.size, n, _, by simp, hB, World.alloc_heap_new w _, by simp, hn, by simp [size_madeCells], by rw [made_rows]; simp⟩⟩
  · simp only [List.getElem_replicate]
    exact World.ownsRow_nil _ _ _ 1
  · simp only [List.getElem_replicate] at hk
    cases hk
end Go.Proofs.YtdchhfdmingnaaaDoor

/- An append of what is read to a row of the call's own: what was turned, and where the row then lies. -/
namespace Go.Proofs.YtdchhfdmingnaaaDoor
open Go.RowKit (wrap64 intOf Below)
set_option linter.unusedVariables false
set_option linter.unusedSimpArgs false
theorem wpList_append_numsA {P : Program} (w : World) {ops : Array Oper} {rest : List Oper} {o : Oper} {a : Act} {Q : Exit → Act → World → Prop} (hgd : o.guard = none) (s x : Operand) (t : TypeId)
    (ho : o.op = .call { callee := .builtin .append, args := #[s, x], argTypes := #[t, t] }) (e : TypeId) (ht : P.underlying t = some (.slice e))
    (hinfo : (P.info? e).map (fun i => (i.zero, i.size, i.bytes)) = some (some (.int .i64 0), 1, 8))
    (B : Nat) (v : Value) (Z : List Int) (hs : a.eval s = v) (hown : OwnsI w B e v Z) (hB : B ≤ w.heap.size)
    (xa : Option Addr) (m c : Nat) (news : List Int) (hx : a.eval x = .slice xa m c) (hnil : xa = none → c = 0) (hat : NumsAt w xa m news)
    (hlen : (Z.length + m) * 8 ≤ 140737488355328)
    (h : ∀ va vn vc w', OwnsI w' B e (.slice va vn vc) (Z ++ news) → w.grownBy w' v.ownBlock → (∀ k, (Value.slice va vn vc).ownBlock = some k → v.ownBlock = some k ∨ w.heap.size ≤ k) → wpList P ops Q rest (a.put o.dst (.slice va vn vc)) w') : wpList P ops Q (o :: rest) a w := by
  obtain ⟨i0, hi, hz0, hz1, hz2⟩ := info_parts hinfo
  have h1 := hat.1
  cases xa with
  | none =>
    have hm : m = 0 := by
      by_cases h0 : 0 < m
      · obtain ⟨g, off, he, _⟩ := hat.2 h0; cases he
      · omega
    have hc : c = 0 := hnil rfl
    subst hm hc
    have h0 : news = [] := List.eq_nil_of_length_eq_zero h1
    subst h0
    refine wpList_append_own_none hgd s x t ho B e i0 1 ht hi v Z.length (Z.map numV) hs hown hx ?_
    obtain ⟨va, vn, vc, rfl, hat⟩ := hown.nums
    exact h va vn vc w (by rw [List.append_nil]; exact hown) (World.grownBy.refl _ _) (fun k hk => .inl hk)
  | some ad =>
    subst h1
    refine wpList_append_own_at _ hgd s x t ho B e i0 (.int .i64 0) 1 8 ht hi hz0 hz1 hz2 rfl (by decide) v Z.length (Z.map numV) hs hown ad news.length c (news.map numV) hx (by simp) (fun j u hu => ?_) (fun u hu => by obtain ⟨z, _, rfl⟩ := List.mem_map.1 hu; rfl) (by unfold maxLen; omega) hlen hB ?_
    · rw [List.getElem?_map] at hu
      obtain ⟨z, hz, rfl⟩ := Option.map_eq_some_iff.1 hu
      obtain ⟨hj, rfl⟩ := List.getElem?_eq_some_iff.1 hz
      obtain ⟨ad', he, hcell⟩ := hat.at (by omega)
      cases he
      exact hcell j hj
    · intro v' w' hown' hgrow _ hwh
      have hown2 : OwnsI w' B e v' (Z ++ news) := by
        show w'.ownsRow B e 1 v' (Z ++ news).length ((Z ++ news).map numV)
        rw [List.map_append, List.length_append]
        exact hown'
      obtain ⟨va, vn, vc, rfl, hat⟩ := hown2.nums
      exact h va vn vc w' hown2 hgrow (fun k hk => by
        rcases hwh with e' | e'
        · exact .inl (e' ▸ hk)
        · rw [e'] at hk; cases hk; simp)
theorem OwnsI.besides {W W' : World} {B : Nat} {e : TypeId} {v : Value} {Z : List Int} {row : Option Nat} (h : OwnsI W B e v Z) (hg : W.grownBy W' row) (hk : ∀ k, v.ownBlock = some k → row ≠ some k) : OwnsI W' B e v Z := by
  refine ⟨h.1, ?_⟩
  rcases h.2 with hn | ⟨g, cap, cur, rfl, hB, hh, rest⟩
  · exact .inl hn
  · refine .inr ⟨g, cap, cur, rfl, hB, ?_, rest⟩
    rw [hg.block g (Array.getElem?_eq_some_iff.1 hh).1 (Ne.symm (hk g rfl))]
    exact hh
end Go.Proofs.YtdchhfdmingnaaaDoor

/- A range over a function whose iterator keeps a state of its own in memory: what the consumer owns (told by the consumer, world by world) the iterator leaves alone, and the consumer leaves all else. No round leaves the loop. Nothing of the program is named here. -/
namespace Go.Proofs.YtdchhfdmingnaaaDoor
open Go.RowKit
set_option linter.unusedVariables false
def LiesO (O : World → Nat → Prop) (W : World) : Prop := ∀ i, O W i → ∃ o : Obj, W.heap[i]? = some o ∧ o.isCells = true
theorem LiesO.lt {O : World → Nat → Prop} {W : World} (h : LiesO O W) {i : Nat} (hi : O W i) : i < W.heap.size := by
  obtain ⟨o, ho, _⟩ := h i hi
  exact (Array.getElem?_eq_some_iff.1 ho).1
theorem LiesO.not {O : World → Nat → Prop} {W : World} (h : LiesO O W) {i : Nat} {o : Obj} (hi : W.heap[i]? = some o) (ho : o.isCells = false) : ¬ O W i := fun hx => by
  obtain ⟨o', ho', hc⟩ := h i hx
  rw [hi] at ho'; cases ho'; rw [ho] at hc; cases hc
def SteadyO (O : World → Nat → Prop) : Prop := ∀ W W' row, W.grownBy W' row → LiesO O W → (∀ r, row = some r → ¬ O W r) → ∀ i, O W' i ↔ O W i
theorem LiesO.step {O : World → Nat → Prop} (hO : SteadyO O) {W W' : World} {row : Option Nat} (h : LiesO O W) (hg : W.grownBy W' row) (hr : ∀ r, row = some r → ¬ O W r) : LiesO O W' := fun i hi => by
  have h1 := (hO W W' row hg h hr i).1 hi
  obtain ⟨o, ho, hc⟩ := h i h1
  exact ⟨o, (hg.block i (h.lt h1) (fun e => hr i e.symm h1)).trans ho, hc⟩
structure KeepO (O : World → Nat → Prop) (W W' : World) : Prop where
  size : W.heap.size ≤ W'.heap.size
  same : ∀ i, i < W.heap.size → ¬ O W i → W'.heap[i]? = W.heap[i]?
  new : ∀ i, O W' i → i < W.heap.size → O W i
  flow : W'.os = W.os ∧ W'.tape = W.tape ∧ W'.output = W.output
theorem KeepO.refl (O : World → Nat → Prop) (W : World) : KeepO O W W := ⟨Nat.le_refl _, fun _ _ _ => rfl, fun _ h _ => h, rfl, rfl, rfl⟩
theorem KeepO.trans {O : World → Nat → Prop} {X Y Z : World} (h : KeepO O X Y) (k : KeepO O Y Z) : KeepO O X Z :=
  ⟨Nat.le_trans h.size k.size, fun i hi hn => (k.same i (Nat.lt_of_lt_of_le hi h.size) (fun hy => hn (h.new i hy hi))).trans (h.same i hi hn), fun i hz hi => h.new i (k.new i hz (Nat.lt_of_lt_of_le hi h.size)) hi, k.flow.1.trans h.flow.1, k.flow.2.1.trans h.flow.2.1, k.flow.2.2.trans h.flow.2.2⟩
theorem KeepO.below {O : World → Nat → Prop} {W W' : World} {B : Nat} (h : KeepO O W W') (hB : ∀ i, O W i → B ≤ i) (hs : B ≤ W.heap.size) : Below B W W' :=
  ⟨h.flow.1, h.flow.2.1, h.flow.2.2, h.size, fun k hk => h.same k (by omega) (fun e => by have := hB k e; omega)⟩
def AbidesO {β : Type} (n : Nat) (O : World → Nat → Prop) (J : β → World → Prop) : Prop :=
  ∀ s W W' row, J s W → W.grownBy W' row → (∀ r, row = some r → n ≤ r ∧ ¬ O W r) → J s W'
theorem AbidesO.alloc {β : Type} {n : Nat} {O : World → Nat → Prop} {J : β → World → Prop} (h : AbidesO n O J) {s : β} {W : World} (o : Obj) (hs : J s W) : J s (W.alloc o) :=
  h s W _ none hs (World.grownBy_alloc W o none) (fun r e => by cases e)
theorem AbidesO.putObj {β : Type} {n : Nat} {O : World → Nat → Prop} {J : β → World → Prop} (h : AbidesO n O J) {s : β} {W : World} {l : Nat} (o' : Obj) (hs : J s W) (hl : n ≤ l) (hn : ¬ O W l) : J s (W.putObj l o') :=
  h s W _ (some l) hs (grownBy_putObj' W l o') (fun r e => by cases e; exact ⟨hl, hn⟩)
theorem AbidesO.setCell {β : Type} {n : Nat} {O : World → Nat → Prop} {J : β → World → Prop} (h : AbidesO n O J) {s : β} {W : World} {b : Nat} (v : Value) (hs : J s W) (hl : n ≤ b) (hn : ¬ O W b) : J s (W.setCell ⟨b, 0, none⟩ v) :=
  h s W _ (some b) hs (grownBy_setCell' W b v) (fun r e => by cases e; exact ⟨hl, hn⟩)
def SeqO {α : Type} (F : Fence) (n d : Nat) (P : Program) (g : Nat) (lb : Array Value) (encs : α → Array Value) (O : World → Nat → Prop) (S : List α → Prop) (V : α → Prop) (N : Nat) (w : World) : Prop :=
  ∀ (l : Nat) (J : List α → World → Prop) (W : World), Below w.heap.size w W → LiesO O W → AbidesO W.heap.size O J →
    (∀ pre x W1, J pre W1 → V x → pre.length < N → YieldAt F (n - d) P l (encs x) W1 fun e W' => e = .returned (.bool true) ∧ J (pre ++ [x]) W' ∧ KeepO O W1 W' ∧ LiesO O W') →
    J [] W →
    CallsIn F n P g (#[.func (.yield l) #[] #[]] ++ lb) W fun e W' => (∃ v, e = .returned v) ∧ ∃ xs, S xs ∧ J xs W'
def postO {α : Type} (O : World → Nat → Prop) (I : List α → World → Prop) (xs : List α) (W : World) : Exit → Act → World → Prop
  | .normal, _, W' => KeepO O W W' ∧ I xs W'
  | _, _, _ => False
theorem wpIn_rangeFunc_O {F : Fence} {n d : Nat} {P : Program} {α : Type} {g : Operand} {ps : Array Tmp} {assign body : Code} {Q : Exit → Act → World → Prop} {a : Act} {w : World}
    {O : World → Nat → Prop} (hO : SteadyO O) (hro : F.round = none) (h1 : 1 ≤ n) {gf : Nat} {lb : Array Value} (hg : a.eval g = .func (.func gf) #[] lb) (hFg : F.fn gf) (eg : ∀ args w, (callFunc gf args).run P w = .ok (.enter gf args) w)
    {encs : α → Array Value} {S : List α → Prop} {V : α → Prop} {N : Nat} {w0 : World} (hseq : SeqO F (n - 1) d P gf lb encs O S V N w0) (hb0 : Below w0.heap.size w0 w) (hps : ∀ x, (encs x).size = ps.size)
    (I : List α → World → Prop) (hL : ∀ s W, I s W → LiesO O W) (hI : AbidesO w.heap.size O I) (h0 : I [] w)
    (Ax : α → Act → World → Prop) (hAx : ∀ x a' W W' row, Ax x a' W → W.grownBy W' row → (∀ r, row = some r → ∃ o : Obj, W.heap[r]? = some o ∧ o.isCells = false) → Ax x a' W')
    (hassign : ∀ (l : Nat) (pre : List α) (x : α) (W : World) (K : Act → World → Prop), I pre W → (∀ a' W', KeepO O W W' → I pre W' → Ax x a' W' → K a' W') →
      assign.wpIn (F.inRound l) (n - 1 - d) P (Exit.then K (fun _ _ _ => False)) { tmps := (ps.zip (encs x)).foldl (fun t (p, v) => t.setIfInBounds p v) a.tmps, defers := [] } W)
    (hbody : ∀ (l : Nat) (pre : List α) (x : α) (a' : Act) (W : World), w.heap.size ≤ l → (∃ r, W.heap[l]? = some (.loop r)) → I pre W → Ax x a' W → V x → pre.length < N → body.wpIn (F.inRound l) (n - 1 - d) P (postO O I (pre ++ [x]) W) a' W)
    (hdone : ∀ (D : Nat) (xs : List α) (W : World), w.heap.size ≤ D → S xs → I xs W → W.heap[D]? = some (.deferred (some [])) → Q .normal { a with defers := { target := .collected D, args := #[] } :: a.defers } W) :
    (Code.rangeFunc g ps assign body).wpIn F n P Q a w := by
  refine wpIn_rangeFunc ?_
  intro fn hfn
  rw [hro]
  obtain ⟨rc, hrc⟩ : ∃ rc : LoopState → Loop, rc = fun st => { state := st, pending := none, fn, tmps := a.tmps, params := ps, assign, body, defers := w.heap.size } := ⟨_, rfl⟩
  have e1 : ((w.alloc (.deferred (some []))).alloc (.loop (rc .ready))).heap[w.heap.size + 1]? = some (.loop (rc .ready)) := by
    have := World.alloc_heap_new (w.alloc (.deferred (some []))) (.loop (rc .ready))
    rwa [World.size_alloc] at this
  have e2 : ((w.alloc (.deferred (some []))).alloc (.loop (rc .ready))).heap[w.heap.size]? = some (.deferred (some [])) :=
    (Below.heap_alloc _ _ _ (by simp)).trans (World.alloc_heap_new w _)
  have e3 : w.heap.size + 2 = ((w.alloc (.deferred (some []))).alloc (.loop (rc .ready))).heap.size := by simp
  have e4 : Below w0.heap.size w0 ((w.alloc (.deferred (some []))).alloc (.loop (rc .ready))) :=
    hb0.trans ((((Below.refl _ w).alloc (Nat.le_refl _) _).alloc (by simp) _).mono hb0.size)
  have e5 : I [] ((w.alloc (.deferred (some []))).alloc (.loop (rc .ready))) := hI.alloc _ (hI.alloc _ h0)
  have hen := run_enterLoop_outer (P := P) (w := w) fn a.tmps ps assign body
  rw [show (Loop.mk .ready none fn a.tmps ps assign body w.heap.size) = rc .ready by rw [hrc]] at hen
  generalize (w.alloc (.deferred (some []))).alloc (.loop (rc .ready)) = W1 at hen e1 e2 e3 e4 e5
  refine ⟨w.heap.size + 1, [{ target := .collected w.heap.size, args := #[] }], W1, { target := .fn (.func gf) lb, args := #[.func (.yield (w.heap.size + 1)) #[] #[]] }, W1, gf,
    #[.func (.yield (w.heap.size + 1)) #[] #[]] ++ lb, W1, hen, ?_, ?_, ?_, fun _ => h1, ?_⟩
  · simp only [resolve, hg]
    simp [go_sem]
  · intro f' hf'; simp [Target.leads] at hf'; subst hf'; exact hFg
  · simp [invoke, go_sem, eg]
  have book : ∀ {X Y : World} {row : Option Nat} {k : Nat} {o : Obj}, k < W1.heap.size → X.heap[k]? = some o → X.grownBy Y row → (∀ r, row = some r → W1.heap.size ≤ r ∧ ¬ O X r) → Y.heap[k]? = some o := by
    intro X Y row k o hk ho hg hr
    refine (hg.block k (Array.getElem?_eq_some_iff.1 ho).1 (fun e => ?_)).trans ho
    have := (hr k e.symm).1
    omega
  refine (hseq (w.heap.size + 1) (fun pre W => I pre W ∧ W.heap[w.heap.size + 1]? = some (.loop (rc .ready)) ∧ W.heap[w.heap.size]? = some (.deferred (some []))) W1 e4 (hL _ _ e5)
    (fun s X Y row hs hg hr => ⟨hI s X Y row hs.1 hg (fun r e => ⟨by have := (hr r e).1; omega, (hr r e).2⟩), book (by omega) hs.2.1 hg hr, book (by omega) hs.2.2 hg hr⟩) ?_ ⟨e5, e1, e2⟩).mono ?_
  · rintro pre x W ⟨hi, hl, hk⟩ hvx hlen
    have hy := run_yield (P := P) (args := encs x) hl (by rw [hrc]; exact hps x)
    rw [hrc] at hy
    refine ⟨fn, _, assign, body, hy, roundIn_of_wpIn hfn (hassign _ pre x W _ hi ?_)⟩
    clear hy
    intro a' Wa hka hia hax
    have hn1 := (hL _ _ hi).not hl rfl
    have hn2 := (hL _ _ hi).not hk rfl
    have hla : Wa.heap[w.heap.size + 1]? = some (.loop (rc .ready)) := (hka.same _ (Array.getElem?_eq_some_iff.1 hl).1 hn1).trans hl
    have hka2 : Wa.heap[w.heap.size]? = some (.deferred (some [])) := (hka.same _ (Array.getElem?_eq_some_iff.1 hk).1 hn2).trans hk
    have hm1 := (hL _ _ hia).not hla rfl
    have hm2 := (hL _ _ hia).not hka2 rfl
    have hlta : w.heap.size + 1 < Wa.heap.size := (Array.getElem?_eq_some_iff.1 hla).1
    refine ⟨_, run_beginRound hla (by rw [hrc]), ?_⟩
    obtain ⟨Wb, hWb⟩ : ∃ Wb, Wa.putObj (w.heap.size + 1) (.loop { rc .ready with state := .busy }) = Wb := ⟨_, rfl⟩
    have hlb : Wb.heap[w.heap.size + 1]? = some (.loop { rc .ready with state := .busy }) := by rw [← hWb]; exact World.putObj_heap_same hlta
    have hob : ∀ k, k ≠ w.heap.size + 1 → Wb.heap[k]? = Wa.heap[k]? := fun k hk => by rw [← hWb]; exact World.putObj_heap_other hk
    have hsb : Wb.heap.size = Wa.heap.size := by rw [← hWb]; simp
    have hib : I pre Wb := by rw [← hWb]; exact hI.putObj _ hia (by omega) hm1
    have haxb : Ax x a' Wb := hAx x a' Wa Wb (some (w.heap.size + 1)) hax (by rw [← hWb]; exact grownBy_putObj' _ _ _) (fun r e => by cases e; exact ⟨_, hla, rfl⟩)
    have howb : ∀ i, O Wb i ↔ O Wa i := hO Wa Wb (some (w.heap.size + 1)) (by rw [← hWb]; exact grownBy_putObj' _ _ _) (hL _ _ hia) (fun r e => by cases e; exact hm1)
    rw [hWb]
    refine wpIn_mono (hbody _ pre x a' Wb (by omega) ⟨_, hlb⟩ hib haxb hvx hlen) ?_
    rintro e a3 W3 hp
    cases e with
    | normal =>
      obtain ⟨hk3, hi3⟩ := hp
      have hl3 : W3.heap[w.heap.size + 1]? = some (.loop { rc .ready with state := .busy }) := (hk3.same _ (by omega) (fun h => hm1 ((howb _).1 h))).trans hlb
      have hkd3 : W3.heap[w.heap.size]? = some (.deferred (some [])) := (hk3.same _ (by omega) (fun h => hm2 ((howb _).1 h))).trans ((hob _ (by omega)).trans hka2)
      have hn3 := (hL _ _ hi3).not hl3 rfl
      have hlt3 := (Array.getElem?_eq_some_iff.1 hl3).1
      have hen3 := run_endRound (P := P) none hl3
      have how3 : ∀ i, O (W3.putObj (w.heap.size + 1) (.loop (rc .ready))) i ↔ O W3 i := hO _ _ (some (w.heap.size + 1)) (grownBy_putObj' _ _ _) (hL _ _ hi3) (fun r e => by cases e; exact hn3)
      refine ⟨_, W3.putObj (w.heap.size + 1) (.loop (rc .ready)), by rw [hrc] at hen3 ⊢; exact hen3, rfl, ⟨hI.putObj _ hi3 (by omega) hn3, World.putObj_heap_same hlt3, (World.putObj_heap_other (by omega)).trans hkd3⟩, ?_, ?_⟩
      · refine hka.trans ⟨by have := hk3.size; simp; omega, fun i hi hn => ?_, fun i ho hi => ?_, by have h := hk3.flow.1; rw [← hWb] at h; exact h, by have h := hk3.flow.2.1; rw [← hWb] at h; exact h, by have h := hk3.flow.2.2; rw [← hWb] at h; exact h⟩
        · by_cases e : i = w.heap.size + 1
          · subst e; exact (World.putObj_heap_same hlt3).trans hla.symm
          · exact (World.putObj_heap_other e).trans ((hk3.same i (by omega) (fun h => hn ((howb i).1 h))).trans (hob i e))
        · exact (howb i).1 (hk3.new i ((how3 i).1 ho) (by omega))
      · intro i ho
        obtain ⟨o, h1, h2⟩ := hL _ _ hi3 i ((how3 i).1 ho)
        refine ⟨o, (World.putObj_heap_other (fun e => ?_)).trans h1, h2⟩
        subst e; rw [hl3] at h1; cases h1; cases h2
    | ret => exact hp.elim
    | exit id => exact hp.elim
    | goto t => exact hp.elim
    | panic ch => exact hp.elim
    | outgrown => exact hp.elim
  · rintro e W2 ⟨⟨v, rfl⟩, xs, hS, hi, hl, hk⟩
    have hn2 := (hL _ _ hi).not hl rfl
    have hend : (Instr.endLoop (w.heap.size + 1)).run P W2 = .ok none (W2.putObj (w.heap.size + 1) (.loop (rc .exhausted))) := by
      have := run_endLoop (P := P) hl (by rw [hrc]; simp)
      rw [hrc] at this ⊢
      exact this
    exact ⟨none, _, hend, hdone _ xs _ (Nat.le_refl _) hS (hI.putObj _ hi (by omega) hn2) ((World.putObj_heap_other (by omega)).trans hk)⟩
end Go.Proofs.YtdchhfdmingnaaaDoor

/- Layer 4, P4.1: package kind's Fields, walked: it reads the letters off its table. -/
namespace Go.Proofs.YtdchhfdmingnaaaDoor
open Go.RowKit (wrap64 intOf Below)
set_option linter.unusedVariables false
def FT (w : World) : Prop := ∀ k : Nat, k < 26 → w.cell? ⟨0, k, none⟩ = some (.string (mk (fieldsL (k : Int))))
theorem FT.lt {w : World} (h : FT w) : 0 < w.heap.size := World.block_lt_of_cell? _ _ (h 0 (by omega))
theorem FT.below {w w' : World} {B : Nat} (h : FT w) (hb : Below B w w') (hB : 0 < B) : FT w' := fun k hk => by
  rw [hb.cell (p := ⟨0, k, none⟩) hB]; exact h k hk
theorem FT.since {w w' : World} (h : FT w) (hb : Below w.heap.size w w') : FT w' := h.below hb h.lt
set_option maxRecDepth 100000 in
theorem kfields_any (K : Int) (w : World) (hft : FT w) :
    Calls Tryd.prog 71 #[.int .i64 K] w fun e w' => e = .returned (.string (mk (fieldsL K))) ∧ w = w' := by
  by_cases h0 : K < 0
  · have HF := Lib.hid (fields_none (K := K) (.inl h0))
    clear hft
    go_enter Tryd.func71, Tryd.ntmps71
    go_wp2
    go_ret
    exact ⟨by rw [HF.out]; rfl, rfl⟩
  · by_cases h1 : 25 < K
    · have HF := Lib.hid (fields_none (K := K) (.inr h1))
      have h0' : 0 ≤ K := by omega
      have h1' : 26 ≤ K := by omega
      clear hft h0
      go_enter Tryd.func71, Tryd.ntmps71
      go_wp2
      go_ret
      exact ⟨by rw [HF.out]; rfl, rfl⟩
    · obtain ⟨k, rfl⟩ := Int.eq_ofNat_of_zero_le (show 0 ≤ K by omega)
      have hk : k < 26 := by omega
      have hcell := hft k hk
      have h0' : ¬ ((k : Int) < 0) := by omega
      have h1' : ¬ (26 ≤ (k : Int)) := by omega
      clear hft h0 h1
      go_enter Tryd.func71, Tryd.ntmps71
      go_wp2
      go_ret
      exact ⟨rfl, rfl⟩
end Go.Proofs.YtdchhfdmingnaaaDoor

/- What a block of a program that is read has in its cells. -/
namespace Go.Proofs.YtdchhfdmingnaaaDoor
open Go.RowKit (wrap64 intOf Below)
set_option linter.unusedVariables false
set_option linter.unusedSimpArgs false
theorem rowV_at {α : Type} {Q : World → List Value → α → Prop} {k : Nat} {W : World} {a : Option Addr} {n c : Nat} {xs : List α} (h : RowV Q k W (.slice a n c) xs) (hn : 0 < n) :
    ∃ g off, a = some ⟨g, off, none⟩ ∧ g < W.heap.size ∧ ∀ i (h : i < xs.length), ∃ cs, cs.length = k ∧ (∀ j (hj : j < cs.length), W.cell? ⟨g, off + i * k + j, none⟩ = some cs[j]) ∧ Q W cs xs[i] := by
  obtain ⟨a', n', c', e, _, _, _, h⟩ := h
  cases e
  exact h hn
theorem OpQ.form {W : World} {cs : List Value} {y : OpD} (h : OpQ W cs y) : ∃ a n c, cs = [.int .i64 y.K, .int .i64 y.A, .int .i64 y.B, .int .i64 y.C, .int .i64 y.N, .string y.S, .slice a n c, .bool y.T] := by
  obtain ⟨l, rfl, _, _, _, _, _, _, a, n, c, rfl, _⟩ := h
  exact ⟨a, n, c, rfl⟩
theorem BlockQ.form {W : World} {cs : List Value} {y : BlockD} (h : BlockQ W cs y) :
    ∃ pa pn pc oa on oc la ln lc ma mn mc, cs = [.slice pa pn pc, .slice oa on oc, .int .i64 y.fin.K, .int .i64 y.fin.A, .int .i64 y.fin.To, .int .i64 y.fin.Else, .slice la ln lc, .slice ma mn mc] ∧ y.ops.length = on := by
  obtain ⟨pv, ov, es, rfl, ⟨pa, pn, pc, rfl, _⟩, ⟨oa, on, oc, rfl, hl, _⟩, l1, m1, rfl, r1, r2, r3, r4, ⟨la, ln', lc, rfl, _⟩, ⟨ma, mn, mc, rfl, _⟩⟩ := h
  exact ⟨_, _, _, _, _, _, _, _, _, _, _, _, rfl, hl⟩
theorem BlockQ.params {W : World} {pa oa la ma : Option Addr} {pn pc on oc ln lc mn mc : Nat} {k x t l : Int} {y : BlockD} (h : BlockQ W [.slice pa pn pc, .slice oa on oc, .int .i64 k, .int .i64 x, .int .i64 t, .int .i64 l, .slice la ln lc, .slice ma mn mc] y) : NumsAt W pa pn y.params ∧ pn ≤ 140737488355328 := by
  obtain ⟨pv, ov, es, he, ⟨_, _, _, hp0, hp1, hp2, hp3, hp4⟩, _⟩ := h
  simp only [List.cons.injEq] at he
  obtain ⟨rfl, _⟩ := he
  cases hp0
  exact ⟨hp1, by omega⟩
theorem BlockQ.ops {W : World} {pa oa la ma : Option Addr} {pn pc on oc ln lc mn mc : Nat} {k x t l : Int} {y : BlockD} (h : BlockQ W [.slice pa pn pc, .slice oa on oc, .int .i64 k, .int .i64 x, .int .i64 t, .int .i64 l, .slice la ln lc, .slice ma mn mc] y) : RowV OpQ 8 W (.slice oa on oc) y.ops := by
  obtain ⟨pv, ov, es, he, _, ho, _⟩ := h
  simp only [List.cons.injEq] at he
  obtain ⟨_, rfl, _⟩ := he
  exact ho
theorem BlockQ.fin {W : World} {pa oa la ma : Option Addr} {pn pc on oc ln lc mn mc : Nat} {k x t l : Int} {y : BlockD} (h : BlockQ W [.slice pa pn pc, .slice oa on oc, .int .i64 k, .int .i64 x, .int .i64 t, .int .i64 l, .slice la ln lc, .slice ma mn mc] y) : EndQ W [.int .i64 k, .int .i64 x, .int .i64 t, .int .i64 l, .slice la ln lc, .slice ma mn mc] y.fin := by
  obtain ⟨pv, ov, es, he, _, _, hf⟩ := h
  simp only [List.cons.injEq] at he
  obtain ⟨_, _, rfl⟩ := he
  exact hf
end Go.Proofs.YtdchhfdmingnaaaDoor

/- How many parts a program has (plain). -/
namespace Go.Proofs.YtdchhfdmingnaaaDoor
set_option linter.unusedVariables false
def sumN {α : Type} (f : α → Nat) : List α → Nat
  | [] => 0
  | x :: r => f x + sumN f r
theorem sumN_snoc {α : Type} (f : α → Nat) : ∀ (xs : List α) (x : α), sumN f (xs ++ [x]) = sumN f xs + f x
  | [], x => by simp [sumN]
  | y :: xs, x => by simp only [List.cons_append, sumN, sumN_snoc f xs x]; omega
theorem sumN_take {α : Type} (f : α → Nat) {xs : List α} {i : Nat} (h : i < xs.length) : sumN f (xs.take (i + 1)) = sumN f (xs.take i) + f xs[i] := by
  rw [List.take_succ_eq_append_getElem h, sumN_snoc]
def pSig (y : SigD) : Nat := y.params.length
def pCls (y : ClassD) : Nat := y.fields.length + y.methods.length
def pOp (o : OpD) : Nat := o.L.length + o.S.size / 8
def pBlock (b : BlockD) : Nat := b.params.length + b.ops.length + b.fin.L.length + b.fin.M.length + sumN pOp b.ops
def pFunc (f : FuncD) : Nat := f.blocks.length + sumN pBlock f.blocks
def partsP (P : ProgD) : Nat := P.sigs.length + P.classes.length + P.funcs.length + sumN pSig P.sigs + sumN pCls P.classes + sumN pFunc P.funcs
end Go.Proofs.YtdchhfdmingnaaaDoor

/- Layer 3, plain: which bytes a number is, and which number bytes begin with (P3.1), on lists of bytes; that there is one form (P3.3), and no beginning (P3.4); likewise texts and lists (P3.2). Nothing of the program is named here. -/
namespace Go.Proofs.YtdchhfdmingnaaaDoor
set_option linter.unusedVariables false
def zz (n : Int) : Nat := if n < 0 then (2 * (-1 - n) + 1).toNat else (2 * n).toNat
def unzz (z : Nat) : Int := if z % 2 = 1 then -1 - ((z / 2 : Nat) : Int) else ((z / 2 : Nat) : Int)
theorem zz_unzz (z : Nat) : zz (unzz z) = z := by
  unfold unzz zz
  split <;> split <;> omega
theorem zz_lt {n : Int} (h0 : -9223372036854775808 ≤ n) (h1 : n ≤ 9223372036854775807) : zz n < 18446744073709551616 := by
  unfold zz; split <;> omega
theorem unzz_in {z : Nat} (h : z < 18446744073709551616) : -9223372036854775808 ≤ unzz z ∧ unzz z ≤ 9223372036854775807 := by
  unfold unzz; split <;> omega
def putF : Nat → Nat → List UInt8
  | 0, z => [UInt8.ofNat z]
  | f + 1, z => if z < 128 then [UInt8.ofNat z] else UInt8.ofNat (z % 128 + 128) :: putF f (z / 128)
def putL (n : Int) : List UInt8 := putF 9 (zz n)
def takeL : List UInt8 → Nat → Nat → Int × Nat × Int
  | [], _, _ => (0, 0, 3)
  | c :: r, i, a => if (i = 9 ∧ 1 < c.toNat) ∨ (0 < i ∧ c.toNat = 0) then (0, 0, 4) else
      if c.toNat < 128 then (unzz (a + c.toNat % 128 * 128 ^ i), i + 1, 0) else takeL r (i + 1) (a + c.toNat % 128 * 128 ^ i)
theorem putF_len (f z : Nat) : (putF f z).length ≤ f + 1 := by
  induction f generalizing z with
  | zero => simp [putF]
  | succ f ih =>
    unfold putF
    split
    · simp
    · have := ih (z / 128); simp only [List.length_cons]; omega
theorem putL_len (n : Int) : (putL n).length ≤ 10 := putF_len 9 _
theorem byte_nat (n : Nat) (h : n < 256) : (UInt8.ofNat n).toNat = n := by simp; omega
theorem pow9 : (128 : Nat) ^ 9 = 9223372036854775808 := by decide
theorem pow_le {i : Nat} (h : i ≤ 9) : 128 ^ i ≤ 9223372036854775808 := by
  rw [← pow9]; exact Nat.pow_le_pow_right (by decide) h
theorem pow_step {i : Nat} (h : i ≤ 8) : 128 ^ i * 128 ≤ 9223372036854775808 := by
  rw [← Nat.pow_succ]; exact pow_le (by omega)
theorem pow_pos' (i : Nat) : 0 < 128 ^ i := Nat.pow_pos (by decide)
theorem split_num (z p : Nat) : z % 128 * p + z / 128 * (p * 128) = z * p := by
  have h : z = 128 * (z / 128) + z % 128 := by omega
  have hh : z % 128 * p + z / 128 * (p * 128) = (128 * (z / 128) + z % 128) * p := by
    rw [Nat.add_mul, Nat.mul_comm p 128, ← Nat.mul_assoc, Nat.mul_comm (z / 128) 128]; omega
  rw [← h] at hh
  exact hh
theorem take_sound : ∀ (L : List UInt8) (i a : Nat) (m : Int) (k : Nat), i ≤ 9 → a < 128 ^ i → takeL L i a = (m, k, 0) →
    i + 1 ≤ k ∧ k - i ≤ L.length ∧ k ≤ 10 ∧ ∃ z, L.take (k - i) = putF (9 - i) z ∧ m = unzz (a + z * 128 ^ i) ∧ a + z * 128 ^ i < 18446744073709551616 ∧ (0 < i → z ≠ 0)
  | [], i, a, m, k, _, _, h => by simp [takeL] at h
  | c :: r, i, a, m, k, hi, ha, h => by
    unfold takeL at h
    by_cases hbad : (i = 9 ∧ 1 < c.toNat) ∨ (0 < i ∧ c.toNat = 0)
    · rw [if_pos hbad] at h; simp at h
    · rw [if_neg hbad] at h
      have hc := c.toNat_lt
      have hp := pow_le hi
      have hpp := pow_pos' i
      by_cases hs : c.toNat < 128
      · rw [if_pos hs] at h
        simp only [Prod.mk.injEq, and_true] at h
        obtain ⟨rfl, rfl⟩ := h
        have hm : c.toNat % 128 = c.toNat := Nat.mod_eq_of_lt hs
        have hone : i + 1 - i = 1 := by omega
        refine ⟨Nat.le_refl _, by simp, by omega, c.toNat, ?_, by rw [hm], ?_, by omega⟩
        · rw [hone]
          simp only [List.take_succ_cons, List.take_zero]
          have hbk : UInt8.ofNat c.toNat = c := by simp
          cases hf : 9 - i with
          | zero => unfold putF; rw [hbk]
          | succ f => unfold putF; rw [if_pos hs, hbk]
        · by_cases h9 : i = 9
          · subst h9
            have h1 : c.toNat ≤ 1 := by omega
            have : c.toNat * 128 ^ 9 ≤ 1 * 128 ^ 9 := Nat.mul_le_mul_right _ h1
            rw [pow9] at this ha ⊢
            omega
          · have h8 := pow_step (i := i) (by omega)
            have : c.toNat * 128 ^ i ≤ 127 * 128 ^ i := Nat.mul_le_mul_right _ (by omega)
            omega
      · rw [if_neg hs] at h
        have h8 : i ≤ 8 := by omega
        have ha2 : a + c.toNat % 128 * 128 ^ i < 128 ^ (i + 1) := by
          have : c.toNat % 128 * 128 ^ i ≤ 127 * 128 ^ i := Nat.mul_le_mul_right _ (by omega)
          rw [Nat.pow_succ]
          omega
        obtain ⟨k1, k2, k3, z, e1, e2, e3, e4⟩ := take_sound r (i + 1) _ m k (by omega) ha2 h
        have hz := e4 (by omega)
        have hdm : (c.toNat % 128 + 128 * z) % 128 = c.toNat % 128 ∧ (c.toNat % 128 + 128 * z) / 128 = z := by omega
        have hsp := split_num (c.toNat % 128 + 128 * z) (128 ^ i)
        rw [hdm.1, hdm.2] at hsp
        rw [Nat.pow_succ, Nat.add_assoc, hsp] at e2 e3
        refine ⟨by omega, by simp only [List.length_cons]; omega, k3, c.toNat % 128 + 128 * z, ?_, e2, e3, by omega⟩
        obtain ⟨d, rfl⟩ : ∃ d, k = i + 1 + d := ⟨k - (i + 1), by omega⟩
        have hk1 : i + 1 + d - i = d + 1 := by omega
        have hk2 : i + 1 + d - (i + 1) = d := by omega
        have hf : 9 - i = (8 - i) + 1 := by omega
        have hf2 : 9 - (i + 1) = 8 - i := by omega
        rw [hk2, hf2] at e1
        rw [hk1, hf]
        unfold putF
        rw [if_neg (by omega), hdm.1, hdm.2, List.take_succ_cons, e1]
        congr 1
        have hcc : c.toNat % 128 + 128 = c.toNat := by omega
        rw [hcc]; simp
def Gives (L : List UInt8) (m : Int) (k : Nat) : Prop := takeL L 0 0 = (m, k, 0)
theorem Gives.put {L : List UInt8} {m : Int} {k : Nat} (h : Gives L m k) : 1 ≤ k ∧ k ≤ 10 ∧ k ≤ L.length ∧ L.take k = putL m ∧ -9223372036854775808 ≤ m ∧ m ≤ 9223372036854775807 := by
  obtain ⟨k1, k2, k3, z, e1, e2, e3, _⟩ := take_sound L 0 0 m k (by omega) (by simp) h
  simp only [Nat.sub_zero, Nat.pow_zero, Nat.mul_one, Nat.zero_add] at e1 e2 e3 k2 k1
  refine ⟨k1, k3, k2, ?_, ?_⟩
  · rw [e1, e2]; unfold putL; rw [zz_unzz]
  · rw [e2]; exact unzz_in e3
theorem Gives.same {L : List UInt8} {m m' : Int} {k k' : Nat} (h : Gives L m k) (h' : Gives L m' k') : m = m' ∧ k = k' := by
  have := h.symm.trans h'
  simp only [Prod.mk.injEq, and_true] at this
  exact this
end Go.Proofs.YtdchhfdmingnaaaDoor

/- A program (api.Prog) in memory of the call's own, to its depth: what its lists hold, and in which blocks these lie. -/
namespace Go.Proofs.YtdchhfdmingnaaaDoor
open Go.RowKit (wrap64 intOf Below)
set_option linter.unusedVariables false
def NumsO (w : World) (S : Nat → Prop) (v : Value) (Z : List Int) : Prop :=
  OwnsI w 0 3 v Z ∧ (∀ b, v.ownBlock = some b → S b) ∧ Z.length * 8 ≤ 140737488351232 ∧ ∀ z ∈ Z, InR z
def RowO {α : Type} (T k : Nat) (Q : World → (Nat → Prop) → List Value → α → Prop) (w : World) (S : Nat → Prop) (v : Value) (xs : List α) : Prop :=
  ∃ css : List (List Value), w.ownsRow 0 T k v xs.length css.flatten ∧ css.length = xs.length ∧ (∀ cs ∈ css, cs.length = k) ∧ (∀ b, v.ownBlock = some b → S b) ∧ xs.length ≤ 140737488351232 ∧
    ∀ i (h : i < xs.length) (h' : i < css.length), Q w (fun b => S b ∧ v.ownBlock ≠ some b) css[i] xs[i]
def OpO (w : World) (S : Nat → Prop) (cs : List Value) (x : OpD) : Prop :=
  ∃ l, cs = [.int .i64 x.K, .int .i64 x.A, .int .i64 x.B, .int .i64 x.C, .int .i64 x.N, .string x.S, l, .bool x.T] ∧ InR x.K ∧ InR x.A ∧ InR x.B ∧ InR x.C ∧ InR x.N ∧ x.S.size ≤ 140737488351232 ∧ NumsO w S l x.L
def EndO (w : World) (S : Nat → Prop) (cs : List Value) (x : EndD) : Prop :=
  ∃ l m, cs = [.int .i64 x.K, .int .i64 x.A, .int .i64 x.To, .int .i64 x.Else, l, m] ∧ InR x.K ∧ InR x.A ∧ InR x.To ∧ InR x.Else ∧ NumsO w S l x.L ∧ NumsO w S m x.M
def BlockO (w : World) (S : Nat → Prop) (cs : List Value) (x : BlockD) : Prop :=
  ∃ p o es, cs = p :: o :: es ∧ NumsO w S p x.params ∧ RowO 52 8 OpO w S o x.ops ∧ EndO w S es x.fin
def FuncO (w : World) (S : Nat → Prop) (cs : List Value) (x : FuncD) : Prop := ∃ b, cs = [.int .i64 x.ret, b] ∧ InR x.ret ∧ RowO 57 8 BlockO w S b x.blocks
def SigO (w : World) (S : Nat → Prop) (cs : List Value) (x : SigD) : Prop := ∃ p, cs = [p, .int .i64 x.ret] ∧ NumsO w S p x.params ∧ InR x.ret
def ClassO (w : World) (S : Nat → Prop) (cs : List Value) (x : ClassD) : Prop := ∃ f m, cs = [f, m] ∧ NumsO w S f x.fields ∧ NumsO w S m x.methods
def ProgO (w : World) (S : Nat → Prop) (cs : List Value) (x : ProgD) : Prop := ∃ s c f, cs = [s, c, f] ∧ RowO 71 2 SigO w S s x.sigs ∧ RowO 74 2 ClassO w S c x.classes ∧ RowO 30 2 FuncO w S f x.funcs
def Holds {α : Type} (Q : World → (Nat → Prop) → List Value → α → Prop) : Prop :=
  ∀ (w w' : World) (S S' : Nat → Prop) (cs : List Value) (x : α), (∀ b, b < w.heap.size → S b → w'.heap[b]? = w.heap[b]? ∧ S' b) → Q w S cs x → Q w' S' cs x
theorem ownsRow_heap {w w' : World} {base e k : Nat} {v : Value} {n : Nat} {xs : List Value} (h : w.ownsRow base e k v n xs) (hb : ∀ b, v.ownBlock = some b → b < w.heap.size → w'.heap[b]? = w.heap[b]?) : w'.ownsRow base e k v n xs := by
  refine ⟨h.1, ?_⟩
  rcases h.2 with hn | ⟨g, cap, cur, rfl, hg, hh, rest⟩
  · exact .inl hn
  · exact .inr ⟨g, cap, cur, rfl, hg, by rw [hb g rfl (Array.getElem?_eq_some_iff.1 hh).1]; exact hh, rest⟩
theorem NumsO.holds {w w' : World} {S S' : Nat → Prop} {v : Value} {Z : List Int} (hb : ∀ b, b < w.heap.size → S b → w'.heap[b]? = w.heap[b]? ∧ S' b) (h : NumsO w S v Z) : NumsO w' S' v Z := by
  obtain ⟨h1, h2, h3⟩ := h
  exact ⟨ownsRow_heap h1 (fun b hv hlt => (hb b hlt (h2 b hv)).1), fun b hv => (hb b (h1.lt b hv).2 (h2 b hv)).2, h3⟩
theorem RowO.holds {α : Type} {T k : Nat} {Q : World → (Nat → Prop) → List Value → α → Prop} (hQ : Holds Q) {w w' : World} {S S' : Nat → Prop} {v : Value} {xs : List α} (hb : ∀ b, b < w.heap.size → S b → w'.heap[b]? = w.heap[b]? ∧ S' b) (h : RowO T k Q w S v xs) : RowO T k Q w' S' v xs := by
  obtain ⟨css, h1, h2, h3, h4, h5, h6⟩ := h
  exact ⟨css, ownsRow_heap h1 (fun b hv hlt => (hb b hlt (h4 b hv)).1), h2, h3, fun b hv => (hb b (h1.lt b hv).2 (h4 b hv)).2, h5, fun i hi hi' => hQ _ _ _ _ _ _ (fun b hlt hs => ⟨(hb b hlt hs.1).1, (hb b hlt hs.1).2, hs.2⟩) (h6 i hi hi')⟩
theorem OpO.holds : Holds OpO := fun _ _ _ _ _ _ hb ⟨l, e, h1, h2, h3, h4, h5, h6, h⟩ => ⟨l, e, h1, h2, h3, h4, h5, h6, h.holds hb⟩
theorem EndO.holds : Holds EndO := fun _ _ _ _ _ _ hb ⟨l, m, e, h1, h2, h3, h4, h, h'⟩ => ⟨l, m, e, h1, h2, h3, h4, h.holds hb, h'.holds hb⟩
theorem BlockO.holds : Holds BlockO := fun _ _ _ _ _ _ hb ⟨p, o, es, e, h1, h2, h3⟩ => ⟨p, o, es, e, h1.holds hb, h2.holds OpO.holds hb, EndO.holds _ _ _ _ _ _ hb h3⟩
theorem FuncO.holds : Holds FuncO := fun _ _ _ _ _ _ hb ⟨b, e, h1, h2⟩ => ⟨b, e, h1, h2.holds BlockO.holds hb⟩
theorem SigO.holds : Holds SigO := fun _ _ _ _ _ _ hb ⟨p, e, h1, h2⟩ => ⟨p, e, h1.holds hb, h2⟩
theorem ClassO.holds : Holds ClassO := fun _ _ _ _ _ _ hb ⟨f, m, e, h1, h2⟩ => ⟨f, m, e, h1.holds hb, h2.holds hb⟩
theorem ProgO.holds : Holds ProgO := fun _ _ _ _ _ _ hb ⟨s, c, f, e, h1, h2, h3⟩ => ⟨s, c, f, e, h1.holds SigO.holds hb, h2.holds ClassO.holds hb, h3.holds FuncO.holds hb⟩
theorem Holds.off {α : Type} {Q : World → (Nat → Prop) → List Value → α → Prop} (hQ : Holds Q) {X : Nat → Prop} {w w' : World} {S : Nat → Prop} {cs : List Value} {x : α} (h : Q w S cs x) (ho : Off X w w') (hx : ∀ b, S b → ¬ X b) : Q w' S cs x :=
  hQ _ _ _ _ _ _ (fun b hlt hs => ⟨ho.block b hlt (hx b hs), hs⟩) h
theorem Holds.wider {α : Type} {Q : World → (Nat → Prop) → List Value → α → Prop} (hQ : Holds Q) {w : World} {S S' : Nat → Prop} {cs : List Value} {x : α} (h : Q w S cs x) (hs : ∀ b, b < w.heap.size → S b → S' b) : Q w S' cs x :=
  hQ _ _ _ _ _ _ (fun b hlt hh => ⟨rfl, hs b hlt hh⟩) h
theorem NumsO.off {X : Nat → Prop} {w w' : World} {S : Nat → Prop} {v : Value} {Z : List Int} (h : NumsO w S v Z) (ho : Off X w w') (hx : ∀ b, S b → ¬ X b) : NumsO w' S v Z :=
  h.holds (fun b hlt hs => ⟨ho.block b hlt (hx b hs), hs⟩)
theorem NumsO.wider {w : World} {S S' : Nat → Prop} {v : Value} {Z : List Int} (h : NumsO w S v Z) (hs : ∀ b, b < w.heap.size → S b → S' b) : NumsO w S' v Z :=
  h.holds (fun b hlt hh => ⟨rfl, hs b hlt hh⟩)
theorem RowO.off {α : Type} {T k : Nat} {Q : World → (Nat → Prop) → List Value → α → Prop} (hQ : Holds Q) {X : Nat → Prop} {w w' : World} {S : Nat → Prop} {v : Value} {xs : List α} (h : RowO T k Q w S v xs) (ho : Off X w w') (hx : ∀ b, S b → ¬ X b) : RowO T k Q w' S v xs :=
  h.holds hQ (fun b hlt hs => ⟨ho.block b hlt (hx b hs), hs⟩)
theorem RowO.wider {α : Type} {T k : Nat} {Q : World → (Nat → Prop) → List Value → α → Prop} (hQ : Holds Q) {w : World} {S S' : Nat → Prop} {v : Value} {xs : List α} (h : RowO T k Q w S v xs) (hs : ∀ b, b < w.heap.size → S b → S' b) : RowO T k Q w S' v xs :=
  h.holds hQ (fun b hlt hh => ⟨rfl, hs b hlt hh⟩)
def ReadsAs {α : Type} (Q : World → (Nat → Prop) → List Value → α → Prop) (R : World → List Value → α → Prop) : Prop := ∀ (w : World) (S : Nat → Prop) (cs : List Value) (x : α), Q w S cs x → R w cs x
theorem NumsO.reads {w : World} {S : Nat → Prop} {v : Value} {Z : List Int} (h : NumsO w S v Z) : NumsV w v Z := by
  obtain ⟨h1, h2, h3, h4⟩ := h
  obtain ⟨a, n, c, rfl, hat⟩ := h1.nums
  refine ⟨a, n, c, rfl, hat, fun ha => ?_, by rw [← hat.1]; exact h3, h4⟩
  subst ha
  rcases h1.2 with ⟨he, _⟩ | ⟨g, cap, cur, he, _⟩
  · cases he; rfl
  · cases he
theorem RowO.reads {α : Type} {T k : Nat} {Q : World → (Nat → Prop) → List Value → α → Prop} {R : World → List Value → α → Prop} (hR : ReadsAs Q R) {w : World} {S : Nat → Prop} {v : Value} {xs : List α} (h : RowO T k Q w S v xs) : RowV R k w v xs := by
  obtain ⟨css, h1, h2, h3, h4, h5, h6⟩ := h
  have hown := h1
  rcases h1.2 with ⟨rfl, h0⟩ | ⟨g, cap, cur, rfl, hB, hg, hc1, hc2, _⟩
  · exact ⟨none, 0, 0, rfl, h0, fun _ => rfl, by omega, fun h => absurd h (by omega)⟩
  · refine ⟨_, _, cap, rfl, rfl, (fun h => by cases h), by omega, fun _ => ⟨g, 0, rfl, (Array.getElem?_eq_some_iff.1 hg).1, fun i hi => ?_⟩⟩
    have hi' : i < css.length := by omega
    refine ⟨css[i], h3 _ (List.getElem_mem hi'), fun j hj => ?_, hR _ _ _ _ (h6 i hi hi')⟩
    rw [Nat.zero_add]
    exact (ownsRow_win hown h3 rfl hi').cell hj
theorem OpO.reads : ReadsAs OpO OpQ := fun _ _ _ _ ⟨l, e, h1, h2, h3, h4, h5, h6, h⟩ => ⟨l, e, h1, h2, h3, h4, h5, h6, h.reads⟩
theorem EndO.reads : ReadsAs EndO EndQ := fun _ _ _ _ ⟨l, m, e, h1, h2, h3, h4, h, h'⟩ => ⟨l, m, e, h1, h2, h3, h4, h.reads, h'.reads⟩
theorem BlockO.reads : ReadsAs BlockO BlockQ := fun _ _ _ _ ⟨p, o, es, e, h1, h2, h3⟩ => ⟨p, o, es, e, h1.reads, h2.reads OpO.reads, EndO.reads _ _ _ _ h3⟩
theorem FuncO.reads : ReadsAs FuncO FuncQ := fun _ _ _ _ ⟨b, e, h1, h2⟩ => ⟨b, e, h1, h2.reads BlockO.reads⟩
theorem SigO.reads : ReadsAs SigO SigQ := fun _ _ _ _ ⟨p, e, h1, h2⟩ => ⟨p, e, h1.reads, h2⟩
theorem ClassO.reads : ReadsAs ClassO ClassQ := fun _ _ _ _ ⟨f, m, e, h1, h2⟩ => ⟨f, m, e, h1.reads, h2.reads⟩
theorem ProgO.reads : ReadsAs ProgO ProgQ := fun _ _ _ _ ⟨s, c, f, e, h1, h2, h3⟩ => ⟨s, c, f, e, h1.reads SigO.reads, h2.reads ClassO.reads, h3.reads FuncO.reads⟩
end Go.Proofs.YtdchhfdmingnaaaDoor

/- Layer 3, P3.1: wire.Put and the document's Put, walked: they are the bytes ahead, and the number's. -/
namespace Go.Proofs.YtdchhfdmingnaaaDoor
open Go.RowKit (wrap64 intOf Below)
set_option linter.unusedVariables false
theorem info_u8 : (Tryd.prog.info? 5).map (fun i => (i.zero, i.size, i.bytes)) = some (some (.int .u8 0), 1, 1) := by kernel_rfl
def BytesPost (B : Nat) (L : List UInt8) (w : World) (e : Ending) (w' : World) : Prop :=
  ∃ va vn vc, e = .returned (.slice va vn vc) ∧ OwnsB w' B 5 (.slice va vn vc) L ∧ Below B w w'
theorem OwnsB.read {w : World} {B : Nat} {e : TypeId} {a : Option Addr} {n c : Nat} {l : List UInt8} (h : OwnsB w B e (.slice a n c) l) : BytesAt w a n c l := by
  obtain ⟨a', n', c', he, hat⟩ := h.at
  cases he
  exact hat
def goOn (y : Nat) : UInt8 := UInt8.ofNat (y % 128 + 128)
def Room (f y : Nat) : Prop := f ≤ 9 ∧ y * 128 ^ (9 - f) < 18446744073709551616
theorem Room.start {n : Int} (h0 : -9223372036854775808 ≤ n) (h1 : n ≤ 9223372036854775807) : Room 9 (zz n) := ⟨Nat.le_refl _, by have := zz_lt h0 h1; simpa using this⟩
theorem Room.more {f y : Nat} (h : Room f y) (hy : 128 ≤ y) : ∃ g, f = g + 1 ∧ putF f y = goOn y :: putF g (y / 128) ∧ Room g (y / 128) := by
  obtain ⟨h1, h2⟩ := h
  cases f with
  | zero => rw [show 9 - 0 = 9 from rfl, pow9] at h2; omega
  | succ g =>
    refine ⟨g, rfl, ?_, by omega, ?_⟩
    · conv => lhs; unfold putF
      rw [if_neg (by omega)]
      rfl
    · have := split_num y (128 ^ (9 - (g + 1)))
      have e : 9 - g = 9 - (g + 1) + 1 := by omega
      rw [e, Nat.pow_succ]
      omega
theorem Room.le {f y : Nat} (h : Room f y) : y ≤ 18446744073709551615 := by
  have h1 := h.2
  have h2 := pow_pos' (9 - f)
  have h3 : y * 1 ≤ y * 128 ^ (9 - f) := Nat.mul_le_mul_left y h2
  omega
theorem Room.last {f y : Nat} (hy : y < 128) : putF f y = [UInt8.ofNat y] := by
  cases f with
  | zero => rfl
  | succ f => unfold putF; rw [if_pos hy]
theorem goOn_rem (y : Nat) : (128 : Int) + (y : Int) % 128 = ((goOn y).toNat : Int) := by
  unfold goOn
  rw [byte_nat _ (by omega)]
  omega
set_option maxRecDepth 100000 in
theorem ref_put (a : Option Addr) (n c : Nat) (L : List UInt8) (m : Int) (w : World) (hat : BytesAt w a n c L) (hn : n + 10 ≤ 140737488355328) (h0 : -9223372036854775808 ≤ m) (h1 : m ≤ 9223372036854775807) :
    Calls Tryd.prog 64 #[.slice a n c, .int .i64 m] w (BytesPost w.heap.size (L ++ putL m) w) := by
  have HLn : L.length + 10 ≤ 140737488355328 := by rw [hat.1]; exact hn
  have HA := Lib.hid hat
  clear hat
  by_cases hneg : m < 0
  all_goals
    have hz : (if m < 0 then 2 * (-1 - m) + 1 else 2 * m) = (zz m : Int) := by unfold zz; split <;> omega
    first | rw [if_pos hneg] at hz | rw [if_neg hneg] at hz
    have HZ := Lib.hid hz
    go_enter Tryd.func64, Tryd.ntmps64
    go_wp2_with (at_builtin; refine wpList_append_read _ rfl _ _ 66 rfl 5 Tryd.underlying66 info_u8 w.heap.size _ [] rfl (OwnsB.empty w 5) (by simp) a n c L rfl (HA.out.below ((Below.refl w.heap.size w).alloc (Nat.le_refl _) _) (Nat.le_refl _)) (by simp; omega) ?_; intro va vn vc w2 hown2 hat2 hb2; have HO := Lib.hid hown2; have HB0 := Lib.hid (((Below.refl w.heap.size w).alloc (Nat.le_refl _) (.cells #[] 5)).trans hb2); clear hown2 hat2 hb2)
    go_loopw [5, 6] (fun bv zv wr => ∃ (f y : Nat) (pre : List UInt8), zv = .int .u64 (y : Int) ∧ pre.length ≤ 9 - f ∧ RowKit.Hid (Room f y) ∧ RowKit.Hid (pre ++ putF f y = putL m) ∧ RowKit.Hid (OwnsB wr w.heap.size 5 bv (L ++ pre)) ∧ RowKit.Hid (Below w.heap.size w wr)) (fun _ zv _ => (intOf zv).toNat)
    case atStart => exact ⟨9, zz m, [], rfl, Nat.zero_le _, Lib.hid (Room.start h0 h1), Lib.hid rfl, Lib.hid (by rw [List.append_nil]; exact HO.out), HB0⟩
    case round =>
      obtain ⟨f, y, pre, rfl, hpl, HR, HP, HW, HB⟩ := hrel
      have hsz := HB.out.size
      have hyle := HR.out.le
      by_cases hlt : 128 ≤ y
      · obtain ⟨g, rfl, hput, hroom⟩ := HR.out.more hlt
        have hg : g + 1 ≤ 9 := HR.out.1
        have hor := goOn_rem y
        have HQ : RowKit.Hid ((pre ++ [goOn y]) ++ putF g (y / 128) = putL m) := Lib.hid (by rw [← HP.out, hput, List.append_assoc]; rfl)
        have HM := Lib.hid hroom
        have HL : RowKit.Hid ((L ++ pre).length + 1 ≤ 140737488355328) := Lib.hid (by rw [List.length_append]; omega)
        have HC : RowKit.Hid (#[Value.int .u8 (128 + (y : Int) % 128)] = ([goOn y].map byteV).toArray) := Lib.hid (by rw [hor]; rfl)
        clear hput hroom hor
        go_wp2_with (at_builtin; refine wpList_append_bytes _ rfl _ _ 66 rfl 5 Tryd.underlying66 info_u8 w.heap.size _ (L ++ pre) rfl HW.out (by omega) _ 1 1 _ [goOn y] rfl (by simp) HC.out rfl HL.out ?_; intro v2 w2 hown2 hb2 hz2)
        have HW2 : RowKit.Hid (OwnsB w2 w.heap.size 5 v2 (L ++ (pre ++ [goOn y]))) := Lib.hid (by rw [← List.append_assoc]; exact hown2)
        have HB2 := Lib.hid (HB.out.trans hb2)
        clear hown2 hb2 hz2
        go_wp2
        go_roundw
        case rel => exact ⟨g, y / 128, pre ++ [goOn y], by go_num, by simp; omega, HM, HQ, HW2, HB2⟩
        case measure => simp [intOf]; omega
      · have hlast : putF f y = [UInt8.ofNat y] := Room.last (by omega)
        have HQ : RowKit.Hid (pre ++ [UInt8.ofNat y] = putL m) := Lib.hid (by rw [← HP.out, hlast])
        have HL : RowKit.Hid ((L ++ pre).length + 1 ≤ 140737488355328) := Lib.hid (by rw [List.length_append]; omega)
        have HC : RowKit.Hid (#[Value.int .u8 (y : Int)] = ([UInt8.ofNat y].map byteV).toArray) := Lib.hid (by simp [byteV]; omega)
        clear hlast
        go_wp2_with (at_builtin; refine wpList_append_bytes _ rfl _ _ 66 rfl 5 Tryd.underlying66 info_u8 w.heap.size _ (L ++ pre) rfl HW.out (by omega) _ 1 1 _ [UInt8.ofNat y] rfl (by simp) HC.out rfl HL.out ?_; intro v2 w2 hown2 hb2 hz2)
        rw [List.append_assoc, HQ.out] at hown2
        obtain ⟨va3, vn3, vc3, rfl, hat⟩ := hown2.at
        have HB2 := Lib.hid (HB.out.trans hb2)
        go_ret
        exact ⟨va3, vn3, vc3, rfl, hown2, HB2.out⟩
end Go.Proofs.YtdchhfdmingnaaaDoor

/- Layer 3, P3.1, P3.3, P3.4: wire.Take, walked, and what the statements WirePuts, WireTakes and WireCuts ask. -/
namespace Go.Proofs.YtdchhfdmingnaaaDoor
open Go.RowKit (wrap64 intOf Below)
set_option linter.unusedVariables false
theorem OwnsB.len {w : World} {B : Nat} {e : TypeId} {a : Option Addr} {n c : Nat} {l : List UInt8} (h : OwnsB w B e (.slice a n c) l) : l.length = n := h.read.1
end Go.Proofs.YtdchhfdmingnaaaDoor

/- Layer 3, P3.1, P3.3: what the statement WirePuts asks, walked. -/
namespace Go.Proofs.YtdchhfdmingnaaaDoor
open Go.RowKit (wrap64 intOf Below)
set_option linter.unusedVariables false
theorem keepB {w u w' : World} (h1 : Below w.heap.size w u) (h2 : Below u.heap.size u w') : Below w.heap.size w w' := h1.trans (h2.mono h1.size)
theorem BytesAt.since {w w' : World} {a : Option Addr} {n c : Nat} {L : List UInt8} (h : BytesAt w a n c L) (hb : Below w.heap.size w w') : BytesAt w' a n c L := h.below hb (Nat.le_refl _)
end Go.Proofs.YtdchhfdmingnaaaDoor

/- Layer 3, P3.2: how many there are (wire.count and the document's Count), and texts as bytes (PutText, TakeText, and the document's), walked. -/
namespace Go.Proofs.YtdchhfdmingnaaaDoor
open Go.RowKit (wrap64 intOf Below)
set_option linter.unusedVariables false
theorem wpList_append_text {P : Program} (w : World) {ops : Array Oper} {rest : List Oper} {o : Oper} {a : Act} {Q : Exit → Act → World → Prop} (hgd : o.guard = none) (sl x : Operand) (t u : TypeId)
    (ho : o.op = .call { callee := .builtin .append, args := #[sl, x], argTypes := #[t, u] }) (e : TypeId) (ht : P.underlying t = some (.slice e)) (hu : P.underlying u = some .string)
    (hinfo : (P.info? e).map (fun i => (i.zero, i.size, i.bytes)) = some (some (.int .u8 0), 1, 1))
    (B : Nat) (v : Value) (l : List UInt8) (hs : a.eval sl = v) (hown : OwnsB w B e v l) (hB : B ≤ w.heap.size) (s : ByteArray) (hx : a.eval x = .string s)
    (hlen : l.length + s.size ≤ 140737488355328)
    (h : ∀ va vn vc w', OwnsB w' B e (.slice va vn vc) (l ++ s.data.toList) → Below B w w' → wpList P ops Q rest (a.put o.dst (.slice va vn vc)) w') : wpList P ops Q (o :: rest) a w := by
  obtain ⟨i0, hi, hz0, hz1, hz2⟩ := info_parts hinfo
  refine Lib.wpList_append_own_string w hgd sl x t u ho B e i0 ht hu hi hz0 hz1 hz2 v l.length (l.map byteV) hs hown s hx (by unfold maxLen; omega) hlen hB ?_
  intro v' w' hown' hgrow _
  have hown2 : OwnsB w' B e v' (l ++ s.data.toList) := by
    show w'.ownsRow B e 1 v' (l ++ s.data.toList).length ((l ++ s.data.toList).map byteV)
    rw [List.map_append, List.length_append, list_len]
    exact hown'
  obtain ⟨va, vn, vc, rfl, _⟩ := hown2.at
  exact h va vn vc w' hown2 (Below.grown (Below.refl B w) hgrow hB (fun k hk => (hown.lt k hk).1))
def putT (s : ByteArray) : List UInt8 := putL (s.size : Int) ++ s.data.toList
theorem ref_put_text (a : Option Addr) (n c : Nat) (L : List UInt8) (s : ByteArray) (w : World) (hat : BytesAt w a n c L) (hn : n + (10 + s.size) ≤ 140737488355328) :
    Calls Tryd.prog 76 #[.slice a n c, .string s] w (BytesPost w.heap.size (L ++ putT s) w) := by
  have HA := Lib.hid hat
  have hl := hat.1
  have HL2 : RowKit.Hid ((L ++ putL (s.size : Int)).length + s.size ≤ 140737488355328) := Lib.hid (by rw [List.length_append, hl]; have := putL_len (s.size : Int); omega)
  clear hat hl
  go_enter Tryd.func76, Tryd.ntmps76
  go_wp2_with fail
  refine (ref_put _ _ _ L (s.size : Int) _ HA.out (by omega) (by omega) (by omega)).mono ?_
  rintro e w2 ⟨va2, vn2, vc2, rfl, hown2, hb2⟩
  have HB2 := Lib.hid hb2
  have HO2 := Lib.hid hown2
  clear hb2 hown2
  go_wp2_with (at_builtin; refine wpList_append_text _ rfl _ _ 66 9 rfl 5 Tryd.underlying66 Tryd.underlying9 info_u8 w.heap.size _ _ rfl HO2.out HB2.out.size s rfl HL2.out ?_; intro va3 vn3 vc3 w3 hown3 hb3)
  rw [List.append_assoc] at hown3
  go_ret
  exact ⟨va3, vn3, vc3, rfl, hown3, HB2.out.trans hb3⟩
def Counts (L : List UInt8) (most : Int) (m k : Nat) : Prop := Gives L (m : Int) k ∧ (m : Int) ≤ most
theorem Counts.in {L : List UInt8} {most : Int} {m k : Nat} (h : Counts L most m k) : 1 ≤ k ∧ k ≤ L.length ∧ m ≤ 9223372036854775807 := by
  have := h.1.put
  omega
end Go.Proofs.YtdchhfdmingnaaaDoor

/- 'append(l, x)': a struct behind the others, of the call's own. Nothing of the program is named here but the types of what is listed. -/
namespace Go.Proofs.YtdchhfdmingnaaaDoor
open Go.RowKit (wrap64 intOf Below)
set_option linter.unusedVariables false
theorem RowV.cells {α : Type} {Q : World → List Value → α → Prop} {k : Nat} {w : World} {v : Value} {xs : List α} (h : RowV Q k w v xs) :
    ∃ (a : Option Addr) (c g off : Nat), v = .slice a xs.length c ∧ (a = none → c = 0) ∧ xs.length ≤ 140737488351232 ∧ (0 < xs.length → a = some ⟨g, off, none⟩ ∧ g < w.heap.size ∧
      ∀ i (h : i < xs.length), ∃ cs : List Value, cs.length = k ∧ (∀ j (hj : j < cs.length), w.cell? ⟨g, off + i * k + j, none⟩ = some cs[j]) ∧ Q w cs xs[i]) := by
  obtain ⟨a, n, c, rfl, hl, hnil, hcap, hpos⟩ := h
  subst hl
  by_cases h0 : 0 < xs.length
  · obtain ⟨g, off, e1, e2, e3⟩ := hpos h0
    exact ⟨a, c, g, off, rfl, hnil, hcap, fun _ => ⟨e1, e2, e3⟩⟩
  · exact ⟨a, c, 0, 0, rfl, hnil, hcap, fun h => absurd h h0⟩
def From (B : Nat) : Nat → Prop := fun b => B ≤ b
theorem From.mono {B B' : Nat} (h : B ≤ B') (b : Nat) : From B' b → From B b := fun hb => Nat.le_trans h hb
theorem RowO.none {α : Type} {T k : Nat} {Q : World → (Nat → Prop) → List Value → α → Prop} (w : World) (S : Nat → Prop) : RowO T k Q w S (.slice none 0 0) ([] : List α) :=
  ⟨[], World.ownsRow_nil _ _ _ _, rfl, (fun cs h => by cases h), (fun b h => by cases h), Nat.zero_le _, fun i h _ => absurd h (by simp)⟩
theorem RowO.own {α : Type} {T k : Nat} {Q : World → (Nat → Prop) → List Value → α → Prop} {w : World} {S : Nat → Prop} {v : Value} {xs : List α} (h : RowO T k Q w S v xs) {b : Nat} (hb : v.ownBlock = some b) : S b ∧ b < w.heap.size := by
  obtain ⟨css, h1, h2, h3, h4, h5, h6⟩ := h
  exact ⟨h4 b hb, (h1.lt b hb).2⟩
end Go.Proofs.YtdchhfdmingnaaaDoor

/- A region that draws its order and whose last step waits for all others, if not for each of them at once. Nothing of the program is named here. -/
namespace Go.Proofs.YtdchhfdmingnaaaDoor
set_option linter.unusedVariables false
section
variable {P : Program} {ops : Array Oper} {Q : Exit → Act → World → Prop} {md : Region.Mode} {S : World → Prop} {z : Nat}
def reachB (md : Region.Mode) (ops : Array Oper) : Nat → Nat → Nat → Bool
  | 0, _, _ => false
  | k + 1, j, i => waits md ops j i || (List.range ops.size).any fun q => waits md ops j q && reachB md ops k q i
def Closed (md : Region.Mode) (ops : Array Oper) (listed : Array Bool) : Prop := ∀ j o, ops[j]? = some o → listed.getD j false = true → ∀ e ∈ o.after, Region.binds md e = true → listed.getD e.on false = true
def closedB (md : Region.Mode) (ops : Array Oper) (listed : Array Bool) : Bool := (List.range ops.size).all fun j => !listed.getD j false || ((ops[j]?).map fun o => o.after.all fun e => !Region.binds md e || listed.getD e.on false).getD true
theorem closed_of {listed : Array Bool} (h : closedB md ops listed = true) : Closed md ops listed := by
  intro j o ho hl e he hb
  have hj : j < ops.size := (Array.getElem?_eq_some_iff.1 ho).1
  have h1 := List.all_eq_true.1 h j (List.mem_range.2 hj)
  rw [hl, ho] at h1
  simp only [Bool.not_true, Bool.false_or, Option.map_some, Option.getD_some, Array.all_eq_true_iff_forall_mem, Bool.or_eq_true, Bool.not_eq_true'] at h1
  rcases h1 e he with h2 | h2
  · rw [hb] at h2; cases h2
  · exact h2
theorem Closed.more {listed : Array Bool} (h : Closed md ops listed) {j : Nat} (hj : j ∈ Region.ready md ops listed) : Closed md ops (listed.setIfInBounds j true) := by
  intro k o ho hl e he hb
  refine getD_set_true ?_
  by_cases hkj : k = j
  · subst hkj
    obtain ⟨_, o', ho', hall⟩ := mem_ready.1 hj
    rw [ho] at ho'; cases ho'
    exact hall e he hb
  · rw [getD_set_ne false (fun e => hkj e.symm)] at hl
    exact h k o ho hl e he hb
theorem reach_listed {listed : Array Bool} (h : Closed md ops listed) {i : Nat} : ∀ (k j : Nat), (∀ o, ops[j]? = some o → ∀ e ∈ o.after, Region.binds md e = true → listed.getD e.on false = true) → reachB md ops k j i = true → listed.getD i false = true
  | 0, _, _, hr => by cases hr
  | k + 1, j, hj, hr => by
    have hw : ∀ q, waits md ops j q = true → listed.getD q false = true := fun q hq => by
      obtain ⟨o, ho, e, he, hb, rfl⟩ := waits_spec hq
      exact hj o ho e he hb
    unfold reachB at hr
    rw [Bool.or_eq_true] at hr
    rcases hr with hr | hr
    · exact hw i hr
    · obtain ⟨q, _, hq⟩ := List.any_eq_true.1 hr
      rw [Bool.and_eq_true] at hq
      exact reach_listed h k q (fun o ho => h q o ho (hw q hq.1)) hq.2
theorem not_bothT {i k : Nat} {listed : Array Bool} (hc : Closed md ops listed) (hw : reachB md ops k z i = true) (hi : listed.getD i true = false) : z ∉ Region.ready md ops listed := by
  intro hz
  obtain ⟨_, o', ho', hall⟩ := mem_ready.1 hz
  have h1 := reach_listed hc k z (fun o ho e he hb => by rw [ho'] at ho; cases ho; exact hall e he hb) hw
  rcases Nat.lt_or_ge i listed.size with h' | h'
  · simp [h'] at hi h1; rw [hi] at h1; cases h1
  · simp [Array.getElem?_eq_none h'] at h1
end
end Go.Proofs.YtdchhfdmingnaaaDoor

/- A region that draws its order and whose last steps store into cells that it has read: S, which the reads rest on, need not stand behind the steps from z on, which wait for all reads. Nothing of the program is named here. -/
namespace Go.Proofs.YtdchhfdmingnaaaDoor
set_option linter.unusedVariables false
section
variable {P : Program} {ops : Array Oper} {Q : Exit → Act → World → Prop} {md : Region.Mode} {S : World → Prop} {z : Nat}
def wpAnyT (P : Program) (md : Region.Mode) (ops : Array Oper) (Q : Exit → Act → World → Prop) (S : World → Prop) (z : Nat) : Nat → Array Bool → Act → World → Prop
  | 0, listed, a, w => Region.ready md ops listed = [] ∧ Q .normal a w
  | fuel + 1, listed, a, w =>
    (Region.ready md ops listed = [] → Q .normal a w) ∧
    ∀ i ∈ Region.ready md ops listed, wpOp P ops Q i (fun a' w' => (i < z → S w → S w') ∧ wpAnyT P md ops Q S z fuel (listed.setIfInBounds i true) a' w') a w
theorem wpAny_of_T : ∀ (fuel : Nat) (listed : Array Bool) (a : Act) (w : World), wpAnyT P md ops Q S z fuel listed a w → wpAny P md ops Q fuel listed a w
  | 0, _, _, _, h => h
  | fuel + 1, _, _, _, h => ⟨h.1, fun i hi => wpOp_mono (fun a' w' h' => wpAny_of_T fuel _ a' w' h'.2) (h.2 i hi)⟩
def tailB (md : Region.Mode) (ops : Array Oper) (k z i : Nat) : Bool := (List.range ops.size).all fun j => decide (j < z) || reachB md ops k j i
theorem not_tail {i k : Nat} {listed : Array Bool} (hc : Closed md ops listed) (hw : tailB md ops k z i = true) (hi : listed.getD i true = false) {j : Nat} (hj : j ∈ Region.ready md ops listed) : j < z := by
  rcases Nat.lt_or_ge j z with h | h
  · exact h
  · obtain ⟨_, o', ho', _⟩ := mem_ready.1 hj
    have h1 := List.all_eq_true.1 hw j (List.mem_range.2 (Array.getElem?_eq_some_iff.1 ho').1)
    rw [Bool.or_eq_true, decide_eq_true_eq] at h1
    rcases h1 with h1 | h1
    · omega
    · exact absurd hj (not_bothT (z := j) hc h1 hi)
theorem wpAnyT_first {i kk : Nat} {oi : Oper} {v : Value} (hi : ops[i]? = some oi) (hsel : ∀ (j : Nat) (o : Oper) cs b, ops[j]? = some o → o.op ≠ .select cs b)
    (hQ : ∀ c a w, Q (.panic c) (a.put oi.dst v) w → Q (.panic c) a w) (hz : tailB md ops kk z i = true) :
    ∀ (fuel : Nat) (listed : Array Bool) (a : Act) (w : World), Closed md ops listed →
      (∀ j oj, ops[j]? = some oj → j ≠ i → listed.getD j true = false → (∀ e ∈ oj.after, Region.binds md e = true → e.on ≠ i) → oi.apart ops oj = true) →
      i ∈ Region.ready md ops listed → YieldsIf P ops S oi v a → S w →
      wpAnyT P md ops Q S z fuel (listed.setIfInBounds i true) (a.put oi.dst v) w → wpAnyT P md ops Q S z (fuel + 1) listed a w := by
  intro fuel
  induction fuel with
  | zero =>
    intro listed a w _ _ hr hy hS H
    refine ⟨fun h => (by rw [h] at hr; cases hr), fun j hj => ?_⟩
    by_cases hji : j = i
    · subst hji; exact hy.wpOp hi hS ⟨fun _ _ => hS, H⟩
    · have := ready_mono hj hji
      rw [H.1] at this
      cases this
  | succ fuel ih =>
    intro listed a w hcl hfree hr hy hS H
    refine ⟨fun h => (by rw [h] at hr; cases hr), fun j hj => ?_⟩
    by_cases hji : j = i
    · subst hji; exact hy.wpOp hi hS ⟨fun _ _ => hS, H⟩
    · have hjz : j < z := not_tail hcl hz (mem_ready.1 hr).1 hj
      have h1 := H.2 j (ready_mono hj hji)
      obtain ⟨hjun, oj, hoj, hall⟩ := mem_ready.1 hj
      have hnot : ∀ e ∈ oj.after, Region.binds md e = true → e.on ≠ i := fun e he hb heq => by
        have g1 := hall e he hb
        have g0 := (mem_ready.1 hr).1
        rw [heq] at g1
        rcases Nat.lt_or_ge i listed.size with h' | h'
        · simp [h'] at g0 g1; rw [g0] at g1; cases g1
        · simp [Array.getElem?_eq_none h'] at g1
      have h2 := wpOp_putIf hoj (hfree j oj hoj hji hjun hnot) (fun cs b => hsel i oi cs b hi) (fun cs b => hsel j oj cs b hoj) hQ hy h1
      have hfree' : ∀ k ok, ops[k]? = some ok → k ≠ i → (listed.setIfInBounds j true).getD k true = false →
          (∀ e ∈ ok.after, Region.binds md e = true → e.on ≠ i) → oi.apart ops ok = true := fun k ok hk hki hun hno => by
        refine hfree k ok hk hki ?_ hno
        by_cases hjk : j = k
        · subst hjk; exact hjun
        · rw [getD_set_ne true hjk] at hun; exact hun
      refine wpOp_mono (fun a' w' h3 => ⟨fun _ => h3.2.1 hjz, ih (listed.setIfInBounds j true) a' w' (hcl.more hj) hfree' (ready_mono hr (Ne.symm hji)) h3.1 (h3.2.1 hjz hS) ?_⟩) h2
      rw [Array.setIfInBounds_comm _ _ hji]
      exact h3.2.2
theorem wpAnyT_take {i : Nat} {oi : Oper} {v : Value} {fuel : Nat} {listed : Array Bool} {a : Act} {w : World} (kk : Nat) (hi : ops[i]? = some oi)
    (hs : Region.noSelect ops = true) (hf : Region.free md ops listed i = true) (hr : (Region.ready md ops listed).contains i = true) (hz : tailB md ops kk z i = true) (hc : closedB md ops listed = true)
    (hQ : ∀ c a w, Q (.panic c) (a.put oi.dst v) w → Q (.panic c) a w) (hy : YieldsIf P ops S oi v a) (hS : S w)
    (h : wpAnyT P md ops Q S z fuel (listed.setIfInBounds i true) (a.put oi.dst v) w) : wpAnyT P md ops Q S z (fuel + 1) listed a w :=
  wpAnyT_first hi (Region.noSelect_spec hs) hQ hz fuel listed a w (closed_of hc) (Region.free_spec hi hf) (by simpa using hr) hy hS h
theorem wpAnyT_firstW {i : Nat} {oi : Oper} {v : Value} (hi : ops[i]? = some oi) (hsel : ∀ (j : Nat) (o : Oper) cs b, ops[j]? = some o → o.op ≠ .select cs b)
    (hQ : ∀ c a w, Q (.panic c) (a.put oi.dst v) w → Q (.panic c) a w) :
    ∀ (fuel : Nat) (listed : Array Bool) (a : Act) (w : World),
      (∀ j oj, ops[j]? = some oj → j ≠ i → listed.getD j true = false → (∀ e ∈ oj.after, Region.binds md e = true → e.on ≠ i) → oi.apart ops oj = true) →
      i ∈ Region.ready md ops listed → YieldsIf P ops (fun _ => True) oi v a →
      wpAnyT P md ops Q S z fuel (listed.setIfInBounds i true) (a.put oi.dst v) w → wpAnyT P md ops Q S z (fuel + 1) listed a w := by
  intro fuel
  induction fuel with
  | zero =>
    intro listed a w _ hr hy H
    refine ⟨fun h => (by rw [h] at hr; cases hr), fun j hj => ?_⟩
    by_cases hji : j = i
    · subst hji; exact hy.wpOp hi trivial ⟨fun _ hS => hS, H⟩
    · have := ready_mono hj hji
      rw [H.1] at this
      cases this
  | succ fuel ih =>
    intro listed a w hfree hr hy H
    refine ⟨fun h => (by rw [h] at hr; cases hr), fun j hj => ?_⟩
    by_cases hji : j = i
    · subst hji; exact hy.wpOp hi trivial ⟨fun _ hS => hS, H⟩
    · have h1 := H.2 j (ready_mono hj hji)
      obtain ⟨hjun, oj, hoj, hall⟩ := mem_ready.1 hj
      have hnot : ∀ e ∈ oj.after, Region.binds md e = true → e.on ≠ i := fun e he hb heq => by
        have g1 := hall e he hb
        have g0 := (mem_ready.1 hr).1
        rw [heq] at g1
        rcases Nat.lt_or_ge i listed.size with h' | h'
        · simp [h'] at g0 g1; rw [g0] at g1; cases g1
        · simp [Array.getElem?_eq_none h'] at g1
      have h2 := wpOp_putIf hoj (hfree j oj hoj hji hjun hnot) (fun cs b => hsel i oi cs b hi) (fun cs b => hsel j oj cs b hoj) hQ hy h1
      have hfree' : ∀ k ok, ops[k]? = some ok → k ≠ i → (listed.setIfInBounds j true).getD k true = false →
          (∀ e ∈ ok.after, Region.binds md e = true → e.on ≠ i) → oi.apart ops ok = true := fun k ok hk hki hun hno => by
        refine hfree k ok hk hki ?_ hno
        by_cases hjk : j = k
        · subst hjk; exact hjun
        · rw [getD_set_ne true hjk] at hun; exact hun
      refine wpOp_mono (fun a' w' h3 => ⟨fun hjz => h3.2.1 hjz, ih (listed.setIfInBounds j true) a' w' hfree' (ready_mono hr (Ne.symm hji)) h3.1 ?_⟩) h2
      rw [Array.setIfInBounds_comm _ _ hji]
      exact h3.2.2
theorem wpAnyT_takeW {i : Nat} {oi : Oper} {v : Value} {fuel : Nat} {listed : Array Bool} {a : Act} {w : World} (hi : ops[i]? = some oi)
    (hs : Region.noSelect ops = true) (hf : Region.free md ops listed i = true) (hr : (Region.ready md ops listed).contains i = true)
    (hQ : ∀ c a w, Q (.panic c) (a.put oi.dst v) w → Q (.panic c) a w) (hy : YieldsIf P ops (fun _ => True) oi v a)
    (h : wpAnyT P md ops Q S z fuel (listed.setIfInBounds i true) (a.put oi.dst v) w) : wpAnyT P md ops Q S z (fuel + 1) listed a w :=
  wpAnyT_firstW hi (Region.noSelect_spec hs) hQ fuel listed a w (Region.free_spec hi hf) (by simpa using hr) hy h
theorem wpAnyT_one {i : Nat} {o : Oper} {fuel : Nat} {listed : Array Bool} {a : Act} {w : World} (hr : Region.ready md ops listed = [i]) (ho : ops[i]? = some o)
    (h : ∀ K' : Act → World → Prop, Shut (∀ a w, S w → (S w → wpAnyT P md ops Q S z fuel (listed.setIfInBounds i true) a w) → K' a w) → if Region.wanted o (yielded ops a.tmps) = true then Oper.wp P o a w K' Q else K' (a.put o.dst undef) w) :
    wpAnyT P md ops Q S z (fuel + 1) listed a w := by
  refine ⟨fun h0 => (by rw [hr] at h0; cases h0), fun j hj => ?_⟩
  rw [hr, List.mem_singleton] at hj
  subst hj
  exact wpOp_step ho (fun K' hK => h K' (fun a w hS hW => hK a w ⟨fun _ _ => hS, hW hS⟩))
theorem wpAnyT_two {i j : Nat} {o p : Oper} {fuel : Nat} {listed : Array Bool} {a : Act} {w : World} (hr : Region.ready md ops listed = [i, j]) (ho : ops[i]? = some o) (hp : ops[j]? = some p)
    (h : ∀ K' : Act → World → Prop, Shut (∀ a w, S w → (S w → wpAnyT P md ops Q S z fuel (listed.setIfInBounds i true) a w) → K' a w) → if Region.wanted o (yielded ops a.tmps) = true then Oper.wp P o a w K' Q else K' (a.put o.dst undef) w)
    (h' : ∀ K' : Act → World → Prop, Shut (∀ a w, S w → (S w → wpAnyT P md ops Q S z fuel (listed.setIfInBounds j true) a w) → K' a w) → if Region.wanted p (yielded ops a.tmps) = true then Oper.wp P p a w K' Q else K' (a.put p.dst undef) w) :
    wpAnyT P md ops Q S z (fuel + 1) listed a w := by
  refine ⟨fun h0 => (by rw [hr] at h0; cases h0), fun k hk => ?_⟩
  rw [hr] at hk
  simp only [List.mem_cons, List.not_mem_nil, or_false] at hk
  rcases hk with rfl | rfl
  · exact wpOp_step ho (fun K' hK => h K' (fun a w hS hW => hK a w ⟨fun _ _ => hS, hW hS⟩))
  · exact wpOp_step hp (fun K' hK => h' K' (fun a w hS hW => hK a w ⟨fun _ _ => hS, hW hS⟩))
theorem wpAnyT_end {i : Nat} {o : Oper} {fuel : Nat} {listed : Array Bool} {a : Act} {w : World} (hr : Region.ready md ops listed = [i]) (hz : decide (i < z) = false) (ho : ops[i]? = some o)
    (h : ∀ K' : Act → World → Prop, Shut (∀ a w, wpAnyT P md ops Q S z fuel (listed.setIfInBounds i true) a w → K' a w) → if Region.wanted o (yielded ops a.tmps) = true then Oper.wp P o a w K' Q else K' (a.put o.dst undef) w) :
    wpAnyT P md ops Q S z (fuel + 1) listed a w := by
  refine ⟨fun h0 => (by rw [hr] at h0; cases h0), fun j hj => ?_⟩
  rw [hr, List.mem_singleton] at hj
  subst hj
  exact wpOp_step ho (fun K' hK => h K' (fun a w hW => hK a w ⟨fun e => absurd e (of_decide_eq_false hz), hW⟩))
theorem wpAnyT_done {fuel : Nat} {listed : Array Bool} {a : Act} {w : World} (hr : Region.ready md ops listed = []) (h : Q .normal a w) : wpAnyT P md ops Q S z fuel listed a w := by
  cases fuel with
  | zero => exact ⟨hr, h⟩
  | succ n => exact ⟨fun _ => h, by rw [hr]; simp⟩
theorem wp_region_T {id : Nat} (z : Nat) {a : Act} {w : World} (hm : P.follows .mixedOrders = true) (hS : S w.drew)
    (h : S w.drew → wpAnyT P .any ops Q S z ops.size (Array.replicate ops.size false) a w.drew) : (Code.region id ops true).wp P Q a w :=
  wp_region_any hm (wpAny_of_T _ _ _ _ (h hS))
end
end Go.Proofs.YtdchhfdmingnaaaDoor

/- A region that draws its order and calls nothing, inside a fence, whatever stands behind it: it goes on in one way alone. Nothing of the program is named here. -/
namespace Go.Proofs.YtdchhfdmingnaaaDoor
set_option linter.unusedVariables false
def onlyN (Q : Exit → Act → World → Prop) : Exit → Act → World → Prop
  | .normal, a, w => Q .normal a w
  | _, _, _ => False
theorem wpIn_region_calmN {F : Fence} {n : Nat} {P : Program} {ops : Array Oper} {Q : Exit → Act → World → Prop} {id : Nat} {a : Act} {w : World} (hm : P.follows .mixedOrders = true) (hc : ops.all calmOp = true)
    (h : wpAny P .any ops (onlyN Q) ops.size (Array.replicate ops.size false) a w.drew) : (Code.region id ops true).wpIn F n P Q a w :=
  wpIn_mono (wpIn_region_calm hm hc (by rintro ⟨_, _, h⟩; exact h) h) (fun e a w h => by
    cases e with
    | normal => exact h
    | _ => exact h.elim)
end Go.Proofs.YtdchhfdmingnaaaDoor

/- A region that draws its order, only reads, and calls nothing, inside a round of a range over a function. Nothing of the program is named here. -/
namespace Go.Proofs.YtdchhfdmingnaaaDoor
open Go
set_option linter.unusedVariables false
theorem wpIn_region_quietC {F : Fence} {n : Nat} {P : Program} {id : Nat} {Q : Exit → Act → World → Prop} {a : Act} {w : World} {l : List Oper} (hm : P.follows .mixedOrders = true) (hc : l.toArray.all calmOp = true) (hB : Region.lexB .any l.toArray = true)
    (h : wpQuiet P l.toArray (fun w' => ∃ n, w' = w.drewN n) (fun a' => ∀ w', (∃ n, w' = w.drewN n) → Q .normal a' w') l a) : (Code.region id l.toArray true).wpIn F n P Q a w := by
  simp only [Region.lexB, Bool.and_eq_true] at hB
  refine wpIn_region_calmN hm hc (wpAny_of_quiet (C := fun w' => ∃ n, w' = w.drewN n) (Q := fun a' => ∀ w', (∃ n, w' = w.drewN n) → Q .normal a' w') (Q' := onlyN Q) (fun a w' hw' h => h w' hw') _ _ _ _ ⟨1, rfl⟩ ?_)
  have := wpAnyQ_lex (C := fun w' => ∃ n, w' = w.drewN n) (md := .any) hB.1 l 0 (Array.replicate l.toArray.size false) a (by simp) (by simpa using hB.2) h
  simpa using this
end Go.Proofs.YtdchhfdmingnaaaDoor

/- Layer 8, plain: which block is passed on each way to which; a tree of what is next over what, settled step by step in the order of blocks. Nothing of the program is named here. -/

namespace Go.Proofs.YtdchhfdmingnaaaDoor
set_option linter.unusedVariables false
inductive Way (E : Nat → Nat → Prop) (ok : Nat → Prop) : Nat → Nat → Prop
  | nil {x : Nat} : ok x → Way E ok x x
  | snoc {x y z : Nat} : Way E ok x y → E y z → ok z → Way E ok x z
section
variable {E : Nat → Nat → Prop} {ok ok' : Nat → Prop}
theorem Way.mono (h : ∀ v, ok v → ok' v) {x y : Nat} (p : Way E ok x y) : Way E ok' x y := by
  induction p with
  | nil h1 => exact .nil (h _ h1)
  | snoc _ e h1 ih => exact .snoc ih e (h _ h1)
theorem Way.append {x y z : Nat} (p : Way E ok x y) (q : Way E ok y z) : Way E ok x z := by
  induction q with
  | nil _ => exact p
  | snoc _ e h1 ih => exact .snoc ih e h1
theorem Way.last {x y : Nat} (p : Way E ok x y) : ok y := by
  cases p with
  | nil h => exact h
  | snoc _ _ h => exact h
end
def Dom (E : Nat → Nat → Prop) (a v : Nat) : Prop := ¬ Way E (fun u => u ≠ a) 0 v
inductive On (up : Nat → Int) : Nat → Nat → Prop
  | refl (v : Nat) : On up v v
  | step {v c a : Nat} : up v = (c : Int) → On up c a → On up v a
theorem On.trans {up : Nat → Int} {a b c : Nat} (h : On up a b) (k : On up b c) : On up a c := by
  induction h with
  | refl _ => exact k
  | step e _ ih => exact .step e (ih k)
def upd (up : Nat → Int) (b x : Nat) : Nat → Int := fun v => if v = b then (x : Int) else up v
theorem upd_same (up : Nat → Int) (b x : Nat) : upd up b x b = (x : Int) := if_pos rfl
theorem upd_other {up : Nat → Int} {b x v : Nat} (h : v ≠ b) : upd up b x v = up v := if_neg h
structure Rpo (E : Nat → Nat → Prop) (M : Nat → Prop) (pl : Nat → Nat) : Prop where
  zero : M 0
  pl0 : ∀ v, M v → (pl v = 0 ↔ v = 0)
  inj : ∀ u v, M u → M v → pl u = pl v → u = v
  clos : ∀ u v, M u → E u v → M v
  fwd : ∀ v, M v → v ≠ 0 → ∃ u, M u ∧ E u v ∧ pl u < pl v
structure Tree (E : Nat → Nat → Prop) (M : Nat → Prop) (pl : Nat → Nat) (up : Nat → Int) (m : Nat) : Prop where
  known : ∀ v, M v → v ≠ 0 → (0 ≤ up v ↔ pl v < m)
  none : ∀ v, ¬ (M v ∧ v ≠ 0) → up v = -1
  low : ∀ v, -1 ≤ up v
  lt : ∀ v c : Nat, up v = (c : Int) → M c ∧ pl c < pl v ∧ pl c < m
  way : ∀ v c : Nat, up v = (c : Int) → Way E (fun u => u = c ∨ pl c < pl u) c v
  dom : ∀ v a, M v → M a → (v = 0 ∨ 0 ≤ up v) → Dom E a v → On up v a
  mono : ∀ v c : Nat, M v → up v = (c : Int) → ∀ z, (∀ p, M p → E p v → pl p < m → On up p z) → On up c z
structure Pass (E : Nat → Nat → Prop) (M : Nat → Prop) (pl : Nat → Nat) (up : Nat → Int) (i m : Nat) : Prop where
  done : ∀ v c : Nat, M v → up v = (c : Int) → pl v < i → ∀ p, M p → E p v → pl p < pl v → On up p c
  prev : ∀ v c : Nat, M v → up v = (c : Int) → i ≤ pl c → ∀ p, M p → E p v → pl p < pl v → On up p c
def Joint (up : Nat → Int) (PP : Nat → Prop) (x : Nat) : Prop := (∀ p, PP p → On up p x) ∧ ∀ z, (∀ p, PP p → On up p z) → On up x z
section
variable {E : Nat → Nat → Prop} {M : Nat → Prop} {pl : Nat → Nat} {up : Nat → Int} {m i : Nat}
theorem on_pl (hlt : ∀ v c : Nat, up v = (c : Int) → M c ∧ pl c < pl v ∧ pl c < m) {v a : Nat} (h : On up v a) : v = a ∨ (M a ∧ pl a < pl v ∧ pl a < m) := by
  induction h with
  | refl _ => exact .inl rfl
  | step e _ ih =>
    have h1 := hlt _ _ e
    rcases ih with rfl | ⟨h2, h3, h4⟩
    · exact .inr h1
    · exact .inr ⟨h2, by omega, h4⟩
theorem on_le (hlt : ∀ v c : Nat, up v = (c : Int) → M c ∧ pl c < pl v ∧ pl c < m) {v a : Nat} (h : On up v a) : pl a ≤ pl v := by
  rcases on_pl hlt h with rfl | ⟨_, h, _⟩ <;> omega
theorem on_met (hlt : ∀ v c : Nat, up v = (c : Int) → M c ∧ pl c < pl v ∧ pl c < m) {v a : Nat} (hv : M v) (h : On up v a) : M a := by
  rcases on_pl hlt h with rfl | ⟨h, _, _⟩
  · exact hv
  · exact h
theorem on_linear (hlt : ∀ v c : Nat, up v = (c : Int) → M c ∧ pl c < pl v ∧ pl c < m) {v a b : Nat} (h : On up v a) (k : On up v b) (hab : pl b ≤ pl a) : On up a b := by
  induction h with
  | refl _ => exact k
  | step e h1 ih =>
    cases k with
    | refl _ =>
      have := on_le hlt h1
      have := (hlt _ _ e).2.1
      omega
    | step e2 k2 =>
      have e3 := e.symm.trans e2
      have e4 := Int.ofNat.inj e3
      subst e4
      exact ih k2 hab
theorem on_way (T : Tree E M pl up m) {v a : Nat} (h : On up v a) : Way E (fun u => u = a ∨ pl a < pl u) a v := by
  induction h with
  | refl v => exact .nil (.inl rfl)
  | step e h1 ih =>
    rename_i v c a
    refine ih.append ((T.way _ _ e).mono fun u hu => ?_)
    rcases on_pl T.lt h1 with rfl | ⟨_, h2, _⟩
    · exact hu
    · rcases hu with rfl | hu
      · exact .inr h2
      · exact .inr (by omega)
theorem on_upd1 (hlt : ∀ v c : Nat, up v = (c : Int) → M c ∧ pl c < pl v ∧ pl c < m) {b x v a : Nat} (h : On up v a) (hb : pl b ≤ pl a) : On (upd up b x) v a := by
  induction h with
  | refl _ => exact .refl _
  | step e h1 ih =>
    have := on_le hlt h1
    have h2 := (hlt _ _ e).2.1
    refine .step ?_ (ih hb)
    rw [upd_other (fun e' => by subst e'; omega)]
    exact e
theorem on_upd2 (hlt : ∀ v c : Nat, up v = (c : Int) → M c ∧ pl c < pl v ∧ pl c < m) {b x v a : Nat} (h : On up v a) (hb : pl v < pl b) : On (upd up b x) v a := by
  induction h with
  | refl _ => exact .refl _
  | step e h1 ih =>
    have h2 := (hlt _ _ e).2.1
    refine .step ?_ (ih (by omega))
    rw [upd_other (fun e' => by subst e'; omega)]
    exact e
theorem on_upd2' (hlt : ∀ v c : Nat, up v = (c : Int) → M c ∧ pl c < pl v ∧ pl c < m) {b x v a : Nat} (h : On (upd up b x) v a) (hb : pl v < pl b) : On up v a := by
  induction h with
  | refl _ => exact .refl _
  | step e h1 ih =>
    rw [upd_other (fun e' => by subst e'; omega)] at e
    have h2 := (hlt _ _ e).2.1
    exact .step e (ih (by omega))
theorem on_upd3 (hlt : ∀ v c : Nat, up v = (c : Int) → M c ∧ pl c < pl v ∧ pl c < m) {b x v a : Nat} (h : On up v a) (hn : ¬ (On up v b ∧ On up b a ∧ a ≠ b)) : On (upd up b x) v a := by
  induction h with
  | refl _ => exact .refl _
  | step e h1 ih =>
    refine .step ?_ (ih fun hc => hn ⟨.step e hc.1, hc.2.1, hc.2.2⟩)
    rw [upd_other (fun e' => by
      subst e'
      have := on_le hlt h1
      have h2 := (hlt _ _ e).2.1
      exact hn ⟨.refl _, .step e h1, fun e' => by subst e'; omega⟩)]
    exact e
theorem on_updS {b x y v a : Nat} (hb : up b = (y : Int)) (hy : On up y x) (h : On (upd up b x) v a) : On up v a := by
  induction h with
  | refl _ => exact .refl _
  | step e h1 ih =>
    rename_i v c a
    by_cases hv : v = b
    · subst hv
      rw [upd_same] at e
      have e' := Int.ofNat.inj e
      subst e'
      exact .step hb (hy.trans ih)
    · rw [upd_other hv] at e
      exact .step e ih
theorem Tree.start (R : Rpo E M pl) : Tree E M pl (fun _ => -1) 1 := by
  have none : ∀ v c : Nat, ¬ ((-1 : Int) = (c : Int)) := fun v c h => by omega
  refine ⟨fun v hv h0 => ⟨fun h => absurd h (by decide), fun h => absurd ((R.pl0 v hv).1 (by omega)) h0⟩, fun _ _ => rfl, fun _ => by omega, fun v c h => absurd h (none v c), fun v c h => absurd h (none v c), fun v a hv ha h hd => ?_, fun v c _ h => absurd h (none v c)⟩
  rcases h with rfl | h
  · have : a = 0 := Classical.byContradiction fun h0 => hd (.nil (fun e => h0 e.symm))
    subst this
    exact .refl _
  · exact absurd h (by decide)
theorem Pass.start : Pass E M pl (fun _ => -1) 0 1 := ⟨fun v c _ h => absurd h (by omega), fun v c _ h => absurd h (by omega)⟩
theorem Pass.first (R : Rpo E M pl) (T : Tree E M pl up m) (S : Pass E M pl up 0 m) : Pass E M pl up 1 m := by
  refine ⟨fun v c hv h hp => ?_, fun v c hv h hp => S.prev v c hv h (Nat.zero_le _)⟩
  have := (T.lt _ _ h).2.1
  omega
section
variable {b x : Nat}
theorem joint_fwd (R : Rpo E M pl) (T : Tree E M pl up m) (hb : M b) (h0 : b ≠ 0) (him : pl b ≤ m) (J : Joint up (fun p => M p ∧ E p b ∧ pl p < m) x) : M x ∧ pl x < pl b := by
  obtain ⟨p, hp, he, hl⟩ := R.fwd b hb h0
  have h1 := J.1 p ⟨hp, he, by omega⟩
  exact ⟨on_met T.lt hp h1, by have := on_le T.lt h1; omega⟩
theorem joint_up (T : Tree E M pl up m) (hb : M b) (J : Joint up (fun p => M p ∧ E p b ∧ pl p < m) x) {y : Nat} (hy : up b = (y : Int)) : On up y x :=
  T.mono b y hb hy x fun p h1 h2 h3 => J.1 p ⟨h1, h2, h3⟩
theorem Tree.step (R : Rpo E M pl) (T : Tree E M pl up m) (S : Pass E M pl up i m) (hb : M b) (h0 : b ≠ 0) (hi : pl b = i) (him : i ≤ m) (J : Joint up (fun p => M p ∧ E p b ∧ pl p < m) x) :
    Tree E M pl (upd up b x) (max m (i + 1)) ∧ Pass E M pl (upd up b x) (i + 1) (max m (i + 1)) := by
  subst hi
  obtain ⟨hMx, hxb⟩ := joint_fwd R T hb h0 him J
  have hm : m ≤ max m (pl b + 1) := Nat.le_max_left _ _
  have hm2 : pl b + 1 ≤ max m (pl b + 1) := Nat.le_max_right _ _
  have hother : ∀ v, M v → v ≠ b → (pl v < max m (pl b + 1) ↔ pl v < m) := fun v hv hne => by
    have : pl v ≠ pl b := fun e => hne (R.inj v b hv hb e)
    omega
  have hlt' : ∀ v c : Nat, upd up b x v = (c : Int) → M c ∧ pl c < pl v ∧ pl c < max m (pl b + 1) := by
    intro v c h
    by_cases hv : v = b
    · subst hv
      rw [upd_same] at h
      have := Int.ofNat.inj h
      subst this
      exact ⟨hMx, hxb, by omega⟩
    · rw [upd_other hv] at h
      have := T.lt v c h
      exact ⟨this.1, this.2.1, by omega⟩
  have sub : ∀ p a, M p → pl p < m → On (upd up b x) p a → On up p a := by
    intro p a hp hpm h
    by_cases hbm : pl b < m
    · have h1 := (T.known b hb h0).2 hbm
      obtain ⟨y, hy⟩ := Int.eq_ofNat_of_zero_le h1
      exact on_updS hy (joint_up T hb J hy) h
    · exact on_upd2' T.lt h (by omega)
  have caseB : ∀ a, M a → Dom E a b → On (upd up b x) b a := by
    intro a ha hd
    by_cases hab : a = b
    · subst hab; exact .refl _
    · refine .step (upd_same _ _ _) (on_upd2 T.lt (J.2 a fun p hp => ?_) hxb)
      refine T.dom p a hp.1 ha ?_ (fun hw => hd (.snoc hw hp.2.1 (fun e => hab e.symm)))
      by_cases hp0 : p = 0
      · exact .inl hp0
      · exact .inr ((T.known p hp.1 hp0).2 hp.2.2)
  refine ⟨⟨fun v hv hv0 => ?_, fun v hv => ?_, fun v => ?_, hlt', fun v c h => ?_, fun v a hv ha hk hd => ?_, fun v c hv hc z hz => ?_⟩, ⟨fun v c hv hc hp p hMp he hpv => ?_, fun v c hv hc hp p hMp he hpv => ?_⟩⟩
  · by_cases hvb : v = b
    · subst hvb; rw [upd_same]; constructor <;> intro _ <;> omega
    · rw [upd_other hvb, hother v hv hvb]; exact T.known v hv hv0
  · rw [upd_other (fun e => hv (by rw [e]; exact ⟨hb, h0⟩))]; exact T.none v hv
  · by_cases hvb : v = b
    · subst hvb; rw [upd_same]; omega
    · rw [upd_other hvb]; exact T.low v
  · by_cases hvb : v = b
    · subst hvb
      rw [upd_same] at h
      have := Int.ofNat.inj h
      subst this
      obtain ⟨p, hp, he, hl⟩ := R.fwd v hb h0
      exact .snoc (on_way T (J.1 p ⟨hp, he, by omega⟩)) he (.inr hxb)
    · rw [upd_other hvb] at h
      exact T.way v c h
  · by_cases hvb : v = b
    · subst hvb; exact caseB a ha hd
    · rw [upd_other hvb] at hk
      have hold := T.dom v a hv ha hk hd
      by_cases hthru : On up v b ∧ On up b a ∧ a ≠ b
      · have hpa : pl a < pl b := by
          rcases on_pl T.lt hthru.2.1 with e | ⟨_, h, _⟩
          · exact absurd e.symm hthru.2.2
          · exact h
        have hdb : Dom E a b := fun hw => hd (hw.append ((on_way T hthru.1).mono fun u hu => by
          rcases hu with rfl | hu
          · exact fun e => hthru.2.2 e.symm
          · exact fun e => by subst e; omega))
        exact (on_upd1 T.lt hthru.1 (Nat.le_refl _)).trans (caseB a ha hdb)
      · exact on_upd3 T.lt hold hthru
  · have hz' : ∀ p, M p → E p v → pl p < m → On up p z := fun p h1 h2 h3 => sub p z h1 h3 (hz p h1 h2 (by omega))
    by_cases hvb : v = b
    · subst hvb
      rw [upd_same] at hc
      have := Int.ofNat.inj hc
      subst this
      exact on_upd2 T.lt (J.2 z fun p hp => hz' p hp.1 hp.2.1 hp.2.2) hxb
    · rw [upd_other hvb] at hc
      have hold := T.mono v c hv hc z hz'
      have hlc := T.lt v c hc
      by_cases hthru : On up c b ∧ On up b z ∧ z ≠ b
      · have hle := on_le T.lt hthru.1
        have hv0 : v ≠ 0 := fun e => by subst e; rw [T.none 0 (by simp)] at hc; omega
        have hvm : pl v < m := (T.known v hv hv0).1 (by omega)
        obtain ⟨p, hp, he, hl⟩ := R.fwd v hv hv0
        have h1 := S.prev v c hv hc hle p hp he hl
        have h2 : On (upd up b x) p b := on_upd1 T.lt (h1.trans hthru.1) (Nat.le_refl _)
        have h3 := hz p hp he (by omega)
        have h4 := on_linear hlt' h2 h3 (on_le T.lt hthru.2.1)
        exact (on_upd1 T.lt hthru.1 (Nat.le_refl _)).trans h4
      · exact on_upd3 T.lt hold hthru
  · by_cases hvb : v = b
    · subst hvb
      rw [upd_same] at hc
      have := Int.ofNat.inj hc
      subst this
      exact on_upd2 T.lt (J.1 p ⟨hMp, he, by omega⟩) hpv
    · rw [upd_other hvb] at hc
      have hne : pl v ≠ pl b := fun e => hvb (R.inj v b hv hb e)
      exact on_upd2 T.lt (S.done v c hv hc (by omega) p hMp he hpv) (by omega)
  · by_cases hvb : v = b
    · subst hvb
      rw [upd_same] at hc
      have := Int.ofNat.inj hc
      subst this
      omega
    · rw [upd_other hvb] at hc
      exact on_upd1 T.lt (S.prev v c hv hc (by omega) p hMp he hpv) (by omega)
end
theorem settled (R : Rpo E M pl) (T : Tree E M pl up m) (hall : ∀ v, M v → pl v < m) (hfix : ∀ v c : Nat, M v → up v = (c : Int) → ∀ p, M p → E p v → On up p c) {v a : Nat} (hv : M v) (ha : M a) : On up v a ↔ Dom E a v := by
  constructor
  · intro h hw
    have key : ∀ {v : Nat}, Way E (fun u => u ≠ a) 0 v → M v ∧ ¬ On up v a := by
      intro v hw
      generalize hz : 0 = z at hw
      induction hw with
      | nil h1 =>
        subst hz
        refine ⟨R.zero, fun h => ?_⟩
        cases h with
        | refl _ => exact h1 rfl
        | step e _ => rw [T.none 0 (by simp)] at e; omega
      | snoc hw e h1 ih =>
        rename_i y z
        have hy := ih
        have hMz := R.clos _ _ hy.1 e
        refine ⟨hMz, fun h => ?_⟩
        cases h with
        | refl _ => exact h1 rfl
        | step e2 h2 => exact hy.2 ((hfix _ _ hMz e2 _ hy.1 e).trans h2)
    exact (key hw).2 h
  · intro h
    refine T.dom v a hv ha ?_ h
    by_cases h0 : v = 0
    · exact .inl h0
    · exact .inr ((T.known v hv h0).2 (hall v hv))
structure Meet (up : Nat → Int) (j0 f0 j f : Nat) : Prop where
  hj : On up j0 j
  hf : On up f0 f
  all : ∀ z, On up j0 z → On up f0 z → On up j z ∧ On up f z
theorem Meet.start (j f : Nat) : Meet up j f j f := ⟨.refl _, .refl _, fun z h k => ⟨h, k⟩⟩
end
end Go.Proofs.YtdchhfdmingnaaaDoor

/- Layer 8, plain: the blocks that are met, by their places in the order: each but the first one has one ahead of it that goes to it. Nothing of the program is named here. -/
namespace Go.Proofs.YtdchhfdmingnaaaDoor
set_option linter.unusedVariables false
section
variable {N : Nat} {nx : Nat → List Int}
def Fwd (nx : Nat → List Int) (u : List Int) (from_ : Int → Prop) : Prop := ∀ a x c, u = a ++ x :: c → from_ x ∨ ∃ p ∈ a, x ∈ nx p.toNat
theorem Fwd.nil (from_ : Int → Prop) : Fwd nx [] from_ := fun a x c h => by simp at h
theorem Fwd.append {u v : List Int} {f1 f2 : Int → Prop} (hu : Fwd nx u f1) (hv : Fwd nx v f2) : Fwd nx (u ++ v) (fun x => f1 x ∨ f2 x) := by
  intro a x c h
  rcases List.append_eq_append_iff.1 h with ⟨d, h1, h2⟩ | ⟨d, h1, h2⟩
  · rcases hv d x c h2 with h3 | ⟨p, hp, h3⟩
    · exact .inl (.inr h3)
    · exact .inr ⟨p, by rw [h1]; exact List.mem_append_right _ hp, h3⟩
  · cases d with
    | nil =>
      simp only [List.nil_append] at h2
      rcases hv [] x c h2.symm with h3 | ⟨p, hp, _⟩
      · exact .inl (.inr h3)
      · cases hp
    | cons y d =>
      simp only [List.cons_append, List.cons.injEq] at h2
      obtain ⟨rfl, h2⟩ := h2
      rcases hu a x d h1 with h3 | h3
      · exact .inl (.inl h3)
      · exact .inr h3
theorem Fwd.mono {u : List Int} {f1 f2 : Int → Prop} (h : Fwd nx u f1) (hf : ∀ x, f1 x → f2 x) : Fwd nx u f2 := fun a x c e => (h a x c e).imp (hf x) id
theorem walk_fwd : ∀ (k : Nat) (s : List Int × List Int) (b : Int), ∃ u, (walkF N nx k s b).2 = u ++ s.2 ∧ Fwd nx u (fun x => x = b)
  | 0, s, b => ⟨[], by simp [walkF], Fwd.nil _⟩
  | k + 1, s, b => by
    by_cases h : ¬ There N b ∨ b ∈ s.1
    · rw [walkF_skip h]; exact ⟨[], by simp, Fwd.nil _⟩
    · have hT : There N b := Classical.byContradiction fun h' => h (.inl h')
      have hM : b ∉ s.1 := fun h' => h (.inr h')
      have fold : ∀ (l : List Int) (s : List Int × List Int), ∃ u, (l.foldl (walkF N nx k) s).2 = u ++ s.2 ∧ Fwd nx u (fun x => x ∈ l) := by
        intro l
        induction l with
        | nil => intro s; exact ⟨[], by simp, Fwd.nil _⟩
        | cons n l ih =>
          intro s
          obtain ⟨u1, h1, f1⟩ := walk_fwd k s n
          obtain ⟨u2, h2, f2⟩ := ih (walkF N nx k s n)
          refine ⟨u2 ++ u1, by rw [List.foldl_cons, h2, h1, List.append_assoc], (f2.append f1).mono fun x hx => ?_⟩
          rcases hx with hx | rfl
          · exact List.mem_cons_of_mem _ hx
          · simp
      obtain ⟨u, h1, f1⟩ := fold (nx b.toNat) (s.1 ++ [b], s.2)
      rw [walkF_go hT hM]
      refine ⟨b :: u, by simp only; rw [h1]; rfl, fun a x c e => ?_⟩
      cases a with
      | nil => simp only [List.nil_append, List.cons.injEq] at e; exact .inl e.1.symm
      | cons y a =>
        simp only [List.cons_append, List.cons.injEq] at e
        obtain ⟨rfl, e⟩ := e
        rcases f1 a x c e with h3 | ⟨p, hp, h3⟩
        · exact .inr ⟨_, by simp, h3⟩
        · exact .inr ⟨p, by simp [hp], h3⟩
end
theorem order_fwd (f : FuncD) : Fwd (nxF f) (orderL f) (fun x => x = 0) := by
  obtain ⟨u, h1, h2⟩ := walk_fwd (N := f.blocks.length) (nx := nxF f) (f.blocks.length + 1) ([], []) 0
  have e : orderL f = u := by unfold orderL walkAll; rw [h1]; simp
  rw [e]
  exact h2
def EdgeF (f : FuncD) (u v : Nat) : Prop := (v : Int) ∈ nxF f u ∧ v < f.blocks.length
def MetF (f : FuncD) (v : Nat) : Prop := (v : Int) ∈ orderL f
def plF (f : FuncD) (v : Nat) : Nat := (orderL f).idxOf (v : Int)
theorem pl_lt {f : FuncD} {v : Nat} (h : MetF f v) : plF f v < (orderL f).length := List.idxOf_lt_length_iff.2 h
theorem pl_at {f : FuncD} {v : Nat} (h : MetF f v) : (orderL f)[plF f v]'(pl_lt h) = (v : Int) := List.getElem_idxOf (pl_lt h)
theorem pl_is {f : FuncD} {i v : Nat} (hi : i < (orderL f).length) (h : (orderL f)[i] = (v : Int)) : MetF f v ∧ plF f v = i := by
  have hm : MetF f v := by unfold MetF; rw [← h]; exact List.getElem_mem hi
  refine ⟨hm, ?_⟩
  have h1 := pl_at hm
  have hn := (order_facts f).nodup
  rcases Nat.lt_trichotomy (plF f v) i with h2 | h2 | h2
  · exact absurd (h1.trans h.symm) (List.pairwise_iff_getElem.1 hn _ _ (pl_lt hm) hi h2)
  · exact h2
  · exact absurd (h.trans h1.symm) (List.pairwise_iff_getElem.1 hn _ _ hi (pl_lt hm) h2)
theorem met_lt {f : FuncD} {v : Nat} (h : MetF f v) : v < f.blocks.length := by
  have := ((order_facts f).there _ h).2
  omega
theorem rpo_of (f : FuncD) (h0 : 0 < f.blocks.length) : Rpo (EdgeF f) (MetF f) (plF f) := by
  obtain ⟨r, hr⟩ := order_head h0
  have hz : MetF f 0 := by unfold MetF; rw [hr]; simp
  have hp0 : plF f 0 = 0 := (pl_is (f := f) (i := 0) (v := 0) (by rw [hr]; simp) (by simp only [hr, List.getElem_cons_zero]; rfl)).2
  refine ⟨hz, fun v hv => ⟨fun h => ?_, fun h => by rw [h]; exact hp0⟩, fun u v hu hv e => ?_, fun u v hu he => ?_, fun v hv hv0 => ?_⟩
  · have h1 := pl_at hv
    simp only [h, hr, List.getElem_cons_zero] at h1
    omega
  · have h1 := pl_at hu
    have h2 := pl_at hv
    simp only [e] at h1
    have := h1.symm.trans h2
    omega
  · exact (order_facts f).clos _ hu _ (by simpa using he.1) ⟨by omega, by have := he.2; omega⟩
  · have hlt := pl_lt hv
    have hat := pl_at hv
    have hsplit : orderL f = (orderL f).take (plF f v) ++ (v : Int) :: (orderL f).drop (plF f v + 1) := by
      rw [← hat, List.getElem_cons_drop, List.take_append_drop]
    rcases order_fwd f _ _ _ hsplit with h | ⟨p, hp, h⟩
    · omega
    · obtain ⟨j, hj, e⟩ := List.getElem_of_mem hp
      simp only [List.length_take] at hj
      rw [List.getElem_take] at e
      have hjl : j < (orderL f).length := by omega
      have hT := (order_facts f).there p (by rw [← e]; exact List.getElem_mem hjl)
      obtain ⟨q, rfl, hq⟩ := nat_of hT
      have := pl_is hjl e
      refine ⟨q, this.1, ⟨by simpa using h, met_lt hv⟩, ?_⟩
      rw [this.2]
      omega
theorem met_way {f : FuncD} (h0 : 0 < f.blocks.length) (v : Nat) : MetF f v ↔ Way (EdgeF f) (fun _ => True) 0 v := by
  have R := rpo_of f h0
  constructor
  · have key : ∀ (k v : Nat), plF f v ≤ k → MetF f v → Way (EdgeF f) (fun _ => True) 0 v := by
      intro k
      induction k with
      | zero =>
        intro v hk hv
        rw [(R.pl0 v hv).1 (by omega)]
        exact .nil trivial
      | succ k ih =>
        intro v hk hv
        by_cases hv0 : v = 0
        · subst hv0; exact .nil trivial
        · obtain ⟨u, hu, he, hl⟩ := R.fwd v hv hv0
          exact .snoc (ih u (by omega) hu) he trivial
    exact key _ v (Nat.le_refl _)
  · intro h
    generalize hz : 0 = z at h
    induction h with
    | nil _ => subst hz; exact R.zero
    | snoc _ e _ ih => exact R.clos _ _ ih e
end Go.Proofs.YtdchhfdmingnaaaDoor

/- Layer 8, plain: the rounds in which the tree settles. Nothing of the program is named here. -/
namespace Go.Proofs.YtdchhfdmingnaaaDoor
set_option linter.unusedVariables false
def upOf (n : Nat) (UP : List Int) : Nat → Int := fun v => if v < n then nth UP v else -1
theorem upOf_lt {n : Nat} {UP : List Int} {v : Nat} (h : v < n) : upOf n UP v = nth UP v := if_pos h
theorem upOf_set {n : Nat} {UP : List Int} {b x : Nat} (hl : UP.length = n) (hb : b < n) : upOf n (UP.set b (x : Int)) = upd (upOf n UP) b x := by
  funext v
  by_cases hv : v < n
  · simp only [upOf, upd, if_pos hv]
    exact nth_set (by omega) v
  · simp only [upOf, upd, if_neg hv]
    rw [if_neg (by omega)]
def sumTo (w : Nat → Nat) : Nat → Nat
  | 0 => 0
  | k + 1 => sumTo w k + w k
theorem sumTo_same {w w' : Nat → Nat} : ∀ {k : Nat}, (∀ v, v < k → w' v = w v) → sumTo w' k = sumTo w k
  | 0, _ => rfl
  | k + 1, h => by
    unfold sumTo
    rw [sumTo_same (fun v hv => h v (by omega)), h k (by omega)]
theorem sumTo_set {w w' : Nat → Nat} {b : Nat} : ∀ {k : Nat}, b < k → (∀ v, v ≠ b → w' v = w v) → sumTo w' k + w b = sumTo w k + w' b
  | 0, hb, _ => absurd hb (by omega)
  | k + 1, hb, h => by
    unfold sumTo
    by_cases e : b = k
    · subst e
      rw [sumTo_same (w := w) (w' := w') (fun v hv => h v (by omega))]
      omega
    · have ih := sumTo_set (w := w) (w' := w') (b := b) (k := k) (by omega) h
      rw [h k (by omega)]
      omega
def wt (n : Nat) (pl : Nat → Nat) (up : Nat → Int) (v : Nat) : Nat := if up v < 0 then n + 1 else min n (pl (up v).toNat)
def weigh (n : Nat) (pl : Nat → Nat) (UP : List Int) : Nat := sumTo (wt n pl (upOf n UP)) n
structure PassSt (E : Nat → Nat → Prop) (M : Nat → Prop) (pl : Nat → Nat) (n K : Nat) (UP0 UP : List Int) (m i : Nat) (ch : Bool) : Prop where
  len : UP.length = n
  tree : Tree E M pl (upOf n UP) m
  pass : Pass E M pl (upOf n UP) i m
  im : i ≤ m
  mK : m ≤ K
  m1 : 1 ≤ m
  same : ch = false → UP = UP0 ∧ ∀ v c : Nat, M v → upOf n UP v = (c : Int) → pl v < i → ∀ p, M p → E p v → pl p < m → On (upOf n UP) p c
  less : ch = true → weigh n pl UP < weigh n pl UP0
section
variable {E : Nat → Nat → Prop} {M : Nat → Prop} {pl : Nat → Nat} {n K : Nat} {UP0 UP : List Int} {m i : Nat} {ch : Bool}
theorem PassSt.zero (R : Rpo E M pl) (h : PassSt E M pl n K UP0 UP m 0 ch) : PassSt E M pl n K UP0 UP m 1 ch :=
  ⟨h.len, h.tree, h.pass.first R h.tree, h.m1, h.mK, h.m1, fun hc => ⟨(h.same hc).1, fun v c hv e hl => by have := (h.tree.lt v c e).2.1; omega⟩, h.less⟩
variable {b x : Nat}
theorem PassSt.move (R : Rpo E M pl) (hKn : K ≤ n) (hplK : ∀ v, M v → pl v < K) (h : PassSt E M pl n K UP0 UP m i ch) (hw : weigh n pl UP ≤ weigh n pl UP0) (hb : M b) (h0 : b ≠ 0) (hbn : b < n) (hi : pl b = i) (hK : i < K) (J : Joint (upOf n UP) (fun p => M p ∧ E p b ∧ pl p < m) x) (hx : nth UP b ≠ (x : Int)) : PassSt E M pl n K UP0 (UP.set b (x : Int)) (max m (i + 1)) (i + 1) true := by
  have hst := h.tree.step R h.pass hb h0 hi h.im J
  have e := upOf_set (x := x) h.len hbn
  rw [← e] at hst
  obtain ⟨hMx, hxb⟩ := joint_fwd R h.tree hb h0 (by have := h.im; omega) J
  have hxK := hplK x hMx
  refine ⟨by simpa using h.len, hst.1, hst.2, by omega, by have := h.mK; omega, by omega, (fun hc => nomatch hc), fun _ => ?_⟩
  have hsum := sumTo_set (w := wt n pl (upOf n UP)) (w' := wt n pl (upOf n (UP.set b (x : Int)))) hbn (fun v hv => by
    unfold wt
    rw [e, upd_other hv])
  have hnew : wt n pl (upOf n (UP.set b (x : Int))) b = pl x := by
    unfold wt
    rw [e, upd_same, if_neg (by omega), Int.toNat_natCast]
    omega
  have hold : pl x < wt n pl (upOf n UP) b := by
    unfold wt
    split
    · omega
    · rename_i hn
      obtain ⟨y, hy⟩ := Int.eq_ofNat_of_zero_le (show 0 ≤ upOf n UP b by omega)
      have h1 := joint_up h.tree hb J hy
      have h2 := h.tree.lt b y hy
      have hyK := hplK y h2.1
      rw [hy, Int.toNat_natCast]
      rcases on_pl h.tree.lt h1 with e1 | ⟨_, h3, _⟩
      · exact absurd (by rw [← upOf_lt hbn, hy, e1]) hx
      · omega
  show sumTo _ n < _
  unfold weigh at hw
  unfold weigh
  omega
end
end Go.Proofs.YtdchhfdmingnaaaDoor

/- Layer 8, plain: the blocks of a tree by numbers, so that those that one is over are just those between two numbers. Nothing of the program is named here. -/
namespace Go.Proofs.YtdchhfdmingnaaaDoor
set_option linter.unusedVariables false
theorem sumTo_mono {w : Nat → Nat} : ∀ {i k : Nat}, i ≤ k → sumTo w i ≤ sumTo w k
  | i, 0, h => by have : i = 0 := by omega
                  subst this; exact Nat.le_refl _
  | i, k + 1, h => by
    by_cases e : i = k + 1
    · subst e; exact Nat.le_refl _
    · have := sumTo_mono (w := w) (i := i) (k := k) (by omega)
      simp only [sumTo]
      omega
def cw (up : Nat → Int) (o : Nat → Nat) (S : Nat → Nat) (v : Nat) : Nat → Nat := fun k => if up (o k) = (v : Int) then S (o k) else 0
structure Numbered (M : Nat → Prop) (pl : Nat → Nat) (up : Nat → Int) (o : Nat → Nat) (K : Nat) (S N : Nat → Nat) : Prop where
  at_ : ∀ c, M c → o (pl c) = c ∧ pl c < K
  size : ∀ v, M v → S v = 1 + sumTo (cw up o S v) K
  num : ∀ c v : Nat, M c → up c = (v : Int) → N c = N v + 1 + sumTo (cw up o S v) (pl c)
section
variable {E : Nat → Nat → Prop} {M : Nat → Prop} {pl : Nat → Nat} {up : Nat → Int} {m K : Nat} {o S N : Nat → Nat}
theorem Numbered.pos (h : Numbered M pl up o K S N) {v : Nat} (hv : M v) : 1 ≤ S v := by rw [h.size v hv]; omega
theorem Numbered.upto (h : Numbered M pl up o K S N) {c v : Nat} (hc : M c) (e : up c = (v : Int)) {k : Nat} (hk : pl c < k) : sumTo (cw up o S v) (pl c) + S c ≤ sumTo (cw up o S v) k := by
  have h1 : sumTo (cw up o S v) (pl c + 1) ≤ sumTo (cw up o S v) k := sumTo_mono (by omega)
  have h2 : cw up o S v (pl c) = S c := by unfold cw; rw [(h.at_ c hc).1, if_pos e]
  simp only [sumTo, h2] at h1
  exact h1
theorem Numbered.nest1 (h : Numbered M pl up o K S N) {c v : Nat} (hc : M c) (hv : M v) (e : up c = (v : Int)) : N v < N c ∧ N c + S c ≤ N v + S v := by
  have h1 := h.num c v hc e
  have h2 := h.size v hv
  have h3 := h.upto hc e (h.at_ c hc).2
  omega
theorem Numbered.sib (h : Numbered M pl up o K S N) {c d v : Nat} (hc : M c) (hd : M d) (e1 : up c = (v : Int)) (e2 : up d = (v : Int)) (hl : pl c < pl d) : N c + S c ≤ N d := by
  have h1 := h.num c v hc e1
  have h2 := h.num d v hd e2
  have h3 := h.upto hc e1 hl
  omega
theorem Numbered.nest (h : Numbered M pl up o K S N) (hT : ∀ v c : Nat, up v = (c : Int) → M c ∧ pl c < pl v ∧ pl c < m) {b a : Nat} (hb : M b) (ho : On up b a) : N a ≤ N b ∧ N b + S b ≤ N a + S a := by
  induction ho with
  | refl v => exact ⟨Nat.le_refl _, Nat.le_refl _⟩
  | step e _ ih =>
    have h1 := h.nest1 hb (hT _ _ e).1 e
    have h2 := ih (hT _ _ e).1
    omega
theorem on_child {up : Nat → Int} {b a : Nat} (h : On up b a) : b = a ∨ ∃ c : Nat, up c = (a : Int) ∧ On up b c := by
  induction h with
  | refl v => exact .inl rfl
  | step e _ ih =>
    rcases ih with rfl | ⟨c, h1, h2⟩
    · exact .inr ⟨_, e, .refl _⟩
    · exact .inr ⟨c, h1, .step e h2⟩
theorem Numbered.tri (h : Numbered M pl up o K S N) (R : Rpo E M pl) (T : Tree E M pl up m) (hall : ∀ v, M v → pl v < m) : ∀ (k a b : Nat), pl a + pl b ≤ k → M a → M b → On up a b ∨ On up b a ∨ N a + S a ≤ N b ∨ N b + S b ≤ N a
  | 0, a, b, hk, ha, hb => by
    have : a = b := R.inj a b ha hb (by omega)
    subst this
    exact .inl (.refl _)
  | k + 1, a, b, hk, ha, hb => by
    have key : ∀ a b : Nat, pl a + pl b ≤ k + 1 → M a → M b → pl b < pl a → On up a b ∨ On up b a ∨ N a + S a ≤ N b ∨ N b + S b ≤ N a := by
      intro a b hk ha hb hl
      have ha0 : a ≠ 0 := fun e => by have := (R.pl0 a ha).2 e; omega
      obtain ⟨a', ha'⟩ := Int.eq_ofNat_of_zero_le ((T.known a ha ha0).2 (hall a ha))
      have hlt := T.lt a a' ha'
      have hn := h.nest1 ha hlt.1 ha'
      rcases Numbered.tri h R T hall k a' b (by omega) hlt.1 hb with h1 | h1 | h1 | h1
      · exact .inl (.step ha' h1)
      · rcases on_child h1 with rfl | ⟨c, e, h2⟩
        · exact .inl (.step ha' (.refl _))
        · have hMc : M c := on_met T.lt hb h2
          have hnb := h.nest T.lt hb h2
          by_cases hca : c = a
          · subst hca; exact .inr (.inl h2)
          · rcases Nat.lt_trichotomy (pl c) (pl a) with h3 | h3 | h3
            · have := h.sib hMc ha e ha' h3
              exact .inr (.inr (.inr (by omega)))
            · exact absurd (R.inj c a hMc ha h3) hca
            · have := h.sib ha hMc ha' e h3
              exact .inr (.inr (.inl (by omega)))
      · exact .inr (.inr (.inl (by omega)))
      · exact .inr (.inr (.inr (by omega)))
    rcases Nat.lt_trichotomy (pl a) (pl b) with hl | hl | hl
    · rcases key b a (by omega) hb ha hl with h1 | h1 | h1 | h1
      · exact .inr (.inl h1)
      · exact .inl h1
      · exact .inr (.inr (.inr h1))
      · exact .inr (.inr (.inl h1))
    · have : a = b := R.inj a b ha hb hl
      subst this
      exact .inl (.refl _)
    · exact key a b hk ha hb hl
theorem Numbered.over (h : Numbered M pl up o K S N) (R : Rpo E M pl) (T : Tree E M pl up m) (hall : ∀ v, M v → pl v < m) {a b : Nat} (ha : M a) (hb : M b) : (N a ≤ N b ∧ N b < N a + S a) ↔ On up b a := by
  constructor
  · rintro ⟨h1, h2⟩
    have hpa := h.pos ha
    have hpb := h.pos hb
    rcases h.tri R T hall _ a b (Nat.le_refl _) ha hb with h3 | h3 | h3 | h3
    · -- b is over a: they are the same
      rcases on_pl T.lt h3 with e | ⟨_, hl, _⟩
      · subst e; exact .refl _
      · cases h3 with
        | refl _ => omega
        | step e h4 =>
          have h5 := h.nest1 ha (T.lt _ _ e).1 e
          have h6 := h.nest T.lt (T.lt _ _ e).1 h4
          omega
    · exact h3
    · omega
    · omega
  · intro h3
    have h4 := h.nest T.lt hb h3
    have := h.pos hb
    omega
end
end Go.Proofs.YtdchhfdmingnaaaDoor

/- Layer 8, plain: how the blocks of a settled tree get their sizes, from the last one on, and then their numbers, from the first one on. Nothing of the program is named here. -/
namespace Go.Proofs.YtdchhfdmingnaaaDoor
set_option linter.unusedVariables false
theorem sumTo_zero {w : Nat → Nat} : ∀ {k : Nat}, (∀ i, i < k → w i = 0) → sumTo w k = 0
  | 0, _ => rfl
  | k + 1, h => by
    unfold sumTo
    rw [sumTo_zero (fun i hi => h i (by omega)), h k (by omega)]
theorem sumTo_at {w : Nat → Nat} : ∀ {k i : Nat}, i < k → w i ≤ sumTo w k
  | k + 1, i, h => by
    unfold sumTo
    by_cases e : i = k
    · subst e; omega
    · have := sumTo_at (w := w) (k := k) (i := i) (by omega); omega
theorem sumTo_set2 {w w' : Nat → Nat} {b : Nat} : ∀ {k : Nat}, b < k → (∀ v, v < k → v ≠ b → w' v = w v) → sumTo w' k + w b = sumTo w k + w' b
  | 0, hb, _ => absurd hb (by omega)
  | k + 1, hb, h => by
    unfold sumTo
    by_cases e : b = k
    · subst e
      rw [sumTo_same (w := w) (w' := w') (fun v hv => h v (by omega) (by omega))]
      omega
    · have ih := sumTo_set2 (w := w) (w' := w') (b := b) (k := k) (by omega) (fun v hv => h v (by omega))
      rw [h k (by omega) (fun e' => e e'.symm)]
      omega
def cwi (i : Nat) (up : Nat → Int) (o : Nat → Nat) (S : Nat → Nat) (v : Nat) : Nat → Nat := fun k => if i ≤ k ∧ up (o k) = (v : Int) then S (o k) else 0
theorem cwi_zero (up : Nat → Int) (o : Nat → Nat) (S : Nat → Nat) (v : Nat) : cwi 0 up o S v = cw up o S v := by
  funext k; simp [cwi, cw]
structure Lined (M : Nat → Prop) (pl : Nat → Nat) (up : Nat → Int) (o : Nat → Nat) (K : Nat) : Prop where
  at_ : ∀ c, M c → o (pl c) = c ∧ pl c < K
  met : ∀ k, k < K → M (o k) ∧ pl (o k) = k
  lt : ∀ v c : Nat, up v = (c : Int) → M c ∧ pl c < pl v
  up0 : ∀ v, M v → pl v ≠ 0 → 0 ≤ up v
  low : ∀ v, -1 ≤ up v
structure SizeSt (M : Nat → Prop) (pl : Nat → Nat) (up : Nat → Int) (o : Nat → Nat) (K i : Nat) (S : Nat → Nat) : Prop where
  sum : ∀ v, M v → S v = (if i ≤ pl v then 1 else 0) + sumTo (cwi i up o S v) K
  pend : 1 ≤ i → sumTo (fun k => S (o k)) i + i = K
  small : ∀ v, M v → S v ≤ K
section
variable {M : Nat → Prop} {pl : Nat → Nat} {up : Nat → Int} {o : Nat → Nat} {K i : Nat} {S : Nat → Nat}
theorem Lined.ne (h : Lined M pl up o K) {j k : Nat} (hj : j < K) (hk : k < K) (hne : j ≠ k) : o j ≠ o k := fun e => by
  have h1 := (h.met j hj).2
  have h2 := (h.met k hk).2
  rw [e] at h1
  omega
theorem SizeSt.start (hS : ∀ v, M v → S v = 0) (h : Lined M pl up o K) : SizeSt M pl up o K K S := by
  refine ⟨fun v hv => ?_, fun _ => ?_, fun v hv => by rw [hS v hv]; omega⟩
  · rw [hS v hv, if_neg (by have := (h.at_ v hv).2; omega), sumTo_zero fun k hk => by unfold cwi; rw [if_neg (by omega)]]
  · rw [sumTo_zero fun k hk => hS _ (h.met k hk).1]; omega
def sizeUp (up : Nat → Int) (S : Nat → Nat) (b : Nat) : Nat → Nat := fun v => if v = b then S b + 1 else if up b = (v : Int) then S v + (S b + 1) else S v
theorem SizeSt.step (L : Lined M pl up o K) (h : SizeSt M pl up o K (i + 1) S) (hi : i < K) : SizeSt M pl up o K i (sizeUp up S (o i)) := by
  obtain ⟨hMb, hpb⟩ := L.met i hi
  have hp := h.pend (by omega)
  simp only [sumTo] at hp
  have hne : ∀ k, k < K → k ≠ i → o k ≠ o i := fun k h2 h1 => L.ne h2 hi h1
  have hbi : ¬ up (o i) = ((o i : Nat) : Int) := fun e => by have := (L.lt _ _ e).2; omega
  have hS' : ∀ k, i < k → k < K → sizeUp up S (o i) (o k) = S (o k) := fun k h1 h2 => by
    unfold sizeUp
    rw [if_neg (hne k h2 (by omega)), if_neg fun e => by
      have h3 := (L.lt _ _ e).2
      rw [(L.met k h2).2, hpb] at h3
      omega]
  have hb : sizeUp up S (o i) (o i) = S (o i) + 1 := by unfold sizeUp; rw [if_pos rfl]
  have hsum : ∀ v, sumTo (cwi i up o (sizeUp up S (o i)) v) K = sumTo (cwi (i + 1) up o S v) K + (if up (o i) = (v : Int) then S (o i) + 1 else 0) := fun v => by
    have h1 := sumTo_set2 (w := cwi (i + 1) up o S v) (w' := cwi i up o (sizeUp up S (o i)) v) (b := i) (k := K) hi (fun k hkK hki => by
      unfold cwi
      by_cases hik : i < k
      · rw [hS' k hik hkK]
        by_cases e : up (o k) = (v : Int)
        · rw [if_pos ⟨by omega, e⟩, if_pos ⟨by omega, e⟩]
        · rw [if_neg (fun h => e h.2), if_neg (fun h => e h.2)]
      · rw [if_neg (by omega), if_neg (by omega)])
    have h2 : cwi (i + 1) up o S v i = 0 := by unfold cwi; rw [if_neg (by omega)]
    have h3 : cwi i up o (sizeUp up S (o i)) v i = (if up (o i) = (v : Int) then S (o i) + 1 else 0) := by
      unfold cwi
      rw [hb]
      by_cases e : up (o i) = (v : Int)
      · rw [if_pos ⟨Nat.le_refl _, e⟩, if_pos e]
      · rw [if_neg (fun h => e h.2), if_neg e]
    omega
  have hv : ∀ v, M v → pl v < i → S v + S (o i) ≤ sumTo (fun k => S (o k)) i + S (o i) := fun v hv hl => by
    have := sumTo_at (w := fun k => S (o k)) hl
    simp only [(L.at_ v hv).1] at this
    omega
  refine ⟨fun v hv => ?_, fun h1 => ?_, fun v hMv => ?_⟩
  · rw [hsum v]
    have h0 := h.sum v hv
    by_cases e : v = o i
    · subst e
      rw [hb, if_neg hbi, if_pos (by omega)]
      rw [if_neg (by omega)] at h0
      omega
    · have hpl : pl v ≠ i := fun h3 => e (by rw [← (L.at_ v hv).1, h3])
      have hle : (i ≤ pl v) = (i + 1 ≤ pl v) := propext (by omega)
      by_cases e2 : up (o i) = (v : Int)
      · rw [if_pos e2]
        have : sizeUp up S (o i) v = S v + (S (o i) + 1) := by unfold sizeUp; rw [if_neg e, if_pos e2]
        rw [this, if_neg (by have := (L.lt _ _ e2).2; omega)]
        rw [if_neg (by have := (L.lt _ _ e2).2; omega)] at h0
        omega
      · rw [if_neg e2]
        have : sizeUp up S (o i) v = S v := by unfold sizeUp; rw [if_neg e, if_neg e2]
        rw [this, Nat.add_zero]
        simp only [hle]
        exact h0
  · -- the one next over it has what it had
    obtain ⟨c, hc⟩ := Int.eq_ofNat_of_zero_le (L.up0 (o i) hMb (by omega))
    have hlt := L.lt _ _ hc
    rw [hpb] at hlt
    have h3 := sumTo_set2 (w := fun k => S (o k)) (w' := fun k => sizeUp up S (o i) (o k)) (b := pl c) (k := i) hlt.2 (fun k hk hkc => by
      unfold sizeUp
      rw [if_neg (hne k (by omega) (by omega)), if_neg fun e => ?_]
      have h4 := Int.ofNat.inj (hc.symm.trans e)
      rw [h4] at hkc
      exact hkc (L.met k (by omega)).2.symm)
    have h5 : sizeUp up S (o i) (o (pl c)) = S (o (pl c)) + (S (o i) + 1) := by
      rw [(L.at_ c hlt.1).1]
      unfold sizeUp
      rw [if_neg (fun e => by subst e; omega), if_pos hc]
    simp only [h5] at h3
    omega
  · by_cases e : v = o i
    · subst e; rw [hb]; omega
    · by_cases e2 : up (o i) = (v : Int)
      · have : sizeUp up S (o i) v = S v + (S (o i) + 1) := by unfold sizeUp; rw [if_neg e, if_pos e2]
        have h3 := (L.lt _ _ e2).2
        rw [hpb] at h3
        have := hv v hMv h3
        omega
      · have : sizeUp up S (o i) v = S v := by unfold sizeUp; rw [if_neg e, if_neg e2]
        rw [this]; exact h.small v hMv
structure Sized (M : Nat → Prop) (up : Nat → Int) (o : Nat → Nat) (K : Nat) (S : Nat → Nat) : Prop where
  size : ∀ v, M v → S v = 1 + sumTo (cw up o S v) K
  small : ∀ v, M v → S v ≤ K
theorem SizeSt.done (h : SizeSt M pl up o K 0 S) : Sized M up o K S := ⟨fun v hv => by
  have := h.sum v hv
  rwa [if_pos (Nat.zero_le _), cwi_zero] at this, h.small⟩
structure NumSt (M : Nat → Prop) (pl : Nat → Nat) (up : Nat → Int) (o : Nat → Nat) (K i : Nat) (S N R : Nat → Nat) : Prop where
  num : ∀ c v : Nat, M c → pl c < i → up c = (v : Int) → N c = N v + 1 + sumTo (cw up o S v) (pl c)
  free : ∀ v, M v → pl v < i → R v = N v + 1 + sumTo (cw up o S v) i
  fit : ∀ v, M v → pl v < i → N v + S v ≤ K
theorem NumSt.start {N R : Nat → Nat} : NumSt M pl up o K 0 S N R := ⟨fun _ _ _ h => absurd h (by omega), fun _ _ h => absurd h (by omega), fun _ _ h => absurd h (by omega)⟩
theorem NumSt.first {N R R' : Nat → Nat} (L : Lined M pl up o K) (Z : Sized M up o K S) (h : NumSt M pl up o K 0 S N R) (hK : 0 < K) (hu : up (o 0) < 0) (hN : N (o 0) = 0) (hR : R' (o 0) = 1) : NumSt M pl up o K 1 S N R' := by
  have h0 : ∀ v, M v → pl v < 1 → v = o 0 := fun v hv hl => by rw [← (L.at_ v hv).1, show pl v = 0 by omega]
  refine ⟨fun c v hc hl e => ?_, fun v hv hl => ?_, fun v hv hl => ?_⟩
  · rw [h0 c hc hl] at e; omega
  · rw [h0 v hv hl, hR, hN, sumTo_zero fun k hk => ?_]
    unfold cw
    rw [if_neg fun e => by
      have : k = 0 := by omega
      subst this
      omega]
  · rw [h0 v hv hl, hN]
    have := Z.small _ (L.met 0 hK).1
    omega
theorem NumSt.step {N R N' R' : Nat → Nat} (L : Lined M pl up o K) (Z : Sized M up o K S) (h : NumSt M pl up o K i S N R) (hi : i < K) {c : Nat} (hc : up (o i) = (c : Int))
    (hN : N' (o i) = R c) (hNo : ∀ v, M v → v ≠ o i → N' v = N v) (hRb : R' (o i) = R c + 1) (hRc : R' c = R c + S (o i)) (hRo : ∀ v, M v → v ≠ o i → v ≠ c → R' v = R v) : NumSt M pl up o K (i + 1) S N' R' := by
  obtain ⟨hMb, hpb⟩ := L.met i hi
  have hlt := L.lt _ _ hc
  rw [hpb] at hlt
  have hcb : c ≠ o i := fun e => by rw [e] at hlt; omega
  have hcR := h.free c hlt.1 hlt.2
  have hb : ∀ v, M v → pl v < i + 1 → v ≠ o i → pl v < i := fun v hv hl hne => by
    have : pl v ≠ i := fun e => hne (by rw [← (L.at_ v hv).1, e])
    omega
  have hcw : ∀ v : Nat, v ≠ c → cw up o S v i = 0 := fun v hv => by
    unfold cw
    rw [if_neg fun e => hv (Int.ofNat.inj (e.symm.trans hc))]
  have hfitc := h.fit c hlt.1 hlt.2
  refine ⟨fun d v hd hl e => ?_, fun v hv hl => ?_, fun v hv hl => ?_⟩
  · have hv := L.lt _ _ e
    by_cases e1 : d = o i
    · subst e1
      have : v = c := Int.ofNat.inj (e.symm.trans hc)
      subst this
      rw [hN, hNo v hv.1 hcb, hpb]
      exact hcR
    · have hvb : v ≠ o i := fun e2 => by
        have := hb d hd hl e1
        rw [e2] at hv
        omega
      rw [hNo d hd e1, hNo v hv.1 hvb]
      exact h.num d v hd (hb d hd hl e1) e
  · simp only [sumTo]
    by_cases e1 : v = o i
    · subst e1
      rw [hRb, hN, hcw _ (fun e => hcb e.symm), sumTo_zero fun k hk => ?_]
      unfold cw
      rw [if_neg fun e => by
        have := (L.lt _ _ e).2
        rw [hpb, (L.met k (by omega)).2] at this
        omega]
    · have hl' := hb v hv hl e1
      rw [hNo v hv e1]
      by_cases e2 : v = c
      · subst e2
        have : cw up o S v i = S (o i) := by unfold cw; rw [if_pos hc]
        rw [hRc, hcR, this]
        omega
      · rw [hRo v hv e1 e2, hcw v e2, h.free v hv hl']
        omega
  · by_cases e1 : v = o i
    · subst e1
      rw [hN, hcR]
      have h3 := Z.size c hlt.1
      have h4 := sumTo_mono (w := cw up o S c) (show i + 1 ≤ K from hi)
      have : cw up o S c i = S (o i) := by unfold cw; rw [if_pos hc]
      simp only [sumTo] at h4
      omega
    · rw [hNo v hv e1]
      exact h.fit v hv (hb v hv hl e1)
theorem NumSt.done {N R : Nat → Nat} (L : Lined M pl up o K) (Z : Sized M up o K S) (h : NumSt M pl up o K K S N R) : Numbered M pl up o K S N :=
  ⟨L.at_, Z.size, fun c v hc e => h.num c v hc (L.at_ c hc).2 e⟩
end
end Go.Proofs.YtdchhfdmingnaaaDoor
