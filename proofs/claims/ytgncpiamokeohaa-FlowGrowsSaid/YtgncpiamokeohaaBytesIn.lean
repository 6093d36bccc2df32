/- A slice of bytes that is read (it came in, or the call made it, or it is a part of such a one; nil or not): told by the list of its bytes; its parts, its text, and what append makes of it. Nothing of the program is named here. -/
import Derived.Test.YtgncpiamokeohaaOwnB
import Derived.Test.YtgncpiamokeohaaInts
import Derived.Laws.AppendOwnNone
import Derived.Laws.Slices
namespace Go.Proofs.Ytgncpiamokeohaa
open Go.RowKit (wrap64 intOf Below)
set_option linter.unusedVariables false

/-- The slice (a, n, c) reads as the bytes L. -/
def BytesAt (w : World) (a : Option Addr) (n c : Nat) (L : List UInt8) : Prop :=
  L.length = n ∧ n ≤ c ∧ c ≤ maxLen ∧ (a = none → c = 0) ∧ (0 < n → ∃ g off, a = some ⟨g, off, none⟩ ∧ g < w.heap.size) ∧
  ∀ ad, a = some ad → ∀ j (h : j < L.length), w.cell? (ad.add j) = some (byteV L[j])

theorem BytesAt.nil (w : World) : BytesAt w none 0 0 [] := ⟨rfl, Nat.le_refl _, Nat.zero_le _, fun _ => rfl, fun h => absurd h (by omega), fun _ h => by cases h⟩
theorem BytesAt.below {w w' : World} {a : Option Addr} {n c : Nat} {L : List UInt8} {B : Nat} (h : BytesAt w a n c L) (hb : Below B w w') (hB : w.heap.size ≤ B) : BytesAt w' a n c L := by
  obtain ⟨h1, h2, h3, h4, h5, h6⟩ := h
  refine ⟨h1, h2, h3, h4, fun hn => ?_, fun ad ha j hj => ?_⟩
  · obtain ⟨g, off, e, hg⟩ := h5 hn
    exact ⟨g, off, e, Nat.lt_of_lt_of_le hg hb.size⟩
  · obtain ⟨g, off, e, hg⟩ := h5 (by omega)
    rw [ha] at e
    cases e
    rw [hb.cell (p := (⟨g, off, none⟩ : Addr).add j) (by rw [addr_block]; exact Nat.lt_of_lt_of_le hg hB)]
    exact h6 _ ha j hj
theorem BytesAt.drewN {w : World} {a : Option Addr} {n c : Nat} {L : List UInt8} (h : BytesAt w a n c L) (q : Nat) : BytesAt (w.drewN q) a n c L :=
  h.below (B := w.heap.size) ⟨rfl, rfl, rfl, Nat.le_refl _, fun _ _ => rfl⟩ (Nat.le_refl _)
/-- Where its cells lie, if there are any. -/
theorem BytesAt.cells {w : World} {a : Option Addr} {n c : Nat} {L : List UInt8} (h : BytesAt w a n c L) (hn : 0 < n) :
    ∃ g off, a = some ⟨g, off, none⟩ ∧ g < w.heap.size ∧ ∀ j (h : j < L.length), w.cell? ⟨g, off + j, none⟩ = some (byteV L[j]) := by
  obtain ⟨h1, h2, h3, h4, h5, h6⟩ := h
  obtain ⟨g, off, e, hg⟩ := h5 hn
  refine ⟨g, off, e, hg, fun j hj => ?_⟩
  have := h6 _ e j hj
  rwa [addr_plain] at this
/-- What the call made is read so. -/
theorem OwnsB.at {w : World} {B : Nat} {e : TypeId} {v : Value} {l : List UInt8} (h : OwnsB w B e v l) : ∃ a n c, v = .slice a n c ∧ BytesAt w a n c l := by
  have hown := h
  rcases h.2 with ⟨rfl, h0⟩ | ⟨g, cap, cur, rfl, hB, hg, h1, h2, _⟩
  · obtain rfl := List.eq_nil_of_length_eq_zero h0
    exact ⟨none, 0, 0, rfl, BytesAt.nil w⟩
  · refine ⟨_, _, cap, rfl, rfl, h1, h2, (fun h => by cases h), fun _ => ⟨g, 0, rfl, (hown.lt g rfl).2⟩, fun ad ha j hj => ?_⟩
    cases ha
    exact World.ownsRow.cells hown (g := g) rfl j (byteV l[j]) (by rw [List.getElem?_map, List.getElem?_eq_getElem hj]; rfl)

/-- Its text. -/
theorem run_text {P : Program} {w : World} {a : Option Addr} {n c : Nat} {L : List UInt8} (h : BytesAt w a n c L) (src dst e : TypeId) (hs : P.underlying src = some (.slice e)) (he : P.underlying e = some (.int .u8)) (hd : P.underlying dst = some .string) :
    (convert src dst (.slice a n c)).run P w = .ok (.string (mk L)) w := by
  obtain ⟨h1, h2, h3, h4, h5, h6⟩ := h
  subst h1
  cases a with
  | none =>
    have : c = 0 := h4 rfl
    have h0 : L = [] := List.eq_nil_of_length_eq_zero (by omega)
    subst h0
    rw [run_convert_bytes_string w src dst e none _ c hs he hd]
    simp [Conv.bytesToString]
    rfl
  | some ad => exact run_convert_bytes_back w src dst e ad c L hs he hd (fun j hj => h6 ad rfl j hj)

/-- The address from place k on. -/
def fromA (a : Option Addr) (c k : Nat) : Option Addr := if c = k then a else a.map (·.add k)
theorem fromA_some (a : Addr) (c k : Nat) (h : k < c) : fromA (some a) c k = some (a.add k) := by
  unfold fromA; rw [if_neg (by omega)]; rfl
theorem BytesAt.drop {w : World} {a : Option Addr} {n c : Nat} {L : List UInt8} (h : BytesAt w a n c L) (k : Nat) (hk : k ≤ n) : BytesAt w (fromA a c k) (n - k) (c - k) (L.drop k) := by
  obtain ⟨h1, h2, h3, h4, h5, h6⟩ := h
  refine ⟨by rw [List.length_drop, h1], by omega, by omega, fun ha => ?_, fun hn => ?_, fun ad ha j hj => ?_⟩
  · unfold fromA at ha
    split at ha
    · have := h4 ha; omega
    · cases a with
      | none => have := h4 rfl; omega
      | some x => cases ha
  · obtain ⟨g, off, e, hg⟩ := h5 (by omega)
    subst e
    rw [fromA_some _ _ _ (by omega), addr_plain]
    exact ⟨g, off + k, rfl, hg⟩
  · rw [List.length_drop] at hj
    obtain ⟨g, off, e, hg⟩ := h5 (by omega)
    subst e
    rw [fromA_some _ _ _ (by omega), addr_plain] at ha
    cases ha
    have := h6 _ rfl (k + j) (by omega)
    rw [addr_plain] at this ⊢
    rw [show off + k + j = off + (k + j) by omega, this, List.getElem_drop]
theorem BytesAt.take {w : World} {a : Option Addr} {n c : Nat} {L : List UInt8} (h : BytesAt w a n c L) (k : Nat) (hk : k ≤ n) : BytesAt w a k c (L.take k) := by
  obtain ⟨h1, h2, h3, h4, h5, h6⟩ := h
  refine ⟨by rw [List.length_take, h1]; omega, by omega, h3, h4, fun hn => h5 (by omega), fun ad ha j hj => ?_⟩
  rw [List.length_take] at hj
  rw [h6 ad ha j (by omega), List.getElem_take]

theorem size_of_one {P : Program} {e : TypeId} (h : (P.info? e).map (fun i => (i.zero, i.size, i.bytes)) = some (some (.int .u8 0), 1, 1)) (w : World) : (sizeOf e).run P w = .ok 1 w := by
  obtain ⟨i0, hi, hz0, hz1, hz2⟩ := info_parts h
  simp [sizeOf, typeInfo, hi, hz1]
theorem add_zero (a : Addr) : a.add 0 = a := by unfold Addr.add; simp
theorem elem_is {P : Program} {t e : TypeId} (ht : P.underlying t = some (.slice e)) : P.elem t = e := by simp [Program.elem, ht]
section
variable {P : Program} {t e : TypeId} (ht : P.underlying t = some (.slice e)) (hz : ∀ w, (sizeOf e).run P w = .ok 1 w)
theorem under_elem {P : Program} {t e : TypeId} (ht : P.underlying t = some (.slice e)) : P.underlying t = some (.slice (P.elem t)) := by rw [elem_is ht]; exact ht
include ht hz
/-- 'b[k:]'. -/
theorem run_from (a : Option Addr) (n c k : Nat) (hk : k ≤ n) (w : World) : (Instr.slice t (.slice a n c) (some (.int .i64 (k : Int))) none none).run P w = .ok (.slice (fromA a c k) (n - k) (c - k)) w := by
  rw [run_slice_l w t a n c (under_elem ht) .i64 k (by omega) (by omega), elem_is ht, hz w]
  simp [Result.andThen, sliced, fromA]
/-- 'b[:k]'. -/
theorem run_to (a : Option Addr) (n c k : Nat) (hk : k ≤ c) (w : World) : (Instr.slice t (.slice a n c) none (some (.int .i64 (k : Int))) none).run P w = .ok (.slice a k c) w := by
  rw [run_slice_h w t a n c (under_elem ht) .i64 k (by omega) (by omega), elem_is ht, hz w]
  cases a <;> simp [Result.andThen, sliced, add_zero]
/-- 'b[k:h]'. -/
theorem run_part (a : Option Addr) (n c k h : Nat) (hk : k ≤ h) (hh : h ≤ c) (w : World) : (Instr.slice t (.slice a n c) (some (.int .i64 (k : Int))) (some (.int .i64 (h : Int))) none).run P w = .ok (.slice (fromA a c k) (h - k) (c - k)) w := by
  rw [run_slice_lh w t a n c (under_elem ht) .i64 .i64 k h (by omega) (by omega) (by omega), elem_is ht, hz w]
  simp [Result.andThen, sliced, fromA]
end

/-- 'append(b, x...)': b the call's own, x whatever is read. -/
theorem wpList_append_read {P : Program} (w : World) {ops : Array Oper} {rest : List Oper} {o : Oper} {a : Act} {Q : Exit → Act → World → Prop} (hgd : o.guard = none) (s x : Operand) (t : TypeId)
    (ho : o.op = .call { callee := .builtin .append, args := #[s, x], argTypes := #[t, t] }) (e : TypeId) (ht : P.underlying t = some (.slice e))
    (hinfo : (P.info? e).map (fun i => (i.zero, i.size, i.bytes)) = some (some (.int .u8 0), 1, 1))
    (B : Nat) (v : Value) (l : List UInt8) (hs : a.eval s = v) (hown : OwnsB w B e v l) (hB : B ≤ w.heap.size)
    (xa : Option Addr) (m c : Nat) (news : List UInt8) (hx : a.eval x = .slice xa m c) (hat : BytesAt w xa m c news)
    (hlen : l.length + m ≤ 140737488355328)
    (h : ∀ va vn vc w', OwnsB w' B e (.slice va vn vc) (l ++ news) → BytesAt w' va vn vc (l ++ news) → Below B w w' → wpList P ops Q rest (a.put o.dst (.slice va vn vc)) w') : wpList P ops Q (o :: rest) a w := by
  obtain ⟨i0, hi, hz0, hz1, hz2⟩ := info_parts hinfo
  obtain ⟨h1, h2, h3, h4, h5, h6⟩ := hat
  subst h1
  cases xa with
  | none =>
    have : c = 0 := h4 rfl
    have h0 : news = [] := List.eq_nil_of_length_eq_zero (by omega)
    subst h0 this
    refine wpList_append_own_none hgd s x t ho B e i0 1 ht hi v l.length (l.map byteV) hs hown hx ?_
    obtain ⟨va, vn, vc, rfl, hat⟩ := hown.at
    exact h va vn vc w (by rw [List.append_nil]; exact hown) (by rw [List.append_nil]; exact hat) (Below.refl _ _)
  | some ad =>
    refine wpList_append_own _ hgd s x t ho B e i0 (.int .u8 0) 1 1 ht hi hz0 hz1 hz2 rfl (by decide) v l.length (l.map byteV) hs hown ad news.length c (news.map byteV) hx (by simp) (fun j u hu => ?_) byteV_one (by unfold maxLen; omega) (by omega) hB ?_
    · rw [List.getElem?_map] at hu
      obtain ⟨z, hz, rfl⟩ := Option.map_eq_some_iff.1 hu
      obtain ⟨hj, rfl⟩ := List.getElem?_eq_some_iff.1 hz
      exact h6 ad rfl j hj
    · intro v' w' hown' hgrow _
      have hown2 : OwnsB w' B e v' (l ++ news) := by
        show w'.ownsRow B e 1 v' (l ++ news).length ((l ++ news).map byteV)
        rw [List.map_append, List.length_append]
        exact hown'
      obtain ⟨va, vn, vc, rfl, hat⟩ := hown2.at
      exact h va vn vc w' hown2 hat (Below.grown (Below.refl B w) hgrow hB (fun k hk => (hown.lt k hk).1))
/-- An empty row that was just written out ('[]byte{}') is the call's own. -/
theorem OwnsB.empty (w : World) (e : TypeId) : OwnsB (w.alloc (.cells #[] e)) w.heap.size e (.slice (some ⟨w.heap.size, 0, none⟩) 0 0) [] :=
  OwnsB.built [] #[] 0 rfl (Nat.le_refl _) rfl (Nat.zero_le _)
theorem OwnsB.mono {w : World} {B B' : Nat} {e : TypeId} {v : Value} {l : List UInt8} (h : OwnsB w B e v l) (hB : B' ≤ B) : OwnsB w B' e v l := by
  refine ⟨h.1, ?_⟩
  rcases h.2 with hn | ⟨g, cap, cur, rfl, hg, rest⟩
  · exact .inl hn
  · exact .inr ⟨g, cap, cur, rfl, Nat.le_trans hB hg, rest⟩
end Go.Proofs.Ytgncpiamokeohaa
