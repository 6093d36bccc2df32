/- Layer 2, P2.2: text.Unquote, walked: it reads just the quotes, each as the text that it tells. -/
import Derived.Test.YtapkjajeghiacaaTextFirst
namespace Go.Proofs.Ytapkjajeghiacaa
open Go.RowKit (wrap64 intOf Below)
set_option linter.unusedVariables false

def sizeV : Value → Nat | .string t => t.size | _ => 0
def UnqPost (L : List UInt8) (w : World) (e : Ending) (w' : World) : Prop :=
  ∃ (v : List UInt8) (ok : Bool), e = .returned (.tuple #[.string (mk v), .bool ok]) ∧ Reads L v ok ∧ Below w.heap.size w w'
theorem UnqPost.no {L : List UInt8} {w w' : World} (h : ∀ t, quoteL t ≠ L) (hb : Below w.heap.size w w') : UnqPost L w (.returned (.tuple #[.string ⟨#[]⟩, .bool false])) w' :=
  ⟨[], false, rfl, Or.inr ⟨rfl, rfl, h⟩, hb⟩
theorem UnqPost.yes {L v : List UInt8} {w w' : World} (h : quoteL v = L) (hb : Below w.heap.size w w') : UnqPost L w (.returned (.tuple #[.string (mk v), .bool true])) w' :=
  ⟨v, true, rfl, Or.inl ⟨rfl, h⟩, hb⟩

theorem first_yes (s : ByteArray) (w : World) (hs : s.size ≤ 140737488351232) (c : UInt8) (r : List UInt8) (h : firstP s.data.toList = some (c, r)) :
    Calls Try.prog 20 #[.string s] w fun e w' => e = .returned (.tuple #[.int .u8 (c.toNat : Int), .string (mk r), .bool true]) ∧ Below w.heap.size w w' := by
  refine (first_any s w hs (fun e => by rw [e] at h; cases h)).mono ?_
  rintro e w' ⟨c', r', ok, rfl, hy, hn, hb⟩
  cases ok
  · rw [hn rfl] at h; cases h
  · have := hy rfl
    rw [h] at this
    simp only [Option.some.injEq, Prod.mk.injEq] at this
    obtain ⟨rfl, rfl⟩ := this
    exact ⟨rfl, hb⟩
theorem first_no (s : ByteArray) (w : World) (hs : s.size ≤ 140737488351232) (hne : s.data.toList ≠ []) (h : firstP s.data.toList = none) :
    Calls Try.prog 20 #[.string s] w fun e w' => ∃ (c : UInt8) (r : List UInt8), e = .returned (.tuple #[.int .u8 (c.toNat : Int), .string (mk r), .bool false]) ∧ Below w.heap.size w w' := by
  refine (first_any s w hs hne).mono ?_
  rintro e w' ⟨c', r', ok, rfl, hy, hn, hb⟩
  cases ok
  · exact ⟨c', r', rfl, hb⟩
  · rw [hy rfl] at h; cases h

theorem no_head {L : List UInt8} (h : ∀ r, L ≠ 34 :: r) : ∀ t, quoteL t ≠ L := fun t e => h _ e.symm
theorem no_tail {L r : List UInt8} (hL : L = 34 :: r) (h : ∀ q, r ≠ q ++ [34]) : ∀ t, quoteL t ≠ L := fun t e => by
  rw [hL] at e
  exact h (encs t) (List.cons.inj e).2.symm
theorem no_piece {m acc l : List UInt8} (hm : m = encs acc ++ l) (hne : l ≠ []) (h : firstP l = none) : ∀ t, quoteL t ≠ 34 :: (m ++ [34]) := fun t e => by
  unfold quoteL at e
  have e2 : encs t = m := List.append_cancel_right (List.cons.inj e).2
  obtain ⟨q, rfl, hq⟩ := encs_cancel (a := acc) (t := t) (r := l) (by rw [← hm, e2])
  cases q with
  | nil => exact hne hq
  | cons c q => rw [hq, encs_cons, firstP_enc] at h; cases h
theorem next_piece {m acc l : List UInt8} {c : UInt8} {r : List UInt8} (hm : m = encs acc ++ l) (h : firstP l = some (c, r)) : m = encs (acc ++ [c]) ++ r := by
  rw [hm, firstP_sound h, encs_snoc, List.append_assoc]

theorem unq_head (s : ByteArray) (w : World) (hs : s.size ≤ 140737488351232) (h : ∀ r, s.data.toList ≠ 34 :: r) :
    Calls Try.prog 13 #[.string s] w (UnqPost s.data.toList w) := by
  have C1 := Lib.hid fun w => cutp_no s 34 w h
  have HF := Lib.hid (no_head h)
  clear h
  go_enter Try.func13, Try.ntmps13
  go_wp2_with (go_at_call 18; (with_reducible refine (C1.out _).mono ?_); rintro e w' ⟨rfl, rfl⟩)
  go_ret2
  exact UnqPost.no HF.out (Below.refl _ _)
theorem unq_tail (s t : ByteArray) (w : World) (hs : s.size ≤ 140737488351232) (hL : s.data.toList = 34 :: t.data.toList) (h : ∀ q, t.data.toList ≠ q ++ [34]) :
    Calls Try.prog 13 #[.string s] w (UnqPost s.data.toList w) := by
  have hts : t.size ≤ 140737488351232 := by have := list_len s; rw [hL] at this; simp only [List.length_cons, list_len] at this; omega
  have C1 := Lib.hid fun w => cutp_yes s t 34 w hL
  have C2 := Lib.hid fun w => cuts_no t 34 w hts h
  have HF := Lib.hid (no_tail hL h)
  clear h hL
  go_enter Try.func13, Try.ntmps13
  go_wp2_with (first | (go_at_call 18; (with_reducible refine (C1.out _).mono ?_); rintro e w' ⟨rfl, rfl⟩) | (go_at_call 19; (with_reducible refine (C2.out _).mono ?_); rintro e w' ⟨rfl, rfl⟩))
  go_ret2
  exact UnqPost.no HF.out (Below.refl _ _)
theorem unq_body (s t u : ByteArray) (w : World) (hs : s.size ≤ 140737488351232) (hL : s.data.toList = 34 :: t.data.toList) (ht : t.data.toList = u.data.toList ++ [34]) :
    Calls Try.prog 13 #[.string s] w (UnqPost s.data.toList w) := by
  have hts : t.size ≤ 140737488351232 := by have := list_len s; rw [hL] at this; simp only [List.length_cons, list_len] at this; omega
  have hus : u.size ≤ 140737488351232 := by have := list_len t; rw [ht] at this; simp only [List.length_append, List.length_cons, list_len] at this; omega
  have C1 := Lib.hid fun w => cutp_yes s t 34 w hL
  have C2 := Lib.hid fun w => cuts_yes t u 34 w hts ht
  obtain ⟨i0, hi, hz0, hz1, hz2⟩ := info_parts info_u8
  have hmk : ∀ x : World, (Instr.makeSlice 35 (.int .i64 0) (.int .i64 (u.size : Int))).run Try.prog x =
      .ok (.slice (some ⟨x.heap.size, 0, none⟩) 0 u.size) (x.alloc (.cells (madeCells #[.int .u8 0] u.size) 5)) := fun x => by
    have h := run_make (P := Try.prog) x 35 5 i0 (.int .u8 0) Try.underlying35 hi hz0 .i64 .i64 0 (u.size : Int) (by omega) (by omega) (by rw [hz2]; omega) (by omega)
    have e : ((u.size : Int)).toNat = u.size := by omega
    rw [e] at h
    simpa [hz1, Value.cells] using h
  clear hz0 hz1 hz2 hi
  have HQ : RowKit.Hid (s.data.toList = 34 :: (u.data.toList ++ [34])) := Lib.hid (by rw [hL, ht])
  clear hL ht
  go_enter Try.func13, Try.ntmps13
  go_wp2_with (first | (go_at_call 18; (with_reducible refine (C1.out _).mono ?_); rintro e w' ⟨rfl, rfl⟩) | (go_at_call 19; (with_reducible refine (C2.out _).mono ?_); rintro e w' ⟨rfl, rfl⟩))
  have HB1 := Lib.hid ((Below.refl w.heap.size w).alloc (Nat.le_refl _) (.cells (madeCells #[.int .u8 0] u.size) 5))
  have HO1 : RowKit.Hid (OwnsB (w.alloc (.cells (madeCells #[.int .u8 0] u.size) 5)) w.heap.size 5 (.slice (some ⟨w.heap.size, 0, none⟩) 0 u.size) []) := Lib.hid (OwnsB.made _ _ (Nat.le_refl _) (by unfold maxLen; omega) (by simp [size_madeCells]))
  clear hmk
  go_loopw [4, 6] (fun rv lv wr => ∃ (acc : List UInt8) (x : ByteArray), rv = .string x ∧ x.size ≤ 140737488351232 ∧ acc.length ≤ 140737488351232 ∧ RowKit.Hid (u.data.toList = encs acc ++ x.data.toList) ∧ RowKit.Hid (OwnsB wr w.heap.size 5 lv acc) ∧ RowKit.Hid (Below w.heap.size w wr)) (fun rv _ _ => sizeV rv)
  case atStart => exact ⟨[], u, rfl, hus, by simp, Lib.hid rfl, HO1, HB1⟩
  case round =>
    obtain ⟨acc, x, rfl, hx1, hacc, HM, HO, HB⟩ := hrel
    have hsz := HB.out.size
    by_cases hx : x.data.toList = []
    · have he1 : x.toList = [] := by rw [Lib.toList_data, hx]
      have he2 : x.toList.isEmpty = true := by rw [he1]; rfl
      have HF := Lib.hid (show quoteL acc = s.data.toList by rw [HQ.out, HM.out, hx, List.append_nil]; rfl)
      have hrun := run_string_own_all (P := Try.prog) HO.out 35 9 Try.underlying35 Try.underlying5 Try.underlying9
      clear hx
      go_wp2
      go_ret2
      exact UnqPost.yes HF.out HB.out
    · have he2 : x.toList.isEmpty = false := by
        rw [Lib.toList_data]
        cases h : x.data.toList with
        | nil => exact absurd h hx
        | cons => rfl
      have HX := Lib.hid hx
      cases hf : firstP x.data.toList with
      | none =>
        have C3 := Lib.hid fun w => first_no x w hx1 hx hf
        have HF := Lib.hid (show ∀ t, quoteL t ≠ s.data.toList by rw [HQ.out]; exact no_piece HM.out hx hf)
        clear hx hf
        go_wp2_with (go_at_call 20; (with_reducible refine (C3.out _).mono ?_); rintro e w1 ⟨c, r, rfl, hb1⟩; have HB1 := Lib.hid (HB.out.trans (hb1.mono hsz)); clear hb1)
        go_ret2
        exact UnqPost.no HF.out HB1.out
      | some p =>
        obtain ⟨c, r⟩ := p
        obtain ⟨y, hy⟩ : ∃ y : ByteArray, mk r = y := ⟨_, rfl⟩
        have hyr : y.data.toList = r := by rw [← hy, mk_list]
        have HN := Lib.hid (show u.data.toList = encs (acc ++ [c]) ++ y.data.toList by rw [hyr]; exact next_piece HM.out hf)
        have hlen : y.size < x.size := by
          have h1 := firstP_sound hf
          have h2 := (enc_len c).1
          have h3 := congrArg List.length h1
          rw [List.length_append, list_len, ← hyr, list_len] at h3
          omega
        have hacc2 : (acc ++ [c]).length ≤ 140737488351232 := by
          have h1 := congrArg List.length HN.out
          have h2 := (encs_len (acc ++ [c])).1
          rw [List.length_append, list_len, list_len] at h1
          omega
        have hacc3 : acc.length + 1 ≤ 140737488351232 := by simpa using hacc2
        have C3 := Lib.hid fun w => first_yes x w hx1 c r hf
        rw [hy] at C3
        have HA := Lib.hid hacc2
        clear hx hf hyr hacc2 hy
        go_wp2_with (first | (go_at_call 20; (with_reducible refine (C3.out _).mono ?_); rintro e w1 ⟨rfl, hb1⟩; have HB1 := Lib.hid (HB.out.trans (hb1.mono hsz)); have HO1 := Lib.hid (HO.out.below hb1); have hsz1 := HB1.out.size; clear hb1) | (at_builtin; refine wpList_append_bytes _ rfl _ _ 35 rfl 5 Try.underlying35 info_u8 w.heap.size _ _ rfl HO1.out hsz1 _ 1 1 _ [c] rfl (by simp) rfl rfl (by omega) ?_; intro v2 w2 hown2 hb2 hz2; have HO2 := Lib.hid hown2; have HB2 := Lib.hid (HB1.out.trans hb2); clear hown2 hb2 hz2))
        go_roundw
        case rel => exact ⟨acc ++ [c], y, rfl, by omega, HA.out, HN, HO2, HB2⟩
        case measure => simp [sizeV]; omega
theorem unq_any (s : ByteArray) (w : World) (hs : s.size ≤ 140737488351232) :
    Calls Try.prog 13 #[.string s] w (UnqPost s.data.toList w) := by
  by_cases h : ∃ r, s.data.toList = 34 :: r
  · obtain ⟨r, hr⟩ := h
    by_cases h2 : ∃ q, r = q ++ [34]
    · obtain ⟨q, rfl⟩ := h2
      exact unq_body s (mk (q ++ [34])) (mk q) w hs (by rw [mk_list, hr]) (by rw [mk_list, mk_list])
    · exact unq_tail s (mk r) w hs (by rw [mk_list, hr]) (fun q hq => h2 ⟨q, by rw [mk_list] at hq; exact hq⟩)
  · exact unq_head s w hs (fun r hr => h ⟨r, hr⟩)
end Go.Proofs.Ytapkjajeghiacaa
