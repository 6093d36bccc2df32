/- Layer 2, P2.2: text.first and text.sixteen, walked: the byte that a piece of a quote begins with, and what stands behind it. -/
import Derived.Test.YtapkjajeghiacaaTextQuote
import Derived.Test.YtapkjajeghiacaaInts
import Derived.Test.YtapkjajeghiacaaShelf
namespace Go.Proofs.Ytapkjajeghiacaa
open Go.RowKit (wrap64 intOf Below)
set_option linter.unusedVariables false

/-- What comes of the first piece: a byte and the rest, where it is one. -/
def FirstPost (l : List UInt8) (w : World) (e : Ending) (w' : World) : Prop :=
  ∃ (c : UInt8) (r : List UInt8) (ok : Bool), e = .returned (.tuple #[.int .u8 (c.toNat : Int), .string (mk r), .bool ok]) ∧ (ok = true → firstP l = some (c, r)) ∧ (ok = false → firstP l = none) ∧ Below w.heap.size w w'

theorem idx_any (c : UInt8) (w : World) :
    Calls Try.prog 28 #[.string ⟨#[48, 49, 50, 51, 52, 53, 54, 55, 56, 57, 97, 98, 99, 100, 101, 102]⟩, .int .u8 (c.toNat : Int)] w fun e w' => e = .returned (.int .i64 (hx c)) ∧ w = w' := by
  refine (Try.strings_IndexByte _ _ w).mono ?_
  rintro e w' ⟨rfl, rfl⟩
  have h : ((c.toNat : Int)).toNat.toUInt8 = c := by simp
  rw [h]
  exact ⟨rfl, rfl⟩

theorem or16 (h l : Int) (h0 : 0 ≤ h) (h1 : h < 16) (l0 : 0 ≤ l) (l1 : l < 16) : bits BinOp.or IntKind.i64 (h * 16) l % 256 = 16 * h + l := by
  obtain ⟨a, rfl⟩ := Int.eq_ofNat_of_zero_le h0
  obtain ⟨b, rfl⟩ := Int.eq_ofNat_of_zero_le l0
  have H : ∀ i j : Fin 16, bits BinOp.or IntKind.i64 ((i.val : Int) * 16) (j.val : Int) % 256 = 16 * (i.val : Int) + (j.val : Int) := by decide +kernel
  exact H ⟨a, by omega⟩ ⟨b, by omega⟩
theorem extract_tail (s : ByteArray) (n : Nat) : s.extract n s.size = mk (s.data.toList.drop n) := by
  unfold mk
  apply ByteArray.ext
  apply Array.toList_inj.1
  rw [Lib.extract_data]
  exact List.take_of_length_le (by rw [List.length_drop, list_len]; exact Nat.le_refl _)

/-- What two digits come to. -/
def SixPost (l : List UInt8) (w : World) (e : Ending) (w' : World) : Prop :=
  ∃ (c : UInt8) (r : List UInt8) (ok : Bool), e = .returned (.tuple #[.int .u8 (c.toNat : Int), .string (mk r), .bool ok]) ∧
    (ok = true → ∃ a b, l = a :: b :: r ∧ hex2 a b = some c) ∧ (ok = false → l.length < 2 ∨ ∃ a b q, l = a :: b :: q ∧ hex2 a b = none) ∧ Below w.heap.size w w'
theorem below_drewN (w : World) (n : Nat) : Below w.heap.size w (w.drewN n) := ⟨rfl, rfl, rfl, Nat.le_refl _, fun _ _ => rfl⟩
theorem below_drewN2 (w : World) (n m : Nat) : Below w.heap.size w ((w.drewN n).drewN m) := ⟨rfl, rfl, rfl, Nat.le_refl _, fun _ _ => rfl⟩
theorem six_short (s : ByteArray) (w : World) (hn : s.size < 2) :
    Calls Try.prog 25 #[.string s] w (SixPost s.data.toList w) := by
  go_enter Try.func25, Try.ntmps25
  go_wp2
  refine bodyPost_ret (v := .tuple #[.int .u8 0, .string ⟨#[]⟩, .bool false]) (by simp [results, Try.results25, go_sem]) rfl ?_
  exact ⟨0, [], false, rfl, (fun h => by cases h), (fun _ => Or.inl (by rw [list_len]; exact hn)), Below.refl _ _⟩
theorem six_bad (s : ByteArray) (w : World) (hs : s.size ≤ 140737488351232) (a b : UInt8) (r : List UInt8) (hL : s.data.toList = a :: b :: r) (hbad : hx a < 0 ∨ hx b < 0) :
    Calls Try.prog 25 #[.string s] w (SixPost s.data.toList w) := by
  have hn : 2 ≤ s.size := by rw [← list_len, hL]; simp
  have h0 : s[0] = a := by have := list_at s 0 (by omega); rw [hL] at this; simpa using this.symm
  have h1 : s[1] = b := by have := list_at s 1 (by omega); rw [hL] at this; simpa using this.symm
  have ra := hx_range a
  have rb := hx_range b
  have HL := Lib.hid hL
  have HB := Lib.hid hbad
  clear hL
  rcases hbad with hbad | hbad
  all_goals
    go_enter Try.func25, Try.ntmps25
    go_wp2
    go_quiet ((go_at_call 28; first | exact quiet_add_left (idx_any _ _) | exact quiet_left (idx_any _ _)))
    go_wp2
    all_goals refine bodyPost_ret (v := .tuple #[.int .u8 0, .string ⟨#[]⟩, .bool false]) (by simp [results, Try.results25, go_sem]) rfl ?_
    all_goals exact ⟨0, [], false, rfl, (fun h => by cases h), (fun _ => Or.inr ⟨a, b, r, HL.out, by unfold hex2; rw [if_pos HB.out]⟩), below_drewN _ _⟩
theorem six_good (s : ByteArray) (w : World) (hs : s.size ≤ 140737488351232) (a b : UInt8) (r : List UInt8) (hL : s.data.toList = a :: b :: r) (ha : 0 ≤ hx a) (hb : 0 ≤ hx b) :
    Calls Try.prog 25 #[.string s] w (SixPost s.data.toList w) := by
  have hn : 2 ≤ s.size := by rw [← list_len, hL]; simp
  have hn2 : (2 : Int) ≤ (s.size : Int) := by omega
  have h0 : s[0] = a := by have := list_at s 0 (by omega); rw [hL] at this; simpa using this.symm
  have h1 : s[1] = b := by have := list_at s 1 (by omega); rw [hL] at this; simpa using this.symm
  have ra := (hx_range a).2
  have rb := (hx_range b).2
  have hor := or16 (hx a) (hx b) ha ra hb rb
  have HL := Lib.hid hL
  clear hL
  obtain ⟨c, hc⟩ : ∃ c : UInt8, c = UInt8.ofNat (16 * hx a + hx b).toNat := ⟨_, rfl⟩
  have hcv : (c.toNat : Int) = 16 * hx a + hx b := by rw [hc]; simp; omega
  have HC := Lib.hid hc
  have HV := Lib.hid hcv
  clear hc hcv
  go_enter Try.func25, Try.ntmps25
  go_wp2
  go_quiet ((go_at_call 28; first | exact quiet_add_left (idx_any _ _) | exact quiet_left (idx_any _ _)))
  go_wp2
  go_quiet ((go_at_call 17; first | exact quiet_add_left (shown_any _ _ (by omega) (by omega)) | exact quiet_left (shown_any _ _ (by omega) (by omega))))
  go_wp2
  have E1 : bits BinOp.or IntKind.i64 (hx a * 16) (hx b) % 256 = (c.toNat : Int) := hor.trans HV.out.symm
  have E2 : s.extract 2 s.size = mk r := by rw [extract_tail, HL.out]; rfl
  rw [E1, E2]
  refine bodyPost_ret (v := .tuple #[.int .u8 (c.toNat : Int), .string (mk r), .bool (!shownI (16 * hx a + hx b))]) (by simp [results, Try.results25, go_sem]) rfl ?_
  refine ⟨c, r, _, rfl, fun h => ⟨a, b, HL.out, ?_⟩, fun h => Or.inr ⟨a, b, r, HL.out, ?_⟩, below_drewN2 _ _ _⟩
  · have h' : shownI (16 * hx a + hx b) = false := by simpa using h
    unfold hex2
    rw [if_neg (by omega), h', if_neg (by decide), ← HC.out]
  · have h' : shownI (16 * hx a + hx b) = true := by simpa using h
    unfold hex2
    rw [if_neg (by omega), if_pos h']
theorem six_any (s : ByteArray) (w : World) (hs : s.size ≤ 140737488351232) :
    Calls Try.prog 25 #[.string s] w (SixPost s.data.toList w) := by
  by_cases h2 : s.size < 2
  · exact six_short s w h2
  · obtain ⟨a, l, hl⟩ := List.exists_cons_of_length_pos (l := s.data.toList) (by rw [list_len]; omega)
    obtain ⟨b, r, hr⟩ := List.exists_cons_of_length_pos (l := l) (by have := list_len s; rw [hl] at this; simp at this; omega)
    rw [hr] at hl
    by_cases ha : hx a < 0
    · exact six_bad s w hs a b r hl (Or.inl ha)
    · by_cases hb : hx b < 0
      · exact six_bad s w hs a b r hl (Or.inr hb)
      · exact six_good s w hs a b r hl (by omega) (by omega)

/-! ### A prefix or a suffix of one byte -/
theorem cutp_yes (s t : ByteArray) (q : UInt8) (w : World) (h : s.data.toList = q :: t.data.toList) :
    Calls Try.prog 18 #[.string s, .string ⟨#[q]⟩] w fun e w' => e = .returned (.tuple #[.string t, .bool true]) ∧ w = w' := by
  refine (Try.strings_CutPrefix s ⟨#[q]⟩ w).mono ?_
  rintro e w' ⟨rfl, rfl⟩
  have h1 : Lib.hasPrefix s.data.toList (⟨#[q]⟩ : ByteArray).data.toList = true := by rw [h]; simp [Lib.hasPrefix, List.isPrefixOf]
  have h2 : Lib.trimPrefix s.data.toList (⟨#[q]⟩ : ByteArray).data.toList = t.data.toList := by unfold Lib.trimPrefix; rw [h1, if_pos rfl, h]; rfl
  rw [h1, h2]
  exact ⟨by rw [Array.toArray_toList], rfl⟩
theorem cutp_no (s : ByteArray) (q : UInt8) (w : World) (h : ∀ r, s.data.toList ≠ q :: r) :
    Calls Try.prog 18 #[.string s, .string ⟨#[q]⟩] w fun e w' => e = .returned (.tuple #[.string s, .bool false]) ∧ w = w' := by
  refine (Try.strings_CutPrefix s ⟨#[q]⟩ w).mono ?_
  rintro e w' ⟨rfl, rfl⟩
  have h1 : Lib.hasPrefix s.data.toList (⟨#[q]⟩ : ByteArray).data.toList = false := by
    show List.isPrefixOf [q] s.data.toList = false
    cases hl : s.data.toList with
    | nil => rfl
    | cons a l =>
      have hne : q ≠ a := fun e => h l (by rw [hl, e])
      simp [List.isPrefixOf, hne]
  have h2 : Lib.trimPrefix s.data.toList (⟨#[q]⟩ : ByteArray).data.toList = s.data.toList := by unfold Lib.trimPrefix; rw [h1]; rfl
  rw [h1, h2]
  exact ⟨by rw [Array.toArray_toList], rfl⟩
theorem cuts_yes (s t : ByteArray) (q : UInt8) (w : World) (hs : s.size ≤ 140737488351232) (h : s.data.toList = t.data.toList ++ [q]) :
    Calls Try.prog 19 #[.string s, .string ⟨#[q]⟩] w fun e w' => e = .returned (.tuple #[.string t, .bool true]) ∧ w = w' := by
  refine (Try.strings_CutSuffix s ⟨#[q]⟩ w (by omega)).mono ?_
  rintro e w' ⟨rfl, rfl⟩
  have h1 : Lib.hasSuffix s.data.toList (⟨#[q]⟩ : ByteArray).data.toList = true := by
    show List.isSuffixOf [q] s.data.toList = true
    rw [h]; simp
  have h2 : Lib.trimSuffix s.data.toList (⟨#[q]⟩ : ByteArray).data.toList = t.data.toList := by unfold Lib.trimSuffix; rw [h1, if_pos rfl, h]; simp
  rw [h1, h2]
  exact ⟨by rw [Array.toArray_toList], rfl⟩
theorem cuts_no (s : ByteArray) (q : UInt8) (w : World) (hs : s.size ≤ 140737488351232) (h : ∀ r, s.data.toList ≠ r ++ [q]) :
    Calls Try.prog 19 #[.string s, .string ⟨#[q]⟩] w fun e w' => e = .returned (.tuple #[.string s, .bool false]) ∧ w = w' := by
  refine (Try.strings_CutSuffix s ⟨#[q]⟩ w (by omega)).mono ?_
  rintro e w' ⟨rfl, rfl⟩
  have h1 : Lib.hasSuffix s.data.toList (⟨#[q]⟩ : ByteArray).data.toList = false := by
    show List.isSuffixOf [q] s.data.toList = false
    rw [Bool.eq_false_iff]
    intro hh
    obtain ⟨r, hr⟩ := List.isSuffixOf_iff_suffix.1 hh
    exact h r hr.symm
  have h2 : Lib.trimSuffix s.data.toList (⟨#[q]⟩ : ByteArray).data.toList = s.data.toList := by unfold Lib.trimSuffix; rw [h1]; rfl
  rw [h1, h2]
  exact ⟨by rw [Array.toArray_toList], rfl⟩

/-! ### The first piece -/
theorem first_plain (s : ByteArray) (w : World) (hs : s.size ≤ 140737488351232) (c : UInt8) (r : List UInt8) (hL : s.data.toList = c :: r) (hc : c ≠ 92) :
    Calls Try.prog 20 #[.string s] w (FirstPost s.data.toList w) := by
  have hn : 1 ≤ s.size := by rw [← list_len, hL]; simp
  have hn2 : (1 : Int) ≤ (s.size : Int) := by omega
  have h0 : s[0] = c := by have := list_at s 0 (by omega); rw [hL] at this; simpa using this.symm
  have hcl := c.toNat_lt
  have C1 := Lib.hid fun w => cutp_no s 92 w (fun q h => by rw [hL] at h; exact hc (List.cons.inj h).1)
  have HL := Lib.hid hL
  have HC := Lib.hid hc
  clear hL hc
  cases hsh : shown c
  · have hs2 : shownI (c.toNat : Int) = false := hsh
    have HS := Lib.hid hsh
    clear hsh
    go_enter Try.func20, Try.ntmps20
    go_wp2_with (go_at_call 18; (with_reducible refine (C1.out _).mono ?_); rintro e w' ⟨rfl, rfl⟩)
    go_quiet ((first | (go_at_call 17; first | exact quiet_add_left (shown_any _ _ (by omega) (by omega)) | exact quiet_left (shown_any _ _ (by omega) (by omega))) | (go_at_call 16; first | exact quiet_add_left (marks_any _ _ (by omega) (by omega)) | exact quiet_left (marks_any _ _ (by omega) (by omega)))))
    go_wp2
    have E2 : s.extract 1 s.size = mk r := by rw [extract_tail, HL.out]; rfl
    rw [E2]
    refine bodyPost_ret (v := .tuple #[.int .u8 (c.toNat : Int), .string (mk r), .bool false]) (by simp [results, Try.results20, go_sem]) rfl ?_
    exact ⟨c, r, false, rfl, (fun h => by cases h), (fun _ => by rw [HL.out]; simp [firstP, HC.out, HS.out]), below_drewN _ _⟩
  · have hs2 : shownI (c.toNat : Int) = true := hsh
    have HS := Lib.hid hsh
    clear hsh
    go_enter Try.func20, Try.ntmps20
    go_wp2_with (go_at_call 18; (with_reducible refine (C1.out _).mono ?_); rintro e w' ⟨rfl, rfl⟩)
    go_quiet ((first | (go_at_call 17; first | exact quiet_add_left (shown_any _ _ (by omega) (by omega)) | exact quiet_left (shown_any _ _ (by omega) (by omega))) | (go_at_call 16; first | exact quiet_add_left (marks_any _ _ (by omega) (by omega)) | exact quiet_left (marks_any _ _ (by omega) (by omega)))))
    go_wp2
    have E2 : s.extract 1 s.size = mk r := by rw [extract_tail, HL.out]; rfl
    rw [E2]
    refine bodyPost_ret (v := .tuple #[.int .u8 (c.toNat : Int), .string (mk r), .bool (!markI (c.toNat : Int))]) (by simp [results, Try.results20, go_sem]) rfl ?_
    refine ⟨c, r, _, rfl, fun h => ?_, fun h => ?_, below_drewN _ _⟩
    · have h' : mark c = false := by simpa [mark] using h
      rw [HL.out]; simp [firstP, HC.out, HS.out, h']
    · have h' : mark c = true := by simpa [mark] using h
      rw [HL.out]; simp [firstP, HC.out, h']
theorem first_mark (s : ByteArray) (w : World) (hs : s.size ≤ 140737488351232) (d : UInt8) (r : List UInt8) (hL : s.data.toList = 92 :: d :: r) (hd : mark d = true) :
    Calls Try.prog 20 #[.string s] w (FirstPost s.data.toList w) := by
  obtain ⟨t, ht⟩ : ∃ t : ByteArray, t.data.toList = d :: r := ⟨mk (d :: r), mk_list _⟩
  have hn : 1 ≤ t.size := by rw [← list_len, ht]; simp
  have hn2 : (1 : Int) ≤ (t.size : Int) := by omega
  have h0 : t[0] = d := by have := list_at t 0 (by omega); rw [ht] at this; simpa using this.symm
  have hcl := d.toNat_lt
  have hts : t.size ≤ 140737488351232 := by have := list_len s; rw [hL, ← ht] at this; simp only [List.length_cons, list_len] at this; omega
  have C1 := Lib.hid fun w => cutp_yes s t 92 w (by rw [hL, ht])
  have hne : (t.toList.isEmpty) = false := by rw [Lib.toList_data, ht]; rfl
  have HL := Lib.hid hL
  have HT := Lib.hid ht
  have HD := Lib.hid hd
  have hd2 : markI (d.toNat : Int) = true := hd
  clear hL ht hd
  go_enter Try.func20, Try.ntmps20
  go_wp2_with (first | (go_at_call 18; (with_reducible refine (C1.out _).mono ?_); rintro e w' ⟨rfl, rfl⟩) | (go_at_call 16; (with_reducible refine (marks_any _ _ (by omega) (by omega)).mono ?_); rintro e w' ⟨rfl, rfl⟩))
  go_quiet (fail)
  go_wp2
  have E2 : t.extract 1 t.size = mk r := by rw [extract_tail, HT.out]; rfl
  rw [E2]
  refine bodyPost_ret (v := .tuple #[.int .u8 (d.toNat : Int), .string (mk r), .bool true]) (by simp [results, Try.results20, go_sem]) rfl ?_
  exact ⟨d, r, true, rfl, (fun _ => by rw [HL.out]; simp [firstP, HD.out]), (fun h => by cases h), below_drewN _ _⟩
theorem first_hex (s : ByteArray) (w : World) (hs : s.size ≤ 140737488351232) (r : List UInt8) (hL : s.data.toList = 92 :: r) (hr : r = [] ∨ ∃ d q, r = d :: q ∧ mark d = false) :
    Calls Try.prog 20 #[.string s] w (FirstPost s.data.toList w) := by
  obtain ⟨t, ht⟩ : ∃ t : ByteArray, t.data.toList = r := ⟨mk r, mk_list _⟩
  have hts : t.size ≤ 140737488351232 := by have := list_len s; rw [hL, ← ht] at this; simp only [List.length_cons, list_len] at this; omega
  have C1 := Lib.hid fun w => cutp_yes s t 92 w (by rw [hL, ht])
  have C6 := Lib.hid fun w => six_any t w hts
  have HL := Lib.hid hL
  have HT := Lib.hid ht
  have HR := Lib.hid hr
  clear hL
  have fin : ∀ (e : Ending) (w' : World), SixPost t.data.toList w e w' → FirstPost s.data.toList w e w' := by
    rintro e w' ⟨c, q, ok, rfl, hy, hn, hb⟩
    refine ⟨c, q, ok, rfl, fun h => ?_, fun h => ?_, hb⟩
    · obtain ⟨a, b, hl, hx2⟩ := hy h
      have hm := (hex2_sound hx2).2.2.2
      rw [HL.out, ← HT.out, hl]
      simp [firstP, hm, hx2]
    · rw [HL.out, ← HT.out]
      rcases hn h with hlen | ⟨a, b, q', hl, hx2⟩
      · cases e : t.data.toList with
        | nil => simp [firstP]
        | cons a l =>
          have hm : mark a = false := by
            rcases HR.out with h0 | ⟨d, q', h0, hd⟩
            · rw [← HT.out, e] at h0; cases h0
            · rw [← HT.out, e] at h0; rw [(List.cons.inj h0).1]; exact hd
          rw [e] at hlen
          have : l = [] := List.eq_nil_of_length_eq_zero (by simp at hlen; omega)
          subst this
          simp [firstP, hm]
      · have hm : mark a = false := by
          rcases HR.out with h0 | ⟨d, q'', h0, hd⟩
          · rw [← HT.out, hl] at h0; cases h0
          · rw [← HT.out, hl] at h0; rw [(List.cons.inj h0).1]; exact hd
        rw [hl]
        simp [firstP, hm, hx2]
  have FIN := Lib.hid fin
  clear fin
  rcases hr with rfl | ⟨d, q, rfl, hd⟩
  · have hne : t.toList = [] := by rw [Lib.toList_data, ht]
    have hne2 : (t.toList.isEmpty) = true := by rw [hne]; rfl
    clear ht
    go_enter Try.func20, Try.ntmps20
    go_wp2_with (first | (go_at_call 18; (with_reducible refine (C1.out _).mono ?_); rintro e w' ⟨rfl, rfl⟩) | (go_at_call 25; (with_reducible refine (C6.out _).mono ?_); rintro e w' hp; have HP := Lib.hid (FIN.out _ _ hp); obtain ⟨c, q, ok, rfl, _, _, _⟩ := hp))
    refine bodyPost_ret (v := .tuple #[.int .u8 (c.toNat : Int), .string (mk q), .bool ok]) (by simp [results, Try.results20, go_sem]) rfl ?_
    exact HP.out
  · have hn : 1 ≤ t.size := by rw [← list_len, ht]; simp
    have h0 : t[0] = d := by have := list_at t 0 (by omega); rw [ht] at this; simpa using this.symm
    have hcl := d.toNat_lt
    have hne : (t.toList.isEmpty) = false := by rw [Lib.toList_data, ht]; rfl
    have hd2 : markI (d.toNat : Int) = false := hd
    clear ht hd
    go_enter Try.func20, Try.ntmps20
    go_wp2_with (first | (go_at_call 18; (with_reducible refine (C1.out _).mono ?_); rintro e w' ⟨rfl, rfl⟩) | (go_at_call 16; (with_reducible refine (marks_any _ _ (by omega) (by omega)).mono ?_); rintro e w' ⟨rfl, rfl⟩) | (go_at_call 25; (with_reducible refine (C6.out _).mono ?_); rintro e w' hp; have HP := Lib.hid (FIN.out _ _ hp); obtain ⟨c, q, ok, rfl, _, _, _⟩ := hp))
    refine bodyPost_ret (v := .tuple #[.int .u8 (c.toNat : Int), .string (mk q), .bool ok]) (by simp [results, Try.results20, go_sem]) rfl ?_
    exact HP.out
theorem first_any (s : ByteArray) (w : World) (hs : s.size ≤ 140737488351232) (hne : s.data.toList ≠ []) :
    Calls Try.prog 20 #[.string s] w (FirstPost s.data.toList w) := by
  cases hL : s.data.toList with
  | nil => exact absurd hL hne
  | cons c r =>
    rw [← hL]
    by_cases hc : c = 92
    · subst hc
      cases r with
      | nil => exact first_hex s w hs [] hL (Or.inl rfl)
      | cons d q =>
        cases hd : mark d
        · exact first_hex s w hs (d :: q) hL (Or.inr ⟨d, q, rfl, hd⟩)
        · exact first_mark s w hs d q hL hd
    · exact first_plain s w hs c r hL hc
end Go.Proofs.Ytapkjajeghiacaa
