/- Layer 6: a signature's line, a class's line, an end's: package show's and the document's. -/
import Derived.Test.YtccajbgdlicbnaaDoorQCodeQe
import Derived.Test.YtccajbgdlicbnaaDoorQShowRo
import Derived.Test.YtccajbgdlicbnaaDoorQT3
import Derived.Deep.RegionHeld3
namespace Go.Proofs.YtccajbgdlicbnaaDoor
open Go.RowKit (wrap64 intOf Below)
set_option linter.unusedVariables false
set_option linter.unusedSimpArgs false

theorem type_len (z : Int) (h : InR z) : (typeText z).length ≤ 22 := by
  obtain ⟨h0, h1⟩ := h
  unfold typeText
  split
  · have := Lib.itoa_length_le (z - 6) (by omega) (by omega)
    simp only [List.length_cons]
    omega
  · have hall : ∀ n : Int, (nameOf typeNames n).length ≤ 5 := fun n => by
      unfold nameOf
      split
      · simp
      · rename_i h
        obtain ⟨k, rfl⟩ := Int.eq_ofNat_of_zero_le (show 0 ≤ n by omega)
        have hk : k < typeNames.length := by omega
        have hall : ∀ k, k < typeNames.length → (typeNames.getD k []).length ≤ 5 := by decide
        exact hall k hk
    have := hall (z + 1)
    omega
theorem itoa_len (z : Int) (h : InR z) : (Lib.itoa z).length ≤ 22 := by
  obtain ⟨h0, h1⟩ := h
  have := Lib.itoa_length_le z (by omega) (by omega)
  omega
theorem texts_len {T : Int → List UInt8} (hT : ∀ z, InR z → (T z).length ≤ 22) {L : List Int} (h2 : L.length ≤ 1048576) (hr : ∀ z ∈ L, InR z) : (listText T L).length ≤ 100000000 := by
  have h1 := listText_len (M := 22) L (fun x hx => hT x (hr x hx))
  have h3 : L.length * (22 + 1) ≤ 1048576 * 23 := Nat.mul_le_mul_right _ h2
  omega
def listT (T : Int → List UInt8) (Z : List Int) : List UInt8 := 40 :: (listText T Z ++ [41])
theorem enters_type : ∀ args w, (callFunc 20 args).run Tryd.prog w = .ok (.enter 20 args) w := enters_of Tryd.func20 (by kernel_rfl) rfl
theorem enters_class1 : ∀ args w, (callFunc 36 args).run Tryd.prog w = .ok (.enter 36 args) w := enters_of Tryd.func36 (by kernel_rfl) rfl
theorem class1_any (n : Int) (w : World) (h0 : -9223372036854775808 ≤ n) (h1 : n ≤ 9223372036854775807) (hp : PT w) :
    Calls Tryd.prog 36 #[.int .i64 n] w fun e w' => e = .returned (.string (mk (Lib.itoa n))) ∧ Below w.heap.size w w' := by
  have HC := Lib.hid (itoa_text n w h0 h1 hp)
  clear hp
  go_enter Tryd.func36, Tryd.ntmps36
  go_wp2_with fail
  refine HC.out.mono ?_
  rintro e w1 ⟨rfl, hb⟩
  have HB := Lib.hid hb
  clear hb
  go_wp2_with fail
  go_ret
  exact ⟨rfl, HB.out⟩
set_option maxRecDepth 100000 in
theorem types_any (a : Option Addr) (n c : Nat) (Z : List Int) (w : World) (hat : NumsAt w a n Z) (hn : n ≤ 1048576) (hr : ∀ z ∈ Z, InR z) (hp : PT w) (ht : TN w) :
    Calls Tryd.prog 34 #[.slice a n c] w fun e w' => e = .returned (.string (mk (listT typeText Z))) ∧ Below w.heap.size w w' := by
  have HC := Lib.hid (joined_any 20 enters_type typeText 22 (by decide) a n c Z (fun z hz => type_len z (hr z hz)) w hat hn (fun z hz u hb => by
    obtain ⟨h0, h1⟩ := hr z hz
    exact type_any z u (by omega) (by omega) (hp.since hb) (StrTab.since ht hb)))
  have HLEN : RowKit.Hid ((listText typeText Z).length ≤ 100000000) := Lib.hid (texts_len type_len (by rw [hat.1]; exact hn) hr)
  have HV : RowKit.Hid (mk (listT typeText Z) = mkB [40] ++ mk (listText typeText Z) ++ mkB [41]) := Lib.hid (by
    show mkB _ = mkB _ ++ mkB _ ++ mkB _
    rw [mkB_append, mkB_append]
    congr 1)
  obtain ⟨t, hq⟩ : ∃ t, t = mk (listText typeText Z) := ⟨_, rfl⟩
  have hts : t.size ≤ 100000000 := by rw [hq, mk_size]; exact HLEN.out
  rw [← hq] at HC HV
  clear hat hr hp ht hq
  go_enter Tryd.func34, Tryd.ntmps34
  go_wp2_with fail
  refine HC.out.mono ?_
  rintro e w1 ⟨rfl, hb⟩
  have HB := Lib.hid hb
  clear hb
  go_wp2_with fail
  go_ret
  exact ⟨by rw [HV.out]; rfl, HB.out⟩
set_option maxRecDepth 100000 in
set_option maxHeartbeats 2000000 in
theorem list_types (a : Option Addr) (n c : Nat) (Z : List Int) (w : World) (hat : NumsAt w a n Z) (hn : n ≤ 1048576) (hr : ∀ z ∈ Z, InR z) :
    Calls Tryd.prog 18 #[.slice a n c, .int .i64 0] w fun e w' => e = .returned (.string (mk (listText typeText Z))) ∧ Below w.heap.size w w' := by
  have HL : RowKit.Hid (Z.length = n) := Lib.hid hat.1
  have HAT := Lib.hid hat
  have HRR := Lib.hid hr
  clear hat hr
  go_enter Tryd.func18, Tryd.ntmps18
  go_wp2_with fail
  go_loopw [5, 6] (fun sv iv wr => ∃ k : Nat, k ≤ n ∧ iv = .int .i64 (k : Int) ∧ sv = .string (mk (listText typeText (Z.take k))) ∧ RowKit.Hid (Below w.heap.size w wr)) (fun _ iv _ => n - (intOf iv).toNat)
  case atStart => exact ⟨0, Nat.zero_le _, rfl, rfl, Lib.hid (Below.refl _ _)⟩
  case round =>
    obtain ⟨k, hk, rfl, rfl, HI⟩ := hrel
    by_cases hlt : k < n
    · have hkz : k < Z.length := by rw [HL.out]; exact hlt
      obtain ⟨g, off, ea, hg, hcell⟩ := HAT.out.2 (by omega)
      subst ea
      obtain ⟨z, hz⟩ : ∃ z, z = Z[k] := ⟨_, rfl⟩
      have hc0 := (HI.out.cell (p := ⟨g, off + k, none⟩) hg).trans (hcell k hkz)
      rw [← hz] at hc0
      have hzr : InR z := by rw [hz]; exact HRR.out _ (List.getElem_mem hkz)
      obtain ⟨hz0, hz1⟩ := hzr
      have HC := Lib.hid (type_ref z wr (by omega) (by omega))
      have HTK : RowKit.Hid (listText typeText (Z.take (k + 1)) = (if Z.take k = [] then [] else listText typeText (Z.take k) ++ [44]) ++ typeText z) := Lib.hid (by rw [List.take_succ_eq_append_getElem hkz, listText_snoc, hz])
      have HLEN : RowKit.Hid ((listText typeText (Z.take k)).length ≤ 100000000) := Lib.hid (by
        have h1 := listText_len (M := 22) (Z.take k) (fun x hx => type_len x (HRR.out x (List.mem_of_mem_take hx)))
        have h2 : (Z.take k).length ≤ 1048576 := by rw [List.length_take]; omega
        have h3 : (Z.take k).length * (22 + 1) ≤ 1048576 * 23 := Nat.mul_le_mul_right _ h2
        omega)
      have HZL := Lib.hid (type_len z ⟨by omega, by omega⟩)
      have hzs : (mk (typeText z)).size ≤ 100 := by rw [mk_size]; have := type_len z ⟨by omega, by omega⟩; omega
      obtain ⟨q, hq⟩ : ∃ q, q = mk (typeText z) := ⟨_, rfl⟩
      rw [← hq] at hzs HC
      have HQ := Lib.hid hq
      clear hq
      obtain ⟨t, ht⟩ : ∃ t, t = mk (listText typeText (Z.take k)) := ⟨_, rfl⟩
      have HT := Lib.hid ht
      have hts : t.size ≤ 100000000 := by rw [ht, mk_size]; exact HLEN.out
      rw [← ht]
      clear hcell hz ht
      by_cases h0 : k = 0
      · subst h0
        rw [Nat.add_zero] at hc0
        have HTX : RowKit.Hid (mk (listText typeText (Z.take (0 + 1))) = t ++ q) := Lib.hid (by
          rw [HTK.out, HT.out, HQ.out]
          show mkB _ = mkB _ ++ mkB _
          rw [mkB_append]
          try congr 1)
        go_wp2_with fail
        refine HC.out.mono ?_
        rintro e w1 ⟨rfl, hb1⟩
        have HB1 := Lib.hid (keepS HI.out hb1)
        clear hb1
        go_wp2_with fail
        go_roundw
        case rel => exact ⟨1, by omega, by go_num, by rw [show (1 : Nat) = 0 + 1 from rfl, HTX.out] <;> rfl, HB1⟩
        case measure => simp [intOf]; omega
      · have HTX : RowKit.Hid (mk (listText typeText (Z.take (k + 1))) = t ++ mkB [44] ++ q) := Lib.hid (by
          rw [HTK.out, if_neg (fun h => by have := congrArg List.length h; rw [List.length_take, List.length_nil] at this; omega), HT.out, HQ.out]
          show mkB _ = mkB _ ++ _ ++ mkB _
          rw [mkB_append, mkB_append]
          try congr 1)
        have hk0 : 0 < k := by omega
        go_wp2_with fail
        refine HC.out.mono ?_
        rintro e w1 ⟨rfl, hb1⟩
        have HB1 := Lib.hid (keepS HI.out hb1)
        clear hb1
        go_wp2_with fail
        go_roundw
        case rel => exact ⟨k + 1, by omega, by go_num, by rw [HTX.out] <;> rfl, HB1⟩
        case measure => simp [intOf]; omega
    · have HE : RowKit.Hid (listText typeText (Z.take k) = listText typeText Z) := Lib.hid (by rw [List.take_of_length_le (by rw [HL.out]; omega)])
      go_wp2_with fail
      go_ret
      exact ⟨by rw [← HE.out]; rfl, HI.out⟩
set_option maxRecDepth 100000 in
set_option maxHeartbeats 2000000 in
theorem list_digits (a : Option Addr) (n c : Nat) (Z : List Int) (w : World) (hat : NumsAt w a n Z) (hn : n ≤ 1048576) (hr : ∀ z ∈ Z, InR z) :
    Calls Tryd.prog 18 #[.slice a n c, .int .i64 2] w fun e w' => e = .returned (.string (mk (listText Lib.itoa Z))) ∧ Below w.heap.size w w' := by
  have HL : RowKit.Hid (Z.length = n) := Lib.hid hat.1
  have HAT := Lib.hid hat
  have HRR := Lib.hid hr
  clear hat hr
  go_enter Tryd.func18, Tryd.ntmps18
  go_wp2_with fail
  go_loopw [5, 6] (fun sv iv wr => ∃ k : Nat, k ≤ n ∧ iv = .int .i64 (k : Int) ∧ sv = .string (mk (listText Lib.itoa (Z.take k))) ∧ RowKit.Hid (Below w.heap.size w wr)) (fun _ iv _ => n - (intOf iv).toNat)
  case atStart => exact ⟨0, Nat.zero_le _, rfl, rfl, Lib.hid (Below.refl _ _)⟩
  case round =>
    obtain ⟨k, hk, rfl, rfl, HI⟩ := hrel
    by_cases hlt : k < n
    · have hkz : k < Z.length := by rw [HL.out]; exact hlt
      obtain ⟨g, off, ea, hg, hcell⟩ := HAT.out.2 (by omega)
      subst ea
      obtain ⟨z, hz⟩ : ∃ z, z = Z[k] := ⟨_, rfl⟩
      have hc0 := (HI.out.cell (p := ⟨g, off + k, none⟩) hg).trans (hcell k hkz)
      rw [← hz] at hc0
      have hzr : InR z := by rw [hz]; exact HRR.out _ (List.getElem_mem hkz)
      obtain ⟨hz0, hz1⟩ := hzr
      have HC := Lib.hid (itoa_ref z wr (by omega) (by omega))
      have HTK : RowKit.Hid (listText Lib.itoa (Z.take (k + 1)) = (if Z.take k = [] then [] else listText Lib.itoa (Z.take k) ++ [44]) ++ Lib.itoa z) := Lib.hid (by rw [List.take_succ_eq_append_getElem hkz, listText_snoc, hz])
      have HLEN : RowKit.Hid ((listText Lib.itoa (Z.take k)).length ≤ 100000000) := Lib.hid (by
        have h1 := listText_len (M := 22) (Z.take k) (fun x hx => itoa_len x (HRR.out x (List.mem_of_mem_take hx)))
        have h2 : (Z.take k).length ≤ 1048576 := by rw [List.length_take]; omega
        have h3 : (Z.take k).length * (22 + 1) ≤ 1048576 * 23 := Nat.mul_le_mul_right _ h2
        omega)
      have HZL := Lib.hid (itoa_len z ⟨by omega, by omega⟩)
      have hzs : (mkB (Lib.itoa z)).size ≤ 100 := by rw [mkB_size]; have := itoa_len z ⟨by omega, by omega⟩; omega
      obtain ⟨q, hq⟩ : ∃ q, q = mkB (Lib.itoa z) := ⟨_, rfl⟩
      rw [← hq] at hzs HC
      have HQ := Lib.hid hq
      clear hq
      obtain ⟨t, ht⟩ : ∃ t, t = mk (listText Lib.itoa (Z.take k)) := ⟨_, rfl⟩
      have HT := Lib.hid ht
      have hts : t.size ≤ 100000000 := by rw [ht, mk_size]; exact HLEN.out
      rw [← ht]
      clear hcell hz ht
      by_cases h0 : k = 0
      · subst h0
        rw [Nat.add_zero] at hc0
        have HTX : RowKit.Hid (mk (listText Lib.itoa (Z.take (0 + 1))) = t ++ q) := Lib.hid (by
          rw [HTK.out, HT.out, HQ.out]
          show mkB _ = mkB _ ++ mkB _
          rw [mkB_append]
          try congr 1)
        go_wp2_with fail
        refine HC.out.mono ?_
        rintro e w1 ⟨rfl, hb1⟩
        have HB1 := Lib.hid (keepS HI.out hb1)
        clear hb1
        go_wp2_with fail
        go_roundw
        case rel => exact ⟨1, by omega, by go_num, by rw [show (1 : Nat) = 0 + 1 from rfl, HTX.out] <;> rfl, HB1⟩
        case measure => simp [intOf]; omega
      · have HTX : RowKit.Hid (mk (listText Lib.itoa (Z.take (k + 1))) = t ++ mkB [44] ++ q) := Lib.hid (by
          rw [HTK.out, if_neg (fun h => by have := congrArg List.length h; rw [List.length_take, List.length_nil] at this; omega), HT.out, HQ.out]
          show mkB _ = mkB _ ++ _ ++ mkB _
          rw [mkB_append, mkB_append]
          try congr 1)
        have hk0 : 0 < k := by omega
        go_wp2_with fail
        refine HC.out.mono ?_
        rintro e w1 ⟨rfl, hb1⟩
        have HB1 := Lib.hid (keepS HI.out hb1)
        clear hb1
        go_wp2_with fail
        go_roundw
        case rel => exact ⟨k + 1, by omega, by go_num, by rw [HTX.out] <;> rfl, HB1⟩
        case measure => simp [intOf]; omega
    · have HE : RowKit.Hid (listText Lib.itoa (Z.take k) = listText Lib.itoa Z) := Lib.hid (by rw [List.take_of_length_le (by rw [HL.out]; omega)])
      go_wp2_with fail
      go_ret
      exact ⟨by rw [← HE.out]; rfl, HI.out⟩
end Go.Proofs.YtccajbgdlicbnaaDoor

/- Layer 6, P6.2: the statement ShowOps, walked. -/
namespace Go.Proofs.YtccajbgdlicbnaaDoor
open Go.RowKit (wrap64 intOf Below)
set_option linter.unusedVariables false
set_option linter.unusedSimpArgs false

set_option maxRecDepth 100000 in
theorem field_text (K A B C N : Int) (S : ByteArray) (la : Option Addr) (ln lc : Nat) (T : Bool) (w : World) (hS : S.size ≤ 1048576) :
    Calls Tryd.prog 32 #[.agg #[.int .i64 K, .int .i64 A, .int .i64 B, .int .i64 C, .int .i64 N, .string S, .slice la ln lc, .bool T], .int .i32 83] w fun e w' => e = .returned (.string (mk (quoteL S.data.toList))) ∧ Below w.heap.size w w' := by
  have hb0 : Below w.heap.size w (w.alloc (.cells #[.int .i64 K, .int .i64 A, .int .i64 B, .int .i64 C, .int .i64 N, .string S, .slice la ln lc, .bool T] 50)) := (Below.refl _ _).alloc (Nat.le_refl _) _
  have HB0 := Lib.hid hb0
  have HC := Lib.hid (quote_any S (w.alloc (.cells #[.int .i64 K, .int .i64 A, .int .i64 B, .int .i64 C, .int .i64 N, .string S, .slice la ln lc, .bool T] 50)) (by omega))
  clear hb0
  go_enter Tryd.func32, Tryd.ntmps32
  go_wp2_with fail
  refine HC.out.mono ?_
  rintro e w1 ⟨rfl, hb⟩
  have HB := Lib.hid (keepS HB0.out hb)
  clear hb
  go_wp2_with fail
  go_ret
  exact ⟨rfl, HB.out⟩
set_option maxRecDepth 100000 in
theorem field_list (K A B C N : Int) (S : ByteArray) (la : Option Addr) (ln lc : Nat) (L : List Int) (T : Bool) (w : World) (hat : NumsAt w la ln L) (hln : ln ≤ 1048576) (hr : ∀ z ∈ L, InR z) (hp : PT w) :
    Calls Tryd.prog 32 #[.agg #[.int .i64 K, .int .i64 A, .int .i64 B, .int .i64 C, .int .i64 N, .string S, .slice la ln lc, .bool T], .int .i32 76] w fun e w' => e = .returned (.string (mk (listV L))) ∧ Below w.heap.size w w' := by
  have hb0 : Below w.heap.size w (w.alloc (.cells #[.int .i64 K, .int .i64 A, .int .i64 B, .int .i64 C, .int .i64 N, .string S, .slice la ln lc, .bool T] 50)) := (Below.refl _ _).alloc (Nat.le_refl _) _
  have HB0 := Lib.hid hb0
  have HC := Lib.hid (values_any la ln lc L (w.alloc (.cells #[.int .i64 K, .int .i64 A, .int .i64 B, .int .i64 C, .int .i64 N, .string S, .slice la ln lc, .bool T] 50)) (hat.below hb0 (Nat.le_refl _)) hln hr (hp.since hb0))
  clear hb0 hat hr hp
  go_enter Tryd.func32, Tryd.ntmps32
  go_wp2_with fail
  refine HC.out.mono ?_
  rintro e w1 ⟨rfl, hb⟩
  have HB := Lib.hid (keepS HB0.out hb)
  clear hb
  go_wp2_with fail
  go_ret
  exact ⟨rfl, HB.out⟩
theorem fields6 (K A B C N : Int) (S : ByteArray) (la : Option Addr) (ln lc : Nat) (L : List Int) (T : Bool) (w : World) (hA : InR A) (hB : InR B) (hC : InR C) (hN : InR N) (hS : S.size ≤ 1048576) (hat : NumsAt w la ln L) (hln : ln ≤ 1048576) (hr : ∀ z ∈ L, InR z) (ht : Tabs w) :
    FieldsAre w (.agg #[.int .i64 K, .int .i64 A, .int .i64 B, .int .i64 C, .int .i64 N, .string S, .slice la ln lc, .bool T]) K (fieldF K A B C N S L T) 200000000 := by
  intro c hc
  by_cases h83 : c = 83
  · subst h83
    refine ⟨?_, fun u hb => field_text K A B C N S la ln lc T u hS⟩
    show (quoteL S.data.toList).length ≤ _
    rw [quoteL_len]
    have h1 := encs_len S.data.toList
    have h2 := list_len S
    omega
  · by_cases h76 : c = 76
    · subst h76
      refine ⟨?_, fun u hb => field_list K A B C N S la ln lc L T u (hat.below hb (Nat.le_refl _)) hln hr (ht.since hb).pow⟩
      show (listV L).length ≤ _
      have := values_len (by rw [hat.1]; exact hln) hr
      unfold listV
      simp only [List.length_cons, List.length_append, List.length_nil]
      omega
    · have hF : fieldF K A B C N S L T c = plainField K A B C N T c := by unfold fieldF; rw [if_neg h83, if_neg h76]
      rw [hF]
      refine ⟨Nat.le_trans (plain_len K A B C N T hA hB hC hN c) (by decide), fun u hb => field_plain K A B C N S la ln lc T c ?_ u hA hB hC hN (ht.since hb)⟩
      rcases letters K c hc with h | h | h | h | h | h | h
      · exact .inl h
      · exact absurd h h83
      · exact .inr (.inl h)
      · exact .inr (.inr (.inl h))
      · exact .inr (.inr (.inr (.inl h)))
      · exact absurd h h76
      · exact .inr (.inr (.inr (.inr h)))

end Go.Proofs.YtccajbgdlicbnaaDoor

/- Layer 5: the document's reader (D): an end (mk_dc.py). -/
namespace Go.Proofs.YtccajbgdlicbnaaDoor
open Go.RowKit (wrap64 intOf Below)
set_option linter.unusedVariables false
set_option linter.unusedSimpArgs false
attribute [local go_sem ↓] Go.wp_at_zero Go.wp_at_succ

section
variable {w : World} {d : Nat} {a : Option Addr} {n c : Nat} {L : List UInt8} {T R E : Nat} {CR CE : Array Value} {u u' : World} {p p' : Nat} {y y' : Int}
/-- Numbers that a reader's call made, behind what turns other blocks. -/
theorem NumsO.across {X : Nat → Prop} {u u' : World} {B B' : Nat} {v : Value} {Z : List Int} (h : NumsO u (From B') v Z) (ho : Off X u u') (hB : B ≤ B') (hX : ∀ k, X k → k < B') : NumsO u' (From B) v Z :=
  h.holds (fun b hlt hs => ⟨ho.block b hlt (fun hk => by have := hX b hk; have : B' ≤ b := hs; omega), Nat.le_trans hB hs⟩)
end
theorem InR.one : InR 1 := ⟨by decide, by decide⟩
def EndOV (w : World) (S : Nat → Prop) (v : Value) (x : EndD) : Prop := ∃ k t A l va vn vc ma mn mc, v = .agg #[.int .i64 k, .int .i64 A, .int .i64 t, .int .i64 l, .slice va vn vc, .slice ma mn mc] ∧ EndO w S [.int .i64 k, .int .i64 A, .int .i64 t, .int .i64 l, .slice va vn vc, .slice ma mn mc] x
def kEnd (k : Int) (r : List UInt8) : PR EndD :=
  if k = 0 then (rdTarget r).bind fun p r' => .ok ⟨k, 0, p.1, 0, p.2, []⟩ r'
  else if k = 1 then (rdNum r).bind fun a r1 => (rdTarget r1).bind fun p r2 => (rdTarget r2).bind fun q r3 => .ok ⟨k, a, p.1, q.1, p.2, q.2⟩ r3
  else (rdNum r).bind fun a r1 => .ok ⟨k, a, 0, 0, [], []⟩ r1
theorem Ran.target {L : List UInt8} {p p1 p2 : Nat} {y y1 y2 : Int} {t : Int} {Z : List Int} (h1 : Ran rdNum L p y p1 y1 t) (h2 : Ran (rdNums 8) L p1 y1 p2 y2 Z) : Ran rdTarget L p y p2 y2 (t, Z) :=
  Ran.bind (f := rdNum) (g := fun t r => (rdNums 8 r).bind fun Z r' => .ok (t, Z) r') h1 (Ran.bind (f := rdNums 8) (g := fun Z r' => .ok (t, Z) r') h2 (Ran.pure _))
theorem Ran.end_ {L : List UInt8} {p p1 p2 : Nat} {y y1 y2 : Int} {k : Int} {x : EndD} (h1 : Ran (rdBelow 4) L p y p1 y1 k) (h2 : Ran (kEnd k) L p1 y1 p2 y2 x) : Ran rdEnd L p y p2 y2 x := Ran.bind (f := rdBelow 4) (g := kEnd) h1 h2
theorem Ran.end0 {L : List UInt8} {p p1 : Nat} {y y1 : Int} {t : Int} {Z : List Int} (h : Ran rdTarget L p y p1 y1 (t, Z)) : Ran (kEnd 0) L p y p1 y1 ⟨0, 0, t, 0, Z, []⟩ :=
  (Ran.bind (f := rdTarget) (g := fun p r' => PR.ok (EndD.mk 0 0 p.1 0 p.2 []) r') h (Ran.pure _)).of (fun l => by unfold kEnd; rw [if_pos rfl])
theorem Ran.end1 {L : List UInt8} {p p1 p2 p3 : Nat} {y y1 y2 y3 : Int} {A t l : Int} {Z Y : List Int} (h : Ran rdNum L p y p1 y1 A) (h1 : Ran rdTarget L p1 y1 p2 y2 (t, Z)) (h2 : Ran rdTarget L p2 y2 p3 y3 (l, Y)) : Ran (kEnd 1) L p y p3 y3 ⟨1, A, t, l, Z, Y⟩ :=
  (Ran.bind (f := rdNum) (g := fun a r1 => (rdTarget r1).bind fun p r2 => (rdTarget r2).bind fun q r3 => PR.ok (EndD.mk 1 a p.1 q.1 p.2 q.2) r3) h (Ran.bind (f := rdTarget) (g := fun p r2 => (rdTarget r2).bind fun q r3 => PR.ok (EndD.mk 1 A p.1 q.1 p.2 q.2) r3) h1 (Ran.bind (f := rdTarget) (g := fun q r3 => PR.ok (EndD.mk 1 A t q.1 Z q.2) r3) h2 (Ran.pure _)))).of (fun l => by unfold kEnd; rw [if_neg (by decide), if_pos rfl])
theorem Ran.end2 {L : List UInt8} {p p1 : Nat} {y y1 : Int} {k A : Int} (hk : k = 2 ∨ k = 3) (h : Ran rdNum L p y p1 y1 A) : Ran (kEnd k) L p y p1 y1 ⟨k, A, 0, 0, [], []⟩ :=
  (Ran.bind (f := rdNum) (g := fun a r1 => PR.ok (EndD.mk k a 0 0 [] []) r1) h (Ran.pure _)).of (fun l => by unfold kEnd; rw [if_neg (by omega), if_neg (by omega)])
end Go.Proofs.YtccajbgdlicbnaaDoor

/- Layer 5: the document's reader (D): a step (mk_dd.py). -/
namespace Go.Proofs.YtccajbgdlicbnaaDoor
open Go.RowKit (wrap64 intOf Below)
set_option linter.unusedVariables false
set_option linter.unusedSimpArgs false
attribute [local go_sem ↓] Go.wp_at_zero Go.wp_at_succ

theorem rdText_yes {L : List UInt8} {m k : Nat} (hg : Counts L 64 m k) (hm : m ≤ L.length - k) : rdText L = .ok (mk ((L.drop k).take m)) (L.drop (k + m)) := by
  unfold rdText
  rw [rdCount_yes hg]
  simp only [PR.bind]
  rw [if_pos (by rw [List.length_drop]; omega), List.drop_drop]
theorem rdText_no {L : List UInt8} {er : Int} (hf : NoText L 64 er) : rdText L = .no er := by
  unfold rdText
  rcases hf with hf | ⟨m, k, hg, hlt, rfl⟩
  · rw [rdCount_no hf]; rfl
  · rw [rdCount_yes hg]
    simp only [PR.bind]
    rw [if_neg (by rw [List.length_drop]; omega)]
def OpOV (w : World) (S : Nat → Prop) (v : Value) (x : OpD) : Prop := ∃ la ln lc, v = .agg #[.int .i64 x.K, .int .i64 x.A, .int .i64 x.B, .int .i64 x.C, .int .i64 x.N, .string x.S, .slice la ln lc, .bool x.T] ∧ OpO w S [.int .i64 x.K, .int .i64 x.A, .int .i64 x.B, .int .i64 x.C, .int .i64 x.N, .string x.S, .slice la ln lc, .bool x.T] x
/-- What is known of a step but for its list. -/
def OpR1 (x : OpD) : Prop := InR x.K ∧ InR x.A ∧ InR x.B ∧ InR x.C ∧ InR x.N ∧ x.S.size ≤ 140737488351232
section
variable {L : List UInt8} {p p1 p2 : Nat} {y y1 y2 : Int}
theorem Ran.fields0 (o : OpD) : Ran (rdFields o []) L p y p y o := Ran.pure o
theorem Ran.field {fs : List UInt8} {o x z : OpD} {j : Nat} (hj : j < fs.length) (h1 : Ran (rdFields o (fs.take j)) L p y p1 y1 x) (h2 : Ran (rdField x fs[j]) L p1 y1 p2 y2 z) : Ran (rdFields o (fs.take (j + 1))) L p y p2 y2 z :=
  (h1.bind (g := fun x r => rdField x fs[j] r) h2).of (fun l => by
    rw [List.take_succ_eq_append_getElem hj, rdFields_append]
    congr 1
    funext x r
    simp only [rdFields]
    cases rdField x fs[j] r <;> rfl)
theorem rdFields_stays {fs : List UInt8} {o : OpD} {j : Nat} {l : List UInt8} {e : Int} (h : rdFields o (fs.take j) l = .no e) : rdFields o fs l = .no e := by
  conv => lhs; rw [← List.take_append_drop j fs]
  rw [rdFields_append, h]
  rfl
theorem Ran.fieldsAll {fs : List UInt8} {o x : OpD} {j : Nat} (h : Ran (rdFields o (fs.take j)) L p y p1 y1 x) (hn : fs.length ≤ j ∨ y1 ≠ 0) : Ran (rdFields o fs) L p y p1 y1 x := by
  rcases hn with hn | hn
  · rwa [List.take_of_length_le hn] at h
  · exact ⟨h.1, fun hy => ⟨fun h0 => absurd h0 hn, fun _ => rdFields_stays ((h.2 hy).2 hn)⟩⟩
theorem Ran.op {k : Int} {x : OpD} (h1 : Ran (rdBelow 26) L p y p1 y1 k) (h2 : Ran (rdFields (opZero k) (fieldsL k)) L p1 y1 p2 y2 x) : Ran rdOp L p y p2 y2 x := Ran.bind (f := rdBelow 26) (g := fun k r => rdFields (opZero k) (fieldsL k) r) h1 h2
theorem Ran.fN {x : OpD} {m : Int} (h : Ran (rdNum) L p y p1 y1 m) : Ran (rdField x 78) L p y p1 y1 { x with N := m } :=
  (Ran.bind (f := rdNum) (g := fun m r => PR.ok { x with N := m } r) h (Ran.pure _)).of (fun l => by unfold rdField; simp)
theorem Ran.fA {x : OpD} {m : Int} (h : Ran (rdNum) L p y p1 y1 m) : Ran (rdField x 65) L p y p1 y1 { x with A := m } :=
  (Ran.bind (f := rdNum) (g := fun m r => PR.ok { x with A := m } r) h (Ran.pure _)).of (fun l => by unfold rdField; simp)
theorem Ran.fB {x : OpD} {m : Int} (h : Ran (rdNum) L p y p1 y1 m) : Ran (rdField x 66) L p y p1 y1 { x with B := m } :=
  (Ran.bind (f := rdNum) (g := fun m r => PR.ok { x with B := m } r) h (Ran.pure _)).of (fun l => by unfold rdField; simp)
theorem Ran.fC {x : OpD} {m : Int} (h : Ran (rdNum) L p y p1 y1 m) : Ran (rdField x 67) L p y p1 y1 { x with C := m } :=
  (Ran.bind (f := rdNum) (g := fun m r => PR.ok { x with C := m } r) h (Ran.pure _)).of (fun l => by unfold rdField; simp)
theorem Ran.fL {x : OpD} {Z : List Int} (h : Ran (rdNums 8) L p y p1 y1 Z) : Ran (rdField x 76) L p y p1 y1 { x with L := Z } :=
  (Ran.bind (f := rdNums 8) (g := fun Z r => PR.ok { x with L := Z } r) h (Ran.pure _)).of (fun l => by unfold rdField; simp)
theorem Ran.fS {x : OpD} {t : ByteArray} (h : Ran (rdText) L p y p1 y1 t) : Ran (rdField x 83) L p y p1 y1 { x with S := t } :=
  (Ran.bind (f := rdText) (g := fun t r => PR.ok { x with S := t } r) h (Ran.pure _)).of (fun l => by unfold rdField; simp)
theorem Ran.fK {x : OpD} {b : Bool} (h : Ran (rdTruth) L p y p1 y1 b) : Ran (rdField x 75) L p y p1 y1 { x with T := b } :=
  (Ran.bind (f := rdTruth) (g := fun b r => PR.ok { x with T := b } r) h (Ran.pure _)).of (fun l => by unfold rdField; simp)
theorem Ran.truth {k : Int} (h : Ran (rdBelow 2) L p y p1 y1 k) : Ran rdTruth L p y p1 y1 (k == 1) := Ran.bind (f := rdBelow 2) (g := fun n r => PR.ok (n == 1) r) h (Ran.pure _)
end
section
variable {w : World} {d : Nat} {a : Option Addr} {n c : Nat} {L : List UInt8} {T R E : Nat} {CR CE : Array Value} {u : World} {p : Nat} {y : Int}
end
end Go.Proofs.YtccajbgdlicbnaaDoor
