/- Layer 6: package show's fields of a step, but its text and its list: number, value, stack. -/
import Derived.Test.YtfnkmigcklmghaaDoorShowOp
import Derived.Test.YtfnkmigcklmghaaDoorDeepAt
namespace Go.Proofs.YtfnkmigcklmghaaDoor
open Go.RowKit (wrap64 intOf Below)
set_option linter.unusedVariables false
set_option linter.unusedSimpArgs false

def valueText (n : Int) : List UInt8 := 118 :: Lib.itoa n
def numberText (K N : Int) : List UInt8 := if K = 3 then nameOf signNames N else Lib.itoa N
def stackText (T : Bool) : List UInt8 := if T then [115, 116, 97, 99, 107] else []
theorem value_any (n : Int) (w : World) (h0 : -9223372036854775808 ≤ n) (h1 : n ≤ 9223372036854775807) (hp : PT w) :
    Calls Tryd.prog 68 #[.int .i64 n] w fun e w' => e = .returned (.string (mk (valueText n))) ∧ Below w.heap.size w w' := by
  have HR : RowKit.Hid (mk (valueText n) = mkB [118] ++ mkB (Lib.itoa n)) := Lib.hid (by unfold valueText; rw [mkB_append]; rfl)
  have HC := Lib.hid (itoa_text n w h0 h1 hp)
  have hs := itoa_size n h0 h1
  clear hp
  go_enter Tryd.func68, Tryd.ntmps68
  go_wp2_with fail
  refine HC.out.mono ?_
  rintro e w1 ⟨rfl, hb⟩
  have HB := Lib.hid hb
  clear hb
  go_wp2_with fail
  go_ret
  exact ⟨by rw [HR.out]; rfl, HB.out⟩
set_option maxRecDepth 100000 in
theorem sign_any (K : Int) (w : World) (hs : GN w) :
    Calls Tryd.prog 93 #[.int .i64 K] w fun e w' => e = .returned (.string (mk (nameOf signNames K))) ∧ w = w' := by
  by_cases h0 : K < 0
  · have HF : RowKit.Hid (nameOf signNames K = [63]) := Lib.hid (by unfold nameOf; rw [if_pos (.inl h0)])
    clear hs
    go_enter Tryd.func93, Tryd.ntmps93
    go_wp2
    go_ret
    exact ⟨by rw [HF.out]; rfl, rfl⟩
  · by_cases h1 : 13 < K
    · have HF : RowKit.Hid (nameOf signNames K = [63]) := Lib.hid (by unfold nameOf; rw [if_pos (.inr (by simp [signNames]; omega))])
      have h0' : 0 ≤ K := by omega
      have h1' : 14 ≤ K := by omega
      clear hs h0
      go_enter Tryd.func93, Tryd.ntmps93
      go_wp2
      go_ret
      exact ⟨by rw [HF.out]; rfl, rfl⟩
    · obtain ⟨k, rfl⟩ := Int.eq_ofNat_of_zero_le (show 0 ≤ K by omega)
      have hk : k < 14 := by omega
      have hcell := hs k hk
      have HF : RowKit.Hid (nameOf signNames (k : Int) = signNames[k]) := Lib.hid (by unfold nameOf; rw [if_neg (by simp [signNames]; omega), Int.toNat_natCast, List.getD_eq_getElem?_getD, List.getElem?_eq_getElem hk]; rfl)
      have h0' : ¬ ((k : Int) < 0) := by omega
      have h1' : ¬ (14 ≤ (k : Int)) := by omega
      clear hs h0 h1
      go_enter Tryd.func93, Tryd.ntmps93
      go_wp2
      go_ret
      exact ⟨by rw [HF.out]; rfl, rfl⟩
/-- The tables that package show reads stand. -/
structure Tabs (w : World) : Prop where
  pow : PT w
  fields : FT w
  steps : SN w
  signs : GN w
theorem Tabs.since {w w' : World} (h : Tabs w) (hb : Below w.heap.size w w') : Tabs w' :=
  ⟨h.pow.since hb, h.fields.since hb, StrTab.since h.steps hb, StrTab.since h.signs hb⟩
theorem number_any (K A B C N : Int) (S : ByteArray) (la : Option Addr) (ln lc : Nat) (T : Bool) (w : World) (h0 : -9223372036854775808 ≤ N) (h1 : N ≤ 9223372036854775807) (ht : Tabs w) :
    Calls Tryd.prog 66 #[.agg #[.int .i64 K, .int .i64 A, .int .i64 B, .int .i64 C, .int .i64 N, .string S, .slice la ln lc, .bool T]] w fun e w' => e = .returned (.string (mk (numberText K N))) ∧ Below w.heap.size w w' := by
  have hb0 : Below w.heap.size w (w.alloc (.cells #[.int .i64 K, .int .i64 A, .int .i64 B, .int .i64 C, .int .i64 N, .string S, .slice la ln lc, .bool T] 38)) := (Below.refl _ _).alloc (Nat.le_refl _) _
  have HT := Lib.hid (ht.since hb0)
  have HB0 := Lib.hid hb0
  clear ht hb0
  by_cases hk : K = 3
  · subst hk
    have HR : RowKit.Hid (numberText 3 N = nameOf signNames N) := Lib.hid rfl
    go_enter Tryd.func66, Tryd.ntmps66
    go_wp2_with fail
    refine (sign_any N _ HT.out.signs).mono ?_
    rintro e w1 ⟨rfl, rfl⟩
    go_wp2_with fail
    go_ret
    exact ⟨by rw [HR.out]; rfl, HB0.out⟩
  · have HR : RowKit.Hid (mk (numberText K N) = mkB (Lib.itoa N)) := Lib.hid (by unfold numberText; rw [if_neg hk]; rfl)
    go_enter Tryd.func66, Tryd.ntmps66
    go_wp2_with fail
    refine (itoa_text N _ h0 h1 HT.out.pow).mono ?_
    rintro e w1 ⟨rfl, hb⟩
    have HB := Lib.hid (keepS HB0.out hb)
    clear hb
    go_wp2_with fail
    go_ret
    exact ⟨by rw [HR.out]; rfl, HB.out⟩
def plainField (K A B C N : Int) (T : Bool) (c : UInt8) : List UInt8 :=
  if c = 78 then numberText K N else if c = 65 then valueText A else if c = 66 then valueText B else if c = 67 then valueText C else stackText T
set_option maxRecDepth 100000 in
theorem field_plain (K A B C N : Int) (S : ByteArray) (la : Option Addr) (ln lc : Nat) (T : Bool) (c : UInt8) (hc : c = 78 ∨ c = 65 ∨ c = 66 ∨ c = 67 ∨ c = 75) (w : World) (hA : InR A) (hB : InR B) (hC : InR C) (hN : InR N) (ht : Tabs w) :
    Calls Tryd.prog 37 #[.agg #[.int .i64 K, .int .i64 A, .int .i64 B, .int .i64 C, .int .i64 N, .string S, .slice la ln lc, .bool T], .int .i32 (c.toNat : Int)] w fun e w' => e = .returned (.string (mk (plainField K A B C N T c))) ∧ Below w.heap.size w w' := by
  have hb0 : Below w.heap.size w (w.alloc (.cells #[.int .i64 K, .int .i64 A, .int .i64 B, .int .i64 C, .int .i64 N, .string S, .slice la ln lc, .bool T] 38)) := (Below.refl _ _).alloc (Nat.le_refl _) _
  have HT := Lib.hid (ht.since hb0)
  have HB0 := Lib.hid hb0
  clear ht hb0
  obtain ⟨hA0, hA1⟩ := hA
  obtain ⟨hB0, hB1⟩ := hB
  obtain ⟨hC0, hC1⟩ := hC
  obtain ⟨hN0, hN1⟩ := hN
  rcases hc with rfl | rfl | rfl | rfl | rfl
  · go_enter Tryd.func37, Tryd.ntmps37
    go_wp2_with fail
    refine (number_any K A B C N S la ln lc T _ (by omega) (by omega) HT.out).mono ?_
    rintro e w1 ⟨rfl, hb⟩
    have HB := Lib.hid (keepS HB0.out hb)
    clear hb
    go_wp2_with fail
    go_ret
    exact ⟨rfl, HB.out⟩
  · go_enter Tryd.func37, Tryd.ntmps37
    go_wp2_with fail
    refine (value_any A _ (by omega) (by omega) HT.out.pow).mono ?_
    rintro e w1 ⟨rfl, hb⟩
    have HB := Lib.hid (keepS HB0.out hb)
    clear hb
    go_wp2_with fail
    go_ret
    exact ⟨rfl, HB.out⟩
  · go_enter Tryd.func37, Tryd.ntmps37
    go_wp2_with fail
    refine (value_any B _ (by omega) (by omega) HT.out.pow).mono ?_
    rintro e w1 ⟨rfl, hb⟩
    have HB := Lib.hid (keepS HB0.out hb)
    clear hb
    go_wp2_with fail
    go_ret
    exact ⟨rfl, HB.out⟩
  · go_enter Tryd.func37, Tryd.ntmps37
    go_wp2_with fail
    refine (value_any C _ (by omega) (by omega) HT.out.pow).mono ?_
    rintro e w1 ⟨rfl, hb⟩
    have HB := Lib.hid (keepS HB0.out hb)
    clear hb
    go_wp2_with fail
    go_ret
    exact ⟨rfl, HB.out⟩
  · cases T
    · go_enter Tryd.func37, Tryd.ntmps37
      go_wp2_with fail
      go_ret
      exact ⟨rfl, HB0.out⟩
    · go_enter Tryd.func37, Tryd.ntmps37
      go_wp2_with fail
      go_ret
      exact ⟨rfl, HB0.out⟩
theorem itoa_one : Lib.itoa 1 = [49] := by unfold Lib.itoa; rw [if_neg (by decide)]; exact dec_small (by decide)
theorem itoa_two : Lib.itoa 2 = [50] := by unfold Lib.itoa; rw [if_neg (by decide)]; exact dec_small (by decide)
theorem plain_len (K A B C N : Int) (T : Bool) (hA : InR A) (hB : InR B) (hC : InR C) (hN : InR N) (c : UInt8) : (plainField K A B C N T c).length ≤ 22 := by
  obtain ⟨hA0, hA1⟩ := hA
  obtain ⟨hB0, hB1⟩ := hB
  obtain ⟨hC0, hC1⟩ := hC
  obtain ⟨hN0, hN1⟩ := hN
  have lA := Lib.itoa_length_le A (by omega) (by omega)
  have lB := Lib.itoa_length_le B (by omega) (by omega)
  have lC := Lib.itoa_length_le C (by omega) (by omega)
  have lN := Lib.itoa_length_le N (by omega) (by omega)
  have hall : ∀ n : Int, (nameOf signNames n).length ≤ 4 := fun n => by
    unfold nameOf
    split
    · simp
    · rename_i h
      obtain ⟨k, rfl⟩ := Int.eq_ofNat_of_zero_le (show 0 ≤ n by omega)
      have hk : k < signNames.length := by omega
      have hall : ∀ k, k < signNames.length → (signNames.getD k []).length ≤ 4 := by decide
      exact hall k hk
  have := hall N
  unfold plainField numberText valueText stackText
  repeat' split
  all_goals (try simp only [List.length_cons, List.length_nil]); omega
theorem lives_text : opText 3 (plainField 3 1 2 0 0 false) = [97, 114, 105, 116, 104, 32, 97, 100, 100, 32, 118, 49, 32, 118, 50] := by
  have h1 : plainField 3 1 2 0 0 false 65 = [118, 49] := by show valueText 1 = _; unfold valueText; rw [itoa_one]
  have h2 : plainField 3 1 2 0 0 false 66 = [118, 50] := by show valueText 2 = _; unfold valueText; rw [itoa_two]
  have h3 : plainField 3 1 2 0 0 false 78 = [97, 100, 100] := by decide
  show nameOf stepNames 3 ++ ([78, 65, 66].map (shownF (plainField 3 1 2 0 0 false))).flatten = _
  simp only [List.map, shownF, h1, h2, h3]
  decide
set_option maxRecDepth 100000 in
/-- 'lives' of layer 6: a step has a text. -/
theorem lives6 (w : World) (ht : Tabs w) : Calls Tryd.prog 15 #[] w fun e w' => e = .returned (.bool true) ∧ Below w.heap.size w w' := by
  have HO := Lib.hid (show_op 3 1 2 0 0 ⟨#[]⟩ none 0 0 false (plainField 3 1 2 0 0 false) 22 (by decide) w ht.fields ht.steps (by
    intro c hc
    have hc' : c ∈ [78, 65, 66] := hc
    simp only [List.mem_cons, List.not_mem_nil, or_false] at hc'
    refine ⟨plain_len _ _ _ _ _ _ ⟨by decide, by decide⟩ ⟨by decide, by decide⟩ ⟨by decide, by decide⟩ ⟨by decide, by decide⟩ c, fun u hb => field_plain 3 1 2 0 0 _ none 0 0 false c (by rcases hc' with rfl | rfl | rfl <;> simp) u ⟨by decide, by decide⟩ ⟨by decide, by decide⟩ ⟨by decide, by decide⟩ ⟨by decide, by decide⟩ (ht.since hb)⟩))
  have HR : RowKit.Hid (mk (opText 3 (plainField 3 1 2 0 0 false)) = ⟨#[97, 114, 105, 116, 104, 32, 97, 100, 100, 32, 118, 49, 32, 118, 50]⟩) := Lib.hid (by rw [lives_text]; rfl)
  clear ht
  go_enter Tryd.func15, Tryd.ntmps15
  go_wp2_with fail
  refine HO.out.mono ?_
  rintro e w1 ⟨rfl, hb⟩
  have HB := Lib.hid hb
  rw [HR.out]
  clear hb
  go_wp2_with fail
  go_ret
  exact ⟨rfl, HB.out⟩
end Go.Proofs.YtfnkmigcklmghaaDoor
