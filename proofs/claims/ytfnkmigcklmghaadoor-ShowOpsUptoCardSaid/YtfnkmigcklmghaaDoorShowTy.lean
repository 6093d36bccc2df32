/- Layer 6: types' names: package show's Type and the document's. -/
import Derived.Test.YtfnkmigcklmghaaDoorShowWord
namespace Go.Proofs.YtfnkmigcklmghaaDoor
open Go.RowKit (wrap64 intOf Below)
set_option linter.unusedVariables false
set_option linter.unusedSimpArgs false

/-- A table of texts holds what it was laid with. -/
def StrTab (g : Nat) (ls : List (List UInt8)) (w : World) : Prop := ∀ k (h : k < ls.length), w.cell? ⟨g, k, none⟩ = some (.string (mk ls[k]))
theorem StrTab.lt {g : Nat} {ls : List (List UInt8)} {w : World} (h : StrTab g ls w) (h0 : 0 < ls.length) : g < w.heap.size := World.block_lt_of_cell? _ _ (h 0 h0)
theorem StrTab.since {g : Nat} {ls : List (List UInt8)} {w w' : World} (h : StrTab g ls w) (hb : Below w.heap.size w w') : StrTab g ls w' := fun k hk => by
  rw [hb.cell (p := ⟨g, k, none⟩) (h.lt (by omega))]; exact h k hk
def typeNames : List (List UInt8) := [[110, 111, 110, 101], [105, 110, 116], [98, 111, 111, 108], [116, 101, 120, 116], [115, 108, 105, 99, 101], [116, 97, 98, 108, 101], [102, 97, 99, 101]]
def stepNames : List (List UInt8) := [[105, 110, 116], [98, 111, 111, 108], [116, 101, 120, 116], [97, 114, 105, 116, 104], [110, 111, 116], [99, 97, 116], [108, 111, 110, 103], [98, 121, 116, 101], [97, 108, 105, 107, 101], [110, 101, 119], [103, 101, 116], [115, 101, 116], [109, 97, 107, 101], [114, 111, 111, 109], [115, 105, 122, 101], [97, 116], [112, 117, 116], [116, 97, 98, 108, 101], [101, 110, 116, 101, 114], [108, 111, 111, 107], [99, 111, 117, 110, 116], [107, 101, 121], [102, 97, 99, 101], [99, 97, 108, 108], [97, 115, 107], [116, 101, 108, 108]]
def signNames : List (List UInt8) := [[97, 100, 100], [115, 117, 98], [109, 117, 108], [100, 105, 118], [114, 101, 109], [97, 110, 100], [111, 114], [120, 111, 114], [115, 104, 108], [115, 104, 114], [108, 101, 115, 115], [109, 111, 115, 116], [115, 97, 109, 101], [101, 108, 115, 101]]
def typeWords : List UInt8 := [110, 111, 110, 101, 32, 105, 110, 116, 32, 98, 111, 111, 108, 32, 116, 101, 120, 116, 32, 115, 108, 105, 99, 101, 32, 116, 97, 98, 108, 101, 32, 102, 97, 99, 101]
def stepWords : List UInt8 := [105, 110, 116, 32, 98, 111, 111, 108, 32, 116, 101, 120, 116, 32, 97, 114, 105, 116, 104, 32, 110, 111, 116, 32, 99, 97, 116, 32, 108, 111, 110, 103, 32, 98, 121, 116, 101, 32, 97, 108, 105, 107, 101, 32, 110, 101, 119, 32, 103, 101, 116, 32, 115, 101, 116, 32, 109, 97, 107, 101, 32, 114, 111, 111, 109, 32, 115, 105, 122, 101, 32, 97, 116, 32, 112, 117, 116, 32, 116, 97, 98, 108, 101, 32, 101, 110, 116, 101, 114, 32, 108, 111, 111, 107, 32, 99, 111, 117, 110, 116, 32, 107, 101, 121, 32, 102, 97, 99, 101, 32, 99, 97, 108, 108, 32, 97, 115, 107, 32, 116, 101, 108, 108]
def signWords : List UInt8 := [97, 100, 100, 32, 115, 117, 98, 32, 109, 117, 108, 32, 100, 105, 118, 32, 114, 101, 109, 32, 97, 110, 100, 32, 111, 114, 32, 120, 111, 114, 32, 115, 104, 108, 32, 115, 104, 114, 32, 108, 101, 115, 115, 32, 109, 111, 115, 116, 32, 115, 97, 109, 101, 32, 101, 108, 115, 101]
def nameOf (ls : List (List UInt8)) (n : Int) : List UInt8 := if n < 0 ∨ (ls.length : Int) ≤ n then [63] else ls.getD n.toNat []
theorem word_of {l : List UInt8} {ls : List (List UInt8)} (hn : (l.filter (· = 32)).length + 1 = ls.length) (h : ∀ k, k < ls.length → wordL l (k : Int) = ls.getD k []) (n : Int) : wordL l n = nameOf ls n := by
  unfold nameOf
  by_cases h0 : n < 0
  · rw [if_pos (.inl h0)]; exact wordGo_low _ _ _ _ h0
  · by_cases h1 : (ls.length : Int) ≤ n
    · rw [if_pos (.inr h1)]; exact wordGo_high _ _ _ _ (by omega)
    · rw [if_neg (by omega)]
      obtain ⟨k, rfl⟩ := Int.eq_ofNat_of_zero_le (show 0 ≤ n by omega)
      exact h k (by omega)
set_option maxRecDepth 100000 in
theorem words_types (n : Int) : wordL typeWords n = nameOf typeNames n := word_of (by decide) (by decide) n
set_option maxRecDepth 100000 in
theorem words_steps (n : Int) : wordL stepWords n = nameOf stepNames n := word_of (by decide) (by decide) n
set_option maxRecDepth 100000 in
theorem words_signs (n : Int) : wordL signWords n = nameOf signNames n := word_of (by decide) (by decide) n
def typeText (t : Int) : List UInt8 := if 6 ≤ t then 42 :: Lib.itoa (t - 6) else nameOf typeNames (t + 1)
def TN (w : World) : Prop := StrTab 0 typeNames w
def SN (w : World) : Prop := StrTab 1 stepNames w
def GN (w : World) : Prop := StrTab 3 signNames w

set_option maxRecDepth 100000 in
theorem type_any (t : Int) (w : World) (h0 : -9223372036854775808 ≤ t) (h1 : t ≤ 9223372036854775807) (hp : PT w) (ht : TN w) :
    Calls Tryd.prog 16 #[.int .i64 t] w fun e w' => e = .returned (.string (mk (typeText t))) ∧ Below w.heap.size w w' := by
  by_cases hlo : t < -1
  · have HR : RowKit.Hid (typeText t = [63]) := Lib.hid (by unfold typeText nameOf; rw [if_neg (by omega), if_pos (.inl (by omega))])
    clear hp ht
    go_enter Tryd.func16, Tryd.ntmps16
    go_wp2_with fail
    go_ret
    exact ⟨by rw [HR.out]; rfl, Below.refl _ _⟩
  · by_cases hhi : 6 ≤ t
    · have HR : RowKit.Hid (mk (typeText t) = mkB [42] ++ mkB (Lib.itoa (t - 6))) := Lib.hid (by unfold typeText; rw [if_pos hhi, mkB_append]; rfl)
      have HC := Lib.hid (itoa_text (t - 6) w (by omega) (by omega) hp)
      have hs := itoa_size (t - 6) (by omega) (by omega)
      have hw : IntKind.i64.wrap (t - 6) = t - 6 := wrap_small _ (by omega) (by omega)
      clear hp ht
      go_enter Tryd.func16, Tryd.ntmps16
      go_wp2_with fail
      refine HC.out.mono ?_
      rintro e w1 ⟨rfl, hb⟩
      have HB := Lib.hid hb
      clear hb
      go_wp2_with fail
      go_ret
      exact ⟨by rw [HR.out]; rfl, HB.out⟩
    · obtain ⟨k, hk⟩ := Int.eq_ofNat_of_zero_le (show 0 ≤ t + 1 by omega)
      obtain rfl : t = (k : Int) - 1 := by omega
      have hk7 : k < 7 := by omega
      have hcell := ht k hk7
      have HR : RowKit.Hid (typeText ((k : Int) - 1) = typeNames[k]) := Lib.hid (by unfold typeText nameOf; rw [if_neg (by omega), if_neg (by simp [typeNames]; omega), show ((k : Int) - 1 + 1).toNat = k by omega]; rw [List.getD_eq_getElem?_getD, List.getElem?_eq_getElem hk7]; rfl)
      have hw : IntKind.i64.wrap ((k : Int) - 1 - -1) = (k : Int) := by rw [show (k : Int) - 1 - -1 = (k : Int) by omega]; exact wrap_small _ (by omega) (by omega)
      clear hp ht hk
      go_enter Tryd.func16, Tryd.ntmps16
      go_wp2_with fail
      go_ret
      exact ⟨by rw [HR.out]; rfl, Below.refl _ _⟩
set_option maxRecDepth 100000 in
theorem type_ref (t : Int) (w : World) (h0 : -9223372036854775808 ≤ t) (h1 : t ≤ 9223372036854775807) :
    Calls Tryd.prog 17 #[.int .i64 t] w fun e w' => e = .returned (.string (mk (typeText t))) ∧ Below w.heap.size w w' := by
  by_cases hhi : 6 ≤ t
  · have HR : RowKit.Hid (mk (typeText t) = mkB [42] ++ mkB (Lib.itoa (t - 6))) := Lib.hid (by unfold typeText; rw [if_pos hhi, mkB_append]; rfl)
    have HC := Lib.hid (itoa_ref (t - 6) w (by omega) (by omega))
    have hs := itoa_size (t - 6) (by omega) (by omega)
    have hw : IntKind.i64.wrap (t - 6) = t - 6 := wrap_small _ (by omega) (by omega)
    go_enter Tryd.func17, Tryd.ntmps17
    go_wp2_with fail
    refine HC.out.mono ?_
    rintro e w1 ⟨rfl, hb⟩
    have HB := Lib.hid hb
    clear hb
    go_wp2_with fail
    go_ret
    exact ⟨by rw [HR.out]; rfl, HB.out⟩
  · by_cases hlo : t < -1
    · have HR : RowKit.Hid (typeText t = [63]) := Lib.hid (by unfold typeText nameOf; rw [if_neg (by omega), if_pos (.inl (by omega))])
      go_enter Tryd.func17, Tryd.ntmps17
      go_wp2_with fail
      go_ret
      exact ⟨by rw [HR.out]; rfl, Below.refl _ _⟩
    · have HR : RowKit.Hid (typeText t = wordL typeWords (t + 1)) := Lib.hid (by unfold typeText; rw [if_neg hhi, words_types])
      have HC := Lib.hid (word_any (mk typeWords) (t + 1) w (by rw [mk_size]; decide))
      have hw : IntKind.i64.wrap (t + 1) = t + 1 := wrap_small _ (by omega) (by omega)
      go_enter Tryd.func17, Tryd.ntmps17
      go_wp2_with fail
      refine HC.out.mono ?_
      rintro e w1 ⟨rfl, rfl⟩
      go_wp2_with fail
      go_ret
      exact ⟨by rw [HR.out]; rfl, Below.refl _ _⟩
end Go.Proofs.YtfnkmigcklmghaaDoor
