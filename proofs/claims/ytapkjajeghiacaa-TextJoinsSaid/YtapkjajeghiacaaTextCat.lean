/- Layer 2, P2.1 and P2.4: text.Cat and text.Byte, walked, and what the statements TextJoins, TextGroups and TextBytes ask of them. -/
import Derived.Test.YtapkjajeghiacaaRows
import Derived.WalkKit
import Derived.Lib.Hide
import Derived.Outline
namespace Go.Proofs.Ytapkjajeghiacaa
open Go.RowKit (wrap64 intOf Below)
set_option linter.unusedVariables false

theorem cat_yes (a b : ByteArray) (w : World) (ha : a.size ≤ 140737488351232) (hb : b.size ≤ 140737488351232) (h : a.size + b.size ≤ 4096) :
    Calls Try.prog 9 #[.string a, .string b] w fun e w' => e = .returned (.tuple #[.string (a ++ b), .bool true]) ∧ w = w' := by
  have h1 : decide (4096 < (a.size : Int) + (b.size : Int)) = false := by simp; omega
  go_enter Try.func9, Try.ntmps9
  go_wp2
  go_ret2
  exact ⟨rfl, rfl⟩
theorem cat_no (a b : ByteArray) (w : World) (ha : a.size ≤ 140737488351232) (hb : b.size ≤ 140737488351232) (h : 4096 < a.size + b.size) :
    Calls Try.prog 9 #[.string a, .string b] w fun e w' => e = .returned (.tuple #[.string ⟨#[]⟩, .bool false]) ∧ w = w' := by
  have h1 : decide (4096 < (a.size : Int) + (b.size : Int)) = true := by simp; omega
  go_enter Try.func9, Try.ntmps9
  go_wp2
  go_ret2
  exact ⟨rfl, rfl⟩

theorem joins_walk (a b : ByteArray) (w : World) (ha : a.size ≤ 140737488351232) (hb : b.size ≤ 140737488351232) :
    Calls Try.prog 3 #[.string a, .string b] w fun e w' => e = .returned (.bool true) ∧ Below w.heap.size w w' := by
  by_cases h : a.size + b.size ≤ 4096
  · go_enter Try.func3, Try.ntmps3
    go_wp2_with (go_at_call 9; (with_reducible refine (cat_yes a b _ ha hb h).mono ?_); rintro e w' ⟨rfl, rfl⟩)
    all_goals go_ret
    all_goals exact ⟨rfl, Below.refl _ _⟩
  · have h' : 4096 < a.size + b.size := by omega
    go_enter Try.func3, Try.ntmps3
    go_wp2_with (go_at_call 9; (with_reducible refine (cat_no a b _ ha hb h').mono ?_); rintro e w' ⟨rfl, rfl⟩)
    all_goals go_ret
    all_goals exact ⟨rfl, Below.refl _ _⟩

/-- Two texts that fit, joined: whichever of the two contracts holds. -/
def catV (a b : ByteArray) : ByteArray := if a.size + b.size ≤ 4096 then a ++ b else ⟨#[]⟩
def catB (a b : ByteArray) : Bool := decide (a.size + b.size ≤ 4096)
theorem cat_any (a b : ByteArray) (w : World) (ha : a.size ≤ 140737488351232) (hb : b.size ≤ 140737488351232) :
    Calls Try.prog 9 #[.string a, .string b] w fun e w' => e = .returned (.tuple #[.string (catV a b), .bool (catB a b)]) ∧ w = w' := by
  unfold catV catB
  by_cases h : a.size + b.size ≤ 4096
  · rw [if_pos h, decide_eq_true h]; exact cat_yes a b w ha hb h
  · rw [if_neg h, decide_eq_false h]; exact cat_no a b w ha hb (by omega)
theorem catV_size (a b : ByteArray) : (catV a b).size ≤ 4096 := by
  unfold catV
  split
  · rw [ByteArray.size_append]; assumption
  · exact Nat.zero_le _
theorem catV_bad (a b : ByteArray) (h : catB a b = false) : catV a b = ⟨#[]⟩ := by
  unfold catV; rw [if_neg (by simpa [catB] using h)]
theorem catV_good (a b : ByteArray) (h : catB a b = true) : catV a b = a ++ b := by
  unfold catV; rw [if_pos (by simpa [catB] using h)]

theorem groups_walk (a b c : ByteArray) (w : World) (ha : a.size ≤ 140737488351232) (hb : b.size ≤ 140737488351232) (hc : c.size ≤ 140737488351232) :
    Calls Try.prog 4 #[.string a, .string b, .string c] w fun e w' => e = .returned (.bool true) ∧ Below w.heap.size w w' := by
  have sx := catV_size a b
  have sy := catV_size b c
  by_cases hx : catB a b = true
  · by_cases hy : catB b c = true
    · have ex : (catV a b).size = a.size + b.size := by rw [catV_good a b hx, ByteArray.size_append]
      have ey : (catV b c).size = b.size + c.size := by rw [catV_good b c hy, ByteArray.size_append]
      have hB : catB a (catV b c) = catB (catV a b) c := by unfold catB; rw [ex, ey, Nat.add_assoc]
      have hV : catV a (catV b c) = catV (catV a b) c := by
        by_cases hp : catB (catV a b) c = true
        · rw [catV_good _ _ hp, catV_good _ _ (hB.trans hp), catV_good a b hx, catV_good b c hy, ByteArray.append_assoc]
        · have hp' : catB (catV a b) c = false := by simpa using hp
          rw [catV_bad _ _ hp', catV_bad _ _ (hB.trans hp')]
      by_cases hp : catB (catV a b) c = true
      · have hE : catV (catV a b) c = a ++ b ++ c := by rw [catV_good _ _ hp, catV_good a b hx]
        have c1 := fun w => cat_any a b w ha hb
        have c2 := fun w => cat_any b c w hb hc
        have c3 := fun w => cat_any (catV a b) c w (by omega) hc
        have c4 := fun w => cat_any a (catV b c) w ha (by omega)
        rw [hx] at c1; rw [hy] at c2; rw [hp, hE] at c3; rw [hB, hV, hp, hE] at c4
        have C1 := Lib.hid c1; have C2 := Lib.hid c2; have C3 := Lib.hid c3; have C4 := Lib.hid c4
        clear ex ey hB hV hp hE hx hy c1 c2 c3 c4
        go_enter Try.func4, Try.ntmps4
        go_wp2_with fail
        refine (C1.out _).mono ?_; rintro e w' ⟨rfl, rfl⟩
        go_wp2_with fail
        refine (C2.out _).mono ?_; rintro e w' ⟨rfl, rfl⟩
        go_wp2_with fail
        refine (C3.out _).mono ?_; rintro e w' ⟨rfl, rfl⟩
        go_wp2_with fail
        refine (C4.out _).mono ?_; rintro e w' ⟨rfl, rfl⟩
        go_wp2_with fail
        all_goals go_ret
        all_goals exact ⟨rfl, Below.refl _ _⟩
      · have hp' : catB (catV a b) c = false := by simpa using hp
        have hE : catV (catV a b) c = ⟨#[]⟩ := catV_bad _ _ hp'
        have c1 := fun w => cat_any a b w ha hb
        have c2 := fun w => cat_any b c w hb hc
        have c3 := fun w => cat_any (catV a b) c w (by omega) hc
        have c4 := fun w => cat_any a (catV b c) w ha (by omega)
        rw [hx] at c1; rw [hy] at c2; rw [hp', hE] at c3; rw [hB, hV, hp', hE] at c4
        have C1 := Lib.hid c1; have C2 := Lib.hid c2; have C3 := Lib.hid c3; have C4 := Lib.hid c4
        clear ex ey hB hV hp hp' hE hx hy c1 c2 c3 c4
        go_enter Try.func4, Try.ntmps4
        go_wp2_with fail
        refine (C1.out _).mono ?_; rintro e w' ⟨rfl, rfl⟩
        go_wp2_with fail
        refine (C2.out _).mono ?_; rintro e w' ⟨rfl, rfl⟩
        go_wp2_with fail
        refine (C3.out _).mono ?_; rintro e w' ⟨rfl, rfl⟩
        go_wp2_with fail
        refine (C4.out _).mono ?_; rintro e w' ⟨rfl, rfl⟩
        go_wp2_with fail
        all_goals go_ret
        all_goals exact ⟨rfl, Below.refl _ _⟩
    · have hlt : 4096 < b.size + c.size := by simpa [catB] using hy
      have c1 := fun w => cat_any a b w ha hb
      have c2 := fun w => cat_no b c w hb hc hlt
      rw [hx] at c1
      have C1 := Lib.hid c1; have C2 := Lib.hid c2
      have hsum : decide (4096 < (a.size : Int) + (b.size : Int) + (c.size : Int)) = true := by simp; omega
      clear hx hy c1 c2
      go_enter Try.func4, Try.ntmps4
      go_wp2_with fail
      refine (C1.out _).mono ?_; rintro e w' ⟨rfl, rfl⟩
      go_wp2_with fail
      refine (C2.out _).mono ?_; rintro e w' ⟨rfl, rfl⟩
      go_wp2_with fail
      all_goals go_ret
      all_goals exact ⟨rfl, Below.refl _ _⟩
  · have hlt : 4096 < a.size + b.size := by simpa [catB] using hx
    have c1 := fun w => cat_no a b w ha hb hlt
    have c2 := fun w => cat_any b c w hb hc
    have C1 := Lib.hid c1; have C2 := Lib.hid c2
    have hsum : decide (4096 < (a.size : Int) + (b.size : Int) + (c.size : Int)) = true := by simp; omega
    clear hx c1 c2
    go_enter Try.func4, Try.ntmps4
    go_wp2_with fail
    refine (C1.out _).mono ?_; rintro e w' ⟨rfl, rfl⟩
    go_wp2_with fail
    refine (C2.out _).mono ?_; rintro e w' ⟨rfl, rfl⟩
    go_wp2_with fail
    all_goals go_ret
    all_goals exact ⟨rfl, Below.refl _ _⟩

theorem wrap_byte (c : UInt8) : wrap64 (c.toNat : Int) = c.toNat := by
  have := c.toNat_lt
  unfold wrap64
  omega
theorem byte_in (s : ByteArray) (k : Nat) (w : World) (hs : s.size ≤ 140737488351232) (hk : k < s.size) :
    Calls Try.prog 10 #[.string s, .int .i64 k] w fun e w' => e = .returned (.tuple #[.int .i64 s[k].toNat, .bool true]) ∧ w = w' := by
  have hw := wrap_byte s[k]
  go_enter Try.func10, Try.ntmps10
  go_wp2
  all_goals go_ret2
  all_goals exact ⟨congrArg (fun z : Int => Ending.returned (.tuple #[.int .i64 z, .bool true])) hw, rfl⟩
theorem byte_out (s : ByteArray) (i : Int) (w : World) (hs : s.size ≤ 140737488351232) (hr : -9223372036854775808 ≤ i ∧ i ≤ 9223372036854775807) (hi : i < 0 ∨ s.size ≤ i) :
    Calls Try.prog 10 #[.string s, .int .i64 i] w fun e w' => e = .returned (.tuple #[.int .i64 0, .bool false]) ∧ w = w' := by
  obtain ⟨hr1, hr2⟩ := hr
  rcases hi with hi | hi
  all_goals
    go_enter Try.func10, Try.ntmps10
    go_wp2
    all_goals go_ret2
    all_goals exact ⟨rfl, rfl⟩
theorem bytes_walk (s : ByteArray) (i : Int) (w : World) (hs : s.size ≤ 140737488351232) (hr : -9223372036854775808 ≤ i ∧ i ≤ 9223372036854775807) :
    Calls Try.prog 5 #[.string s, .int .i64 i] w fun e w' => e = .returned (.bool true) ∧ Below w.heap.size w w' := by
  obtain ⟨hr1, hr2⟩ := hr
  by_cases h : i < 0 ∨ s.size ≤ i
  · have C1 := Lib.hid fun w => byte_out s i w hs ⟨hr1, hr2⟩ h
    rcases h with hi | hi
    all_goals
      go_enter Try.func5, Try.ntmps5
      go_wp2_with (go_at_call 10; (with_reducible refine (C1.out _).mono ?_); rintro e w' ⟨rfl, rfl⟩)
      all_goals go_ret
      all_goals exact ⟨rfl, Below.refl _ _⟩
  · obtain ⟨k, rfl⟩ := Int.eq_ofNat_of_zero_le (show 0 ≤ i by omega)
    have hk : k < s.size := by omega
    have hw := wrap_byte s[k]
    clear h
    go_enter Try.func5, Try.ntmps5
    go_wp2_with (go_at_call 10; (with_reducible refine (byte_in s k _ hs hk).mono ?_); rintro e w' ⟨rfl, rfl⟩)
    all_goals go_ret
    all_goals exact ⟨rfl, Below.refl _ _⟩
end Go.Proofs.Ytapkjajeghiacaa
