/- Layer 2, P2.2: text.Digits and the document's own Digits, walked: the digits of whatever number of 64 bits. -/
import Derived.Test.YtfnkmigcklmghaaDoorWordRefS
import Derived.Lib.ItoaNum
import Derived.Laws.IdiomStrings
import Derived.Below
import Derived.Outline
namespace Go.Proofs.YtfnkmigcklmghaaDoor
open Go.RowKit (wrap64 intOf Below)
set_option linter.unusedVariables false

def mkB (l : List UInt8) : ByteArray := ⟨l.toArray⟩
theorem mkB_append (a b : List UInt8) : mkB a ++ mkB b = mkB (a ++ b) := by
  apply ByteArray.ext
  simp [mkB]
/-- A number's last digit. -/
def dig (n : Nat) : UInt8 := UInt8.ofNat (48 + n % 10)
theorem dig_val (n : Nat) : ((dig n).toNat : Int) = 48 + (n : Int) % 10 := by unfold dig; simp; omega
theorem dec_small {u : Nat} (h : u < 10) : Lib.decDigits u = [dig u] := by rw [Lib.decDigits, dif_pos h]; unfold dig; rw [Nat.mod_eq_of_lt h]
theorem dec_big {u : Nat} (h : ¬ u < 10) : Lib.decDigits u = Lib.decDigits (u / 10) ++ [dig u] := by rw [Lib.decDigits, dif_neg h]; rfl

theorem mkB_size (l : List UInt8) : (mkB l).size = l.length := by simp [mkB, ByteArray.size]
theorem dec_len : ∀ (m u : Nat), u ≤ m → (Lib.decDigits u).length ≤ u / 10 + 1
  | m, u, hm => by
    by_cases h : u < 10
    · rw [dec_small h]; simp
    · cases m with
      | zero => omega
      | succ m =>
        have := dec_len m (u / 10) (by omega)
        rw [dec_big h, List.length_append]
        simp only [List.length_cons, List.length_nil]
        omega
theorem dec_size (u : Nat) : (mkB (Lib.decDigits u)).size ≤ u / 10 + 1 := by rw [mkB_size]; exact dec_len u u (Nat.le_refl _)

def DigPost (n : Nat) (w : World) (e : Ending) (w' : World) : Prop := e = .returned (.string (mkB (Lib.decDigits n))) ∧ Below w.heap.size w w'

set_option maxRecDepth 100000 in
theorem one_digit (u : World) (n : Nat) : (convert 30 9 (.slice (some ⟨u.heap.size, 0, none⟩) 1 1)).run Tryd.prog (u.alloc (.cells #[.int .u8 (48 + (n : Int) % 10)] 5)) =
    .ok (.string (mkB [dig n])) (u.alloc (.cells #[.int .u8 (48 + (n : Int) % 10)] 5)) := by
  have h := run_convert_bytes_back (P := Tryd.prog) (u.alloc (.cells #[.int .u8 (48 + (n : Int) % 10)] 5)) 30 9 5 ⟨u.heap.size, 0, none⟩ 1 [dig n] Tryd.underlying30 Tryd.underlying5 Tryd.underlying9 (fun j hj => by
    have : j = 0 := by simpa using hj
    subst this
    have hadd : (⟨u.heap.size, 0, none⟩ : Addr).add 0 = ⟨u.heap.size, 0, none⟩ := rfl
    rw [hadd, World.cell?_alloc_mark]
    simp only [List.getElem_cons_zero]
    rw [dig_val]
    rfl)
  exact h

set_option maxRecDepth 100000 in
theorem digits_fuel : ∀ (m n : Nat) (w : World), n ≤ m → n < 18446744073709551616 → Calls Tryd.prog 71 #[.int .u64 (n : Int)] w (DigPost n w)
  | m, n, w, hm, hn => by
    have h0 : (0 : Int) ≤ (n : Int) := Int.natCast_nonneg _
    by_cases h10 : n < 10
    · have h1 := one_digit w n
      have HD := Lib.hid (dec_small h10)
      go_enter Tryd.func71, Tryd.ntmps71
      go_wp2
      go_ret
      exact ⟨by rw [HD.out]; rfl, (Below.refl _ _).alloc (Nat.le_refl _) _⟩
    · cases m with
      | zero => omega
      | succ m =>
        have ih : ∀ w, Calls Tryd.prog 71 #[.int .u64 ((n : Int) / 10)] w (DigPost (n / 10) w) := fun w => digits_fuel m (n / 10) w (by omega) (by omega)
        have IH := Lib.hid ih
        clear ih
        have h1 := one_digit w n
        have HD := Lib.hid (dec_big h10)
        have hs1 : (mkB (Lib.decDigits (n / 10))).size ≤ 1000000000000000000 := by have := dec_size (n / 10); omega
        have hs2 : (mkB [dig n]).size ≤ 1 := by rw [mkB_size]; simp
        go_enter Tryd.func71, Tryd.ntmps71
        go_wp2_with fail
        refine (IH.out _).mono ?_
        rintro e w1 ⟨rfl, hb1⟩
        have HB1 := Lib.hid (((Below.refl w.heap.size w).alloc (Nat.le_refl _) (.cells #[.int .u8 (48 + (n : Int) % 10)] 5)).trans (hb1.mono (by simp)))
        clear hb1 h1
        go_wp2
        go_ret
        exact ⟨by rw [HD.out, ← mkB_append]; rfl, HB1.out⟩
theorem digits_any (n : Nat) (w : World) (hn : n < 18446744073709551616) : Calls Tryd.prog 71 #[.int .u64 (n : Int)] w (DigPost n w) :=
  digits_fuel n n w (Nat.le_refl _) hn

set_option maxRecDepth 100000 in
/-- The document's digits are those that the library counts by. -/
theorem ref_digits (n : Int) (w : World) (h0 : -9223372036854775808 ≤ n) (h1 : n ≤ 9223372036854775807) :
    Calls Tryd.prog 41 #[.int .i64 n] w fun e w' => e = .returned (.string (mkB (Lib.itoa n))) ∧ Below w.heap.size w w' := by
  by_cases h : n < 0
  · have HI := Lib.hid (show Lib.itoa n = [45] ++ Lib.decDigits n.natAbs by unfold Lib.itoa; rw [if_pos h]; rfl)
    have C1 := Lib.hid fun w => size_any n w h0 h1
    have C2 := Lib.hid fun w => digits_any n.natAbs w (by omega)
    have hs1 : (mkB (Lib.decDigits n.natAbs)).size ≤ 1000000000000000000 := by have := dec_size n.natAbs; omega
    go_enter Tryd.func41, Tryd.ntmps41
    go_wp2_with fail
    refine (C1.out _).mono ?_
    rintro e w1 ⟨rfl, rfl⟩
    go_wp2_with fail
    refine (C2.out _).mono ?_
    rintro e w1 ⟨rfl, hb⟩
    have HB := Lib.hid hb
    clear hb
    go_wp2
    go_ret
    exact ⟨by rw [HI.out, ← mkB_append]; rfl, HB.out⟩
  · obtain ⟨k, rfl⟩ := Int.eq_ofNat_of_zero_le (show 0 ≤ n by omega)
    have HI := Lib.hid (show Lib.itoa (k : Int) = Lib.decDigits k by unfold Lib.itoa; rw [if_neg h]; simp)
    have C2 := Lib.hid fun w => digits_any k w (by omega)
    go_enter Tryd.func41, Tryd.ntmps41
    go_wp2_with fail
    refine (C2.out _).mono ?_
    rintro e w1 ⟨rfl, hb⟩
    have HB := Lib.hid hb
    clear hb
    go_wp2_with fail
    go_ret
    exact ⟨by rw [HI.out]; rfl, HB.out⟩
end Go.Proofs.YtfnkmigcklmghaaDoor
