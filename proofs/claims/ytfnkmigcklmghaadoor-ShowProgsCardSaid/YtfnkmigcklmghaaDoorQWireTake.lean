/- Layer 3, P3.1: wire.first and the document's Take, walked: which number bytes begin with, or why none. -/
import Derived.Test.YtfnkmigcklmghaaDoorQT0
import Derived.Laws.Bits64b
namespace Go.Proofs.YtfnkmigcklmghaaDoor
open Go.RowKit (wrap64 intOf Below)
set_option linter.unusedVariables false

theorem drop_at {L : List UInt8} {k : Nat} (h : k < L.length) : L.drop k = L[k] :: L.drop (k + 1) := List.drop_eq_getElem_cons h
theorem step_bad {L : List UInt8} {k z : Nat} (h : k < L.length) (hb : (k = 9 ∧ 1 < L[k].toNat) ∨ (0 < k ∧ L[k].toNat = 0)) : takeL (L.drop k) k z = (0, 0, 4) := by
  rw [drop_at h]; unfold takeL; rw [if_pos hb]
theorem step_last {L : List UInt8} {k z : Nat} (h : k < L.length) (hb : ¬ ((k = 9 ∧ 1 < L[k].toNat) ∨ (0 < k ∧ L[k].toNat = 0))) (hs : L[k].toNat < 128) : takeL (L.drop k) k z = (unzz (z + L[k].toNat % 128 * 128 ^ k), k + 1, 0) := by
  rw [drop_at h]; unfold takeL; rw [if_neg hb, if_pos hs]
theorem step_more {L : List UInt8} {k z : Nat} (h : k < L.length) (hb : ¬ ((k = 9 ∧ 1 < L[k].toNat) ∨ (0 < k ∧ L[k].toNat = 0))) (hs : ¬ L[k].toNat < 128) : takeL (L.drop k) k z = takeL (L.drop (k + 1)) (k + 1) (z + L[k].toNat % 128 * 128 ^ k) := by
  rw [drop_at h]; conv => lhs; unfold takeL
  rw [if_neg hb, if_neg hs]
theorem step_end {L : List UInt8} {k z : Nat} (h : L.length ≤ k) : takeL (L.drop k) k z = (0, 0, 3) := by
  rw [List.drop_eq_nil_of_le h]; rfl

theorem low7 (c : UInt8) : bits BinOp.andNot IntKind.u8 (c.toNat : Int) 128 = (c.toNat : Int) % 128 := by
  revert c; apply bytes_all; decide +kernel
/-- What has come, and seven bits more. -/
def joined7 (z c k : Nat) : Nat := z + c % 128 * 128 ^ k
theorem joined_lt {z c k : Nat} (hz : z < 128 ^ k) (hk : k ≤ 9) (hb : k = 9 → c ≤ 1) : joined7 z c k < 18446744073709551616 := by
  unfold joined7
  have hp := pow_le hk
  by_cases h9 : k = 9
  · subst h9
    have : c % 128 * 128 ^ 9 ≤ 1 * 128 ^ 9 := Nat.mul_le_mul_right _ (by have := hb rfl; omega)
    rw [pow9] at this hz ⊢
    omega
  · have h8 := pow_step (i := k) (by omega)
    have : c % 128 * 128 ^ k ≤ 127 * 128 ^ k := Nat.mul_le_mul_right _ (by omega)
    omega
theorem joined_next {z c k : Nat} (hz : z < 128 ^ k) : joined7 z c k < 128 ^ (k + 1) := by
  unfold joined7
  have : c % 128 * 128 ^ k ≤ 127 * 128 ^ k := Nat.mul_le_mul_right _ (by omega)
  rw [Nat.pow_succ]
  omega
theorem two_pow7 (k : Nat) : (2 : Nat) ^ (7 * k) = 128 ^ k := by rw [Nat.pow_mul]
theorem joined_or {z c k : Nat} (hz : z < 128 ^ k) (hk : k ≤ 9) (hb : k = 9 → c ≤ 1) :
    bits BinOp.or IntKind.u64 (z : Int) (IntKind.u64.wrap ((c : Int) % 128 * 2 ^ (7 * k))) = (joined7 z c k : Int) := by
  have hj := joined_lt hz hk hb
  have e1 : ((c : Int) % 128 * 2 ^ (7 * k)) = ((c % 128 * 128 ^ k : Nat) : Int) := by
    rw [Int.natCast_mul, ← two_pow7, Int.natCast_pow]
    rfl
  have hlt : c % 128 * 128 ^ k < 18446744073709551616 := by unfold joined7 at hj; omega
  have hz2 : z < 18446744073709551616 := by unfold joined7 at hj; omega
  rw [e1, IntWalk.u64_in _ ⟨by omega, by omega⟩, bits_or_u64_nat _ _ hz2 hlt]
  unfold joined7
  congr 1
  rw [← two_pow7] at hz ⊢
  rw [Nat.mul_comm, Nat.or_comm, ← Nat.two_pow_add_eq_or_of_lt hz, Nat.add_comm]

theorem signed_any (z : Nat) (w : World) (h : z ≤ 18446744073709551615) :
    Calls Tryd.prog 162 #[.int .u64 (z : Int)] w fun e w' => e = .returned (.int .i64 (unzz z)) ∧ w = w' := by
  by_cases hn : z % 2 = 1
  · have ht : ((z : Int) % 2 == 1) = true := by rw [beq_iff_eq]; omega
    have hz : -1 - (z : Int) / 2 = unzz z := by unfold unzz; rw [if_pos hn]; omega
    go_enter Tryd.func162, Tryd.ntmps162
    go_wp2
    go_ret
    exact ⟨rfl, rfl⟩
  · have ht : ((z : Int) % 2 == 1) = false := by rw [beq_eq_false_iff_ne]; omega
    have hz : (z : Int) / 2 = unzz z := by unfold unzz; rw [if_neg hn]; omega
    go_enter Tryd.func162, Tryd.ntmps162
    go_wp2
    go_ret
    exact ⟨rfl, rfl⟩

def FirstPost (L : List UInt8) (w : World) (e : Ending) (w' : World) : Prop := ∃ m k er, takeL L 0 0 = (m, k, er) ∧ e = .returned (.tuple #[.int .i64 m, .int .i64 (k : Int), .int .i64 er]) ∧ w = w'

theorem first_empty (a : Option Addr) (c : Nat) (w : World) : Calls Tryd.prog 160 #[.slice a 0 c] w (FirstPost [] w) := by
  go_enter Tryd.func160, Tryd.ntmps160
  go_wp2
  refine wp_loop_rounds 1 ?_
  rw [rounds_succ]
  go_wp2
  go_ret3
  exact ⟨0, 0, 3, rfl, rfl, rfl⟩

set_option maxRecDepth 100000 in
theorem first_more (g off n c : Nat) (L : List UInt8) (w : World) (hn : n ≤ 140737488355328) (HN : RowKit.Hid (L.length = n)) (HC : RowKit.Hid (∀ j (h : j < L.length), w.cell? ⟨g, off + j, none⟩ = some (byteV L[j]))) :
    Calls Tryd.prog 160 #[.slice (some ⟨g, off, none⟩) n c] w (FirstPost L w) := by
  go_enter Tryd.func160, Tryd.ntmps160
  go_wp2
  go_loop [2, 3, 4, 5, 10] (fun r2 r3 r4 zv iv => ∃ k z : Nat, r2 = .int .i64 0 ∧ r3 = .int .i64 0 ∧ r4 = .int .i64 0 ∧ k ≤ n ∧ k ≤ 9 ∧ iv = .int .i64 (k : Int) ∧ zv = .int .u64 (z : Int) ∧ RowKit.Hid (z < 128 ^ k) ∧ RowKit.Hid (takeL L 0 0 = takeL (L.drop k) k z)) (fun _ _ _ _ iv => n - (intOf iv).toNat)
  case atStart => exact ⟨0, 0, rfl, rfl, rfl, Nat.zero_le _, Nat.zero_le _, rfl, rfl, Lib.hid (by decide), Lib.hid rfl⟩
  case round =>
    obtain ⟨k, z, rfl, rfl, rfl, hkn, hk9, rfl, rfl, HZ, HT⟩ := hrel
    by_cases hlt : k < n
    · have hkl : k < L.length := by rw [HN.out]; exact hlt
      obtain ⟨x, hx⟩ : ∃ x, L[k] = x := ⟨_, rfl⟩
      have hcell : w.cell? ⟨g, off + k, none⟩ = some (.int .u8 (x.toNat : Int)) := by rw [HC.out k hkl, hx]; rfl
      have hx255 := x.toNat_lt
      have h7 := low7 x
      by_cases hb : (k = 9 ∧ 1 < x.toNat) ∨ (0 < k ∧ x.toNat = 0)
      · have HE : RowKit.Hid (takeL L 0 0 = (0, 0, 4)) := Lib.hid (by rw [HT.out]; exact step_bad hkl (by rw [hx]; exact hb))
        clear hx h7
        rcases hb with ⟨rfl, hb⟩ | ⟨hb0, hb⟩
        · go_wp2
          go_ret3
          exact ⟨0, 0, 4, HE.out, rfl, rfl⟩
        · have hx0 : ((x.toNat : Int) == 0) = true := by rw [beq_iff_eq]; omega
          have hx1 : decide (1 < (x.toNat : Int)) = false := by rw [decide_eq_false_iff_not]; omega
          clear hb
          by_cases h9 : k = 9
          · subst h9
            go_wp2
            go_ret3
            exact ⟨0, 0, 4, HE.out, rfl, rfl⟩
          · have hk9f : ((k : Int) == 9) = false := by rw [beq_eq_false_iff_ne]; omega
            go_wp2
            go_ret3
            exact ⟨0, 0, 4, HE.out, rfl, rfl⟩
      · have hx1 : 0 < k → ((x.toNat : Int) == 0) = false := fun h => by rw [beq_eq_false_iff_ne]; omega
        by_cases hs : x.toNat < 128
        · have HE : RowKit.Hid (takeL L 0 0 = (unzz (joined7 z x.toNat k), k + 1, 0)) := Lib.hid (by rw [HT.out, step_last hkl (by rw [hx]; exact hb) (by rw [hx]; exact hs), hx]; rfl)
          have hor := joined_or (z := z) (c := x.toNat) (k := k) HZ.out hk9 (by omega)
          have HJ := Lib.hid (joined_lt (z := z) (c := x.toNat) (k := k) HZ.out hk9 (by omega))
          clear hx
          by_cases h9 : k = 9
          · subst h9
            have hle : (x.toNat : Int) ≤ 1 := by omega
            have hx0 := hx1 (by omega)
            rw [show (2 : Int) ^ (7 * 9) = 9223372036854775808 by decide, IntWalk.u64_in _ ⟨by omega, by omega⟩] at hor
            clear hb hx1
            go_wp2_with (go_at_call 162; (with_reducible refine (signed_any _ _ (by have := HJ.out; omega)).mono ?_); rintro e w' ⟨rfl, rfl⟩)
            go_ret3
            exact ⟨_, 10, 0, HE.out, rfl, rfl⟩
          · have hk9f : ((k : Int) == 9) = false := by rw [beq_eq_false_iff_ne]; omega
            by_cases h0 : 0 < k
            · have hx0 := hx1 h0
              clear hb hx1
              go_wp2_with (go_at_call 162; (with_reducible refine (signed_any _ _ (by have := HJ.out; omega)).mono ?_); rintro e w' ⟨rfl, rfl⟩)
              go_ret3
              exact ⟨_, k + 1, 0, HE.out, rfl, rfl⟩
            · clear hb hx1
              go_wp2_with (go_at_call 162; (with_reducible refine (signed_any _ _ (by have := HJ.out; omega)).mono ?_); rintro e w' ⟨rfl, rfl⟩)
              go_ret3
              exact ⟨_, k + 1, 0, HE.out, rfl, rfl⟩
        · have HE : RowKit.Hid (takeL L 0 0 = takeL (L.drop (k + 1)) (k + 1) (joined7 z x.toNat k)) := Lib.hid (by rw [HT.out, step_more hkl (by rw [hx]; exact hb) (by rw [hx]; exact hs), hx]; rfl)
          have hor := joined_or (z := z) (c := x.toNat) (k := k) HZ.out hk9 (by omega)
          have HJ : RowKit.Hid (joined7 z x.toNat k < 128 ^ (k + 1)) := Lib.hid (joined_next HZ.out)
          have hk9f : ((k : Int) == 9) = false := by rw [beq_eq_false_iff_ne]; omega
          have hk8 : k ≤ 8 := by omega
          have hx0 : ((x.toNat : Int) == 0) = false := by rw [beq_eq_false_iff_ne]; omega
          clear hx hb hx1
          by_cases h0 : 0 < k
          all_goals
            go_wp2
            go_round
            case rel => exact ⟨k + 1, joined7 z x.toNat k, rfl, rfl, rfl, by omega, by omega, by go_num, rfl, HJ, HE⟩
            case measure => simp [intOf]; omega
    · have HE : RowKit.Hid (takeL L 0 0 = (0, 0, 3)) := Lib.hid (by rw [HT.out]; exact step_end (by rw [HN.out]; omega))
      go_wp2
      go_ret3
      exact ⟨0, 0, 3, HE.out, rfl, rfl⟩

theorem first_any (a : Option Addr) (n c : Nat) (L : List UInt8) (w : World) (hat : BytesAt w a n c L) (hn : n ≤ 140737488355328) :
    Calls Tryd.prog 160 #[.slice a n c] w (FirstPost L w) := by
  by_cases h0 : 0 < n
  · obtain ⟨g, off, rfl, hg, hc⟩ := hat.cells h0
    exact first_more g off n c L w hn (Lib.hid hat.1) (Lib.hid hc)
  · obtain rfl : n = 0 := by omega
    obtain rfl : L = [] := List.eq_nil_of_length_eq_zero hat.1
    exact first_empty a c w
theorem first_yes (a : Option Addr) (n c : Nat) (L : List UInt8) (w : World) (hat : BytesAt w a n c L) (hn : n ≤ 140737488355328) (m : Int) (k : Nat) (hg : Gives L m k) :
    Calls Tryd.prog 160 #[.slice a n c] w fun e w' => e = .returned (.tuple #[.int .i64 m, .int .i64 (k : Int), .int .i64 0]) ∧ w = w' := by
  refine (first_any a n c L w hat hn).mono ?_
  rintro e w' ⟨m', k', er, h, rfl, rfl⟩
  have := hg.symm.trans h
  cases this
  exact ⟨rfl, rfl⟩
theorem first_no (a : Option Addr) (n c : Nat) (L : List UInt8) (w : World) (hat : BytesAt w a n c L) (hn : n ≤ 140737488355328) (er : Int) (hg : Fails L er) :
    Calls Tryd.prog 160 #[.slice a n c] w fun e w' => e = .returned (.tuple #[.int .i64 0, .int .i64 0, .int .i64 er]) ∧ w = w' := by
  refine (first_any a n c L w hat hn).mono ?_
  rintro e w' ⟨m', k', er', h, rfl, rfl⟩
  have := hg.1.symm.trans h
  cases this
  exact ⟨rfl, rfl⟩
end Go.Proofs.YtfnkmigcklmghaaDoor
