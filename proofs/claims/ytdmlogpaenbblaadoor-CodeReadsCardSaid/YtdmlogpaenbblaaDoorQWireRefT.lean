/- Layer 3, P3.1: the document's Take, walked: which number bytes begin with, or why none. -/
import Derived.Test.YtdmlogpaenbblaaDoorQWireTake

namespace Go.Proofs.YtdmlogpaenbblaaDoor
open Go.RowKit (wrap64 intOf Below)
set_option linter.unusedVariables false

theorem rtake_empty (a : Option Addr) (c : Nat) (w : World) : Calls Tryd.prog 84 #[.slice a 0 c] w (FirstPost [] w) := by
  go_enter Tryd.func84, Tryd.ntmps84
  go_wp2
  refine wp_loop_rounds 1 ?_
  rw [rounds_succ]
  go_wp2
  go_ret3
  exact ⟨0, 0, 3, rfl, rfl, rfl⟩

theorem wrap_mul7 {c k p : Nat} (hp : p = 128 ^ k) (hk : k ≤ 9) (hb : k = 9 → c ≤ 1) : IntKind.u64.wrap ((c : Int) % 128 * (p : Int)) = (c : Int) % 128 * (p : Int) := by
  have e : ((c : Int) % 128 * (p : Int)) = ((c % 128 * 128 ^ k : Nat) : Int) := by rw [Int.natCast_mul, hp]; rfl
  have hj := joined_lt (z := 0) (c := c) (k := k) (pow_pos' k) hk hb
  unfold joined7 at hj
  rw [e, IntWalk.u64_in _ ⟨by omega, by omega⟩]
theorem wrap_add7 {z c k p : Nat} (hp : p = 128 ^ k) (hz : z < 128 ^ k) (hk : k ≤ 9) (hb : k = 9 → c ≤ 1) : IntKind.u64.wrap ((z : Int) + (c : Int) % 128 * (p : Int)) = (joined7 z c k : Int) := by
  have e : ((c : Int) % 128 * (p : Int)) = ((c % 128 * 128 ^ k : Nat) : Int) := by rw [Int.natCast_mul, hp]; rfl
  have hj := joined_lt (z := z) (c := c) (k := k) hz hk hb
  unfold joined7 at hj ⊢
  rw [e, IntWalk.u64_in _ ⟨by omega, by omega⟩]
  omega

set_option maxRecDepth 100000 in
set_option maxHeartbeats 1000000 in
theorem rtake_more (g off n c : Nat) (L : List UInt8) (w : World) (hn : n ≤ 140737488355328) (HN : RowKit.Hid (L.length = n)) (HC : RowKit.Hid (∀ j (h : j < L.length), w.cell? ⟨g, off + j, none⟩ = some (byteV L[j]))) :
    Calls Tryd.prog 84 #[.slice (some ⟨g, off, none⟩) n c] w (FirstPost L w) := by
  go_enter Tryd.func84, Tryd.ntmps84
  go_wp2
  go_loop [5, 6, 7] (fun zv pv iv => ∃ k z p : Nat, k ≤ n ∧ k ≤ 9 ∧ iv = .int .i64 (k : Int) ∧ zv = .int .u64 (z : Int) ∧ pv = .int .u64 (p : Int) ∧ RowKit.Hid (p = 128 ^ k) ∧ RowKit.Hid (z < 128 ^ k) ∧ RowKit.Hid (takeL L 0 0 = takeL (L.drop k) k z)) (fun _ _ iv => n - (intOf iv).toNat)
  case atStart => exact ⟨0, 0, 1, Nat.zero_le _, Nat.zero_le _, rfl, rfl, rfl, Lib.hid rfl, Lib.hid (by decide), Lib.hid rfl⟩
  case round =>
    obtain ⟨k, z, p, hkn, hk9, rfl, rfl, rfl, HP, HZ, HT⟩ := hrel
    by_cases hlt : k < n
    · have hkl : k < L.length := by rw [HN.out]; exact hlt
      obtain ⟨x, hx⟩ : ∃ x, L[k] = x := ⟨_, rfl⟩
      have hcell : w.cell? ⟨g, off + k, none⟩ = some (.int .u8 (x.toNat : Int)) := by rw [HC.out k hkl, hx]; rfl
      have hx255 := x.toNat_lt
      by_cases hb : (k = 9 ∧ 1 < x.toNat) ∨ (0 < k ∧ x.toNat = 0)
      · have HE : RowKit.Hid (takeL L 0 0 = (0, 0, 4)) := Lib.hid (by rw [HT.out]; exact step_bad hkl (by rw [hx]; exact hb))
        clear hx
        rcases hb with ⟨rfl, hb⟩ | ⟨hb0, hb⟩
        · go_wp2
          go_ret3
          exact ⟨0, 0, 4, HE.out, rfl, rfl⟩
        · have hx0 : ((x.toNat : Int) == 0) = true := by rw [beq_iff_eq]; omega
          have hx1 : decide (1 < (x.toNat : Int)) = false := by rw [decide_eq_false_iff_not]; omega
          clear hb
          by_cases h9 : k = 9
          · subst h9
            go_wp2
            go_ret3
            exact ⟨0, 0, 4, HE.out, rfl, rfl⟩
          · have hk9f : ((k : Int) == 9) = false := by rw [beq_eq_false_iff_ne]; omega
            go_wp2
            go_ret3
            exact ⟨0, 0, 4, HE.out, rfl, rfl⟩
      · have hm7 := wrap_mul7 (c := x.toNat) HP.out hk9 (by omega)
        have ha7 := wrap_add7 (c := x.toNat) HP.out HZ.out hk9 (by omega)
        by_cases hs : x.toNat < 128
        · have HE : RowKit.Hid (takeL L 0 0 = (unzz (joined7 z x.toNat k), k + 1, 0)) := Lib.hid (by rw [HT.out, step_last hkl (by rw [hx]; exact hb) (by rw [hx]; exact hs), hx]; rfl)
          have hJ := joined_lt (z := z) (c := x.toNat) (k := k) HZ.out hk9 (by omega)
          have hx1 : 0 < k → ((x.toNat : Int) == 0) = false := fun h => by rw [beq_eq_false_iff_ne]; omega
          have hle : k = 9 → (x.toNat : Int) ≤ 1 := by omega
          clear hx hb
          obtain ⟨J, hJJ⟩ : ∃ J, joined7 z x.toNat k = J := ⟨_, rfl⟩
          rw [hJJ] at ha7 hJ HE
          clear hJJ
          by_cases hodd : J % 2 = 1
          all_goals
            first
              | (have ht : ((J : Int) % 2 == 1) = true := by rw [beq_iff_eq]; omega)
              | (have ht : ((J : Int) % 2 == 1) = false := by rw [beq_eq_false_iff_ne]; omega)
            first
              | (have hu : -1 - (J : Int) / 2 = unzz J := by unfold unzz; rw [if_pos hodd]; omega)
              | (have hu : (J : Int) / 2 = unzz J := by unfold unzz; rw [if_neg hodd]; omega)
            clear hodd
            by_cases h9 : k = 9
            · subst h9
              have hle1 := hle rfl
              have hx0 := hx1 (by omega)
              clear hx1 hle
              go_wp2
              go_ret3
              exact ⟨_, 10, 0, HE.out, rfl, rfl⟩
            · have hk9f : ((k : Int) == 9) = false := by rw [beq_eq_false_iff_ne]; omega
              clear hle
              by_cases h0 : 0 < k
              · have hx0 := hx1 h0
                clear hx1
                go_wp2
                go_ret3
                exact ⟨_, k + 1, 0, HE.out, rfl, rfl⟩
              · clear hx1
                go_wp2
                go_ret3
                exact ⟨_, k + 1, 0, HE.out, rfl, rfl⟩
        · have HE : RowKit.Hid (takeL L 0 0 = takeL (L.drop (k + 1)) (k + 1) (joined7 z x.toNat k)) := Lib.hid (by rw [HT.out, step_more hkl (by rw [hx]; exact hb) (by rw [hx]; exact hs), hx]; rfl)
          have HJ : RowKit.Hid (joined7 z x.toNat k < 128 ^ (k + 1)) := Lib.hid (joined_next HZ.out)
          have hk9f : ((k : Int) == 9) = false := by rw [beq_eq_false_iff_ne]; omega
          have hk8 : k ≤ 8 := by omega
          have hx0 : ((x.toNat : Int) == 0) = false := by rw [beq_eq_false_iff_ne]; omega
          have HP2 : RowKit.Hid (p * 128 = 128 ^ (k + 1)) := Lib.hid (by rw [HP.out, Nat.pow_succ])
          have hp8 : p * 128 ≤ 9223372036854775808 := by rw [HP.out]; exact pow_step hk8
          clear hx hb
          by_cases h0 : 0 < k
          all_goals
            go_wp2
            go_round
            case rel => exact ⟨k + 1, joined7 z x.toNat k, p * 128, by omega, by omega, by go_num, rfl, by go_num, HP2, HJ, HE⟩
            case measure => simp [intOf]; omega
    · have HE : RowKit.Hid (takeL L 0 0 = (0, 0, 3)) := Lib.hid (by rw [HT.out]; exact step_end (by rw [HN.out]; omega))
      go_wp2
      go_ret3
      exact ⟨0, 0, 3, HE.out, rfl, rfl⟩

theorem rtake_any (a : Option Addr) (n c : Nat) (L : List UInt8) (w : World) (hat : BytesAt w a n c L) (hn : n ≤ 140737488355328) :
    Calls Tryd.prog 84 #[.slice a n c] w (FirstPost L w) := by
  by_cases h0 : 0 < n
  · obtain ⟨g, off, rfl, hg, hc⟩ := hat.cells h0
    exact rtake_more g off n c L w hn (Lib.hid hat.1) (Lib.hid hc)
  · obtain rfl : n = 0 := by omega
    obtain rfl : L = [] := List.eq_nil_of_length_eq_zero hat.1
    exact rtake_empty a c w
theorem rtake_yes (a : Option Addr) (n c : Nat) (L : List UInt8) (w : World) (hat : BytesAt w a n c L) (hn : n ≤ 140737488355328) (m : Int) (k : Nat) (hg : Gives L m k) :
    Calls Tryd.prog 84 #[.slice a n c] w fun e w' => e = .returned (.tuple #[.int .i64 m, .int .i64 (k : Int), .int .i64 0]) ∧ w = w' := by
  refine (rtake_any a n c L w hat hn).mono ?_
  rintro e w' ⟨m', k', er, h, rfl, rfl⟩
  have := hg.symm.trans h
  cases this
  exact ⟨rfl, rfl⟩
theorem rtake_no (a : Option Addr) (n c : Nat) (L : List UInt8) (w : World) (hat : BytesAt w a n c L) (hn : n ≤ 140737488355328) (er : Int) (hg : Fails L er) :
    Calls Tryd.prog 84 #[.slice a n c] w fun e w' => e = .returned (.tuple #[.int .i64 0, .int .i64 0, .int .i64 er]) ∧ w = w' := by
  refine (rtake_any a n c L w hat hn).mono ?_
  rintro e w' ⟨m', k', er', h, rfl, rfl⟩
  have := hg.1.symm.trans h
  cases this
  exact ⟨rfl, rfl⟩
end Go.Proofs.YtdmlogpaenbblaaDoor
