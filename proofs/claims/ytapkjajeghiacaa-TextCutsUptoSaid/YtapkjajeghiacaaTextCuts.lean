/- Layer 2, P2.1 and P2.4: what the statement TextCuts asks, walked. -/
import Derived.Test.YtapkjajeghiacaaTextCut
namespace Go.Proofs.Ytapkjajeghiacaa
open Go.RowKit (wrap64 intOf Below)
set_option linter.unusedVariables false

set_option maxHeartbeats 1000000 in
theorem cuts_big (s : ByteArray) (N : Nat) (w : World) (hs : s.size ≤ 1048576) (hN1 : 1 ≤ N) (hN2 : N ≤ 9223372036854775807) :
    Calls Try.prog 6 #[.string s, .int .i64 (N : Int)] w fun e w' => e = .returned (.bool true) ∧ Below w.heap.size w w' := by
  have hsl := list_len s
  have HS := Lib.hid hsl
  clear hsl
  go_enter Try.func6, Try.ntmps6
  go_wp2_with fail
  refine (cut_big s N _ hs hN1 hN2).mono ?_
  rintro e w1 ⟨v, ps, rfl, hcut, hown, hb1⟩
  have HC := Lib.hid hcut
  have HB1 := Lib.hid hb1
  clear hb1
  rcases hown.shape with ⟨rfl, rfl⟩ | ⟨g, c, rfl, hc1, hc2, hg, hcells⟩
  · have h0 : s.size = 0 := by have := hcut.1; rw [joined_nil] at this; rw [← list_len, ← this]; rfl
    clear hown hcut
    go_wp2_with fail
    refine wp_loop_rounds 1 ?_
    rw [rounds_succ]
    go_wp2
    go_ret
    exact ⟨rfl, HB1.out⟩
  · have HA := Lib.hid hcells
    have hlen : ps.length ≤ s.size := by
      have h1 := congrArg List.length hcut.1
      rw [list_len] at h1
      have h2 : ∀ j, j ≤ ps.length → j ≤ upTo ps j := by
        intro j
        induction j with
        | zero => intro _; exact Nat.zero_le _
        | succ j ih =>
          intro hj
          have := upTo_succ ps j (by omega)
          have := (hcut.2.1 j (by omega)).1
          have := ih (by omega)
          omega
      have h3 := h2 ps.length (Nat.le_refl _)
      rw [upTo_all] at h3
      omega
    clear hown hcut hcells hc1 hc2
    go_wp2_with fail
    go_loopw [6, 7] (fun av iv wr => ∃ (j a : Nat), iv = .int .i64 (j : Int) ∧ av = .int .i64 (a : Int) ∧ j ≤ ps.length ∧ RowKit.Hid (a = upTo ps j) ∧ a ≤ s.size ∧ ∃ d, wr = w1.drewN d) (fun _ iv _ => ps.length - (intOf iv).toNat)
    case atStart => exact ⟨0, 0, rfl, rfl, Nat.zero_le _, Lib.hid rfl, Nat.zero_le _, 0, rfl⟩
    case round =>
      obtain ⟨j, a, rfl, rfl, hj, HT, ha, d, rfl⟩ := hrel
      by_cases hlt : j < ps.length
      · obtain ⟨p, hp⟩ : ∃ p, ps[j] = p := ⟨_, rfl⟩
        have hcell : w1.cell? ⟨g, j, none⟩ = some (.string p) := by rw [← hp]; exact HA.out j hlt
        obtain ⟨hp1, hp2⟩ := HC.out.2.1 j hlt
        have hp3 := HC.out.2.2 j
        obtain ⟨hp4, hp5⟩ := HC.out.part j hlt
        have HT2 : RowKit.Hid (a + p.size = upTo ps (j + 1)) := Lib.hid (by rw [upTo_succ ps j hlt, HT.out, hp])
        rw [← HT.out] at hp4 hp5
        rw [hp] at hp1 hp2 hp4 hp5
        have hk0 : ((p.size : Int) == 0) = false := by rw [beq_eq_false_iff_ne]; omega
        have hkN : decide ((N : Int) < (p.size : Int)) = false := by simp; omega
        have hat : decide ((s.size : Int) < (a : Int) + (p.size : Int)) = false := by simp; omega
        by_cases hl : j + 1 < ps.length
        · have hkn : (p.size : Int) = N := by have := hp3 hl; rw [hp] at this; omega
          have hkn2 : ((p.size : Int) != (N : Int)) = false := by rw [hkn]; simp
          have hd : decide ((j : Int) + 1 < (ps.length : Int)) = true := by simp; omega
          have HK := Lib.hid hkn
          clear hkn hp3 hp
          have hdn : decide (j + 1 < ps.length) = true := by simp; omega
          go_wp2
          have e1 : IntKind.i64.wrap ((j : Int) + 1) = (j : Int) + 1 := IntWalk.i64_in _ (by omega)
          have e2 : IntKind.i64.wrap ((a : Int) + (p.size : Int)) = (a : Int) + (p.size : Int) := IntWalk.i64_in _ (by omega)
          have e3 : ((a : Int) + (p.size : Int)).toNat = a + p.size := by omega
          have e4 : (0 : Int) ≤ (a : Int) + (p.size : Int) := by omega
          have e5 : (a : Int) ≤ (a : Int) + (p.size : Int) := by omega
          have e6 : (a : Int) + (p.size : Int) ≤ (s.size : Int) := by omega
          go_quiet (fail)
          clear e1 e2 e3 e4 e5 e6
          go_wp2
          go_roundw
          case rel => exact ⟨j + 1, a + p.size, by go_num, by go_num, by omega, HT2, by omega, _, rfl⟩
          case measure => simp [intOf]; omega
        · have hd : decide ((j : Int) + 1 < (ps.length : Int)) = false := by simp; omega
          clear hp3 hp
          have hdn : decide (j + 1 < ps.length) = false := by simp; omega
          go_wp2
          have e1 : IntKind.i64.wrap ((j : Int) + 1) = (j : Int) + 1 := IntWalk.i64_in _ (by omega)
          have e2 : IntKind.i64.wrap ((a : Int) + (p.size : Int)) = (a : Int) + (p.size : Int) := IntWalk.i64_in _ (by omega)
          have e3 : ((a : Int) + (p.size : Int)).toNat = a + p.size := by omega
          have e4 : (0 : Int) ≤ (a : Int) + (p.size : Int) := by omega
          have e5 : (a : Int) ≤ (a : Int) + (p.size : Int) := by omega
          have e6 : (a : Int) + (p.size : Int) ≤ (s.size : Int) := by omega
          go_quiet (fail)
          clear e1 e2 e3 e4 e5 e6
          go_wp2
          go_roundw
          case rel => exact ⟨j + 1, a + p.size, by go_num, by go_num, by omega, HT2, by omega, _, rfl⟩
          case measure => simp [intOf]; omega
      · obtain rfl : j = ps.length := by omega
        have hfin : a = s.size := by rw [HT.out, HC.out.at_end, HS.out]
        subst hfin
        have HB2 : RowKit.Hid (Below w.heap.size w (w1.drewN d)) := Lib.hid (HB1.out.trans ⟨rfl, rfl, rfl, Nat.le_refl _, fun _ _ => rfl⟩)
        go_wp2
        go_ret
        exact ⟨rfl, HB2.out⟩

set_option maxHeartbeats 1000000 in
theorem cuts_small (s : ByteArray) (n : Int) (w : World) (hs : s.size ≤ 1048576) (hn0 : -9223372036854775808 ≤ n) (hn1 : n < 1) :
    Calls Try.prog 6 #[.string s, .int .i64 n] w fun e w' => e = .returned (.bool true) ∧ Below w.heap.size w w' := by
  have hsl := list_len s
  have HS := Lib.hid hsl
  clear hsl
  go_enter Try.func6, Try.ntmps6
  go_wp2_with fail
  refine (cut_small s n _ hs hn0 hn1).mono ?_
  rintro e w1 ⟨v, ps, rfl, hcut, hown, hb1⟩
  have HC := Lib.hid hcut
  have HB1 := Lib.hid hb1
  clear hb1
  rcases hown.shape with ⟨rfl, rfl⟩ | ⟨g, c, rfl, hc1, hc2, hg, hcells⟩
  · have h0 : s.size = 0 := by have := hcut.1; rw [joined_nil] at this; rw [← list_len, ← this]; rfl
    clear hown hcut
    go_wp2_with fail
    refine wp_loop_rounds 1 ?_
    rw [rounds_succ]
    go_wp2
    go_ret
    exact ⟨rfl, HB1.out⟩
  · have HA := Lib.hid hcells
    have hlen : ps.length ≤ s.size := by
      have h1 := congrArg List.length hcut.1
      rw [list_len] at h1
      have h2 : ∀ j, j ≤ ps.length → j ≤ upTo ps j := by
        intro j
        induction j with
        | zero => intro _; exact Nat.zero_le _
        | succ j ih =>
          intro hj
          have := upTo_succ ps j (by omega)
          have := (hcut.2.1 j (by omega)).1
          have := ih (by omega)
          omega
      have h3 := h2 ps.length (Nat.le_refl _)
      rw [upTo_all] at h3
      omega
    clear hown hcut hcells hc1 hc2
    go_wp2_with fail
    go_loopw [6, 7] (fun av iv wr => ∃ (j a : Nat), iv = .int .i64 (j : Int) ∧ av = .int .i64 (a : Int) ∧ j ≤ ps.length ∧ RowKit.Hid (a = upTo ps j) ∧ a ≤ s.size ∧ ∃ d, wr = w1.drewN d) (fun _ iv _ => ps.length - (intOf iv).toNat)
    case atStart => exact ⟨0, 0, rfl, rfl, Nat.zero_le _, Lib.hid rfl, Nat.zero_le _, 0, rfl⟩
    case round =>
      obtain ⟨j, a, rfl, rfl, hj, HT, ha, d, rfl⟩ := hrel
      by_cases hlt : j < ps.length
      · obtain ⟨p, hp⟩ : ∃ p, ps[j] = p := ⟨_, rfl⟩
        have hcell : w1.cell? ⟨g, j, none⟩ = some (.string p) := by rw [← hp]; exact HA.out j hlt
        obtain ⟨hp1, hp2⟩ := HC.out.2.1 j hlt
        have hp3 := HC.out.2.2 j
        obtain ⟨hp4, hp5⟩ := HC.out.part j hlt
        have HT2 : RowKit.Hid (a + p.size = upTo ps (j + 1)) := Lib.hid (by rw [upTo_succ ps j hlt, HT.out, hp])
        rw [← HT.out] at hp4 hp5
        rw [hp] at hp1 hp2 hp4 hp5
        have hk0 : ((p.size : Int) == 0) = false := by rw [beq_eq_false_iff_ne]; omega
        have hkN : decide ((1 : Int) < (p.size : Int)) = false := by simp; omega
        have hat : decide ((s.size : Int) < (a : Int) + (p.size : Int)) = false := by simp; omega
        by_cases hl : j + 1 < ps.length
        · have hkn : (p.size : Int) = 1 := by have := hp3 hl; rw [hp] at this; omega
          have hkn2 : ((p.size : Int) != 1) = false := by rw [hkn]; simp
          have hd : decide ((j : Int) + 1 < (ps.length : Int)) = true := by simp; omega
          have HK := Lib.hid hkn
          clear hkn hp3 hp
          have hdn : decide (j + 1 < ps.length) = true := by simp; omega
          go_wp2
          have e1 : IntKind.i64.wrap ((j : Int) + 1) = (j : Int) + 1 := IntWalk.i64_in _ (by omega)
          have e2 : IntKind.i64.wrap ((a : Int) + (p.size : Int)) = (a : Int) + (p.size : Int) := IntWalk.i64_in _ (by omega)
          have e3 : ((a : Int) + (p.size : Int)).toNat = a + p.size := by omega
          have e4 : (0 : Int) ≤ (a : Int) + (p.size : Int) := by omega
          have e5 : (a : Int) ≤ (a : Int) + (p.size : Int) := by omega
          have e6 : (a : Int) + (p.size : Int) ≤ (s.size : Int) := by omega
          go_quiet (fail)
          clear e1 e2 e3 e4 e5 e6
          go_wp2
          go_roundw
          case rel => exact ⟨j + 1, a + p.size, by go_num, by go_num, by omega, HT2, by omega, _, rfl⟩
          case measure => simp [intOf]; omega
        · have hd : decide ((j : Int) + 1 < (ps.length : Int)) = false := by simp; omega
          clear hp3 hp
          have hdn : decide (j + 1 < ps.length) = false := by simp; omega
          go_wp2
          have e1 : IntKind.i64.wrap ((j : Int) + 1) = (j : Int) + 1 := IntWalk.i64_in _ (by omega)
          have e2 : IntKind.i64.wrap ((a : Int) + (p.size : Int)) = (a : Int) + (p.size : Int) := IntWalk.i64_in _ (by omega)
          have e3 : ((a : Int) + (p.size : Int)).toNat = a + p.size := by omega
          have e4 : (0 : Int) ≤ (a : Int) + (p.size : Int) := by omega
          have e5 : (a : Int) ≤ (a : Int) + (p.size : Int) := by omega
          have e6 : (a : Int) + (p.size : Int) ≤ (s.size : Int) := by omega
          go_quiet (fail)
          clear e1 e2 e3 e4 e5 e6
          go_wp2
          go_roundw
          case rel => exact ⟨j + 1, a + p.size, by go_num, by go_num, by omega, HT2, by omega, _, rfl⟩
          case measure => simp [intOf]; omega
      · obtain rfl : j = ps.length := by omega
        have hfin : a = s.size := by rw [HT.out, HC.out.at_end, HS.out]
        subst hfin
        have HB2 : RowKit.Hid (Below w.heap.size w (w1.drewN d)) := Lib.hid (HB1.out.trans ⟨rfl, rfl, rfl, Nat.le_refl _, fun _ _ => rfl⟩)
        go_wp2
        go_ret
        exact ⟨rfl, HB2.out⟩

theorem cuts_walk (s : ByteArray) (n : Int) (w : World) (hs : s.size ≤ 1048576) (hn : -9223372036854775808 ≤ n ∧ n ≤ 9223372036854775807) :
    Calls Try.prog 6 #[.string s, .int .i64 n] w fun e w' => e = .returned (.bool true) ∧ Below w.heap.size w w' := by
  obtain ⟨hn0, hn1⟩ := hn
  by_cases h1 : n < 1
  · exact cuts_small s n w hs hn0 h1
  · obtain ⟨N, rfl⟩ := Int.eq_ofNat_of_zero_le (show 0 ≤ n by omega)
    exact cuts_big s N w hs (by omega) (by omega)
end Go.Proofs.Ytapkjajeghiacaa
