/- Layer 4, P4.1: the document's Fields, Has and Ints, walked. -/
import Derived.Test.YtdchhfdmingnaaaDoorFT0

namespace Go.Proofs.YtdchhfdmingnaaaDoor
open Go.RowKit (wrap64 intOf Below)
set_option linter.unusedVariables false
set_option maxRecDepth 100000 in
theorem fields_other (K : Int) (w : World) (h : K < 0 ∨ 25 < K) :
    Calls Tryd.prog 74 #[.int .i64 K] w fun e w' => e = .returned (.string (mk (fieldsL K))) ∧ w = w' := by
  rw [fields_none h]
  rcases h with h | h
  all_goals
    go_enter Tryd.func74, Tryd.ntmps74
    go_wp2
    go_ret
    exact ⟨rfl, rfl⟩
set_option maxRecDepth 100000 in
set_option maxHeartbeats 4000000 in
theorem fields_any (K : Int) (w : World) :
    Calls Tryd.prog 74 #[.int .i64 K] w fun e w' => e = .returned (.string (mk (fieldsL K))) ∧ w = w' := by
  rcases kinds K with h | h
  · rcases h with rfl | rfl | rfl | rfl | rfl | rfl | rfl | rfl | rfl | rfl | rfl | rfl | rfl | rfl | rfl | rfl | rfl | rfl | rfl | rfl | rfl | rfl | rfl | rfl | rfl | rfl
    all_goals
      go_enter Tryd.func74, Tryd.ntmps74
      go_wp2
      go_ret
      exact ⟨rfl, rfl⟩
  · exact fields_other K w h
def hasC (s : ByteArray) (f : UInt8) : Bool := s.data.toList.contains f
theorem has_str (s : ByteArray) (hs : s.size ≤ 10) (f : UInt8) (K : Int) (w : World) (hf : fieldsL K = s.data.toList) :
    Calls Tryd.prog 60 #[.int .i64 K, .int .u8 (f.toNat : Int)] w fun e w' => e = .returned (.bool (hasC s f)) ∧ w = w' := by
  have hmk : mk (fieldsL K) = s := by rw [hf, mk_of]
  have C1 := Lib.hid (fields_any K w)
  rw [hmk] at C1
  clear hmk hf
  go_enter Tryd.func60, Tryd.ntmps60
  go_wp2_with fail
  refine C1.out.mono ?_
  rintro e w1 ⟨rfl, rfl⟩
  go_wp2_with fail
  go_loop [6] (fun iv => ∃ k : Nat, k ≤ s.size ∧ iv = .int .i64 (k : Int) ∧ RowKit.Hid (∀ j (h : j < s.size), j < k → s[j] ≠ f)) (fun iv => s.size - (intOf iv).toNat)
  case atStart => exact ⟨0, Nat.zero_le _, rfl, Lib.hid (fun j _ h => by omega)⟩
  case round =>
    obtain ⟨k, hk, rfl, HN⟩ := hrel
    by_cases hlt : k < s.size
    · by_cases hx : s[k] = f
      · have ht : ((s[k].toNat : Int) == (f.toNat : Int)) = true := by rw [hx]; simp
        have HC : RowKit.Hid (hasC s f = true) := Lib.hid (by
          unfold hasC
          rw [List.contains_iff_mem]
          exact List.mem_iff_getElem?.2 ⟨k, by rw [list_at s k hlt, hx]⟩)
        clear hx
        go_wp2_with fail
        go_ret
        exact ⟨by rw [HC.out]; rfl, rfl⟩
      · have ht : ((s[k].toNat : Int) == (f.toNat : Int)) = false := by
          rw [beq_eq_false_iff_ne]
          intro h
          exact hx (UInt8.toNat_inj.1 (by omega))
        have HN2 : RowKit.Hid (∀ j (h : j < s.size), j < k + 1 → s[j] ≠ f) := Lib.hid (fun j h hj => by
          by_cases hjk : j = k
          · subst hjk; exact hx
          · exact HN.out j h (by omega))
        clear hx
        go_wp2_with fail
        go_round
        case rel => exact ⟨k + 1, by omega, by go_num, HN2⟩
        case measure => simp [intOf]; omega
    · have HC : RowKit.Hid (hasC s f = false) := Lib.hid (by
        unfold hasC
        rw [← Bool.not_eq_true, List.contains_iff_mem]
        intro hm
        obtain ⟨j, hj⟩ := List.mem_iff_getElem?.1 hm
        obtain ⟨hj1, hj2⟩ := List.getElem?_eq_some_iff.1 hj
        rw [list_len] at hj1
        have := list_at s j hj1
        rw [hj] at this
        exact HN.out j hj1 (by omega) (Option.some.inj this).symm)
      go_wp2_with fail
      go_ret
      exact ⟨by rw [HC.out]; rfl, rfl⟩
theorem fields_len (K : Int) : (fieldsL K).length ≤ 10 := by
  unfold fieldsL
  repeat (first | (split; · decide) | decide)
theorem has_any (f : UInt8) (K : Int) (w : World) :
    Calls Tryd.prog 60 #[.int .i64 K, .int .u8 (f.toNat : Int)] w fun e w' => e = .returned (.bool (hasB K f)) ∧ w = w' := by
  have h := has_str (mk (fieldsL K)) (by rw [mk_size]; exact fields_len K) f K w (by rw [mk_list])
  unfold hasC at h
  rw [mk_list] at h
  exact h
theorem has_A (K : Int) (w : World) : Calls Tryd.prog 60 #[.int .i64 K, .int .u8 65] w fun e w' => e = .returned (.bool (hasB K 65)) ∧ w = w' := has_any 65 K w
theorem has_B (K : Int) (w : World) : Calls Tryd.prog 60 #[.int .i64 K, .int .u8 66] w fun e w' => e = .returned (.bool (hasB K 66)) ∧ w = w' := has_any 66 K w
theorem has_C (K : Int) (w : World) : Calls Tryd.prog 60 #[.int .i64 K, .int .u8 67] w fun e w' => e = .returned (.bool (hasB K 67)) ∧ w = w' := has_any 67 K w
theorem has_L (K : Int) (w : World) : Calls Tryd.prog 60 #[.int .i64 K, .int .u8 76] w fun e w' => e = .returned (.bool (hasB K 76)) ∧ w = w' := has_any 76 K w
def sameB (Z1 Z2 : List Int) : Bool := decide (Z1 = Z2)
def BoolPost (b : Bool) (w : World) (e : Ending) (w' : World) : Prop := e = .returned (.bool b) ∧ ∃ q, w' = w.drewN q
theorem ints_any (a1 a2 : Option Addr) (n1 n2 c1 c2 : Nat) (Z1 Z2 : List Int) (w : World) (h1 : NumsAt w a1 n1 Z1) (h2 : NumsAt w a2 n2 Z2) (hn1 : n1 ≤ 140737488355328) (hn2 : n2 ≤ 140737488355328) :
    Calls Tryd.prog 16 #[.slice a1 n1 c1, .slice a2 n2 c2] w (BoolPost (sameB Z1 Z2) w) := by
  by_cases hne : n1 = n2
  · subst hne
    have HZ1 := Lib.hid h1.1
    have HZ2 := Lib.hid h2.1
    have H1 := Lib.hid h1.2
    have H2 := Lib.hid h2.2
    clear h1 h2
    by_cases h0 : 0 < n1
    · obtain ⟨g1, o1, rfl, hg1, hc1⟩ := H1.out h0
      obtain ⟨g2, o2, rfl, hg2, hc2⟩ := H2.out h0
      have HC1 := Lib.hid hc1
      have HC2 := Lib.hid hc2
      clear hc1 hc2 H1 H2
      go_enter Tryd.func16, Tryd.ntmps16
      go_wp2_with fail
      go_loopw [5] (fun iv wr => ∃ k : Nat, k ≤ n1 ∧ iv = .int .i64 (k : Int) ∧ RowKit.Hid (Z1.take k = Z2.take k) ∧ ∃ d, wr = w.drewN d) (fun iv _ => n1 - (intOf iv).toNat)
      case atStart => exact ⟨0, Nat.zero_le _, rfl, Lib.hid rfl, 0, rfl⟩
      case round =>
        obtain ⟨k, hk, rfl, HT, d, rfl⟩ := hrel
        by_cases hlt : k < n1
        · have hkl1 : k < Z1.length := by rw [HZ1.out]; exact hlt
          have hkl2 : k < Z2.length := by rw [HZ2.out]; exact hlt
          obtain ⟨z1, hz1⟩ : ∃ z, Z1[k] = z := ⟨_, rfl⟩
          obtain ⟨z2, hz2⟩ : ∃ z, Z2[k] = z := ⟨_, rfl⟩
          have hcell1 : w.cell? ⟨g1, o1 + k, none⟩ = some (.int .i64 z1) := by rw [HC1.out k hkl1, hz1]; rfl
          have hcell2 : w.cell? ⟨g2, o2 + k, none⟩ = some (.int .i64 z2) := by rw [HC2.out k hkl2, hz2]; rfl
          by_cases hzz : z1 = z2
          · have HT2 : RowKit.Hid (Z1.take (k + 1) = Z2.take (k + 1)) := Lib.hid (by rw [List.take_succ_eq_append_getElem hkl1, List.take_succ_eq_append_getElem hkl2, hz1, hz2, hzz, HT.out])
            clear hz1 hz2
            subst hzz
            go_wp2_with fail
            go_quiet (fail)
            go_wp2_with fail
            go_roundw
            case rel => exact ⟨k + 1, by omega, by go_num, HT2, _, rfl⟩
            case measure => simp [intOf]; omega
          · have HE : RowKit.Hid (sameB Z1 Z2 = false) := Lib.hid (by
              unfold sameB
              rw [decide_eq_false_iff_not]
              intro he
              subst he
              exact hzz (hz1.symm.trans hz2))
            have hd : (z1 != z2) = true := by simpa using hzz
            clear hz1 hz2 hzz
            go_wp2_with fail
            go_quiet (fail)
            go_wp2_with fail
            go_ret
            exact ⟨by rw [HE.out]; rfl, d + nq, by rw [World.drewN_drewN]⟩
        · obtain rfl : k = n1 := by omega
          have HE : RowKit.Hid (sameB Z1 Z2 = true) := Lib.hid (by
            unfold sameB
            rw [decide_eq_true_iff]
            have := HT.out
            rw [List.take_of_length_le (by rw [HZ1.out]; exact Nat.le_refl _), List.take_of_length_le (by rw [HZ2.out]; exact Nat.le_refl _)] at this
            exact this)
          go_wp2_with fail
          go_ret
          exact ⟨by rw [HE.out]; rfl, d, rfl⟩
    · obtain rfl : n1 = 0 := by omega
      have e1 := List.eq_nil_of_length_eq_zero HZ1.out
      have e2 := List.eq_nil_of_length_eq_zero HZ2.out
      subst e1 e2
      go_enter Tryd.func16, Tryd.ntmps16
      go_wp2_with fail
      refine wp_loop_rounds 1 ?_
      rw [rounds_succ]
      go_wp2_with fail
      go_ret
      exact ⟨rfl, 0, rfl⟩
  · have HE : RowKit.Hid (sameB Z1 Z2 = false) := Lib.hid (by
      unfold sameB
      rw [decide_eq_false_iff_not]
      intro he
      subst he
      exact hne (h1.1.symm.trans h2.1))
    have hd : ((n1 : Int) != (n2 : Int)) = true := by simp; omega
    clear h1 h2 hne
    go_enter Tryd.func16, Tryd.ntmps16
    go_wp2_with fail
    go_ret
    exact ⟨by rw [HE.out]; rfl, 0, rfl⟩
end Go.Proofs.YtdchhfdmingnaaaDoor
