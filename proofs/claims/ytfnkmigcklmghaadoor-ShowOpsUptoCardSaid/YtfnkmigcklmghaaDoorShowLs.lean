/- Layer 6: lists of numbers as texts: package show's values, and the document's list of values. -/
import Derived.Test.YtfnkmigcklmghaaDoorShowJn
namespace Go.Proofs.YtfnkmigcklmghaaDoor
open Go.RowKit (wrap64 intOf Below)
set_option linter.unusedVariables false
set_option linter.unusedSimpArgs false

theorem value_len (z : Int) (h : InR z) : (valueText z).length ≤ 22 := by
  obtain ⟨h0, h1⟩ := h
  have := Lib.itoa_length_le z (by omega) (by omega)
  unfold valueText
  simp only [List.length_cons]
  omega
def listV (Z : List Int) : List UInt8 := 40 :: (listText valueText Z ++ [41])
theorem enters_value : ∀ args w, (callFunc 68 args).run Tryd.prog w = .ok (.enter 68 args) w := enters_of Tryd.func68 (by kernel_rfl) rfl
set_option maxRecDepth 100000 in
theorem values_any (a : Option Addr) (n c : Nat) (Z : List Int) (w : World) (hat : NumsAt w a n Z) (hn : n ≤ 1048576) (hr : ∀ z ∈ Z, InR z) (hp : PT w) :
    Calls Tryd.prog 69 #[.slice a n c] w fun e w' => e = .returned (.string (mk (listV Z))) ∧ Below w.heap.size w w' := by
  have HC := Lib.hid (joined_any 68 enters_value valueText 22 (by decide) a n c Z (fun z hz => value_len z (hr z hz)) w hat hn (fun z hz u hb => by
    obtain ⟨h0, h1⟩ := hr z hz
    exact value_any z u (by omega) (by omega) (hp.since hb)))
  have HLEN : RowKit.Hid ((listText valueText Z).length ≤ 100000000) := Lib.hid (by
    have h1 := listText_len (M := 22) Z (fun x hx => value_len x (hr x hx))
    have h2 : Z.length ≤ 1048576 := by rw [hat.1]; exact hn
    have h3 : Z.length * (22 + 1) ≤ 1048576 * 23 := Nat.mul_le_mul_right _ h2
    omega)
  have HV : RowKit.Hid (mk (listV Z) = mkB [40] ++ mk (listText valueText Z) ++ mkB [41]) := Lib.hid (by
    show mkB _ = mkB _ ++ mkB _ ++ mkB _
    rw [mkB_append, mkB_append]
    congr 1)
  obtain ⟨t, ht⟩ : ∃ t, t = mk (listText valueText Z) := ⟨_, rfl⟩
  have hts : t.size ≤ 100000000 := by rw [ht, mk_size]; exact HLEN.out
  rw [← ht] at HC HV
  clear hat hr hp ht
  go_enter Tryd.func69, Tryd.ntmps69
  go_wp2_with fail
  refine HC.out.mono ?_
  rintro e w1 ⟨rfl, hb⟩
  have HB := Lib.hid hb
  clear hb
  go_wp2_with fail
  go_ret
  exact ⟨by rw [HV.out]; rfl, HB.out⟩

set_option maxRecDepth 100000 in
set_option maxHeartbeats 2000000 in
theorem list_values (a : Option Addr) (n c : Nat) (Z : List Int) (w : World) (hat : NumsAt w a n Z) (hn : n ≤ 1048576) (hr : ∀ z ∈ Z, InR z) :
    Calls Tryd.prog 44 #[.slice a n c, .int .i64 1] w fun e w' => e = .returned (.string (mk (listText valueText Z))) ∧ Below w.heap.size w w' := by
  have HL : RowKit.Hid (Z.length = n) := Lib.hid hat.1
  have HAT := Lib.hid hat
  have HRR := Lib.hid hr
  clear hat hr
  go_enter Tryd.func44, Tryd.ntmps44
  go_wp2_with fail
  go_loopw [5, 6] (fun sv iv wr => ∃ k : Nat, k ≤ n ∧ iv = .int .i64 (k : Int) ∧ sv = .string (mk (listText valueText (Z.take k))) ∧ RowKit.Hid (Below w.heap.size w wr)) (fun _ iv _ => n - (intOf iv).toNat)
  case atStart => exact ⟨0, Nat.zero_le _, rfl, rfl, Lib.hid (Below.refl _ _)⟩
  case round =>
    obtain ⟨k, hk, rfl, rfl, HI⟩ := hrel
    by_cases hlt : k < n
    · have hkz : k < Z.length := by rw [HL.out]; exact hlt
      obtain ⟨g, off, ea, hg, hcell⟩ := HAT.out.2 (by omega)
      subst ea
      obtain ⟨z, hz⟩ : ∃ z, z = Z[k] := ⟨_, rfl⟩
      have hc0 := (HI.out.cell (p := ⟨g, off + k, none⟩) hg).trans (hcell k hkz)
      rw [← hz] at hc0
      have hzr : InR z := by rw [hz]; exact HRR.out _ (List.getElem_mem hkz)
      obtain ⟨hz0, hz1⟩ := hzr
      have HC := Lib.hid (itoa_ref z wr (by omega) (by omega))
      have HTK : RowKit.Hid (listText valueText (Z.take (k + 1)) = (if Z.take k = [] then [] else listText valueText (Z.take k) ++ [44]) ++ valueText z) := Lib.hid (by rw [List.take_succ_eq_append_getElem hkz, listText_snoc, hz])
      have HLEN : RowKit.Hid ((listText valueText (Z.take k)).length ≤ 100000000) := Lib.hid (by
        have h1 := listText_len (M := 22) (Z.take k) (fun x hx => value_len x (HRR.out x (List.mem_of_mem_take hx)))
        have h2 : (Z.take k).length ≤ 1048576 := by rw [List.length_take]; omega
        have h3 : (Z.take k).length * (22 + 1) ≤ 1048576 * 23 := Nat.mul_le_mul_right _ h2
        omega)
      have HZL := Lib.hid (value_len z ⟨by omega, by omega⟩)
      have hzs : (mkB (Lib.itoa z)).size ≤ 100 := by have := itoa_size z (by omega) (by omega); omega
      obtain ⟨t, ht⟩ : ∃ t, t = mk (listText valueText (Z.take k)) := ⟨_, rfl⟩
      have HT := Lib.hid ht
      have hts : t.size ≤ 100000000 := by rw [ht, mk_size]; exact HLEN.out
      have HVX : RowKit.Hid (mk (valueText z) = mkB [118] ++ mkB (Lib.itoa z)) := Lib.hid (by unfold valueText; rw [mkB_append]; rfl)
      rw [← ht]
      clear hcell hz ht
      by_cases h0 : k = 0
      · subst h0
        rw [Nat.add_zero] at hc0
        have HTX : RowKit.Hid (mk (listText valueText (Z.take (0 + 1))) = t ++ mkB [118] ++ mkB (Lib.itoa z)) := Lib.hid (by
          rw [HTK.out, HT.out]
          show mkB _ = mkB _ ++ _ ++ _
          rw [mkB_append, mkB_append]
          congr 1)
        go_wp2_with fail
        refine HC.out.mono ?_
        rintro e w1 ⟨rfl, hb1⟩
        have HB1 := Lib.hid (keepS HI.out hb1)
        clear hb1
        go_wp2_with fail
        go_roundw
        case rel => exact ⟨1, by omega, by go_num, by rw [show (1 : Nat) = 0 + 1 from rfl, HTX.out]; rfl, HB1⟩
        case measure => simp [intOf]; omega
      · have HTX : RowKit.Hid (mk (listText valueText (Z.take (k + 1))) = t ++ mkB [44] ++ mkB [118] ++ mkB (Lib.itoa z)) := Lib.hid (by
          rw [HTK.out, if_neg (fun h => by have := congrArg List.length h; rw [List.length_take, List.length_nil] at this; omega), HT.out]
          show mkB _ = mkB _ ++ _ ++ _ ++ _
          rw [mkB_append, mkB_append, mkB_append]
          congr 1
          simp [valueText])
        have hk0 : 0 < k := by omega
        go_wp2_with fail
        refine HC.out.mono ?_
        rintro e w1 ⟨rfl, hb1⟩
        have HB1 := Lib.hid (keepS HI.out hb1)
        clear hb1
        go_wp2_with fail
        go_roundw
        case rel => exact ⟨k + 1, by omega, by go_num, by rw [HTX.out]; rfl, HB1⟩
        case measure => simp [intOf]; omega
    · have HE : RowKit.Hid (listText valueText (Z.take k) = listText valueText Z) := Lib.hid (by rw [List.take_of_length_le (by rw [HL.out]; omega)])
      go_wp2_with fail
      go_ret
      exact ⟨by rw [← HE.out]; rfl, HI.out⟩
end Go.Proofs.YtfnkmigcklmghaaDoor
