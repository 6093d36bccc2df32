/- Layer 4, P4.1: the document's To and All, walked: numbers by other names. -/
import Derived.Test.YtgkcbaakdphigaaDoorKindGen
namespace Go.Proofs.YtgkcbaakdphigaaDoor
open Go.RowKit (wrap64 intOf Below)
set_option linter.unusedVariables false

/-- A number's name. -/
def toV (M : List Int) (n : Int) : Int := if 0 ≤ n ∧ n < M.length then M.getD n.toNat 0 else n
theorem toV_in {M : List Int} {k : Nat} (h : k < M.length) : toV M (k : Int) = M[k] := by
  unfold toV
  rw [if_pos ⟨by omega, by omega⟩, List.getD_eq_getElem?_getD, Int.toNat_natCast, List.getElem?_eq_getElem h]; rfl
theorem toV_out {M : List Int} {n : Int} (h : n < 0 ∨ (M.length : Int) ≤ n) : toV M n = n := by
  unfold toV
  rw [if_neg (by omega)]
theorem to_any (n : Int) (a : Option Addr) (m c : Nat) (M : List Int) (w : World) (hat : NumsAt w a m M) :
    Calls Tryd.prog 29 #[.int .i64 n, .slice a m c] w fun e w' => e = .returned (.int .i64 (toV M n)) ∧ w = w' := by
  have HM := Lib.hid hat.1
  by_cases h0 : n < 0
  · have HT : RowKit.Hid (toV M n = n) := Lib.hid (toV_out (Or.inl h0))
    clear hat
    go_enter Tryd.func29, Tryd.ntmps29
    go_wp2
    go_ret
    exact ⟨by rw [HT.out]; rfl, rfl⟩
  · obtain ⟨k, rfl⟩ := Int.eq_ofNat_of_zero_le (show 0 ≤ n by omega)
    by_cases hk : k < m
    · obtain ⟨g, off, rfl, hg, hc⟩ := hat.2 (by omega)
      have hkl : k < M.length := by rw [HM.out]; exact hk
      obtain ⟨z, hz⟩ : ∃ z, M[k] = z := ⟨_, rfl⟩
      have HT : RowKit.Hid (toV M (k : Int) = z) := Lib.hid (by rw [toV_in hkl, hz])
      have hcell : w.cell? ⟨g, off + k, none⟩ = some (.int .i64 z) := by rw [hc k hkl, hz]; rfl
      clear hat hc hz
      go_enter Tryd.func29, Tryd.ntmps29
      go_wp2
      go_ret
      exact ⟨by rw [HT.out]; rfl, rfl⟩
    · have HT : RowKit.Hid (toV M (k : Int) = k) := Lib.hid (toV_out (Or.inr (by rw [HM.out]; omega)))
      clear hat
      go_enter Tryd.func29, Tryd.ntmps29
      go_wp2
      go_ret
      exact ⟨by rw [HT.out]; rfl, rfl⟩

def AllPost (Z : List Int) (w : World) (e : Ending) (w' : World) : Prop := ∃ va vn vc, e = .returned (.slice va vn vc) ∧ OwnsI w' w.heap.size 3 (.slice va vn vc) Z ∧ Below w.heap.size w w'
theorem all_any (a1 : Option Addr) (n1 c1 : Nat) (Z : List Int) (a2 : Option Addr) (m c2 : Nat) (M : List Int) (w : World) (h1 : NumsAt w a1 n1 Z) (h2 : NumsAt w a2 m M) (hn : n1 ≤ 17592186044000) :
    Calls Tryd.prog 30 #[.slice a1 n1 c1, .slice a2 m c2] w (AllPost (Z.map (toV M)) w) := by
  have HZ := Lib.hid h1.1
  have H1 := Lib.hid h1.2
  have H2 := Lib.hid h2
  clear h1 h2
  by_cases h0 : 0 < n1
  · obtain ⟨g, off, rfl, hg, hcell⟩ := H1.out h0
    have HC := Lib.hid hcell
    clear hcell
    go_enter Tryd.func30, Tryd.ntmps30
    go_wp2_with fail
    go_loopw [5, 6] (fun ov iv wr => ∃ k : Nat, k ≤ n1 ∧ iv = .int .i64 (k : Int) ∧ RowKit.Hid (OwnsI wr w.heap.size 3 ov ((Z.take k).map (toV M))) ∧ RowKit.Hid (Below w.heap.size w wr)) (fun _ iv _ => n1 - (intOf iv).toNat)
    case atStart => exact ⟨0, Nat.zero_le _, rfl, Lib.hid (OwnsI.laid rfl (Nat.le_refl _)), Lib.hid ((Below.refl _ _).alloc (Nat.le_refl _) _)⟩
    case round =>
      obtain ⟨k, hk, rfl, HO, HB⟩ := hrel
      have hsz := HB.out.size
      by_cases hlt : k < n1
      · have hkl : k < Z.length := by rw [HZ.out]; exact hlt
        obtain ⟨z, hz⟩ : ∃ z, Z[k] = z := ⟨_, rfl⟩
        have hcell : wr.cell? ⟨g, off + k, none⟩ = some (.int .i64 z) := by rw [HB.out.cell (p := ⟨g, off + k, none⟩) hg, HC.out k hkl, hz]; rfl
        have HS : RowKit.Hid ((Z.take k).map (toV M) ++ [toV M z] = (Z.take (k + 1)).map (toV M)) := Lib.hid (by rw [List.take_succ_eq_append_getElem hkl, List.map_append, hz]; rfl)
        have HL : RowKit.Hid ((((Z.take k).map (toV M)).length + 1) * 8 ≤ 140737488355328) := Lib.hid (by rw [List.length_map, List.length_take]; omega)
        clear hz
        go_wp2_with (first | (go_at_call 29; (with_reducible refine (to_any z a2 m c2 M _ (H2.out.since HB.out)).mono ?_); rintro e w' ⟨rfl, rfl⟩) | (at_builtin; refine wpList_append_num _ rfl _ _ 22 rfl 3 Tryd.underlying22 info_int w.heap.size _ _ rfl HO.out hsz _ 1 _ (toV M z) rfl (by simp) rfl HL.out ?_; intro v2 w2 hown hb))
        rw [HS.out] at hown
        have HO2 := Lib.hid hown
        have HB2 := Lib.hid (HB.out.trans hb)
        clear hown hb hcell
        go_wp2_with fail
        go_roundw
        case rel => exact ⟨k + 1, by omega, by go_num, HO2, HB2⟩
        case measure => simp [intOf]; omega
      · obtain rfl : k = n1 := by omega
        have hown := HO.out
        rw [List.take_of_length_le (by rw [HZ.out]; exact Nat.le_refl _)] at hown
        obtain ⟨va, vn, vc, rfl, hnn⟩ := hown.nums
        have HF := Lib.hid hown
        clear hown hnn
        go_wp2_with fail
        go_ret
        exact ⟨va, vn, vc, rfl, HF.out, HB.out⟩
  · obtain rfl : n1 = 0 := by omega
    have e1 := List.eq_nil_of_length_eq_zero HZ.out
    subst e1
    go_enter Tryd.func30, Tryd.ntmps30
    go_wp2_with fail
    refine wp_loop_rounds 1 ?_
    rw [rounds_succ]
    go_wp2_with fail
    go_ret
    exact ⟨_, 0, 0, rfl, OwnsI.laid rfl (Nat.le_refl _), (Below.refl _ _).alloc (Nat.le_refl _) _⟩
end Go.Proofs.YtgkcbaakdphigaaDoor
