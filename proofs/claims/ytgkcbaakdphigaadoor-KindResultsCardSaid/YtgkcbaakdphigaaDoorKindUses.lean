/- Layer 4, P4.1: the document's Uses, walked: the values that a step is of. -/
import Derived.Test.YtgkcbaakdphigaaDoorKindRef
import Derived.Deep.DeepCutAuto
namespace Go.Proofs.YtgkcbaakdphigaaDoor
open Go.RowKit (wrap64 intOf Below)
set_option linter.unusedVariables false

def oneL (b : Bool) (x : Int) : List Int := if b then [x] else []
def usesL (K A B C : Int) (L : List Int) : List Int := oneL (hasB K 65) A ++ oneL (hasB K 66) B ++ oneL (hasB K 67) C ++ pickL (hasB K 76) L
theorem oneL_len (b : Bool) (x : Int) : (oneL b x).length ≤ 1 := by unfold oneL; split <;> simp
theorem cell_first {w w2 : World} {C0 : Array Value} {t0 : TypeId} (hb : Below (w.heap.size + 1) (w.alloc (.cells C0 t0)) w2) : ∀ j, w2.cell? ⟨w.heap.size, j, none⟩ = C0[j]? := fun j => by
  rw [hb.cell (p := ⟨w.heap.size, j, none⟩) (by simp), World.cell?_alloc_mark]

theorem first_size {w w2 : World} {C0 : Array Value} {t0 : TypeId} (hb : Below (w.heap.size + 1) (w.alloc (.cells C0 t0)) w2) : w.heap.size + 1 ≤ w2.heap.size := by
  have := hb.size
  simpa using this
theorem first_below {w w2 : World} {C0 : Array Value} {t0 : TypeId} (hb : Below (w.heap.size + 1) (w.alloc (.cells C0 t0)) w2) : Below w.heap.size w w2 :=
  ((Below.refl w.heap.size w).alloc (Nat.le_refl _) _).trans (hb.mono (by omega))

set_option maxRecDepth 100000 in
set_option maxHeartbeats 2000000 in
theorem uses_any (K A B C N : Int) (S : ByteArray) (la : Option Addr) (ln lc : Nat) (T : Bool) (L : List Int) (w : World) (hat : NumsAt w la ln L) (hnil : la = none → lc = 0) (hn : ln ≤ 17592186044000) :
    Calls Tryd.prog 17 #[.agg #[.int .i64 K, .int .i64 A, .int .i64 B, .int .i64 C, .int .i64 N, .string S, .slice la ln lc, .bool T]] w
      fun e w' => ∃ va vn vc, e = .returned (.slice va vn vc) ∧ OwnsI w' w.heap.size 3 (.slice va vn vc) (usesL K A B C L) ∧ Below w.heap.size w w' := by
  obtain ⟨O, hO⟩ : ∃ O : Array Value, O = #[.int .i64 K, .int .i64 A, .int .i64 B, .int .i64 C, .int .i64 N, .string S, .slice la ln lc, .bool T] := ⟨_, rfl⟩
  have HA := Lib.hid hat
  have HNIL := Lib.hid hnil
  clear hat hnil
  go_enter Tryd.func17, Tryd.ntmps17
  go_upto_if 7 with (go_at_call 27; (with_reducible refine (has_A K _).mono ?_); rintro e w' ⟨rfl, rfl⟩)
  go_cut [3] (fun ov wc => RowKit.Hid (OwnsI wc (w.heap.size + 1) 3 ov (oneL (hasB K 65) A) ∧ Below (w.heap.size + 1) (w.alloc (.cells O 24)) wc))
  case first =>
    rcases Bool.eq_false_or_eq_true (hasB K 65) with h | h
    · have HP : RowKit.Hid (oneL (hasB K 65) A = [A]) := Lib.hid (by rw [h]; rfl)
      rw [h]
      go_wp2_with (at_builtin; refine wpList_append_num _ rfl _ _ 22 rfl 3 Tryd.underlying22 info_int (w.heap.size + 1) _ [] rfl (OwnsI.laid (by simp) (by omega)) (by simp) _ 1 _ A rfl (by simp) rfl (by simp) ?_; intro v2 w2 hown hb)
      go_meet
      rw [HP.out, hO]
      exact Lib.hid ⟨hown, ((Below.refl _ _).alloc (by simp) _).trans hb⟩
    · have HP : RowKit.Hid (oneL (hasB K 65) A = []) := Lib.hid (by rw [h]; rfl)
      rw [h]
      go_wp2_with fail
      go_meet
      rw [HP.out, hO]
      exact Lib.hid ⟨OwnsI.laid (by simp) (by omega), (Below.refl _ _).alloc (by simp) _⟩
  subst hO
  case rest =>
    have HC := hcut
    clear hcut
    have hc0 := cell_first HC.out.2
    have HSZ := Lib.hid (first_size HC.out.2)
    go_upto_if 15 with (go_at_call 27; (with_reducible refine (has_B K _).mono ?_); rintro e w' ⟨rfl, rfl⟩)
    go_cut [3] (fun ov wc => RowKit.Hid (OwnsI wc (w.heap.size + 1) 3 ov (oneL (hasB K 65) A ++ oneL (hasB K 66) B) ∧ Below (w.heap.size + 1) (w.alloc (.cells #[.int .i64 K, .int .i64 A, .int .i64 B, .int .i64 C, .int .i64 N, .string S, .slice la ln lc, .bool T] 24)) wc))
    case first =>
      rcases Bool.eq_false_or_eq_true (hasB K 66) with h | h
      · have HP : RowKit.Hid (oneL (hasB K 66) B = [B]) := Lib.hid (by rw [h]; rfl)
        have HL : RowKit.Hid (((oneL (hasB K 65) A).length + 1) * 8 ≤ 140737488355328) := Lib.hid (by (try simp only [List.length_append]); have := oneL_len (hasB K 65) A; omega)
        rw [h]
        go_wp2_with (at_builtin; refine wpList_append_num _ rfl _ _ 22 rfl 3 Tryd.underlying22 info_int (w.heap.size + 1) _ _ rfl HC.out.1 HSZ.out _ 1 _ B rfl (by simp) rfl HL.out ?_; intro v2 w2 hown hb)
        go_meet
        rw [HP.out]
        exact Lib.hid ⟨hown, HC.out.2.trans hb⟩
      · have HP : RowKit.Hid (oneL (hasB K 66) B = []) := Lib.hid (by rw [h]; rfl)
        rw [h]
        go_wp2_with fail
        go_meet
        rw [HP.out, List.append_nil]
        exact HC
    case rest =>
      have HC := hcut
      clear hcut
      have hc0 := cell_first HC.out.2
      have HSZ := Lib.hid (first_size HC.out.2)
      go_upto_if 23 with (go_at_call 27; (with_reducible refine (has_C K _).mono ?_); rintro e w' ⟨rfl, rfl⟩)
      go_cut [3] (fun ov wc => RowKit.Hid (OwnsI wc (w.heap.size + 1) 3 ov (oneL (hasB K 65) A ++ oneL (hasB K 66) B ++ oneL (hasB K 67) C) ∧ Below (w.heap.size + 1) (w.alloc (.cells #[.int .i64 K, .int .i64 A, .int .i64 B, .int .i64 C, .int .i64 N, .string S, .slice la ln lc, .bool T] 24)) wc))
      case first =>
        rcases Bool.eq_false_or_eq_true (hasB K 67) with h | h
        · have HP : RowKit.Hid (oneL (hasB K 67) C = [C]) := Lib.hid (by rw [h]; rfl)
          have HL : RowKit.Hid (((oneL (hasB K 65) A ++ oneL (hasB K 66) B).length + 1) * 8 ≤ 140737488355328) := Lib.hid (by (try simp only [List.length_append]); have := oneL_len (hasB K 65) A; have := oneL_len (hasB K 66) B; omega)
          rw [h]
          go_wp2_with (at_builtin; refine wpList_append_num _ rfl _ _ 22 rfl 3 Tryd.underlying22 info_int (w.heap.size + 1) _ _ rfl HC.out.1 HSZ.out _ 1 _ C rfl (by simp) rfl HL.out ?_; intro v2 w2 hown hb)
          go_meet
          rw [HP.out]
          exact Lib.hid ⟨hown, HC.out.2.trans hb⟩
        · have HP : RowKit.Hid (oneL (hasB K 67) C = []) := Lib.hid (by rw [h]; rfl)
          rw [h]
          go_wp2_with fail
          go_meet
          rw [HP.out, List.append_nil]
          exact HC
      case rest =>
        have HC := hcut
        clear hcut
        have hc0 := cell_first HC.out.2
        have HSZ := Lib.hid (first_size HC.out.2)
        have HW := Lib.hid (first_below HC.out.2)
        rcases Bool.eq_false_or_eq_true (hasB K 76) with h | h
        · have HP : RowKit.Hid (usesL K A B C L = oneL (hasB K 65) A ++ oneL (hasB K 66) B ++ oneL (hasB K 67) C ++ L) := Lib.hid (by unfold usesL pickL; rw [h]; rfl)
          have HL : RowKit.Hid (((oneL (hasB K 65) A ++ oneL (hasB K 66) B ++ oneL (hasB K 67) C).length + ln) * 8 ≤ 140737488355328) := Lib.hid (by (try simp only [List.length_append]); have := oneL_len (hasB K 65) A; have := oneL_len (hasB K 66) B; have := oneL_len (hasB K 67) C; omega)
          go_wp2_with (first | (go_at_call 27; (with_reducible refine (has_L K _).mono ?_); rintro e w' ⟨rfl, rfl⟩) | (at_builtin; refine wpList_append_nums _ rfl _ _ 22 rfl 3 Tryd.underlying22 info_int (w.heap.size + 1) _ _ rfl HC.out.1 HSZ.out la ln lc L rfl HNIL.out (HA.out.since HW.out) HL.out ?_; intro va vn vc w2 hown hb))
          rw [← HP.out] at hown
          go_ret
          exact ⟨va, vn, vc, rfl, hown.mono (by omega), HW.out.trans (hb.mono (by omega))⟩
        · have HP : RowKit.Hid (usesL K A B C L = oneL (hasB K 65) A ++ oneL (hasB K 66) B ++ oneL (hasB K 67) C) := Lib.hid (by unfold usesL pickL; rw [h]; simp)
          have hown := HC.out.1
          rw [← HP.out] at hown
          obtain ⟨va, vn, vc, rfl, hnn⟩ := hown.nums
          have HO := Lib.hid hown
          clear hown hnn
          go_wp2_with (go_at_call 27; (with_reducible refine (has_L K _).mono ?_); rintro e w' ⟨rfl, rfl⟩)
          go_ret
          exact ⟨va, vn, vc, rfl, HO.out.mono (by omega), HW.out⟩
end Go.Proofs.YtgkcbaakdphigaaDoor
