/- Layer 4, P4.1: the document's Plain, walked where a list plays a part. -/
import Derived.Test.YtccajbgdlicbnaaDoorQKindPlainR

namespace Go.Proofs.YtccajbgdlicbnaaDoor
open Go.RowKit (wrap64 intOf Below)
set_option linter.unusedVariables false

set_option maxRecDepth 100000 in
set_option maxHeartbeats 4000000 in
theorem plain_long (K A B C N : Int) (S : ByteArray) (la : Option Addr) (ln lc : Nat) (T : Bool) (L : List Int) (w : World) (hat : NumsAt w la ln L) (hnil : la = none → lc = 0) (hn : ln * 8 ≤ 140737488355328) (h : hasB K 76 = true) :
    Calls Tryd.prog 67 #[.agg #[.int .i64 K, .int .i64 A, .int .i64 B, .int .i64 C, .int .i64 N, .string S, .slice la ln lc, .bool T]] w (PlainPost K A B C N S T L w) := by
  have HA := Lib.hid hat
  have HNIL := Lib.hid hnil
  clear hat hnil
  have hg := groups K
  rw [h] at hg
  simp only [List.mem_cons, List.not_mem_nil, or_false, Prod.mk.injEq, Bool.true_eq_false, false_and, and_false, false_or, true_and] at hg
  have HP : RowKit.Hid (pickL (hasB K 76) L = L) := Lib.hid (by rw [h]; rfl)
  rcases hg with h | h | h
  all_goals
    obtain ⟨hN, hS, hA, hB, hC, hK⟩ := h
    go_enter Tryd.func67, Tryd.ntmps67
    go_wp2_with (first | (go_at_call 43; (with_reducible (first | refine (has_N K _).mono ?_ | refine (has_S K _).mono ?_ | refine (has_A K _).mono ?_ | refine (has_B K _).mono ?_ | refine (has_C K _).mono ?_ | refine (has_L K _).mono ?_ | refine (has_K K _).mono ?_)); rintro e w' ⟨rfl, rfl⟩) | (at_builtin; refine wpList_append_nums _ rfl _ _ 39 rfl 3 Tryd.underlying39 info_int (w.heap.size + 3) _ [] rfl (OwnsI.laid (by simp) (by omega)) (by simp) la ln lc L rfl HNIL.out (HA.out.below (((((Below.refl w.heap.size w).alloc (Nat.le_refl _) _).alloc (by simp) _).alloc (by simp <;> omega) _).alloc (by simp <;> omega) _) (Nat.le_refl _)) (by simpa using hn) ?_; intro va vn vc w2 hown hb; obtain ⟨hc0, hc1, hc2, hf0, hf1, hf2⟩ := cell_laid3 hb; have HO := Lib.hid hown; have HB := Lib.hid hb; have hz := hb.size; simp at hz; clear hown hb))
    have hw2 : Below w.heap.size w w2 := (((((Below.refl w.heap.size w).alloc (Nat.le_refl _) _).alloc (by simp) _).alloc (by simp <;> omega) _).alloc (by simp <;> omega) _).trans (HB.out.mono (by omega))
    refine bodyPost_ret (v := .agg #[.int .i64 K, .int .i64 (pickI (hasB K 65) A), .int .i64 (pickI (hasB K 66) B), .int .i64 (pickI (hasB K 67) C), .int .i64 (pickI (hasB K 78) N), .string (pickS (hasB K 83) S), .slice va vn vc, .bool (hasB K 75 && T)]) (by simp [results, Tryd.results67, go_sem, hN, hS, hA, hB, hC, hK, pickI, pickS, hc1]) rfl ⟨va, vn, vc, rfl, ?_, ?_⟩
    · rw [HP.out]
      have h0 : OwnsI w2 (w.heap.size + 3) 3 (.slice va vn vc) L := HO.out
      refine OwnsI.mono (B := w.heap.size + 3) ?_ (by omega)
      repeat (first | (with_reducible exact h0) | refine OwnsI.setCell ?_ _ _ (by simp <;> omega))
    · repeat (first | (with_reducible exact hw2) | refine Below.setCell ?_ (by simp <;> omega) _)

theorem plain_any (K A B C N : Int) (S : ByteArray) (la : Option Addr) (ln lc : Nat) (T : Bool) (L : List Int) (w : World) (hat : NumsAt w la ln L) (hnil : la = none → lc = 0) (hn : ln * 8 ≤ 140737488355328) :
    Calls Tryd.prog 67 #[.agg #[.int .i64 K, .int .i64 A, .int .i64 B, .int .i64 C, .int .i64 N, .string S, .slice la ln lc, .bool T]] w (PlainPost K A B C N S T L w) := by
  cases h : hasB K 76
  · exact plain_short K A B C N S la ln lc T L w h
  · exact plain_long K A B C N S la ln lc T L w hat hnil hn h
end Go.Proofs.YtccajbgdlicbnaaDoor
