/- Layer 5: the document's End, of an end, where it branches, returns or stops. -/
import Derived.Test.YtccajbgdlicbnaaDoorQCodeQe

namespace Go.Proofs.YtccajbgdlicbnaaDoor
open Go.RowKit (wrap64 intOf Below)
set_option linter.unusedVariables false
set_option linter.unusedSimpArgs false

set_option maxRecDepth 100000 in
set_option maxHeartbeats 4000000 in
theorem ref_end1 (k x t l : Int) (a b : Option Addr) (n c m d : Nat) (y : EndD) (w : World) (h : EndQ w [.int .i64 k, .int .i64 x, .int .i64 t, .int .i64 l, .slice a n c, .slice b m d] y) (hk : k = 1) :
    Calls Tryd.prog 66 #[.agg #[.int .i64 k, .int .i64 x, .int .i64 t, .int .i64 l, .slice a n c, .slice b m d]] w (EndPost y w) := by
  obtain ⟨p, q, he, rk, rx, rt, rl, ⟨_, _, _, hp0, hp1, hp2, hp3, hp4⟩, ⟨_, _, _, hq0, hq1, hq2, hq3, hq4⟩⟩ := h
  simp only [List.cons.injEq, Value.int.injEq, true_and, and_true] at he
  obtain ⟨e1, e2, e3, e4, rfl, rfl⟩ := he
  cases hp0
  cases hq0
  have HRK : RowKit.Hid (InR k) := Lib.hid (by rw [e1]; exact rk)
  have HRX : RowKit.Hid (InR x) := Lib.hid (by rw [e2]; exact rx)
  have HRT : RowKit.Hid (InR t) := Lib.hid (by rw [e3]; exact rt)
  have HRL : RowKit.Hid (InR l) := Lib.hid (by rw [e4]; exact rl)
  have HP1 := Lib.hid hp1
  have HP2 := Lib.hid hp2
  have HP4 := Lib.hid hp4
  have HQ1 := Lib.hid hq1
  have HQ2 := Lib.hid hq2
  have HQ4 := Lib.hid hq4
  have HPL := Lib.hid hp1.1
  have HQL := Lib.hid hq1.1
  clear hp1 hp2 hp4 hq1 hq2 hq4 rk rx rt rl
  have HE : RowKit.Hid (plainEnd y = ⟨k, x, t, l, y.L, y.M⟩) := Lib.hid (by unfold plainEnd; rw [if_neg (by rw [← e1, hk]; decide), if_pos (by rw [← e1]; exact hk), e1, e2, e3, e4])
  clear e1 e2 e3 e4
  subst hk
  go_enter Tryd.func66, Tryd.ntmps66
  go_upto_region 5 with fail
  have hl := Laid3.start w 46 #[.int .i64 1, .int .i64 x, .int .i64 t, .int .i64 l, .slice a n c, .slice b m d] #[.int .i64 0, .int .i64 0, .int .i64 0, .int .i64 0, .slice none 0 0, .slice none 0 0] #[.int .i64 1, .int .i64 x, .int .i64 0, .int .i64 0, .slice none 0 0, .slice none 0 0]
  generalize hW : (((w.alloc (.cells #[.int .i64 1, .int .i64 x, .int .i64 t, .int .i64 l, .slice a n c, .slice b m d] 46)).alloc (.cells #[.int .i64 0, .int .i64 0, .int .i64 0, .int .i64 0, .slice none 0 0, .slice none 0 0] 46)).alloc (.cells #[.int .i64 1, .int .i64 x, .int .i64 0, .int .i64 0, .slice none 0 0, .slice none 0 0] 46)) = W at hl ⊢
  clear hW
  have hi2 : W.cell? ⟨w.heap.size, 2, none⟩ = some (.int .i64 t) := hl.c0 2
  have hi4 : W.cell? ⟨w.heap.size, 4, none⟩ = some (.slice a n c) := hl.c0 4
  have hz := hl.size
  have hlt : w.heap.size < W.heap.size := by omega
  have HL := Lib.hid hl
  clear hl
  go_cut [31] (fun tc wc => RowKit.Hid (∃ va vn vc, OwnsI wc (w.heap.size + 3) 3 (.slice va vn vc) y.L ∧ Laid3 w 46 #[.int .i64 1, .int .i64 x, .int .i64 t, .int .i64 l, .slice a n c, .slice b m d] #[.int .i64 0, .int .i64 0, .int .i64 0, .int .i64 0, .slice none 0 0, .slice none 0 0] #[.int .i64 1, .int .i64 x, .int .i64 t, .int .i64 0, .slice va vn vc, .slice none 0 0] wc))
  case first =>
    go_region_law (refine step_copy_own rfl (.tmp 28) (.tmp 30) 39 rfl 3 Tryd.underlying39 info_int W.heap.size ⟨W.heap.size, 0, none⟩ (by simp [Act.eval, Act.put]) (OwnsI.laid (by simp) (Nat.le_refl _)) (by simp) a n c y.L (by simp [Act.eval, Act.put]) HP2.out (HP1.out.below ((HL.out.bel.drew).alloc (by simp; omega) _) (Nat.le_refl _)) (by omega) ?_; intro va vn vc w5 hown5 hb5; have hb6 := ((Below.refl W.heap.size W.drew).alloc (by simp) (.cells #[] 3)).trans hb5; have hl5 := HL.out.drew.step hb6 (by omega); have hm2 : w5.cell? ⟨w.heap.size + 1 + 1, 2, none⟩ = some (.int .i64 0) := hl5.c2 2; have hm4 : w5.cell? ⟨w.heap.size + 1 + 1, 4, none⟩ = some (.slice none 0 0) := hl5.c2 4; have hn2 : w5.frozen? ⟨w.heap.size + 1 + 1, 2, none⟩ = false := hl5.f2 2; have hn4 : w5.frozen? ⟨w.heap.size + 1 + 1, 4, none⟩ = false := hl5.f2 4; have hj2 : w5.cell? ⟨w.heap.size, 2, none⟩ = some (.int .i64 t) := hl5.c0 2; have hj4 : w5.cell? ⟨w.heap.size, 4, none⟩ = some (.slice a n c) := hl5.c0 4)
    all_goals
      have hl6 := (hl5.set 2 (.int .i64 t)).set 4 (.slice va vn vc)
      have ho6 := ((hown5.mono (B' := w.heap.size + 3) (by omega)).setCell ⟨w.heap.size + 1 + 1, 2, none⟩ (.int .i64 t) (by simp)).setCell ⟨w.heap.size + 1 + 1, 4, none⟩ (.slice va vn vc) (by simp)
      go_wp2_with fail
      go_meet
      exact Lib.hid ⟨va, vn, vc, ho6, hl6⟩
  case rest =>
    obtain ⟨va, vn, vc, ho, hl⟩ := hcut.out
    clear hcut hi2 hi4 HL hz hlt
    have hk0 : wc.cell? ⟨w.heap.size, 0, none⟩ = some (.int .i64 1) := hl.c0 0
    have hi3 : wc.cell? ⟨w.heap.size, 3, none⟩ = some (.int .i64 l) := hl.c0 3
    have hi5 : wc.cell? ⟨w.heap.size, 5, none⟩ = some (.slice b m d) := hl.c0 5
    have hz := hl.size
    have hlt : w.heap.size < wc.heap.size := by omega
    have HL := Lib.hid hl
    have HO := Lib.hid ho
    clear hl ho
    go_upto_region 7 with fail
    go_cut [42] (fun tc wd => RowKit.Hid (∃ ua un uc, NumsO wd (From (w.heap.size + 3)) (.slice va vn vc) y.L ∧ OwnsI wd (w.heap.size + 3) 3 (.slice ua un uc) y.M ∧ Laid3 w 46 #[.int .i64 1, .int .i64 x, .int .i64 t, .int .i64 l, .slice a n c, .slice b m d] #[.int .i64 0, .int .i64 0, .int .i64 0, .int .i64 0, .slice none 0 0, .slice none 0 0] #[.int .i64 1, .int .i64 x, .int .i64 t, .int .i64 l, .slice va vn vc, .slice ua un uc] wd))
    case first =>
      go_region_law (refine step_copy_own rfl (.tmp 39) (.tmp 41) 39 rfl 3 Tryd.underlying39 info_int wc.heap.size ⟨wc.heap.size, 0, none⟩ (by simp [Act.eval, Act.put]) (OwnsI.laid (by simp) (Nat.le_refl _)) (by simp) b m d y.M (by simp [Act.eval, Act.put]) HQ2.out (HQ1.out.below ((HL.out.bel.drew).alloc (by simp; omega) _) (Nat.le_refl _)) (by omega) ?_; intro ua un uc w5 hown5 hb5; have hb6 := ((Below.refl wc.heap.size wc.drew).alloc (by simp) (.cells #[] 3)).trans hb5; have hl5 := HL.out.drew.step hb6 (by omega); have hm2 : w5.cell? ⟨w.heap.size + 1 + 1, 3, none⟩ = some (.int .i64 0) := hl5.c2 3; have hm4 : w5.cell? ⟨w.heap.size + 1 + 1, 5, none⟩ = some (.slice none 0 0) := hl5.c2 5; have hn2 : w5.frozen? ⟨w.heap.size + 1 + 1, 3, none⟩ = false := hl5.f2 3; have hn4 : w5.frozen? ⟨w.heap.size + 1 + 1, 5, none⟩ = false := hl5.f2 5; have hj2 : w5.cell? ⟨w.heap.size, 3, none⟩ = some (.int .i64 l) := hl5.c0 3; have hj4 : w5.cell? ⟨w.heap.size, 5, none⟩ = some (.slice b m d) := hl5.c0 5)
      all_goals
        have hl6 := (hl5.set 3 (.int .i64 l)).set 5 (.slice ua un uc)
        have ho6 := ((hown5.mono (B' := w.heap.size + 3) (by omega)).setCell ⟨w.heap.size + 1 + 1, 3, none⟩ (.int .i64 l) (by simp)).setCell ⟨w.heap.size + 1 + 1, 5, none⟩ (.slice ua un uc) (by simp)
        have hq6 := nums_since3 HO.out (by rw [HPL.out]; omega) HP4.out hb6 3 5 (.int .i64 l) (.slice ua un uc)
        go_wp2_with fail
        go_meet
        exact Lib.hid ⟨ua, un, uc, hq6, ho6, hl6⟩
    case rest =>
      obtain ⟨ua, un, uc, hq, ho, hl⟩ := hcut.out
      clear hcut hi3 hi5 HL hz hlt hk0
      have hr := hl.c1
      have hfr := hl.f1
      have hs := hl.c2
      have HL6 := Lib.hid hl
      have HO6 := Lib.hid ho
      have HQ6 := Lib.hid hq
      clear hl ho hq
      go_wp2_with fail
      refine bodyPost_ret (v := .agg #[.int .i64 1, .int .i64 x, .int .i64 t, .int .i64 l, .slice va vn vc, .slice ua un uc]) (by simp [results, Tryd.results66, go_sem, hr, hs]) rfl ⟨_, _, _, _, _, _, _, _, _, _, rfl, ?_, ((((((HL6.out.bel).setCell (by simp) _).setCell (by simp) _).setCell (by simp) _).setCell (by simp) _).setCell (by simp) _).setCell (by simp) _⟩
      rw [HE.out]
      exact ⟨_, _, rfl, HRK.out, HRX.out, HRT.out, HRL.out, (HQ6.out.wider (S' := From (w.heap.size + 2)) (fun b _ hb => Nat.le_trans (by omega) hb)).past (((((((Off.refl (fun b => b = w.heap.size + 1) _).setCell (.inl rfl) _).setCell (.inl rfl) _).setCell (.inl rfl) _).setCell (.inl rfl) _).setCell (.inl rfl) _).setCell (.inl rfl) _), ((NumsO.own HO6.out (by rw [HQL.out]; omega) HQ4.out).wider (S' := From (w.heap.size + 2)) (fun b _ hb => Nat.le_trans (by omega) hb)).past (((((((Off.refl (fun b => b = w.heap.size + 1) _).setCell (.inl rfl) _).setCell (.inl rfl) _).setCell (.inl rfl) _).setCell (.inl rfl) _).setCell (.inl rfl) _).setCell (.inl rfl) _)⟩
set_option maxRecDepth 100000 in
set_option maxHeartbeats 4000000 in
theorem ref_end2 (k x t l : Int) (a b : Option Addr) (n c m d : Nat) (y : EndD) (w : World) (h : EndQ w [.int .i64 k, .int .i64 x, .int .i64 t, .int .i64 l, .slice a n c, .slice b m d] y) (hk : k = 2 ∨ k = 3) :
    Calls Tryd.prog 66 #[.agg #[.int .i64 k, .int .i64 x, .int .i64 t, .int .i64 l, .slice a n c, .slice b m d]] w (EndPost y w) := by
  obtain ⟨p, q, he, rk, rx, rt, rl, ⟨_, _, _, hp0, hp1, hp2, hp3, hp4⟩, ⟨_, _, _, hq0, hq1, hq2, hq3, hq4⟩⟩ := h
  simp only [List.cons.injEq, Value.int.injEq, true_and, and_true] at he
  obtain ⟨e1, e2, e3, e4, rfl, rfl⟩ := he
  cases hp0
  cases hq0
  have HRK : RowKit.Hid (InR k) := Lib.hid (by rw [e1]; exact rk)
  have HRX : RowKit.Hid (InR x) := Lib.hid (by rw [e2]; exact rx)
  have HRT : RowKit.Hid (InR t) := Lib.hid (by rw [e3]; exact rt)
  have HRL : RowKit.Hid (InR l) := Lib.hid (by rw [e4]; exact rl)
  have HP1 := Lib.hid hp1
  have HP2 := Lib.hid hp2
  have HP4 := Lib.hid hp4
  have HQ1 := Lib.hid hq1
  have HQ2 := Lib.hid hq2
  have HQ4 := Lib.hid hq4
  have HPL := Lib.hid hp1.1
  have HQL := Lib.hid hq1.1
  clear hp1 hp2 hp4 hq1 hq2 hq4 rk rx rt rl
  have HE : RowKit.Hid (plainEnd y = ⟨k, x, 0, 0, [], []⟩) := Lib.hid (by unfold plainEnd; rw [if_neg (by omega), if_neg (by omega), if_pos (by rw [← e1]; exact hk), e1, e2])
  clear e1 e2 e3 e4
  rcases hk with rfl | rfl
  all_goals
    go_enter Tryd.func66, Tryd.ntmps66
    go_wp2_with fail
    refine bodyPost_ret (v := .agg #[.int .i64 _, .int .i64 x, .int .i64 0, .int .i64 0, .slice none 0 0, .slice none 0 0]) (by simp [results, Tryd.results66, go_sem]; rfl) rfl ⟨_, _, _, _, _, _, _, _, _, _, rfl, ?_, ((((Below.refl _ _).alloc (Nat.le_refl _) _).alloc (by simp) _).alloc (by simp; omega) _)⟩
    rw [HE.out]
    exact ⟨_, _, rfl, HRK.out, HRX.out, InR.zero, InR.zero, NumsO.none _ _, NumsO.none _ _⟩
set_option maxRecDepth 100000 in
set_option maxHeartbeats 4000000 in
theorem ref_end3 (k x t l : Int) (a b : Option Addr) (n c m d : Nat) (y : EndD) (w : World) (h : EndQ w [.int .i64 k, .int .i64 x, .int .i64 t, .int .i64 l, .slice a n c, .slice b m d] y) (hk : k < 0 ∨ 3 < k) :
    Calls Tryd.prog 66 #[.agg #[.int .i64 k, .int .i64 x, .int .i64 t, .int .i64 l, .slice a n c, .slice b m d]] w (EndPost y w) := by
  obtain ⟨p, q, he, rk, rx, rt, rl, ⟨_, _, _, hp0, hp1, hp2, hp3, hp4⟩, ⟨_, _, _, hq0, hq1, hq2, hq3, hq4⟩⟩ := h
  simp only [List.cons.injEq, Value.int.injEq, true_and, and_true] at he
  obtain ⟨e1, e2, e3, e4, rfl, rfl⟩ := he
  cases hp0
  cases hq0
  have HRK : RowKit.Hid (InR k) := Lib.hid (by rw [e1]; exact rk)
  have HRX : RowKit.Hid (InR x) := Lib.hid (by rw [e2]; exact rx)
  have HRT : RowKit.Hid (InR t) := Lib.hid (by rw [e3]; exact rt)
  have HRL : RowKit.Hid (InR l) := Lib.hid (by rw [e4]; exact rl)
  have HP1 := Lib.hid hp1
  have HP2 := Lib.hid hp2
  have HP4 := Lib.hid hp4
  have HQ1 := Lib.hid hq1
  have HQ2 := Lib.hid hq2
  have HQ4 := Lib.hid hq4
  have HPL := Lib.hid hp1.1
  have HQL := Lib.hid hq1.1
  clear hp1 hp2 hp4 hq1 hq2 hq4 rk rx rt rl
  have HE : RowKit.Hid (plainEnd y = ⟨k, 0, 0, 0, [], []⟩) := Lib.hid (by unfold plainEnd; rw [if_neg (by omega), if_neg (by omega), if_neg (by omega), e1])
  have hf0 : (k == 0) = false := by rw [beq_eq_false_iff_ne]; omega
  have hf1 : (k == 1) = false := by rw [beq_eq_false_iff_ne]; omega
  have hg : k < 1 ∨ (1 ≤ k ∧ 3 < k) := by omega
  clear e1 e2 e3 e4 hk
  rcases hg with hg | ⟨hg, hg'⟩
  all_goals
    go_enter Tryd.func66, Tryd.ntmps66
    go_wp2_with fail
    refine bodyPost_ret (v := .agg #[.int .i64 k, .int .i64 0, .int .i64 0, .int .i64 0, .slice none 0 0, .slice none 0 0]) (by simp [results, Tryd.results66, go_sem]) rfl ⟨_, _, _, _, _, _, _, _, _, _, rfl, ?_, ((((Below.refl _ _).alloc (Nat.le_refl _) _).alloc (by simp) _).alloc (by simp; omega) _)⟩
    rw [HE.out]
    exact ⟨_, _, rfl, HRK.out, InR.zero, InR.zero, InR.zero, NumsO.none _ _, NumsO.none _ _⟩
theorem ref_end (k x t l : Int) (a b : Option Addr) (n c m d : Nat) (y : EndD) (w : World) (h : EndQ w [.int .i64 k, .int .i64 x, .int .i64 t, .int .i64 l, .slice a n c, .slice b m d] y) :
    Calls Tryd.prog 66 #[.agg #[.int .i64 k, .int .i64 x, .int .i64 t, .int .i64 l, .slice a n c, .slice b m d]] w (EndPost y w) := by
  by_cases h0 : k = 0
  · exact ref_end0 k x t l a b n c m d y w h h0
  · by_cases h1 : k = 1
    · exact ref_end1 k x t l a b n c m d y w h h1
    · by_cases h2 : k = 2 ∨ k = 3
      · exact ref_end2 k x t l a b n c m d y w h h2
      · exact ref_end3 k x t l a b n c m d y w h (by omega)
theorem ref_end_at (k x t l : Int) (pa : Option Addr) (pn pc : Nat) (qa : Option Addr) (qn qc : Nat) (y : EndD) (w : World) (h : EndQ w [.int .i64 k, .int .i64 x, .int .i64 t, .int .i64 l, .slice pa pn pc, .slice qa qn qc] y) :
    Calls Tryd.prog 66 #[.agg #[.int .i64 k, .int .i64 x, .int .i64 t, .int .i64 l, .slice pa pn pc, .slice qa qn qc]] w (EndPost y w) := ref_end k x t l pa qa pn pc qn qc y w h
end Go.Proofs.YtccajbgdlicbnaaDoor
