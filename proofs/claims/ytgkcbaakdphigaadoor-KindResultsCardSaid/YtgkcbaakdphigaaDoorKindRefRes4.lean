/- Layer 4, P4.3: the document's result, walked at the sign of a number's step and at what is no kind. (By wip/gen/refres4.py.) -/
import Derived.Test.YtgkcbaakdphigaaDoorKindRefRes2
import Derived.Test.YtgkcbaakdphigaaDoorKindSign
import Derived.Test.YtgkcbaakdphigaaDoorInts
import Derived.Test.YtgkcbaakdphigaaDoorKindFlagsL
namespace Go.Proofs.YtgkcbaakdphigaaDoor
open Go.RowKit (wrap64 intOf Below)
set_option linter.unusedVariables false

theorem rwants_none (K : Int) (h : K < 0 ∨ 25 < K) (w : World) : Calls Tryd.prog 40 #[.int .i64 K] w fun e w' => e = .returned (.tuple #[.slice none 0 0, .int .i64 (-1), .bool false]) ∧ w' = w := by
  have k0 : (K == 0) = false := by simp; omega
  have k1 : (K == 1) = false := by simp; omega
  have k2 : (K == 2) = false := by simp; omega
  have k3 : (K == 3) = false := by simp; omega
  have k4 : (K == 4) = false := by simp; omega
  have k5 : (K == 5) = false := by simp; omega
  have k6 : (K == 6) = false := by simp; omega
  have k7 : (K == 7) = false := by simp; omega
  have k8 : (K == 8) = false := by simp; omega
  have k9 : (K == 9) = false := by simp; omega
  have k10 : (K == 10) = false := by simp; omega
  have k11 : (K == 11) = false := by simp; omega
  have k12 : (K == 12) = false := by simp; omega
  have k13 : (K == 13) = false := by simp; omega
  have k14 : (K == 14) = false := by simp; omega
  have k15 : (K == 15) = false := by simp; omega
  have k16 : (K == 16) = false := by simp; omega
  have k17 : (K == 17) = false := by simp; omega
  have k18 : (K == 18) = false := by simp; omega
  have k19 : (K == 19) = false := by simp; omega
  have k20 : (K == 20) = false := by simp; omega
  have k21 : (K == 21) = false := by simp; omega
  have k22 : (K == 22) = false := by simp; omega
  have k23 : (K == 23) = false := by simp; omega
  have k24 : (K == 24) = false := by simp; omega
  have k25 : (K == 25) = false := by simp; omega
  clear h
  go_enter Tryd.func40, Tryd.ntmps40
  go_wp2
  exact bodyPost_ret (v := .tuple #[.slice none 0 0, .int .i64 (-1), .bool false]) (by simp [results, Tryd.results40, go_sem]) rfl ⟨rfl, rfl⟩
theorem rrowS_none {P : ProgD} {K N : Int} {S : ByteArray} {l : List Int} (h : K < 0 ∨ 25 < K) : rowS P K N S l = (-1, false) := by
  unfold rowS
  repeat rw [if_neg (by omega)]
set_option maxRecDepth 100000 in
theorem rres_none (pv : Value) (P : ProgD) (K : Int) (h : K < 0 ∨ 25 < K) (A B C N : Int) (S : ByteArray) (la : Option Addr) (ln lc : Nat) (T : Bool) (va : Option Addr) (vn vc : Nat) (l : List Int) (w : World) :
    Calls Tryd.prog 33 #[pv, .agg #[.int .i64 K, .int .i64 A, .int .i64 B, .int .i64 C, .int .i64 N, .string S, .slice la ln lc, .bool T], .slice va vn vc] w (RowPost (rowS P K N S l) w) := by
  rw [rrowS_none h]
  have HW := Lib.hid (rwants_none K h)
  have k0 : (K == 0) = false := by simp; omega
  have k1 : (K == 1) = false := by simp; omega
  have k2 : (K == 2) = false := by simp; omega
  have k3 : (K == 3) = false := by simp; omega
  have k4 : (K == 4) = false := by simp; omega
  have k5 : (K == 5) = false := by simp; omega
  have k6 : (K == 6) = false := by simp; omega
  have k7 : (K == 7) = false := by simp; omega
  have k8 : (K == 8) = false := by simp; omega
  have k9 : (K == 9) = false := by simp; omega
  have k10 : (K == 10) = false := by simp; omega
  have k11 : (K == 11) = false := by simp; omega
  have k12 : (K == 12) = false := by simp; omega
  have k13 : (K == 13) = false := by simp; omega
  have k14 : (K == 14) = false := by simp; omega
  have k15 : (K == 15) = false := by simp; omega
  have k16 : (K == 16) = false := by simp; omega
  have k17 : (K == 17) = false := by simp; omega
  have k18 : (K == 18) = false := by simp; omega
  have k19 : (K == 19) = false := by simp; omega
  have k20 : (K == 20) = false := by simp; omega
  have k21 : (K == 21) = false := by simp; omega
  have k22 : (K == 22) = false := by simp; omega
  have k23 : (K == 23) = false := by simp; omega
  have k24 : (K == 24) = false := by simp; omega
  have k25 : (K == 25) = false := by simp; omega
  clear h
  go_enter Tryd.func33, Tryd.ntmps33
  go_wp2_with (go_at_call 40; (with_reducible refine (HW.out _).mono ?_); rintro e w' ⟨rfl, rfl⟩)
  exact bodyPost_ret (v := .tuple #[.int .i64 (-1), .bool false]) (by simp [results, Tryd.results33, go_sem]) rfl ⟨-1, rfl, (fun h => by cases h), below1 _ _ _⟩
set_option maxRecDepth 100000 in
set_option maxHeartbeats 20000000 in
theorem rres_3 (pv : Value) (P : ProgD) (A B C N : Int) (S : ByteArray) (la : Option Addr) (ln lc : Nat) (T : Bool) (va : Option Addr) (vn vc : Nat) (l : List Int) (w : World) (hv : NumsAt w va vn l) (hvn : vn ≤ 140737488355328) :
    Calls Tryd.prog 33 #[pv, .agg #[.int .i64 3, .int .i64 A, .int .i64 B, .int .i64 C, .int .i64 N, .string S, .slice la ln lc, .bool T], .slice va vn vc] w (RowPost (rowS P 3 N S l) w) := by
  have hr : rowS P 3 N S l = (tlV N, decide (0 ≤ N ∧ N ≤ 13) && sameB l [0, 0]) := rfl
  obtain ⟨W0, hW0⟩ : ∃ W0, W0 = w.alloc (.cells #[.int .i64 3, .int .i64 A, .int .i64 B, .int .i64 C, .int .i64 N, .string S, .slice la ln lc, .bool T] 24) := ⟨_, rfl⟩
  have HT := Lib.hid (rt_any N)
  obtain ⟨t, ht⟩ : ∃ t, tlV N = t := ⟨_, rfl⟩
  obtain ⟨z0, z4⟩ : W0.cell? ⟨w.heap.size, 0, none⟩ = some (.int .i64 3) ∧ W0.cell? ⟨w.heap.size, 4, none⟩ = some (.int .i64 N) := by
    have hu : Below (w.heap.size + 1) W0 W0 := Below.refl _ _
    rw [hW0] at hu ⊢
    exact ⟨first_cells hu 0 _ rfl, first_cells hu 4 _ rfl⟩
  have HW : RowKit.Hid (∀ u, Below (w.heap.size + 1) W0 u → Below w.heap.size w u) := Lib.hid (fun u hu => by rw [hW0] at hu; exact first_below hu)
  have H2 : RowKit.Hid (Below (w.heap.size + 1) W0 W0) := Lib.hid (Below.refl _ _)
  have HR1 : RowKit.Hid ((rowS P 3 N S l).1 = t) := Lib.hid (by rw [hr, ht])
  rw [ht] at HT
  by_cases h0 : N < 0
  · have HR : RowKit.Hid ((rowS P 3 N S l).2 = false) := Lib.hid (by rw [hr, decide_eq_false (by omega)]; rfl)
    have hd : decide (0 ≤ N) = false := decide_eq_false (by omega)
    clear hv hr ht
    go_enter Tryd.func33, Tryd.ntmps33
    go_wp2_with (go_at_call 40; (with_reducible refine (wants_3 _).mono ?_); rintro e w' ⟨rfl, rfl⟩; rw [← hW0]; clear hW0)
    go_quiet ((go_at_call 41; exact quiet_left (HT.out _)))
    go_wp2_with fail
    exact bodyPost_ret (v := .tuple #[.int .i64 t, .bool false]) (by simp [results, Tryd.results33, go_sem]) rfl ⟨t, by rw [HR.out], fun _ => HR1.out.symm, HW.out _ (H2.out.drewq _)⟩
  by_cases h1 : 13 < N
  · have HR : RowKit.Hid ((rowS P 3 N S l).2 = false) := Lib.hid (by rw [hr, decide_eq_false (by omega)]; rfl)
    have h0' : 0 ≤ N := by omega
    have hd : decide (N ≤ 13) = false := decide_eq_false (by omega)
    clear hv hr ht h0
    go_enter Tryd.func33, Tryd.ntmps33
    go_wp2_with (go_at_call 40; (with_reducible refine (wants_3 _).mono ?_); rintro e w' ⟨rfl, rfl⟩; rw [← hW0]; clear hW0)
    go_quiet ((go_at_call 41; exact quiet_left (HT.out _)))
    go_wp2_with fail
    exact bodyPost_ret (v := .tuple #[.int .i64 t, .bool false]) (by simp [results, Tryd.results33, go_sem]) rfl ⟨t, by rw [HR.out], fun _ => HR1.out.symm, HW.out _ (H2.out.drewq _)⟩
  obtain ⟨b, hb⟩ : ∃ b, sameB l [0, 0] = b := ⟨_, rfl⟩
  have HR : RowKit.Hid ((rowS P 3 N S l).2 = b) := Lib.hid (by rw [hr, hb, decide_eq_true (by omega)]; rfl)
  have h0' : 0 ≤ N := by omega
  have h1' : N ≤ 13 := by omega
  have hW1 : W0.heap.size = w.heap.size + 1 := by rw [hW0]; simp
  have HB2 : RowKit.Hid (Below (w.heap.size + 1) W0 (W0.alloc (.cells #[.int .i64 0, .int .i64 0] 3))) := Lib.hid ((Below.refl _ _).alloc (by omega) _)
  have CI : RowKit.Hid (∀ q, Calls Tryd.prog 16 #[.slice va vn vc, .slice (some ⟨W0.heap.size, 0, none⟩) 2 2] ((W0.alloc (.cells #[.int .i64 0, .int .i64 0] 3)).drewN q) (BoolPost b ((W0.alloc (.cells #[.int .i64 0, .int .i64 0] 3)).drewN q))) := Lib.hid (fun q => by
    rw [← hb]
    exact ints_any va _ vn 2 vc 2 l [0, 0] _ (hv.since (HW.out _ (HB2.out.drewq q))) ((nums_laid 2 [0, 0] _ rfl rfl rfl).drewN q) hvn (by decide))
  clear hv hr ht h0 h1 hb hW1
  go_enter Tryd.func33, Tryd.ntmps33
  go_wp2_with (go_at_call 40; (with_reducible refine (wants_3 _).mono ?_); rintro e w' ⟨rfl, rfl⟩; rw [← hW0]; clear hW0)
  go_region_with (first | (go_at_call 41; (refine (HT.out _).mono ?_); rintro e w' ⟨rfl, rfl⟩) | (go_at_call 16; (refine (CI.out 1).mono ?_); rintro e w' ⟨rfl, n, rfl⟩))
  all_goals
    go_wp2_with fail
    exact bodyPost_ret (v := .tuple #[.int .i64 t, .bool b]) (by simp [results, Tryd.results33, go_sem]) rfl ⟨t, by rw [HR.out], fun _ => HR1.out.symm, HW.out _ (by first | exact HB2.out.drewq _ | exact (HB2.out.drewq _).drewq _)⟩
end Go.Proofs.YtgkcbaakdphigaaDoor
