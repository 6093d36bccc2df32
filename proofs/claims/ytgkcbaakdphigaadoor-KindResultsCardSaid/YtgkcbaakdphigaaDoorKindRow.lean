/- Layer 4, P4.3: package kind's row, walked at the kinds that ask for types alone. (Its text: by wip/gen/rows.py.) -/
import Derived.Test.YtgkcbaakdphigaaDoorKindRowS
namespace Go.Proofs.YtgkcbaakdphigaaDoor
open Go.RowKit (wrap64 intOf Below)
set_option linter.unusedVariables false

set_option maxRecDepth 100000 in
theorem row_4 (pv : Value) (P : ProgD) (A B C N : Int) (S : ByteArray) (la : Option Addr) (ln lc : Nat) (T : Bool) (L : List Int) (ta : Option Addr) (tn tc : Nat) (ts : List Int) (w : World) (ht : NumsAt w ta tn ts) (htn : tn ≤ 140737488355328) (ham : Among (usesL 4 A B C L) tn) :
    Calls Tryd.prog 32 #[pv, .agg #[.int .i64 4, .int .i64 A, .int .i64 B, .int .i64 C, .int .i64 N, .string S, .slice la ln lc, .bool T], .slice ta tn tc] w (RowPost (rowS P 4 N S ((usesL 4 A B C L).map (tyAt ts))) w) := by
  have HT : RowKit.Hid (∀ u, Below w.heap.size w u → NumsAt u ta tn ts) := Lib.hid (fun u hu => ht.since hu)
  have hu : usesL 4 A B C L = [A] := by simp [usesL, hasB, fieldsL, oneL, pickL]
  rw [hu] at ham ⊢
  have HA_A : RowKit.Hid (Among [A] tn) := Lib.hid (fun v hv => ham v (by simp at hv ⊢; omega))
  have HR1 : RowKit.Hid ((rowS P 4 N S ([A].map (tyAt ts))).1 = 1) := Lib.hid rfl
  have hr : (rowS P 4 N S ([A].map (tyAt ts))).2 = (areB ts 1 [A]) := by
    show sameB _ _ = _
    simp only [List.map_cons, List.map_nil, sameB_one, areB_one]
  clear ht ham hu
  cases h0 : areB ts 1 [A] with
  | false =>
    have H0 := Lib.hid h0
    have C0 : RowKit.Hid (Calls Tryd.prog 38 #[.slice ta tn tc, .int .i64 1, .slice (some ⟨w.heap.size + 1, 0, none⟩) 1 1] ((w.alloc (.cells #[.int .i64 4, .int .i64 A, .int .i64 B, .int .i64 C, .int .i64 N, .string S, .slice la ln lc, .bool T] 24)).alloc (.cells #[.int .i64 A] 3)) (fun e w' => e = .returned (.bool false) ∧ ((w.alloc (.cells #[.int .i64 4, .int .i64 A, .int .i64 B, .int .i64 C, .int .i64 N, .string S, .slice la ln lc, .bool T] 24)).alloc (.cells #[.int .i64 A] 3)) = w')) := Lib.hid (by rw [← H0.out]; exact are_any ta tn tc ts 1 _ 1 _ [A] _ (HT.out _ (below2 _ _ _ _ _)) (nums_laid 1 [A] _ rfl rfl (by simp)) HA_A.out (by decide) htn)
    have HR : RowKit.Hid ((rowS P 4 N S ([A].map (tyAt ts))).2 = false) := Lib.hid (by rw [hr, h0])
    clear hr h0
    go_enter Tryd.func32, Tryd.ntmps32
    go_wp2_with (first | (go_at_call 38; (with_reducible refine (C0.out).mono ?_); rintro e w' ⟨rfl, rfl⟩))
    refine bodyPost_ret (v := .tuple #[.int .i64 1, .bool false]) (by simp [results, Tryd.results32, go_sem]) rfl ⟨1, by rw [HR.out], fun _ => HR1.out.symm, below2 _ _ _ _ _⟩
  | true =>
    have H0 := Lib.hid h0
    have C0 : RowKit.Hid (Calls Tryd.prog 38 #[.slice ta tn tc, .int .i64 1, .slice (some ⟨w.heap.size + 1, 0, none⟩) 1 1] ((w.alloc (.cells #[.int .i64 4, .int .i64 A, .int .i64 B, .int .i64 C, .int .i64 N, .string S, .slice la ln lc, .bool T] 24)).alloc (.cells #[.int .i64 A] 3)) (fun e w' => e = .returned (.bool true) ∧ ((w.alloc (.cells #[.int .i64 4, .int .i64 A, .int .i64 B, .int .i64 C, .int .i64 N, .string S, .slice la ln lc, .bool T] 24)).alloc (.cells #[.int .i64 A] 3)) = w')) := Lib.hid (by rw [← H0.out]; exact are_any ta tn tc ts 1 _ 1 _ [A] _ (HT.out _ (below2 _ _ _ _ _)) (nums_laid 1 [A] _ rfl rfl (by simp)) HA_A.out (by decide) htn)
    have HR : RowKit.Hid ((rowS P 4 N S ([A].map (tyAt ts))).2 = true) := Lib.hid (by rw [hr, h0])
    clear hr h0
    go_enter Tryd.func32, Tryd.ntmps32
    go_wp2_with (first | (go_at_call 38; (with_reducible refine (C0.out).mono ?_); rintro e w' ⟨rfl, rfl⟩))
    refine bodyPost_ret (v := .tuple #[.int .i64 1, .bool true]) (by simp [results, Tryd.results32, go_sem]) rfl ⟨1, by rw [HR.out], fun _ => HR1.out.symm, below2 _ _ _ _ _⟩

set_option maxRecDepth 100000 in
theorem row_5 (pv : Value) (P : ProgD) (A B C N : Int) (S : ByteArray) (la : Option Addr) (ln lc : Nat) (T : Bool) (L : List Int) (ta : Option Addr) (tn tc : Nat) (ts : List Int) (w : World) (ht : NumsAt w ta tn ts) (htn : tn ≤ 140737488355328) (ham : Among (usesL 5 A B C L) tn) :
    Calls Tryd.prog 32 #[pv, .agg #[.int .i64 5, .int .i64 A, .int .i64 B, .int .i64 C, .int .i64 N, .string S, .slice la ln lc, .bool T], .slice ta tn tc] w (RowPost (rowS P 5 N S ((usesL 5 A B C L).map (tyAt ts))) w) := by
  have HT : RowKit.Hid (∀ u, Below w.heap.size w u → NumsAt u ta tn ts) := Lib.hid (fun u hu => ht.since hu)
  have hu : usesL 5 A B C L = [A, B] := by simp [usesL, hasB, fieldsL, oneL, pickL]
  rw [hu] at ham ⊢
  have HA_AB : RowKit.Hid (Among [A, B] tn) := Lib.hid (fun v hv => ham v (by simp at hv ⊢; omega))
  have HR1 : RowKit.Hid ((rowS P 5 N S ([A, B].map (tyAt ts))).1 = 2) := Lib.hid rfl
  have hr : (rowS P 5 N S ([A, B].map (tyAt ts))).2 = (areB ts 2 [A, B]) := by
    show sameB _ _ = _
    simp only [List.map_cons, List.map_nil, sameB_two, areB_two]
  clear ht ham hu
  cases h0 : areB ts 2 [A, B] with
  | false =>
    have H0 := Lib.hid h0
    have C0 : RowKit.Hid (Calls Tryd.prog 38 #[.slice ta tn tc, .int .i64 2, .slice (some ⟨w.heap.size + 1, 0, none⟩) 2 2] ((w.alloc (.cells #[.int .i64 5, .int .i64 A, .int .i64 B, .int .i64 C, .int .i64 N, .string S, .slice la ln lc, .bool T] 24)).alloc (.cells #[.int .i64 A, .int .i64 B] 3)) (fun e w' => e = .returned (.bool false) ∧ ((w.alloc (.cells #[.int .i64 5, .int .i64 A, .int .i64 B, .int .i64 C, .int .i64 N, .string S, .slice la ln lc, .bool T] 24)).alloc (.cells #[.int .i64 A, .int .i64 B] 3)) = w')) := Lib.hid (by rw [← H0.out]; exact are_any ta tn tc ts 2 _ 2 _ [A, B] _ (HT.out _ (below2 _ _ _ _ _)) (nums_laid 2 [A, B] _ rfl rfl (by simp)) HA_AB.out (by decide) htn)
    have HR : RowKit.Hid ((rowS P 5 N S ([A, B].map (tyAt ts))).2 = false) := Lib.hid (by rw [hr, h0])
    clear hr h0
    go_enter Tryd.func32, Tryd.ntmps32
    go_wp2_with (first | (go_at_call 38; (with_reducible refine (C0.out).mono ?_); rintro e w' ⟨rfl, rfl⟩))
    refine bodyPost_ret (v := .tuple #[.int .i64 2, .bool false]) (by simp [results, Tryd.results32, go_sem]) rfl ⟨2, by rw [HR.out], fun _ => HR1.out.symm, below2 _ _ _ _ _⟩
  | true =>
    have H0 := Lib.hid h0
    have C0 : RowKit.Hid (Calls Tryd.prog 38 #[.slice ta tn tc, .int .i64 2, .slice (some ⟨w.heap.size + 1, 0, none⟩) 2 2] ((w.alloc (.cells #[.int .i64 5, .int .i64 A, .int .i64 B, .int .i64 C, .int .i64 N, .string S, .slice la ln lc, .bool T] 24)).alloc (.cells #[.int .i64 A, .int .i64 B] 3)) (fun e w' => e = .returned (.bool true) ∧ ((w.alloc (.cells #[.int .i64 5, .int .i64 A, .int .i64 B, .int .i64 C, .int .i64 N, .string S, .slice la ln lc, .bool T] 24)).alloc (.cells #[.int .i64 A, .int .i64 B] 3)) = w')) := Lib.hid (by rw [← H0.out]; exact are_any ta tn tc ts 2 _ 2 _ [A, B] _ (HT.out _ (below2 _ _ _ _ _)) (nums_laid 2 [A, B] _ rfl rfl (by simp)) HA_AB.out (by decide) htn)
    have HR : RowKit.Hid ((rowS P 5 N S ([A, B].map (tyAt ts))).2 = true) := Lib.hid (by rw [hr, h0])
    clear hr h0
    go_enter Tryd.func32, Tryd.ntmps32
    go_wp2_with (first | (go_at_call 38; (with_reducible refine (C0.out).mono ?_); rintro e w' ⟨rfl, rfl⟩))
    refine bodyPost_ret (v := .tuple #[.int .i64 2, .bool true]) (by simp [results, Tryd.results32, go_sem]) rfl ⟨2, by rw [HR.out], fun _ => HR1.out.symm, below2 _ _ _ _ _⟩

set_option maxRecDepth 100000 in
theorem row_6 (pv : Value) (P : ProgD) (A B C N : Int) (S : ByteArray) (la : Option Addr) (ln lc : Nat) (T : Bool) (L : List Int) (ta : Option Addr) (tn tc : Nat) (ts : List Int) (w : World) (ht : NumsAt w ta tn ts) (htn : tn ≤ 140737488355328) (ham : Among (usesL 6 A B C L) tn) :
    Calls Tryd.prog 32 #[pv, .agg #[.int .i64 6, .int .i64 A, .int .i64 B, .int .i64 C, .int .i64 N, .string S, .slice la ln lc, .bool T], .slice ta tn tc] w (RowPost (rowS P 6 N S ((usesL 6 A B C L).map (tyAt ts))) w) := by
  have HT : RowKit.Hid (∀ u, Below w.heap.size w u → NumsAt u ta tn ts) := Lib.hid (fun u hu => ht.since hu)
  have hu : usesL 6 A B C L = [A] := by simp [usesL, hasB, fieldsL, oneL, pickL]
  rw [hu] at ham ⊢
  have HA_A : RowKit.Hid (Among [A] tn) := Lib.hid (fun v hv => ham v (by simp at hv ⊢; omega))
  have HR1 : RowKit.Hid ((rowS P 6 N S ([A].map (tyAt ts))).1 = 0) := Lib.hid rfl
  have hr : (rowS P 6 N S ([A].map (tyAt ts))).2 = (areB ts 2 [A]) := by
    show sameB _ _ = _
    simp only [List.map_cons, List.map_nil, sameB_one, areB_one]
  clear ht ham hu
  cases h0 : areB ts 2 [A] with
  | false =>
    have H0 := Lib.hid h0
    have C0 : RowKit.Hid (Calls Tryd.prog 38 #[.slice ta tn tc, .int .i64 2, .slice (some ⟨w.heap.size + 1, 0, none⟩) 1 1] ((w.alloc (.cells #[.int .i64 6, .int .i64 A, .int .i64 B, .int .i64 C, .int .i64 N, .string S, .slice la ln lc, .bool T] 24)).alloc (.cells #[.int .i64 A] 3)) (fun e w' => e = .returned (.bool false) ∧ ((w.alloc (.cells #[.int .i64 6, .int .i64 A, .int .i64 B, .int .i64 C, .int .i64 N, .string S, .slice la ln lc, .bool T] 24)).alloc (.cells #[.int .i64 A] 3)) = w')) := Lib.hid (by rw [← H0.out]; exact are_any ta tn tc ts 2 _ 1 _ [A] _ (HT.out _ (below2 _ _ _ _ _)) (nums_laid 1 [A] _ rfl rfl (by simp)) HA_A.out (by decide) htn)
    have HR : RowKit.Hid ((rowS P 6 N S ([A].map (tyAt ts))).2 = false) := Lib.hid (by rw [hr, h0])
    clear hr h0
    go_enter Tryd.func32, Tryd.ntmps32
    go_wp2_with (first | (go_at_call 38; (with_reducible refine (C0.out).mono ?_); rintro e w' ⟨rfl, rfl⟩))
    refine bodyPost_ret (v := .tuple #[.int .i64 0, .bool false]) (by simp [results, Tryd.results32, go_sem]) rfl ⟨0, by rw [HR.out], fun _ => HR1.out.symm, below2 _ _ _ _ _⟩
  | true =>
    have H0 := Lib.hid h0
    have C0 : RowKit.Hid (Calls Tryd.prog 38 #[.slice ta tn tc, .int .i64 2, .slice (some ⟨w.heap.size + 1, 0, none⟩) 1 1] ((w.alloc (.cells #[.int .i64 6, .int .i64 A, .int .i64 B, .int .i64 C, .int .i64 N, .string S, .slice la ln lc, .bool T] 24)).alloc (.cells #[.int .i64 A] 3)) (fun e w' => e = .returned (.bool true) ∧ ((w.alloc (.cells #[.int .i64 6, .int .i64 A, .int .i64 B, .int .i64 C, .int .i64 N, .string S, .slice la ln lc, .bool T] 24)).alloc (.cells #[.int .i64 A] 3)) = w')) := Lib.hid (by rw [← H0.out]; exact are_any ta tn tc ts 2 _ 1 _ [A] _ (HT.out _ (below2 _ _ _ _ _)) (nums_laid 1 [A] _ rfl rfl (by simp)) HA_A.out (by decide) htn)
    have HR : RowKit.Hid ((rowS P 6 N S ([A].map (tyAt ts))).2 = true) := Lib.hid (by rw [hr, h0])
    clear hr h0
    go_enter Tryd.func32, Tryd.ntmps32
    go_wp2_with (first | (go_at_call 38; (with_reducible refine (C0.out).mono ?_); rintro e w' ⟨rfl, rfl⟩))
    refine bodyPost_ret (v := .tuple #[.int .i64 0, .bool true]) (by simp [results, Tryd.results32, go_sem]) rfl ⟨0, by rw [HR.out], fun _ => HR1.out.symm, below2 _ _ _ _ _⟩

set_option maxRecDepth 100000 in
theorem row_7 (pv : Value) (P : ProgD) (A B C N : Int) (S : ByteArray) (la : Option Addr) (ln lc : Nat) (T : Bool) (L : List Int) (ta : Option Addr) (tn tc : Nat) (ts : List Int) (w : World) (ht : NumsAt w ta tn ts) (htn : tn ≤ 140737488355328) (ham : Among (usesL 7 A B C L) tn) :
    Calls Tryd.prog 32 #[pv, .agg #[.int .i64 7, .int .i64 A, .int .i64 B, .int .i64 C, .int .i64 N, .string S, .slice la ln lc, .bool T], .slice ta tn tc] w (RowPost (rowS P 7 N S ((usesL 7 A B C L).map (tyAt ts))) w) := by
  have HT : RowKit.Hid (∀ u, Below w.heap.size w u → NumsAt u ta tn ts) := Lib.hid (fun u hu => ht.since hu)
  have hu : usesL 7 A B C L = [A, B] := by simp [usesL, hasB, fieldsL, oneL, pickL]
  rw [hu] at ham ⊢
  have HA_A : RowKit.Hid (Among [A] tn) := Lib.hid (fun v hv => ham v (by simp at hv ⊢; omega))
  have HA_B : RowKit.Hid (Among [B] tn) := Lib.hid (fun v hv => ham v (by simp at hv ⊢; omega))
  have HR1 : RowKit.Hid ((rowS P 7 N S ([A, B].map (tyAt ts))).1 = 0) := Lib.hid rfl
  have hr : (rowS P 7 N S ([A, B].map (tyAt ts))).2 = (areB ts 2 [A] && areB ts 0 [B]) := by
    show sameB _ _ = _
    simp only [List.map_cons, List.map_nil, sameB_two, areB_one]
  clear ht ham hu
  cases h0 : areB ts 2 [A] with
  | false =>
    have H0 := Lib.hid h0
    have C0 : RowKit.Hid (Calls Tryd.prog 38 #[.slice ta tn tc, .int .i64 2, .slice (some ⟨w.heap.size + 1, 0, none⟩) 1 1] ((w.alloc (.cells #[.int .i64 7, .int .i64 A, .int .i64 B, .int .i64 C, .int .i64 N, .string S, .slice la ln lc, .bool T] 24)).alloc (.cells #[.int .i64 A] 3)) (fun e w' => e = .returned (.bool false) ∧ ((w.alloc (.cells #[.int .i64 7, .int .i64 A, .int .i64 B, .int .i64 C, .int .i64 N, .string S, .slice la ln lc, .bool T] 24)).alloc (.cells #[.int .i64 A] 3)) = w')) := Lib.hid (by rw [← H0.out]; exact are_any ta tn tc ts 2 _ 1 _ [A] _ (HT.out _ (below2 _ _ _ _ _)) (nums_laid 1 [A] _ rfl rfl (by simp)) HA_A.out (by decide) htn)
    have HR : RowKit.Hid ((rowS P 7 N S ([A, B].map (tyAt ts))).2 = false) := Lib.hid (by rw [hr, h0]; rfl)
    clear hr h0
    go_enter Tryd.func32, Tryd.ntmps32
    go_wp2_with (first | (go_at_call 38; (with_reducible refine (C0.out).mono ?_); rintro e w' ⟨rfl, rfl⟩))
    refine bodyPost_ret (v := .tuple #[.int .i64 0, .bool false]) (by simp [results, Tryd.results32, go_sem]) rfl ⟨0, by rw [HR.out], fun _ => HR1.out.symm, below2 _ _ _ _ _⟩
  | true =>
    have H0 := Lib.hid h0
    have C0 : RowKit.Hid (Calls Tryd.prog 38 #[.slice ta tn tc, .int .i64 2, .slice (some ⟨w.heap.size + 1, 0, none⟩) 1 1] ((w.alloc (.cells #[.int .i64 7, .int .i64 A, .int .i64 B, .int .i64 C, .int .i64 N, .string S, .slice la ln lc, .bool T] 24)).alloc (.cells #[.int .i64 A] 3)) (fun e w' => e = .returned (.bool true) ∧ ((w.alloc (.cells #[.int .i64 7, .int .i64 A, .int .i64 B, .int .i64 C, .int .i64 N, .string S, .slice la ln lc, .bool T] 24)).alloc (.cells #[.int .i64 A] 3)) = w')) := Lib.hid (by rw [← H0.out]; exact are_any ta tn tc ts 2 _ 1 _ [A] _ (HT.out _ (below2 _ _ _ _ _)) (nums_laid 1 [A] _ rfl rfl (by simp)) HA_A.out (by decide) htn)
    cases h1 : areB ts 0 [B] with
    | false =>
      have H1 := Lib.hid h1
      have C1 : RowKit.Hid (Calls Tryd.prog 38 #[.slice ta tn tc, .int .i64 0, .slice (some ⟨w.heap.size + 1 + 1, 0, none⟩) 1 1] (((w.alloc (.cells #[.int .i64 7, .int .i64 A, .int .i64 B, .int .i64 C, .int .i64 N, .string S, .slice la ln lc, .bool T] 24)).alloc (.cells #[.int .i64 A] 3)).alloc (.cells #[.int .i64 B] 3)) (fun e w' => e = .returned (.bool false) ∧ (((w.alloc (.cells #[.int .i64 7, .int .i64 A, .int .i64 B, .int .i64 C, .int .i64 N, .string S, .slice la ln lc, .bool T] 24)).alloc (.cells #[.int .i64 A] 3)).alloc (.cells #[.int .i64 B] 3)) = w')) := Lib.hid (by rw [← H1.out]; exact are_any ta tn tc ts 0 _ 1 _ [B] _ (HT.out _ (below3 _ _ _ _ _ _ _)) (nums_laid 1 [B] _ rfl rfl (by simp)) HA_B.out (by decide) htn)
      have HR : RowKit.Hid ((rowS P 7 N S ([A, B].map (tyAt ts))).2 = false) := Lib.hid (by rw [hr, h0, h1]; rfl)
      clear hr h0 h1
      go_enter Tryd.func32, Tryd.ntmps32
      go_wp2_with (first | (go_at_call 38; (with_reducible refine (C0.out).mono ?_); rintro e w' ⟨rfl, rfl⟩) | (go_at_call 38; (with_reducible refine (C1.out).mono ?_); rintro e w' ⟨rfl, rfl⟩))
      refine bodyPost_ret (v := .tuple #[.int .i64 0, .bool false]) (by simp [results, Tryd.results32, go_sem]) rfl ⟨0, by rw [HR.out], fun _ => HR1.out.symm, below3 _ _ _ _ _ _ _⟩
    | true =>
      have H1 := Lib.hid h1
      have C1 : RowKit.Hid (Calls Tryd.prog 38 #[.slice ta tn tc, .int .i64 0, .slice (some ⟨w.heap.size + 1 + 1, 0, none⟩) 1 1] (((w.alloc (.cells #[.int .i64 7, .int .i64 A, .int .i64 B, .int .i64 C, .int .i64 N, .string S, .slice la ln lc, .bool T] 24)).alloc (.cells #[.int .i64 A] 3)).alloc (.cells #[.int .i64 B] 3)) (fun e w' => e = .returned (.bool true) ∧ (((w.alloc (.cells #[.int .i64 7, .int .i64 A, .int .i64 B, .int .i64 C, .int .i64 N, .string S, .slice la ln lc, .bool T] 24)).alloc (.cells #[.int .i64 A] 3)).alloc (.cells #[.int .i64 B] 3)) = w')) := Lib.hid (by rw [← H1.out]; exact are_any ta tn tc ts 0 _ 1 _ [B] _ (HT.out _ (below3 _ _ _ _ _ _ _)) (nums_laid 1 [B] _ rfl rfl (by simp)) HA_B.out (by decide) htn)
      have HR : RowKit.Hid ((rowS P 7 N S ([A, B].map (tyAt ts))).2 = true) := Lib.hid (by rw [hr, h0, h1]; rfl)
      clear hr h0 h1
      go_enter Tryd.func32, Tryd.ntmps32
      go_wp2_with (first | (go_at_call 38; (with_reducible refine (C0.out).mono ?_); rintro e w' ⟨rfl, rfl⟩) | (go_at_call 38; (with_reducible refine (C1.out).mono ?_); rintro e w' ⟨rfl, rfl⟩))
      refine bodyPost_ret (v := .tuple #[.int .i64 0, .bool true]) (by simp [results, Tryd.results32, go_sem]) rfl ⟨0, by rw [HR.out], fun _ => HR1.out.symm, below3 _ _ _ _ _ _ _⟩

set_option maxRecDepth 100000 in
theorem row_8 (pv : Value) (P : ProgD) (A B C N : Int) (S : ByteArray) (la : Option Addr) (ln lc : Nat) (T : Bool) (L : List Int) (ta : Option Addr) (tn tc : Nat) (ts : List Int) (w : World) (ht : NumsAt w ta tn ts) (htn : tn ≤ 140737488355328) (ham : Among (usesL 8 A B C L) tn) :
    Calls Tryd.prog 32 #[pv, .agg #[.int .i64 8, .int .i64 A, .int .i64 B, .int .i64 C, .int .i64 N, .string S, .slice la ln lc, .bool T], .slice ta tn tc] w (RowPost (rowS P 8 N S ((usesL 8 A B C L).map (tyAt ts))) w) := by
  have HT : RowKit.Hid (∀ u, Below w.heap.size w u → NumsAt u ta tn ts) := Lib.hid (fun u hu => ht.since hu)
  have hu : usesL 8 A B C L = [A, B] := by simp [usesL, hasB, fieldsL, oneL, pickL]
  rw [hu] at ham ⊢
  have HA_AB : RowKit.Hid (Among [A, B] tn) := Lib.hid (fun v hv => ham v (by simp at hv ⊢; omega))
  have HR1 : RowKit.Hid ((rowS P 8 N S ([A, B].map (tyAt ts))).1 = 1) := Lib.hid rfl
  have hr : (rowS P 8 N S ([A, B].map (tyAt ts))).2 = (areB ts 2 [A, B]) := by
    show sameB _ _ = _
    simp only [List.map_cons, List.map_nil, sameB_two, areB_two]
  clear ht ham hu
  cases h0 : areB ts 2 [A, B] with
  | false =>
    have H0 := Lib.hid h0
    have C0 : RowKit.Hid (Calls Tryd.prog 38 #[.slice ta tn tc, .int .i64 2, .slice (some ⟨w.heap.size + 1, 0, none⟩) 2 2] ((w.alloc (.cells #[.int .i64 8, .int .i64 A, .int .i64 B, .int .i64 C, .int .i64 N, .string S, .slice la ln lc, .bool T] 24)).alloc (.cells #[.int .i64 A, .int .i64 B] 3)) (fun e w' => e = .returned (.bool false) ∧ ((w.alloc (.cells #[.int .i64 8, .int .i64 A, .int .i64 B, .int .i64 C, .int .i64 N, .string S, .slice la ln lc, .bool T] 24)).alloc (.cells #[.int .i64 A, .int .i64 B] 3)) = w')) := Lib.hid (by rw [← H0.out]; exact are_any ta tn tc ts 2 _ 2 _ [A, B] _ (HT.out _ (below2 _ _ _ _ _)) (nums_laid 2 [A, B] _ rfl rfl (by simp)) HA_AB.out (by decide) htn)
    have HR : RowKit.Hid ((rowS P 8 N S ([A, B].map (tyAt ts))).2 = false) := Lib.hid (by rw [hr, h0])
    clear hr h0
    go_enter Tryd.func32, Tryd.ntmps32
    go_wp2_with (first | (go_at_call 38; (with_reducible refine (C0.out).mono ?_); rintro e w' ⟨rfl, rfl⟩))
    refine bodyPost_ret (v := .tuple #[.int .i64 1, .bool false]) (by simp [results, Tryd.results32, go_sem]) rfl ⟨1, by rw [HR.out], fun _ => HR1.out.symm, below2 _ _ _ _ _⟩
  | true =>
    have H0 := Lib.hid h0
    have C0 : RowKit.Hid (Calls Tryd.prog 38 #[.slice ta tn tc, .int .i64 2, .slice (some ⟨w.heap.size + 1, 0, none⟩) 2 2] ((w.alloc (.cells #[.int .i64 8, .int .i64 A, .int .i64 B, .int .i64 C, .int .i64 N, .string S, .slice la ln lc, .bool T] 24)).alloc (.cells #[.int .i64 A, .int .i64 B] 3)) (fun e w' => e = .returned (.bool true) ∧ ((w.alloc (.cells #[.int .i64 8, .int .i64 A, .int .i64 B, .int .i64 C, .int .i64 N, .string S, .slice la ln lc, .bool T] 24)).alloc (.cells #[.int .i64 A, .int .i64 B] 3)) = w')) := Lib.hid (by rw [← H0.out]; exact are_any ta tn tc ts 2 _ 2 _ [A, B] _ (HT.out _ (below2 _ _ _ _ _)) (nums_laid 2 [A, B] _ rfl rfl (by simp)) HA_AB.out (by decide) htn)
    have HR : RowKit.Hid ((rowS P 8 N S ([A, B].map (tyAt ts))).2 = true) := Lib.hid (by rw [hr, h0])
    clear hr h0
    go_enter Tryd.func32, Tryd.ntmps32
    go_wp2_with (first | (go_at_call 38; (with_reducible refine (C0.out).mono ?_); rintro e w' ⟨rfl, rfl⟩))
    refine bodyPost_ret (v := .tuple #[.int .i64 1, .bool true]) (by simp [results, Tryd.results32, go_sem]) rfl ⟨1, by rw [HR.out], fun _ => HR1.out.symm, below2 _ _ _ _ _⟩

set_option maxRecDepth 100000 in
theorem row_13 (pv : Value) (P : ProgD) (A B C N : Int) (S : ByteArray) (la : Option Addr) (ln lc : Nat) (T : Bool) (L : List Int) (ta : Option Addr) (tn tc : Nat) (ts : List Int) (w : World) (ht : NumsAt w ta tn ts) (htn : tn ≤ 140737488355328) (ham : Among (usesL 13 A B C L) tn) :
    Calls Tryd.prog 32 #[pv, .agg #[.int .i64 13, .int .i64 A, .int .i64 B, .int .i64 C, .int .i64 N, .string S, .slice la ln lc, .bool T], .slice ta tn tc] w (RowPost (rowS P 13 N S ((usesL 13 A B C L).map (tyAt ts))) w) := by
  have HT : RowKit.Hid (∀ u, Below w.heap.size w u → NumsAt u ta tn ts) := Lib.hid (fun u hu => ht.since hu)
  have hu : usesL 13 A B C L = [A] := by simp [usesL, hasB, fieldsL, oneL, pickL]
  rw [hu] at ham ⊢
  have HA_A : RowKit.Hid (Among [A] tn) := Lib.hid (fun v hv => ham v (by simp at hv ⊢; omega))
  have HR1 : RowKit.Hid ((rowS P 13 N S ([A].map (tyAt ts))).1 = 3) := Lib.hid rfl
  have hr : (rowS P 13 N S ([A].map (tyAt ts))).2 = (areB ts 0 [A]) := by
    show sameB _ _ = _
    simp only [List.map_cons, List.map_nil, sameB_one, areB_one]
  clear ht ham hu
  cases h0 : areB ts 0 [A] with
  | false =>
    have H0 := Lib.hid h0
    have C0 : RowKit.Hid (Calls Tryd.prog 38 #[.slice ta tn tc, .int .i64 0, .slice (some ⟨w.heap.size + 1, 0, none⟩) 1 1] ((w.alloc (.cells #[.int .i64 13, .int .i64 A, .int .i64 B, .int .i64 C, .int .i64 N, .string S, .slice la ln lc, .bool T] 24)).alloc (.cells #[.int .i64 A] 3)) (fun e w' => e = .returned (.bool false) ∧ ((w.alloc (.cells #[.int .i64 13, .int .i64 A, .int .i64 B, .int .i64 C, .int .i64 N, .string S, .slice la ln lc, .bool T] 24)).alloc (.cells #[.int .i64 A] 3)) = w')) := Lib.hid (by rw [← H0.out]; exact are_any ta tn tc ts 0 _ 1 _ [A] _ (HT.out _ (below2 _ _ _ _ _)) (nums_laid 1 [A] _ rfl rfl (by simp)) HA_A.out (by decide) htn)
    have HR : RowKit.Hid ((rowS P 13 N S ([A].map (tyAt ts))).2 = false) := Lib.hid (by rw [hr, h0])
    clear hr h0
    go_enter Tryd.func32, Tryd.ntmps32
    go_wp2_with (first | (go_at_call 38; (with_reducible refine (C0.out).mono ?_); rintro e w' ⟨rfl, rfl⟩))
    refine bodyPost_ret (v := .tuple #[.int .i64 3, .bool false]) (by simp [results, Tryd.results32, go_sem]) rfl ⟨3, by rw [HR.out], fun _ => HR1.out.symm, below2 _ _ _ _ _⟩
  | true =>
    have H0 := Lib.hid h0
    have C0 : RowKit.Hid (Calls Tryd.prog 38 #[.slice ta tn tc, .int .i64 0, .slice (some ⟨w.heap.size + 1, 0, none⟩) 1 1] ((w.alloc (.cells #[.int .i64 13, .int .i64 A, .int .i64 B, .int .i64 C, .int .i64 N, .string S, .slice la ln lc, .bool T] 24)).alloc (.cells #[.int .i64 A] 3)) (fun e w' => e = .returned (.bool true) ∧ ((w.alloc (.cells #[.int .i64 13, .int .i64 A, .int .i64 B, .int .i64 C, .int .i64 N, .string S, .slice la ln lc, .bool T] 24)).alloc (.cells #[.int .i64 A] 3)) = w')) := Lib.hid (by rw [← H0.out]; exact are_any ta tn tc ts 0 _ 1 _ [A] _ (HT.out _ (below2 _ _ _ _ _)) (nums_laid 1 [A] _ rfl rfl (by simp)) HA_A.out (by decide) htn)
    have HR : RowKit.Hid ((rowS P 13 N S ([A].map (tyAt ts))).2 = true) := Lib.hid (by rw [hr, h0])
    clear hr h0
    go_enter Tryd.func32, Tryd.ntmps32
    go_wp2_with (first | (go_at_call 38; (with_reducible refine (C0.out).mono ?_); rintro e w' ⟨rfl, rfl⟩))
    refine bodyPost_ret (v := .tuple #[.int .i64 3, .bool true]) (by simp [results, Tryd.results32, go_sem]) rfl ⟨3, by rw [HR.out], fun _ => HR1.out.symm, below2 _ _ _ _ _⟩

set_option maxRecDepth 100000 in
theorem row_14 (pv : Value) (P : ProgD) (A B C N : Int) (S : ByteArray) (la : Option Addr) (ln lc : Nat) (T : Bool) (L : List Int) (ta : Option Addr) (tn tc : Nat) (ts : List Int) (w : World) (ht : NumsAt w ta tn ts) (htn : tn ≤ 140737488355328) (ham : Among (usesL 14 A B C L) tn) :
    Calls Tryd.prog 32 #[pv, .agg #[.int .i64 14, .int .i64 A, .int .i64 B, .int .i64 C, .int .i64 N, .string S, .slice la ln lc, .bool T], .slice ta tn tc] w (RowPost (rowS P 14 N S ((usesL 14 A B C L).map (tyAt ts))) w) := by
  have HT : RowKit.Hid (∀ u, Below w.heap.size w u → NumsAt u ta tn ts) := Lib.hid (fun u hu => ht.since hu)
  have hu : usesL 14 A B C L = [A] := by simp [usesL, hasB, fieldsL, oneL, pickL]
  rw [hu] at ham ⊢
  have HA_A : RowKit.Hid (Among [A] tn) := Lib.hid (fun v hv => ham v (by simp at hv ⊢; omega))
  have HR1 : RowKit.Hid ((rowS P 14 N S ([A].map (tyAt ts))).1 = 0) := Lib.hid rfl
  have hr : (rowS P 14 N S ([A].map (tyAt ts))).2 = (areB ts 3 [A]) := by
    show sameB _ _ = _
    simp only [List.map_cons, List.map_nil, sameB_one, areB_one]
  clear ht ham hu
  cases h0 : areB ts 3 [A] with
  | false =>
    have H0 := Lib.hid h0
    have C0 : RowKit.Hid (Calls Tryd.prog 38 #[.slice ta tn tc, .int .i64 3, .slice (some ⟨w.heap.size + 1, 0, none⟩) 1 1] ((w.alloc (.cells #[.int .i64 14, .int .i64 A, .int .i64 B, .int .i64 C, .int .i64 N, .string S, .slice la ln lc, .bool T] 24)).alloc (.cells #[.int .i64 A] 3)) (fun e w' => e = .returned (.bool false) ∧ ((w.alloc (.cells #[.int .i64 14, .int .i64 A, .int .i64 B, .int .i64 C, .int .i64 N, .string S, .slice la ln lc, .bool T] 24)).alloc (.cells #[.int .i64 A] 3)) = w')) := Lib.hid (by rw [← H0.out]; exact are_any ta tn tc ts 3 _ 1 _ [A] _ (HT.out _ (below2 _ _ _ _ _)) (nums_laid 1 [A] _ rfl rfl (by simp)) HA_A.out (by decide) htn)
    have HR : RowKit.Hid ((rowS P 14 N S ([A].map (tyAt ts))).2 = false) := Lib.hid (by rw [hr, h0])
    clear hr h0
    go_enter Tryd.func32, Tryd.ntmps32
    go_wp2_with (first | (go_at_call 38; (with_reducible refine (C0.out).mono ?_); rintro e w' ⟨rfl, rfl⟩))
    refine bodyPost_ret (v := .tuple #[.int .i64 0, .bool false]) (by simp [results, Tryd.results32, go_sem]) rfl ⟨0, by rw [HR.out], fun _ => HR1.out.symm, below2 _ _ _ _ _⟩
  | true =>
    have H0 := Lib.hid h0
    have C0 : RowKit.Hid (Calls Tryd.prog 38 #[.slice ta tn tc, .int .i64 3, .slice (some ⟨w.heap.size + 1, 0, none⟩) 1 1] ((w.alloc (.cells #[.int .i64 14, .int .i64 A, .int .i64 B, .int .i64 C, .int .i64 N, .string S, .slice la ln lc, .bool T] 24)).alloc (.cells #[.int .i64 A] 3)) (fun e w' => e = .returned (.bool true) ∧ ((w.alloc (.cells #[.int .i64 14, .int .i64 A, .int .i64 B, .int .i64 C, .int .i64 N, .string S, .slice la ln lc, .bool T] 24)).alloc (.cells #[.int .i64 A] 3)) = w')) := Lib.hid (by rw [← H0.out]; exact are_any ta tn tc ts 3 _ 1 _ [A] _ (HT.out _ (below2 _ _ _ _ _)) (nums_laid 1 [A] _ rfl rfl (by simp)) HA_A.out (by decide) htn)
    have HR : RowKit.Hid ((rowS P 14 N S ([A].map (tyAt ts))).2 = true) := Lib.hid (by rw [hr, h0])
    clear hr h0
    go_enter Tryd.func32, Tryd.ntmps32
    go_wp2_with (first | (go_at_call 38; (with_reducible refine (C0.out).mono ?_); rintro e w' ⟨rfl, rfl⟩))
    refine bodyPost_ret (v := .tuple #[.int .i64 0, .bool true]) (by simp [results, Tryd.results32, go_sem]) rfl ⟨0, by rw [HR.out], fun _ => HR1.out.symm, below2 _ _ _ _ _⟩

set_option maxRecDepth 100000 in
theorem row_15 (pv : Value) (P : ProgD) (A B C N : Int) (S : ByteArray) (la : Option Addr) (ln lc : Nat) (T : Bool) (L : List Int) (ta : Option Addr) (tn tc : Nat) (ts : List Int) (w : World) (ht : NumsAt w ta tn ts) (htn : tn ≤ 140737488355328) (ham : Among (usesL 15 A B C L) tn) :
    Calls Tryd.prog 32 #[pv, .agg #[.int .i64 15, .int .i64 A, .int .i64 B, .int .i64 C, .int .i64 N, .string S, .slice la ln lc, .bool T], .slice ta tn tc] w (RowPost (rowS P 15 N S ((usesL 15 A B C L).map (tyAt ts))) w) := by
  have HT : RowKit.Hid (∀ u, Below w.heap.size w u → NumsAt u ta tn ts) := Lib.hid (fun u hu => ht.since hu)
  have hu : usesL 15 A B C L = [A, B] := by simp [usesL, hasB, fieldsL, oneL, pickL]
  rw [hu] at ham ⊢
  have HA_A : RowKit.Hid (Among [A] tn) := Lib.hid (fun v hv => ham v (by simp at hv ⊢; omega))
  have HA_B : RowKit.Hid (Among [B] tn) := Lib.hid (fun v hv => ham v (by simp at hv ⊢; omega))
  have HR1 : RowKit.Hid ((rowS P 15 N S ([A, B].map (tyAt ts))).1 = 0) := Lib.hid rfl
  have hr : (rowS P 15 N S ([A, B].map (tyAt ts))).2 = (areB ts 3 [A] && areB ts 0 [B]) := by
    show sameB _ _ = _
    simp only [List.map_cons, List.map_nil, sameB_two, areB_one]
  clear ht ham hu
  cases h0 : areB ts 3 [A] with
  | false =>
    have H0 := Lib.hid h0
    have C0 : RowKit.Hid (Calls Tryd.prog 38 #[.slice ta tn tc, .int .i64 3, .slice (some ⟨w.heap.size + 1, 0, none⟩) 1 1] ((w.alloc (.cells #[.int .i64 15, .int .i64 A, .int .i64 B, .int .i64 C, .int .i64 N, .string S, .slice la ln lc, .bool T] 24)).alloc (.cells #[.int .i64 A] 3)) (fun e w' => e = .returned (.bool false) ∧ ((w.alloc (.cells #[.int .i64 15, .int .i64 A, .int .i64 B, .int .i64 C, .int .i64 N, .string S, .slice la ln lc, .bool T] 24)).alloc (.cells #[.int .i64 A] 3)) = w')) := Lib.hid (by rw [← H0.out]; exact are_any ta tn tc ts 3 _ 1 _ [A] _ (HT.out _ (below2 _ _ _ _ _)) (nums_laid 1 [A] _ rfl rfl (by simp)) HA_A.out (by decide) htn)
    have HR : RowKit.Hid ((rowS P 15 N S ([A, B].map (tyAt ts))).2 = false) := Lib.hid (by rw [hr, h0]; rfl)
    clear hr h0
    go_enter Tryd.func32, Tryd.ntmps32
    go_wp2_with (first | (go_at_call 38; (with_reducible refine (C0.out).mono ?_); rintro e w' ⟨rfl, rfl⟩))
    refine bodyPost_ret (v := .tuple #[.int .i64 0, .bool false]) (by simp [results, Tryd.results32, go_sem]) rfl ⟨0, by rw [HR.out], fun _ => HR1.out.symm, below2 _ _ _ _ _⟩
  | true =>
    have H0 := Lib.hid h0
    have C0 : RowKit.Hid (Calls Tryd.prog 38 #[.slice ta tn tc, .int .i64 3, .slice (some ⟨w.heap.size + 1, 0, none⟩) 1 1] ((w.alloc (.cells #[.int .i64 15, .int .i64 A, .int .i64 B, .int .i64 C, .int .i64 N, .string S, .slice la ln lc, .bool T] 24)).alloc (.cells #[.int .i64 A] 3)) (fun e w' => e = .returned (.bool true) ∧ ((w.alloc (.cells #[.int .i64 15, .int .i64 A, .int .i64 B, .int .i64 C, .int .i64 N, .string S, .slice la ln lc, .bool T] 24)).alloc (.cells #[.int .i64 A] 3)) = w')) := Lib.hid (by rw [← H0.out]; exact are_any ta tn tc ts 3 _ 1 _ [A] _ (HT.out _ (below2 _ _ _ _ _)) (nums_laid 1 [A] _ rfl rfl (by simp)) HA_A.out (by decide) htn)
    cases h1 : areB ts 0 [B] with
    | false =>
      have H1 := Lib.hid h1
      have C1 : RowKit.Hid (Calls Tryd.prog 38 #[.slice ta tn tc, .int .i64 0, .slice (some ⟨w.heap.size + 1 + 1, 0, none⟩) 1 1] (((w.alloc (.cells #[.int .i64 15, .int .i64 A, .int .i64 B, .int .i64 C, .int .i64 N, .string S, .slice la ln lc, .bool T] 24)).alloc (.cells #[.int .i64 A] 3)).alloc (.cells #[.int .i64 B] 3)) (fun e w' => e = .returned (.bool false) ∧ (((w.alloc (.cells #[.int .i64 15, .int .i64 A, .int .i64 B, .int .i64 C, .int .i64 N, .string S, .slice la ln lc, .bool T] 24)).alloc (.cells #[.int .i64 A] 3)).alloc (.cells #[.int .i64 B] 3)) = w')) := Lib.hid (by rw [← H1.out]; exact are_any ta tn tc ts 0 _ 1 _ [B] _ (HT.out _ (below3 _ _ _ _ _ _ _)) (nums_laid 1 [B] _ rfl rfl (by simp)) HA_B.out (by decide) htn)
      have HR : RowKit.Hid ((rowS P 15 N S ([A, B].map (tyAt ts))).2 = false) := Lib.hid (by rw [hr, h0, h1]; rfl)
      clear hr h0 h1
      go_enter Tryd.func32, Tryd.ntmps32
      go_wp2_with (first | (go_at_call 38; (with_reducible refine (C0.out).mono ?_); rintro e w' ⟨rfl, rfl⟩) | (go_at_call 38; (with_reducible refine (C1.out).mono ?_); rintro e w' ⟨rfl, rfl⟩))
      refine bodyPost_ret (v := .tuple #[.int .i64 0, .bool false]) (by simp [results, Tryd.results32, go_sem]) rfl ⟨0, by rw [HR.out], fun _ => HR1.out.symm, below3 _ _ _ _ _ _ _⟩
    | true =>
      have H1 := Lib.hid h1
      have C1 : RowKit.Hid (Calls Tryd.prog 38 #[.slice ta tn tc, .int .i64 0, .slice (some ⟨w.heap.size + 1 + 1, 0, none⟩) 1 1] (((w.alloc (.cells #[.int .i64 15, .int .i64 A, .int .i64 B, .int .i64 C, .int .i64 N, .string S, .slice la ln lc, .bool T] 24)).alloc (.cells #[.int .i64 A] 3)).alloc (.cells #[.int .i64 B] 3)) (fun e w' => e = .returned (.bool true) ∧ (((w.alloc (.cells #[.int .i64 15, .int .i64 A, .int .i64 B, .int .i64 C, .int .i64 N, .string S, .slice la ln lc, .bool T] 24)).alloc (.cells #[.int .i64 A] 3)).alloc (.cells #[.int .i64 B] 3)) = w')) := Lib.hid (by rw [← H1.out]; exact are_any ta tn tc ts 0 _ 1 _ [B] _ (HT.out _ (below3 _ _ _ _ _ _ _)) (nums_laid 1 [B] _ rfl rfl (by simp)) HA_B.out (by decide) htn)
      have HR : RowKit.Hid ((rowS P 15 N S ([A, B].map (tyAt ts))).2 = true) := Lib.hid (by rw [hr, h0, h1]; rfl)
      clear hr h0 h1
      go_enter Tryd.func32, Tryd.ntmps32
      go_wp2_with (first | (go_at_call 38; (with_reducible refine (C0.out).mono ?_); rintro e w' ⟨rfl, rfl⟩) | (go_at_call 38; (with_reducible refine (C1.out).mono ?_); rintro e w' ⟨rfl, rfl⟩))
      refine bodyPost_ret (v := .tuple #[.int .i64 0, .bool true]) (by simp [results, Tryd.results32, go_sem]) rfl ⟨0, by rw [HR.out], fun _ => HR1.out.symm, below3 _ _ _ _ _ _ _⟩

set_option maxRecDepth 100000 in
theorem row_16 (pv : Value) (P : ProgD) (A B C N : Int) (S : ByteArray) (la : Option Addr) (ln lc : Nat) (T : Bool) (L : List Int) (ta : Option Addr) (tn tc : Nat) (ts : List Int) (w : World) (ht : NumsAt w ta tn ts) (htn : tn ≤ 140737488355328) (ham : Among (usesL 16 A B C L) tn) :
    Calls Tryd.prog 32 #[pv, .agg #[.int .i64 16, .int .i64 A, .int .i64 B, .int .i64 C, .int .i64 N, .string S, .slice la ln lc, .bool T], .slice ta tn tc] w (RowPost (rowS P 16 N S ((usesL 16 A B C L).map (tyAt ts))) w) := by
  have HT : RowKit.Hid (∀ u, Below w.heap.size w u → NumsAt u ta tn ts) := Lib.hid (fun u hu => ht.since hu)
  have hu : usesL 16 A B C L = [A, B, C] := by simp [usesL, hasB, fieldsL, oneL, pickL]
  rw [hu] at ham ⊢
  have HA_A : RowKit.Hid (Among [A] tn) := Lib.hid (fun v hv => ham v (by simp at hv ⊢; omega))
  have HA_BC : RowKit.Hid (Among [B, C] tn) := Lib.hid (fun v hv => ham v (by simp at hv ⊢; omega))
  have HR1 : RowKit.Hid ((rowS P 16 N S ([A, B, C].map (tyAt ts))).1 = (-1)) := Lib.hid rfl
  have hr : (rowS P 16 N S ([A, B, C].map (tyAt ts))).2 = (areB ts 3 [A] && areB ts 0 [B, C]) := by
    show sameB _ _ = _
    simp only [List.map_cons, List.map_nil, sameB_three, areB_one, areB_two]
  clear ht ham hu
  cases h0 : areB ts 3 [A] with
  | false =>
    have H0 := Lib.hid h0
    have C0 : RowKit.Hid (Calls Tryd.prog 38 #[.slice ta tn tc, .int .i64 3, .slice (some ⟨w.heap.size + 1, 0, none⟩) 1 1] ((w.alloc (.cells #[.int .i64 16, .int .i64 A, .int .i64 B, .int .i64 C, .int .i64 N, .string S, .slice la ln lc, .bool T] 24)).alloc (.cells #[.int .i64 A] 3)) (fun e w' => e = .returned (.bool false) ∧ ((w.alloc (.cells #[.int .i64 16, .int .i64 A, .int .i64 B, .int .i64 C, .int .i64 N, .string S, .slice la ln lc, .bool T] 24)).alloc (.cells #[.int .i64 A] 3)) = w')) := Lib.hid (by rw [← H0.out]; exact are_any ta tn tc ts 3 _ 1 _ [A] _ (HT.out _ (below2 _ _ _ _ _)) (nums_laid 1 [A] _ rfl rfl (by simp)) HA_A.out (by decide) htn)
    have HR : RowKit.Hid ((rowS P 16 N S ([A, B, C].map (tyAt ts))).2 = false) := Lib.hid (by rw [hr, h0]; rfl)
    clear hr h0
    go_enter Tryd.func32, Tryd.ntmps32
    go_wp2_with (first | (go_at_call 38; (with_reducible refine (C0.out).mono ?_); rintro e w' ⟨rfl, rfl⟩))
    refine bodyPost_ret (v := .tuple #[.int .i64 (-1), .bool false]) (by simp [results, Tryd.results32, go_sem]) rfl ⟨(-1), by rw [HR.out], fun _ => HR1.out.symm, below2 _ _ _ _ _⟩
  | true =>
    have H0 := Lib.hid h0
    have C0 : RowKit.Hid (Calls Tryd.prog 38 #[.slice ta tn tc, .int .i64 3, .slice (some ⟨w.heap.size + 1, 0, none⟩) 1 1] ((w.alloc (.cells #[.int .i64 16, .int .i64 A, .int .i64 B, .int .i64 C, .int .i64 N, .string S, .slice la ln lc, .bool T] 24)).alloc (.cells #[.int .i64 A] 3)) (fun e w' => e = .returned (.bool true) ∧ ((w.alloc (.cells #[.int .i64 16, .int .i64 A, .int .i64 B, .int .i64 C, .int .i64 N, .string S, .slice la ln lc, .bool T] 24)).alloc (.cells #[.int .i64 A] 3)) = w')) := Lib.hid (by rw [← H0.out]; exact are_any ta tn tc ts 3 _ 1 _ [A] _ (HT.out _ (below2 _ _ _ _ _)) (nums_laid 1 [A] _ rfl rfl (by simp)) HA_A.out (by decide) htn)
    cases h1 : areB ts 0 [B, C] with
    | false =>
      have H1 := Lib.hid h1
      have C1 : RowKit.Hid (Calls Tryd.prog 38 #[.slice ta tn tc, .int .i64 0, .slice (some ⟨w.heap.size + 1 + 1, 0, none⟩) 2 2] (((w.alloc (.cells #[.int .i64 16, .int .i64 A, .int .i64 B, .int .i64 C, .int .i64 N, .string S, .slice la ln lc, .bool T] 24)).alloc (.cells #[.int .i64 A] 3)).alloc (.cells #[.int .i64 B, .int .i64 C] 3)) (fun e w' => e = .returned (.bool false) ∧ (((w.alloc (.cells #[.int .i64 16, .int .i64 A, .int .i64 B, .int .i64 C, .int .i64 N, .string S, .slice la ln lc, .bool T] 24)).alloc (.cells #[.int .i64 A] 3)).alloc (.cells #[.int .i64 B, .int .i64 C] 3)) = w')) := Lib.hid (by rw [← H1.out]; exact are_any ta tn tc ts 0 _ 2 _ [B, C] _ (HT.out _ (below3 _ _ _ _ _ _ _)) (nums_laid 2 [B, C] _ rfl rfl (by simp)) HA_BC.out (by decide) htn)
      have HR : RowKit.Hid ((rowS P 16 N S ([A, B, C].map (tyAt ts))).2 = false) := Lib.hid (by rw [hr, h0, h1]; rfl)
      clear hr h0 h1
      go_enter Tryd.func32, Tryd.ntmps32
      go_wp2_with (first | (go_at_call 38; (with_reducible refine (C0.out).mono ?_); rintro e w' ⟨rfl, rfl⟩) | (go_at_call 38; (with_reducible refine (C1.out).mono ?_); rintro e w' ⟨rfl, rfl⟩))
      refine bodyPost_ret (v := .tuple #[.int .i64 (-1), .bool false]) (by simp [results, Tryd.results32, go_sem]) rfl ⟨(-1), by rw [HR.out], fun _ => HR1.out.symm, below3 _ _ _ _ _ _ _⟩
    | true =>
      have H1 := Lib.hid h1
      have C1 : RowKit.Hid (Calls Tryd.prog 38 #[.slice ta tn tc, .int .i64 0, .slice (some ⟨w.heap.size + 1 + 1, 0, none⟩) 2 2] (((w.alloc (.cells #[.int .i64 16, .int .i64 A, .int .i64 B, .int .i64 C, .int .i64 N, .string S, .slice la ln lc, .bool T] 24)).alloc (.cells #[.int .i64 A] 3)).alloc (.cells #[.int .i64 B, .int .i64 C] 3)) (fun e w' => e = .returned (.bool true) ∧ (((w.alloc (.cells #[.int .i64 16, .int .i64 A, .int .i64 B, .int .i64 C, .int .i64 N, .string S, .slice la ln lc, .bool T] 24)).alloc (.cells #[.int .i64 A] 3)).alloc (.cells #[.int .i64 B, .int .i64 C] 3)) = w')) := Lib.hid (by rw [← H1.out]; exact are_any ta tn tc ts 0 _ 2 _ [B, C] _ (HT.out _ (below3 _ _ _ _ _ _ _)) (nums_laid 2 [B, C] _ rfl rfl (by simp)) HA_BC.out (by decide) htn)
      have HR : RowKit.Hid ((rowS P 16 N S ([A, B, C].map (tyAt ts))).2 = true) := Lib.hid (by rw [hr, h0, h1]; rfl)
      clear hr h0 h1
      go_enter Tryd.func32, Tryd.ntmps32
      go_wp2_with (first | (go_at_call 38; (with_reducible refine (C0.out).mono ?_); rintro e w' ⟨rfl, rfl⟩) | (go_at_call 38; (with_reducible refine (C1.out).mono ?_); rintro e w' ⟨rfl, rfl⟩))
      refine bodyPost_ret (v := .tuple #[.int .i64 (-1), .bool true]) (by simp [results, Tryd.results32, go_sem]) rfl ⟨(-1), by rw [HR.out], fun _ => HR1.out.symm, below3 _ _ _ _ _ _ _⟩

set_option maxRecDepth 100000 in
theorem row_18 (pv : Value) (P : ProgD) (A B C N : Int) (S : ByteArray) (la : Option Addr) (ln lc : Nat) (T : Bool) (L : List Int) (ta : Option Addr) (tn tc : Nat) (ts : List Int) (w : World) (ht : NumsAt w ta tn ts) (htn : tn ≤ 140737488355328) (ham : Among (usesL 18 A B C L) tn) :
    Calls Tryd.prog 32 #[pv, .agg #[.int .i64 18, .int .i64 A, .int .i64 B, .int .i64 C, .int .i64 N, .string S, .slice la ln lc, .bool T], .slice ta tn tc] w (RowPost (rowS P 18 N S ((usesL 18 A B C L).map (tyAt ts))) w) := by
  have HT : RowKit.Hid (∀ u, Below w.heap.size w u → NumsAt u ta tn ts) := Lib.hid (fun u hu => ht.since hu)
  have hu : usesL 18 A B C L = [A, B, C] := by simp [usesL, hasB, fieldsL, oneL, pickL]
  rw [hu] at ham ⊢
  have HA_A : RowKit.Hid (Among [A] tn) := Lib.hid (fun v hv => ham v (by simp at hv ⊢; omega))
  have HA_BC : RowKit.Hid (Among [B, C] tn) := Lib.hid (fun v hv => ham v (by simp at hv ⊢; omega))
  have HR1 : RowKit.Hid ((rowS P 18 N S ([A, B, C].map (tyAt ts))).1 = (-1)) := Lib.hid rfl
  have hr : (rowS P 18 N S ([A, B, C].map (tyAt ts))).2 = (areB ts 4 [A] && areB ts 0 [B, C]) := by
    show sameB _ _ = _
    simp only [List.map_cons, List.map_nil, sameB_three, areB_one, areB_two]
  clear ht ham hu
  cases h0 : areB ts 4 [A] with
  | false =>
    have H0 := Lib.hid h0
    have C0 : RowKit.Hid (Calls Tryd.prog 38 #[.slice ta tn tc, .int .i64 4, .slice (some ⟨w.heap.size + 1, 0, none⟩) 1 1] ((w.alloc (.cells #[.int .i64 18, .int .i64 A, .int .i64 B, .int .i64 C, .int .i64 N, .string S, .slice la ln lc, .bool T] 24)).alloc (.cells #[.int .i64 A] 3)) (fun e w' => e = .returned (.bool false) ∧ ((w.alloc (.cells #[.int .i64 18, .int .i64 A, .int .i64 B, .int .i64 C, .int .i64 N, .string S, .slice la ln lc, .bool T] 24)).alloc (.cells #[.int .i64 A] 3)) = w')) := Lib.hid (by rw [← H0.out]; exact are_any ta tn tc ts 4 _ 1 _ [A] _ (HT.out _ (below2 _ _ _ _ _)) (nums_laid 1 [A] _ rfl rfl (by simp)) HA_A.out (by decide) htn)
    have HR : RowKit.Hid ((rowS P 18 N S ([A, B, C].map (tyAt ts))).2 = false) := Lib.hid (by rw [hr, h0]; rfl)
    clear hr h0
    go_enter Tryd.func32, Tryd.ntmps32
    go_wp2_with (first | (go_at_call 38; (with_reducible refine (C0.out).mono ?_); rintro e w' ⟨rfl, rfl⟩))
    refine bodyPost_ret (v := .tuple #[.int .i64 (-1), .bool false]) (by simp [results, Tryd.results32, go_sem]) rfl ⟨(-1), by rw [HR.out], fun _ => HR1.out.symm, below2 _ _ _ _ _⟩
  | true =>
    have H0 := Lib.hid h0
    have C0 : RowKit.Hid (Calls Tryd.prog 38 #[.slice ta tn tc, .int .i64 4, .slice (some ⟨w.heap.size + 1, 0, none⟩) 1 1] ((w.alloc (.cells #[.int .i64 18, .int .i64 A, .int .i64 B, .int .i64 C, .int .i64 N, .string S, .slice la ln lc, .bool T] 24)).alloc (.cells #[.int .i64 A] 3)) (fun e w' => e = .returned (.bool true) ∧ ((w.alloc (.cells #[.int .i64 18, .int .i64 A, .int .i64 B, .int .i64 C, .int .i64 N, .string S, .slice la ln lc, .bool T] 24)).alloc (.cells #[.int .i64 A] 3)) = w')) := Lib.hid (by rw [← H0.out]; exact are_any ta tn tc ts 4 _ 1 _ [A] _ (HT.out _ (below2 _ _ _ _ _)) (nums_laid 1 [A] _ rfl rfl (by simp)) HA_A.out (by decide) htn)
    cases h1 : areB ts 0 [B, C] with
    | false =>
      have H1 := Lib.hid h1
      have C1 : RowKit.Hid (Calls Tryd.prog 38 #[.slice ta tn tc, .int .i64 0, .slice (some ⟨w.heap.size + 1 + 1, 0, none⟩) 2 2] (((w.alloc (.cells #[.int .i64 18, .int .i64 A, .int .i64 B, .int .i64 C, .int .i64 N, .string S, .slice la ln lc, .bool T] 24)).alloc (.cells #[.int .i64 A] 3)).alloc (.cells #[.int .i64 B, .int .i64 C] 3)) (fun e w' => e = .returned (.bool false) ∧ (((w.alloc (.cells #[.int .i64 18, .int .i64 A, .int .i64 B, .int .i64 C, .int .i64 N, .string S, .slice la ln lc, .bool T] 24)).alloc (.cells #[.int .i64 A] 3)).alloc (.cells #[.int .i64 B, .int .i64 C] 3)) = w')) := Lib.hid (by rw [← H1.out]; exact are_any ta tn tc ts 0 _ 2 _ [B, C] _ (HT.out _ (below3 _ _ _ _ _ _ _)) (nums_laid 2 [B, C] _ rfl rfl (by simp)) HA_BC.out (by decide) htn)
      have HR : RowKit.Hid ((rowS P 18 N S ([A, B, C].map (tyAt ts))).2 = false) := Lib.hid (by rw [hr, h0, h1]; rfl)
      clear hr h0 h1
      go_enter Tryd.func32, Tryd.ntmps32
      go_wp2_with (first | (go_at_call 38; (with_reducible refine (C0.out).mono ?_); rintro e w' ⟨rfl, rfl⟩) | (go_at_call 38; (with_reducible refine (C1.out).mono ?_); rintro e w' ⟨rfl, rfl⟩))
      refine bodyPost_ret (v := .tuple #[.int .i64 (-1), .bool false]) (by simp [results, Tryd.results32, go_sem]) rfl ⟨(-1), by rw [HR.out], fun _ => HR1.out.symm, below3 _ _ _ _ _ _ _⟩
    | true =>
      have H1 := Lib.hid h1
      have C1 : RowKit.Hid (Calls Tryd.prog 38 #[.slice ta tn tc, .int .i64 0, .slice (some ⟨w.heap.size + 1 + 1, 0, none⟩) 2 2] (((w.alloc (.cells #[.int .i64 18, .int .i64 A, .int .i64 B, .int .i64 C, .int .i64 N, .string S, .slice la ln lc, .bool T] 24)).alloc (.cells #[.int .i64 A] 3)).alloc (.cells #[.int .i64 B, .int .i64 C] 3)) (fun e w' => e = .returned (.bool true) ∧ (((w.alloc (.cells #[.int .i64 18, .int .i64 A, .int .i64 B, .int .i64 C, .int .i64 N, .string S, .slice la ln lc, .bool T] 24)).alloc (.cells #[.int .i64 A] 3)).alloc (.cells #[.int .i64 B, .int .i64 C] 3)) = w')) := Lib.hid (by rw [← H1.out]; exact are_any ta tn tc ts 0 _ 2 _ [B, C] _ (HT.out _ (below3 _ _ _ _ _ _ _)) (nums_laid 2 [B, C] _ rfl rfl (by simp)) HA_BC.out (by decide) htn)
      have HR : RowKit.Hid ((rowS P 18 N S ([A, B, C].map (tyAt ts))).2 = true) := Lib.hid (by rw [hr, h0, h1]; rfl)
      clear hr h0 h1
      go_enter Tryd.func32, Tryd.ntmps32
      go_wp2_with (first | (go_at_call 38; (with_reducible refine (C0.out).mono ?_); rintro e w' ⟨rfl, rfl⟩) | (go_at_call 38; (with_reducible refine (C1.out).mono ?_); rintro e w' ⟨rfl, rfl⟩))
      refine bodyPost_ret (v := .tuple #[.int .i64 (-1), .bool true]) (by simp [results, Tryd.results32, go_sem]) rfl ⟨(-1), by rw [HR.out], fun _ => HR1.out.symm, below3 _ _ _ _ _ _ _⟩

set_option maxRecDepth 100000 in
theorem row_19 (pv : Value) (P : ProgD) (A B C N : Int) (S : ByteArray) (la : Option Addr) (ln lc : Nat) (T : Bool) (L : List Int) (ta : Option Addr) (tn tc : Nat) (ts : List Int) (w : World) (ht : NumsAt w ta tn ts) (htn : tn ≤ 140737488355328) (ham : Among (usesL 19 A B C L) tn) :
    Calls Tryd.prog 32 #[pv, .agg #[.int .i64 19, .int .i64 A, .int .i64 B, .int .i64 C, .int .i64 N, .string S, .slice la ln lc, .bool T], .slice ta tn tc] w (RowPost (rowS P 19 N S ((usesL 19 A B C L).map (tyAt ts))) w) := by
  have HT : RowKit.Hid (∀ u, Below w.heap.size w u → NumsAt u ta tn ts) := Lib.hid (fun u hu => ht.since hu)
  have hu : usesL 19 A B C L = [A, B] := by simp [usesL, hasB, fieldsL, oneL, pickL]
  rw [hu] at ham ⊢
  have HA_A : RowKit.Hid (Among [A] tn) := Lib.hid (fun v hv => ham v (by simp at hv ⊢; omega))
  have HA_B : RowKit.Hid (Among [B] tn) := Lib.hid (fun v hv => ham v (by simp at hv ⊢; omega))
  have HR1 : RowKit.Hid ((rowS P 19 N S ([A, B].map (tyAt ts))).1 = 0) := Lib.hid rfl
  have hr : (rowS P 19 N S ([A, B].map (tyAt ts))).2 = (areB ts 4 [A] && areB ts 0 [B]) := by
    show sameB _ _ = _
    simp only [List.map_cons, List.map_nil, sameB_two, areB_one]
  clear ht ham hu
  cases h0 : areB ts 4 [A] with
  | false =>
    have H0 := Lib.hid h0
    have C0 : RowKit.Hid (Calls Tryd.prog 38 #[.slice ta tn tc, .int .i64 4, .slice (some ⟨w.heap.size + 1, 0, none⟩) 1 1] ((w.alloc (.cells #[.int .i64 19, .int .i64 A, .int .i64 B, .int .i64 C, .int .i64 N, .string S, .slice la ln lc, .bool T] 24)).alloc (.cells #[.int .i64 A] 3)) (fun e w' => e = .returned (.bool false) ∧ ((w.alloc (.cells #[.int .i64 19, .int .i64 A, .int .i64 B, .int .i64 C, .int .i64 N, .string S, .slice la ln lc, .bool T] 24)).alloc (.cells #[.int .i64 A] 3)) = w')) := Lib.hid (by rw [← H0.out]; exact are_any ta tn tc ts 4 _ 1 _ [A] _ (HT.out _ (below2 _ _ _ _ _)) (nums_laid 1 [A] _ rfl rfl (by simp)) HA_A.out (by decide) htn)
    have HR : RowKit.Hid ((rowS P 19 N S ([A, B].map (tyAt ts))).2 = false) := Lib.hid (by rw [hr, h0]; rfl)
    clear hr h0
    go_enter Tryd.func32, Tryd.ntmps32
    go_wp2_with (first | (go_at_call 38; (with_reducible refine (C0.out).mono ?_); rintro e w' ⟨rfl, rfl⟩))
    refine bodyPost_ret (v := .tuple #[.int .i64 0, .bool false]) (by simp [results, Tryd.results32, go_sem]) rfl ⟨0, by rw [HR.out], fun _ => HR1.out.symm, below2 _ _ _ _ _⟩
  | true =>
    have H0 := Lib.hid h0
    have C0 : RowKit.Hid (Calls Tryd.prog 38 #[.slice ta tn tc, .int .i64 4, .slice (some ⟨w.heap.size + 1, 0, none⟩) 1 1] ((w.alloc (.cells #[.int .i64 19, .int .i64 A, .int .i64 B, .int .i64 C, .int .i64 N, .string S, .slice la ln lc, .bool T] 24)).alloc (.cells #[.int .i64 A] 3)) (fun e w' => e = .returned (.bool true) ∧ ((w.alloc (.cells #[.int .i64 19, .int .i64 A, .int .i64 B, .int .i64 C, .int .i64 N, .string S, .slice la ln lc, .bool T] 24)).alloc (.cells #[.int .i64 A] 3)) = w')) := Lib.hid (by rw [← H0.out]; exact are_any ta tn tc ts 4 _ 1 _ [A] _ (HT.out _ (below2 _ _ _ _ _)) (nums_laid 1 [A] _ rfl rfl (by simp)) HA_A.out (by decide) htn)
    cases h1 : areB ts 0 [B] with
    | false =>
      have H1 := Lib.hid h1
      have C1 : RowKit.Hid (Calls Tryd.prog 38 #[.slice ta tn tc, .int .i64 0, .slice (some ⟨w.heap.size + 1 + 1, 0, none⟩) 1 1] (((w.alloc (.cells #[.int .i64 19, .int .i64 A, .int .i64 B, .int .i64 C, .int .i64 N, .string S, .slice la ln lc, .bool T] 24)).alloc (.cells #[.int .i64 A] 3)).alloc (.cells #[.int .i64 B] 3)) (fun e w' => e = .returned (.bool false) ∧ (((w.alloc (.cells #[.int .i64 19, .int .i64 A, .int .i64 B, .int .i64 C, .int .i64 N, .string S, .slice la ln lc, .bool T] 24)).alloc (.cells #[.int .i64 A] 3)).alloc (.cells #[.int .i64 B] 3)) = w')) := Lib.hid (by rw [← H1.out]; exact are_any ta tn tc ts 0 _ 1 _ [B] _ (HT.out _ (below3 _ _ _ _ _ _ _)) (nums_laid 1 [B] _ rfl rfl (by simp)) HA_B.out (by decide) htn)
      have HR : RowKit.Hid ((rowS P 19 N S ([A, B].map (tyAt ts))).2 = false) := Lib.hid (by rw [hr, h0, h1]; rfl)
      clear hr h0 h1
      go_enter Tryd.func32, Tryd.ntmps32
      go_wp2_with (first | (go_at_call 38; (with_reducible refine (C0.out).mono ?_); rintro e w' ⟨rfl, rfl⟩) | (go_at_call 38; (with_reducible refine (C1.out).mono ?_); rintro e w' ⟨rfl, rfl⟩))
      refine bodyPost_ret (v := .tuple #[.int .i64 0, .bool false]) (by simp [results, Tryd.results32, go_sem]) rfl ⟨0, by rw [HR.out], fun _ => HR1.out.symm, below3 _ _ _ _ _ _ _⟩
    | true =>
      have H1 := Lib.hid h1
      have C1 : RowKit.Hid (Calls Tryd.prog 38 #[.slice ta tn tc, .int .i64 0, .slice (some ⟨w.heap.size + 1 + 1, 0, none⟩) 1 1] (((w.alloc (.cells #[.int .i64 19, .int .i64 A, .int .i64 B, .int .i64 C, .int .i64 N, .string S, .slice la ln lc, .bool T] 24)).alloc (.cells #[.int .i64 A] 3)).alloc (.cells #[.int .i64 B] 3)) (fun e w' => e = .returned (.bool true) ∧ (((w.alloc (.cells #[.int .i64 19, .int .i64 A, .int .i64 B, .int .i64 C, .int .i64 N, .string S, .slice la ln lc, .bool T] 24)).alloc (.cells #[.int .i64 A] 3)).alloc (.cells #[.int .i64 B] 3)) = w')) := Lib.hid (by rw [← H1.out]; exact are_any ta tn tc ts 0 _ 1 _ [B] _ (HT.out _ (below3 _ _ _ _ _ _ _)) (nums_laid 1 [B] _ rfl rfl (by simp)) HA_B.out (by decide) htn)
      have HR : RowKit.Hid ((rowS P 19 N S ([A, B].map (tyAt ts))).2 = true) := Lib.hid (by rw [hr, h0, h1]; rfl)
      clear hr h0 h1
      go_enter Tryd.func32, Tryd.ntmps32
      go_wp2_with (first | (go_at_call 38; (with_reducible refine (C0.out).mono ?_); rintro e w' ⟨rfl, rfl⟩) | (go_at_call 38; (with_reducible refine (C1.out).mono ?_); rintro e w' ⟨rfl, rfl⟩))
      refine bodyPost_ret (v := .tuple #[.int .i64 0, .bool true]) (by simp [results, Tryd.results32, go_sem]) rfl ⟨0, by rw [HR.out], fun _ => HR1.out.symm, below3 _ _ _ _ _ _ _⟩

set_option maxRecDepth 100000 in
theorem row_20 (pv : Value) (P : ProgD) (A B C N : Int) (S : ByteArray) (la : Option Addr) (ln lc : Nat) (T : Bool) (L : List Int) (ta : Option Addr) (tn tc : Nat) (ts : List Int) (w : World) (ht : NumsAt w ta tn ts) (htn : tn ≤ 140737488355328) (ham : Among (usesL 20 A B C L) tn) :
    Calls Tryd.prog 32 #[pv, .agg #[.int .i64 20, .int .i64 A, .int .i64 B, .int .i64 C, .int .i64 N, .string S, .slice la ln lc, .bool T], .slice ta tn tc] w (RowPost (rowS P 20 N S ((usesL 20 A B C L).map (tyAt ts))) w) := by
  have HT : RowKit.Hid (∀ u, Below w.heap.size w u → NumsAt u ta tn ts) := Lib.hid (fun u hu => ht.since hu)
  have hu : usesL 20 A B C L = [A] := by simp [usesL, hasB, fieldsL, oneL, pickL]
  rw [hu] at ham ⊢
  have HA_A : RowKit.Hid (Among [A] tn) := Lib.hid (fun v hv => ham v (by simp at hv ⊢; omega))
  have HR1 : RowKit.Hid ((rowS P 20 N S ([A].map (tyAt ts))).1 = 0) := Lib.hid rfl
  have hr : (rowS P 20 N S ([A].map (tyAt ts))).2 = (areB ts 4 [A]) := by
    show sameB _ _ = _
    simp only [List.map_cons, List.map_nil, sameB_one, areB_one]
  clear ht ham hu
  cases h0 : areB ts 4 [A] with
  | false =>
    have H0 := Lib.hid h0
    have C0 : RowKit.Hid (Calls Tryd.prog 38 #[.slice ta tn tc, .int .i64 4, .slice (some ⟨w.heap.size + 1, 0, none⟩) 1 1] ((w.alloc (.cells #[.int .i64 20, .int .i64 A, .int .i64 B, .int .i64 C, .int .i64 N, .string S, .slice la ln lc, .bool T] 24)).alloc (.cells #[.int .i64 A] 3)) (fun e w' => e = .returned (.bool false) ∧ ((w.alloc (.cells #[.int .i64 20, .int .i64 A, .int .i64 B, .int .i64 C, .int .i64 N, .string S, .slice la ln lc, .bool T] 24)).alloc (.cells #[.int .i64 A] 3)) = w')) := Lib.hid (by rw [← H0.out]; exact are_any ta tn tc ts 4 _ 1 _ [A] _ (HT.out _ (below2 _ _ _ _ _)) (nums_laid 1 [A] _ rfl rfl (by simp)) HA_A.out (by decide) htn)
    have HR : RowKit.Hid ((rowS P 20 N S ([A].map (tyAt ts))).2 = false) := Lib.hid (by rw [hr, h0])
    clear hr h0
    go_enter Tryd.func32, Tryd.ntmps32
    go_wp2_with (first | (go_at_call 38; (with_reducible refine (C0.out).mono ?_); rintro e w' ⟨rfl, rfl⟩))
    refine bodyPost_ret (v := .tuple #[.int .i64 0, .bool false]) (by simp [results, Tryd.results32, go_sem]) rfl ⟨0, by rw [HR.out], fun _ => HR1.out.symm, below2 _ _ _ _ _⟩
  | true =>
    have H0 := Lib.hid h0
    have C0 : RowKit.Hid (Calls Tryd.prog 38 #[.slice ta tn tc, .int .i64 4, .slice (some ⟨w.heap.size + 1, 0, none⟩) 1 1] ((w.alloc (.cells #[.int .i64 20, .int .i64 A, .int .i64 B, .int .i64 C, .int .i64 N, .string S, .slice la ln lc, .bool T] 24)).alloc (.cells #[.int .i64 A] 3)) (fun e w' => e = .returned (.bool true) ∧ ((w.alloc (.cells #[.int .i64 20, .int .i64 A, .int .i64 B, .int .i64 C, .int .i64 N, .string S, .slice la ln lc, .bool T] 24)).alloc (.cells #[.int .i64 A] 3)) = w')) := Lib.hid (by rw [← H0.out]; exact are_any ta tn tc ts 4 _ 1 _ [A] _ (HT.out _ (below2 _ _ _ _ _)) (nums_laid 1 [A] _ rfl rfl (by simp)) HA_A.out (by decide) htn)
    have HR : RowKit.Hid ((rowS P 20 N S ([A].map (tyAt ts))).2 = true) := Lib.hid (by rw [hr, h0])
    clear hr h0
    go_enter Tryd.func32, Tryd.ntmps32
    go_wp2_with (first | (go_at_call 38; (with_reducible refine (C0.out).mono ?_); rintro e w' ⟨rfl, rfl⟩))
    refine bodyPost_ret (v := .tuple #[.int .i64 0, .bool true]) (by simp [results, Tryd.results32, go_sem]) rfl ⟨0, by rw [HR.out], fun _ => HR1.out.symm, below2 _ _ _ _ _⟩

set_option maxRecDepth 100000 in
theorem row_21 (pv : Value) (P : ProgD) (A B C N : Int) (S : ByteArray) (la : Option Addr) (ln lc : Nat) (T : Bool) (L : List Int) (ta : Option Addr) (tn tc : Nat) (ts : List Int) (w : World) (ht : NumsAt w ta tn ts) (htn : tn ≤ 140737488355328) (ham : Among (usesL 21 A B C L) tn) :
    Calls Tryd.prog 32 #[pv, .agg #[.int .i64 21, .int .i64 A, .int .i64 B, .int .i64 C, .int .i64 N, .string S, .slice la ln lc, .bool T], .slice ta tn tc] w (RowPost (rowS P 21 N S ((usesL 21 A B C L).map (tyAt ts))) w) := by
  have HT : RowKit.Hid (∀ u, Below w.heap.size w u → NumsAt u ta tn ts) := Lib.hid (fun u hu => ht.since hu)
  have hu : usesL 21 A B C L = [A, B] := by simp [usesL, hasB, fieldsL, oneL, pickL]
  rw [hu] at ham ⊢
  have HA_A : RowKit.Hid (Among [A] tn) := Lib.hid (fun v hv => ham v (by simp at hv ⊢; omega))
  have HA_B : RowKit.Hid (Among [B] tn) := Lib.hid (fun v hv => ham v (by simp at hv ⊢; omega))
  have HR1 : RowKit.Hid ((rowS P 21 N S ([A, B].map (tyAt ts))).1 = 0) := Lib.hid rfl
  have hr : (rowS P 21 N S ([A, B].map (tyAt ts))).2 = (areB ts 4 [A] && areB ts 0 [B]) := by
    show sameB _ _ = _
    simp only [List.map_cons, List.map_nil, sameB_two, areB_one]
  clear ht ham hu
  cases h0 : areB ts 4 [A] with
  | false =>
    have H0 := Lib.hid h0
    have C0 : RowKit.Hid (Calls Tryd.prog 38 #[.slice ta tn tc, .int .i64 4, .slice (some ⟨w.heap.size + 1, 0, none⟩) 1 1] ((w.alloc (.cells #[.int .i64 21, .int .i64 A, .int .i64 B, .int .i64 C, .int .i64 N, .string S, .slice la ln lc, .bool T] 24)).alloc (.cells #[.int .i64 A] 3)) (fun e w' => e = .returned (.bool false) ∧ ((w.alloc (.cells #[.int .i64 21, .int .i64 A, .int .i64 B, .int .i64 C, .int .i64 N, .string S, .slice la ln lc, .bool T] 24)).alloc (.cells #[.int .i64 A] 3)) = w')) := Lib.hid (by rw [← H0.out]; exact are_any ta tn tc ts 4 _ 1 _ [A] _ (HT.out _ (below2 _ _ _ _ _)) (nums_laid 1 [A] _ rfl rfl (by simp)) HA_A.out (by decide) htn)
    have HR : RowKit.Hid ((rowS P 21 N S ([A, B].map (tyAt ts))).2 = false) := Lib.hid (by rw [hr, h0]; rfl)
    clear hr h0
    go_enter Tryd.func32, Tryd.ntmps32
    go_wp2_with (first | (go_at_call 38; (with_reducible refine (C0.out).mono ?_); rintro e w' ⟨rfl, rfl⟩))
    refine bodyPost_ret (v := .tuple #[.int .i64 0, .bool false]) (by simp [results, Tryd.results32, go_sem]) rfl ⟨0, by rw [HR.out], fun _ => HR1.out.symm, below2 _ _ _ _ _⟩
  | true =>
    have H0 := Lib.hid h0
    have C0 : RowKit.Hid (Calls Tryd.prog 38 #[.slice ta tn tc, .int .i64 4, .slice (some ⟨w.heap.size + 1, 0, none⟩) 1 1] ((w.alloc (.cells #[.int .i64 21, .int .i64 A, .int .i64 B, .int .i64 C, .int .i64 N, .string S, .slice la ln lc, .bool T] 24)).alloc (.cells #[.int .i64 A] 3)) (fun e w' => e = .returned (.bool true) ∧ ((w.alloc (.cells #[.int .i64 21, .int .i64 A, .int .i64 B, .int .i64 C, .int .i64 N, .string S, .slice la ln lc, .bool T] 24)).alloc (.cells #[.int .i64 A] 3)) = w')) := Lib.hid (by rw [← H0.out]; exact are_any ta tn tc ts 4 _ 1 _ [A] _ (HT.out _ (below2 _ _ _ _ _)) (nums_laid 1 [A] _ rfl rfl (by simp)) HA_A.out (by decide) htn)
    cases h1 : areB ts 0 [B] with
    | false =>
      have H1 := Lib.hid h1
      have C1 : RowKit.Hid (Calls Tryd.prog 38 #[.slice ta tn tc, .int .i64 0, .slice (some ⟨w.heap.size + 1 + 1, 0, none⟩) 1 1] (((w.alloc (.cells #[.int .i64 21, .int .i64 A, .int .i64 B, .int .i64 C, .int .i64 N, .string S, .slice la ln lc, .bool T] 24)).alloc (.cells #[.int .i64 A] 3)).alloc (.cells #[.int .i64 B] 3)) (fun e w' => e = .returned (.bool false) ∧ (((w.alloc (.cells #[.int .i64 21, .int .i64 A, .int .i64 B, .int .i64 C, .int .i64 N, .string S, .slice la ln lc, .bool T] 24)).alloc (.cells #[.int .i64 A] 3)).alloc (.cells #[.int .i64 B] 3)) = w')) := Lib.hid (by rw [← H1.out]; exact are_any ta tn tc ts 0 _ 1 _ [B] _ (HT.out _ (below3 _ _ _ _ _ _ _)) (nums_laid 1 [B] _ rfl rfl (by simp)) HA_B.out (by decide) htn)
      have HR : RowKit.Hid ((rowS P 21 N S ([A, B].map (tyAt ts))).2 = false) := Lib.hid (by rw [hr, h0, h1]; rfl)
      clear hr h0 h1
      go_enter Tryd.func32, Tryd.ntmps32
      go_wp2_with (first | (go_at_call 38; (with_reducible refine (C0.out).mono ?_); rintro e w' ⟨rfl, rfl⟩) | (go_at_call 38; (with_reducible refine (C1.out).mono ?_); rintro e w' ⟨rfl, rfl⟩))
      refine bodyPost_ret (v := .tuple #[.int .i64 0, .bool false]) (by simp [results, Tryd.results32, go_sem]) rfl ⟨0, by rw [HR.out], fun _ => HR1.out.symm, below3 _ _ _ _ _ _ _⟩
    | true =>
      have H1 := Lib.hid h1
      have C1 : RowKit.Hid (Calls Tryd.prog 38 #[.slice ta tn tc, .int .i64 0, .slice (some ⟨w.heap.size + 1 + 1, 0, none⟩) 1 1] (((w.alloc (.cells #[.int .i64 21, .int .i64 A, .int .i64 B, .int .i64 C, .int .i64 N, .string S, .slice la ln lc, .bool T] 24)).alloc (.cells #[.int .i64 A] 3)).alloc (.cells #[.int .i64 B] 3)) (fun e w' => e = .returned (.bool true) ∧ (((w.alloc (.cells #[.int .i64 21, .int .i64 A, .int .i64 B, .int .i64 C, .int .i64 N, .string S, .slice la ln lc, .bool T] 24)).alloc (.cells #[.int .i64 A] 3)).alloc (.cells #[.int .i64 B] 3)) = w')) := Lib.hid (by rw [← H1.out]; exact are_any ta tn tc ts 0 _ 1 _ [B] _ (HT.out _ (below3 _ _ _ _ _ _ _)) (nums_laid 1 [B] _ rfl rfl (by simp)) HA_B.out (by decide) htn)
      have HR : RowKit.Hid ((rowS P 21 N S ([A, B].map (tyAt ts))).2 = true) := Lib.hid (by rw [hr, h0, h1]; rfl)
      clear hr h0 h1
      go_enter Tryd.func32, Tryd.ntmps32
      go_wp2_with (first | (go_at_call 38; (with_reducible refine (C0.out).mono ?_); rintro e w' ⟨rfl, rfl⟩) | (go_at_call 38; (with_reducible refine (C1.out).mono ?_); rintro e w' ⟨rfl, rfl⟩))
      refine bodyPost_ret (v := .tuple #[.int .i64 0, .bool true]) (by simp [results, Tryd.results32, go_sem]) rfl ⟨0, by rw [HR.out], fun _ => HR1.out.symm, below3 _ _ _ _ _ _ _⟩
end Go.Proofs.YtgkcbaakdphigaaDoor
