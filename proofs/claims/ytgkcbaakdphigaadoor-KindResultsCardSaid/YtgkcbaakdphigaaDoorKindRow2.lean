/- Layer 4, P4.3: package kind's row, walked at the kinds that ask for more than types. (Its text: by wip/gen/rows2.py.) -/
import Derived.Test.YtgkcbaakdphigaaDoorKindRowS
import Derived.BigQuiet
namespace Go.Proofs.YtgkcbaakdphigaaDoor
open Go.RowKit (wrap64 intOf Below)
set_option linter.unusedVariables false

set_option maxRecDepth 100000 in
theorem row_0 (pv : Value) (P : ProgD) (A B C N : Int) (S : ByteArray) (la : Option Addr) (ln lc : Nat) (T : Bool) (L : List Int) (ta : Option Addr) (tn tc : Nat) (ts : List Int) (w : World) (ht : NumsAt w ta tn ts) (htn : tn ≤ 140737488355328) (ham : Among (usesL 0 A B C L) tn) :
    Calls Tryd.prog 32 #[pv, .agg #[.int .i64 0, .int .i64 A, .int .i64 B, .int .i64 C, .int .i64 N, .string S, .slice la ln lc, .bool T], .slice ta tn tc] w (RowPost (rowS P 0 N S ((usesL 0 A B C L).map (tyAt ts))) w) := by
  have HT : RowKit.Hid (∀ u, Below w.heap.size w u → NumsAt u ta tn ts) := Lib.hid (fun u hu => ht.since hu)
  have HR1 : RowKit.Hid ((rowS P 0 N S ((usesL 0 A B C L).map (tyAt ts))).1 = 0) := Lib.hid rfl
  have HR : RowKit.Hid ((rowS P 0 N S ((usesL 0 A B C L).map (tyAt ts))).2 = true) := Lib.hid rfl
  clear ht ham
  go_enter Tryd.func32, Tryd.ntmps32
  go_wp2_with fail
  refine bodyPost_ret (v := .tuple #[.int .i64 0, .bool true]) (by simp [results, Tryd.results32, go_sem]) rfl ⟨0, by rw [HR.out], fun _ => HR1.out.symm, below1 _ _ _⟩

set_option maxRecDepth 100000 in
theorem row_17 (pv : Value) (P : ProgD) (A B C N : Int) (S : ByteArray) (la : Option Addr) (ln lc : Nat) (T : Bool) (L : List Int) (ta : Option Addr) (tn tc : Nat) (ts : List Int) (w : World) (ht : NumsAt w ta tn ts) (htn : tn ≤ 140737488355328) (ham : Among (usesL 17 A B C L) tn) :
    Calls Tryd.prog 32 #[pv, .agg #[.int .i64 17, .int .i64 A, .int .i64 B, .int .i64 C, .int .i64 N, .string S, .slice la ln lc, .bool T], .slice ta tn tc] w (RowPost (rowS P 17 N S ((usesL 17 A B C L).map (tyAt ts))) w) := by
  have HT : RowKit.Hid (∀ u, Below w.heap.size w u → NumsAt u ta tn ts) := Lib.hid (fun u hu => ht.since hu)
  have HR1 : RowKit.Hid ((rowS P 17 N S ((usesL 17 A B C L).map (tyAt ts))).1 = 4) := Lib.hid rfl
  have HR : RowKit.Hid ((rowS P 17 N S ((usesL 17 A B C L).map (tyAt ts))).2 = true) := Lib.hid rfl
  clear ht ham
  go_enter Tryd.func32, Tryd.ntmps32
  go_wp2_with fail
  refine bodyPost_ret (v := .tuple #[.int .i64 4, .bool true]) (by simp [results, Tryd.results32, go_sem]) rfl ⟨4, by rw [HR.out], fun _ => HR1.out.symm, below1 _ _ _⟩

set_option maxRecDepth 100000 in
theorem row_2 (pv : Value) (P : ProgD) (A B C N : Int) (S : ByteArray) (la : Option Addr) (ln lc : Nat) (T : Bool) (L : List Int) (ta : Option Addr) (tn tc : Nat) (ts : List Int) (w : World) (ht : NumsAt w ta tn ts) (htn : tn ≤ 140737488355328) (ham : Among (usesL 2 A B C L) tn) :
    Calls Tryd.prog 32 #[pv, .agg #[.int .i64 2, .int .i64 A, .int .i64 B, .int .i64 C, .int .i64 N, .string S, .slice la ln lc, .bool T], .slice ta tn tc] w (RowPost (rowS P 2 N S ((usesL 2 A B C L).map (tyAt ts))) w) := by
  have HT : RowKit.Hid (∀ u, Below w.heap.size w u → NumsAt u ta tn ts) := Lib.hid (fun u hu => ht.since hu)
  have HR1 : RowKit.Hid ((rowS P 2 N S ((usesL 2 A B C L).map (tyAt ts))).1 = 2) := Lib.hid rfl
  by_cases h : S.size ≤ 64
  · have h' : ((S.size : Int) ≤ 64) := by omega
    have HR : RowKit.Hid ((rowS P 2 N S ((usesL 2 A B C L).map (tyAt ts))).2 = true) := Lib.hid (decide_eq_true h)
    clear ht ham h
    go_enter Tryd.func32, Tryd.ntmps32
    go_wp2_with fail
    go_quiet (fail)
    go_wp2_with fail
    refine bodyPost_ret (v := .tuple #[.int .i64 2, .bool true]) (by simp [results, Tryd.results32, go_sem]) rfl ⟨2, by rw [HR.out], fun _ => HR1.out.symm, (below1 _ _ _).drewq nq⟩
  · have h' : 64 < (S.size : Int) := by omega
    have HR : RowKit.Hid ((rowS P 2 N S ((usesL 2 A B C L).map (tyAt ts))).2 = false) := Lib.hid (decide_eq_false h)
    clear ht ham h
    go_enter Tryd.func32, Tryd.ntmps32
    go_wp2_with fail
    go_quiet (fail)
    go_wp2_with fail
    refine bodyPost_ret (v := .tuple #[.int .i64 2, .bool false]) (by simp [results, Tryd.results32, go_sem] <;> omega) rfl ⟨2, by rw [HR.out], fun _ => HR1.out.symm, (below1 _ _ _).drewq nq⟩

set_option maxRecDepth 100000 in
theorem row_1 (pv : Value) (P : ProgD) (A B C N : Int) (S : ByteArray) (la : Option Addr) (ln lc : Nat) (T : Bool) (L : List Int) (ta : Option Addr) (tn tc : Nat) (ts : List Int) (w : World) (ht : NumsAt w ta tn ts) (htn : tn ≤ 140737488355328) (ham : Among (usesL 1 A B C L) tn) :
    Calls Tryd.prog 32 #[pv, .agg #[.int .i64 1, .int .i64 A, .int .i64 B, .int .i64 C, .int .i64 N, .string S, .slice la ln lc, .bool T], .slice ta tn tc] w (RowPost (rowS P 1 N S ((usesL 1 A B C L).map (tyAt ts))) w) := by
  have HT : RowKit.Hid (∀ u, Below w.heap.size w u → NumsAt u ta tn ts) := Lib.hid (fun u hu => ht.since hu)
  have HR1 : RowKit.Hid ((rowS P 1 N S ((usesL 1 A B C L).map (tyAt ts))).1 = 1) := Lib.hid rfl
  by_cases h0 : N = 0
  · have e0 : (N == 0) = true := by simpa using h0
    have HR : RowKit.Hid ((rowS P 1 N S ((usesL 1 A B C L).map (tyAt ts))).2 = true) := Lib.hid (by show (N == 0 || N == 1) = true; rw [e0]; rfl)
    clear ht ham h0
    go_enter Tryd.func32, Tryd.ntmps32
    go_wp2_with fail
    go_quiet (fail)
    go_wp2_with fail
    refine bodyPost_ret (v := .tuple #[.int .i64 1, .bool true]) (by simp [results, Tryd.results32, go_sem]) rfl ⟨1, by rw [HR.out], fun _ => HR1.out.symm, (below1 _ _ _).drewq nq⟩
  · have e0 : (N == 0) = false := by rw [beq_eq_false_iff_ne]; exact h0
    by_cases h1 : N = 1
    · have e1 : (N == 1) = true := by simpa using h1
      have HR : RowKit.Hid ((rowS P 1 N S ((usesL 1 A B C L).map (tyAt ts))).2 = true) := Lib.hid (by show (N == 0 || N == 1) = true; rw [e0, e1]; rfl)
      clear ht ham h0 h1
      go_enter Tryd.func32, Tryd.ntmps32
      go_wp2_with fail
      go_quiet (fail)
      go_wp2_with fail
      refine bodyPost_ret (v := .tuple #[.int .i64 1, .bool true]) (by simp [results, Tryd.results32, go_sem]) rfl ⟨1, by rw [HR.out], fun _ => HR1.out.symm, (below1 _ _ _).drewq nq⟩
    · have e1 : (N == 1) = false := by rw [beq_eq_false_iff_ne]; exact h1
      have HR : RowKit.Hid ((rowS P 1 N S ((usesL 1 A B C L).map (tyAt ts))).2 = false) := Lib.hid (by show (N == 0 || N == 1) = false; rw [e0, e1]; rfl)
      clear ht ham h0 h1
      go_enter Tryd.func32, Tryd.ntmps32
      go_wp2_with fail
      go_quiet (fail)
      go_wp2_with fail
      refine bodyPost_ret (v := .tuple #[.int .i64 1, .bool false]) (by simp [results, Tryd.results32, go_sem]) rfl ⟨1, by rw [HR.out], fun _ => HR1.out.symm, (below1 _ _ _).drewq nq⟩

set_option maxRecDepth 100000 in
theorem row_12 (pv : Value) (P : ProgD) (A B C N : Int) (S : ByteArray) (la : Option Addr) (ln lc : Nat) (T : Bool) (L : List Int) (ta : Option Addr) (tn tc : Nat) (ts : List Int) (w : World) (ht : NumsAt w ta tn ts) (htn : tn ≤ 140737488355328) (ham : Among (usesL 12 A B C L) tn) :
    Calls Tryd.prog 32 #[pv, .agg #[.int .i64 12, .int .i64 A, .int .i64 B, .int .i64 C, .int .i64 N, .string S, .slice la ln lc, .bool T], .slice ta tn tc] w (RowPost (rowS P 12 N S ((usesL 12 A B C L).map (tyAt ts))) w) := by
  have HT : RowKit.Hid (∀ u, Below w.heap.size w u → NumsAt u ta tn ts) := Lib.hid (fun u hu => ht.since hu)
  have HR1 : RowKit.Hid ((rowS P 12 N S ((usesL 12 A B C L).map (tyAt ts))).1 = 3) := Lib.hid rfl
  by_cases h0 : 0 ≤ N
  · by_cases h1 : N ≤ 128
    · have HR : RowKit.Hid ((rowS P 12 N S ((usesL 12 A B C L).map (tyAt ts))).2 = true) := Lib.hid (decide_eq_true ⟨h0, h1⟩)
      clear ht ham
      go_enter Tryd.func32, Tryd.ntmps32
      go_wp2_with fail
      go_quiet (fail)
      go_wp2_with fail
      refine bodyPost_ret (v := .tuple #[.int .i64 3, .bool true]) (by simp [results, Tryd.results32, go_sem]) rfl ⟨3, by rw [HR.out], fun _ => HR1.out.symm, (below1 _ _ _).drewq nq⟩
    · have HR : RowKit.Hid ((rowS P 12 N S ((usesL 12 A B C L).map (tyAt ts))).2 = false) := Lib.hid (decide_eq_false (fun h => h1 h.2))
      have h1' : 128 < N := by omega
      clear ht ham
      go_enter Tryd.func32, Tryd.ntmps32
      go_wp2_with fail
      go_quiet (fail)
      go_wp2_with fail
      refine bodyPost_ret (v := .tuple #[.int .i64 3, .bool false]) (by simp [results, Tryd.results32, go_sem] <;> omega) rfl ⟨3, by rw [HR.out], fun _ => HR1.out.symm, (below1 _ _ _).drewq nq⟩
  · have HR : RowKit.Hid ((rowS P 12 N S ((usesL 12 A B C L).map (tyAt ts))).2 = false) := Lib.hid (decide_eq_false (fun h => h0 h.1))
    have hd : decide (0 ≤ N) = false := decide_eq_false h0
    clear ht ham h0
    go_enter Tryd.func32, Tryd.ntmps32
    go_wp2_with fail
    go_quiet (fail)
    go_wp2_with fail
    refine bodyPost_ret (v := .tuple #[.int .i64 3, .bool false]) (by simp [results, Tryd.results32, go_sem]) rfl ⟨3, by rw [HR.out], fun _ => HR1.out.symm, (below1 _ _ _).drewq nq⟩

set_option maxRecDepth 100000 in
theorem row_3 (pv : Value) (P : ProgD) (A B C N : Int) (S : ByteArray) (la : Option Addr) (ln lc : Nat) (T : Bool) (L : List Int) (ta : Option Addr) (tn tc : Nat) (ts : List Int) (w : World) (ht : NumsAt w ta tn ts) (htn : tn ≤ 140737488355328) (ham : Among (usesL 3 A B C L) tn) :
    Calls Tryd.prog 32 #[pv, .agg #[.int .i64 3, .int .i64 A, .int .i64 B, .int .i64 C, .int .i64 N, .string S, .slice la ln lc, .bool T], .slice ta tn tc] w (RowPost (rowS P 3 N S ((usesL 3 A B C L).map (tyAt ts))) w) := by
  have hu : usesL 3 A B C L = [A, B] := by simp [usesL, hasB, fieldsL, oneL, pickL]
  rw [hu] at ham ⊢
  have HT : RowKit.Hid (∀ u, Below w.heap.size w u → NumsAt u ta tn ts) := Lib.hid (fun u hu => ht.since hu)
  have HA_AB : RowKit.Hid (Among [A, B] tn) := Lib.hid ham
  have HR1 : RowKit.Hid ((rowS P 3 N S ([A, B].map (tyAt ts))).1 = tlV N) := Lib.hid rfl
  have hr : (rowS P 3 N S ([A, B].map (tyAt ts))).2 = (decide (0 ≤ N ∧ N ≤ 13) && areB ts 0 [A, B]) := by
    show (_ && sameB _ _) = _
    simp only [List.map_cons, List.map_nil, sameB_two, areB_two]
  clear ht ham hu
  cases hs : decide (0 ≤ N ∧ N ≤ 13) with
  | false =>
    have HS := Lib.hid hs
    have HR : RowKit.Hid ((rowS P 3 N S ([A, B].map (tyAt ts))).2 = false) := Lib.hid (by rw [hr, hs]; rfl)
    clear hr hs
    go_enter Tryd.func32, Tryd.ntmps32
    go_wp2_with (go_at_call 37; (with_reducible refine (sign_any N _).mono ?_); rintro e w' ⟨rfl, rfl⟩; rw [HS.out])
    refine bodyPost_ret (v := .tuple #[.int .i64 (tlV N), .bool false]) (by simp [results, Tryd.results32, go_sem]) rfl ⟨tlV N, by rw [HR.out], fun _ => HR1.out.symm, below1 _ _ _⟩
  | true =>
    have HS := Lib.hid hs
    cases h0 : areB ts 0 [A, B] with
    | false =>
      have H0 := Lib.hid h0
      have C0 : RowKit.Hid (Calls Tryd.prog 38 #[.slice ta tn tc, .int .i64 0, .slice (some ⟨w.heap.size + 1, 0, none⟩) 2 2] ((w.alloc (.cells #[.int .i64 3, .int .i64 A, .int .i64 B, .int .i64 C, .int .i64 N, .string S, .slice la ln lc, .bool T] 24)).alloc (.cells #[.int .i64 A, .int .i64 B] 3)) (fun e w' => e = .returned (.bool false) ∧ ((w.alloc (.cells #[.int .i64 3, .int .i64 A, .int .i64 B, .int .i64 C, .int .i64 N, .string S, .slice la ln lc, .bool T] 24)).alloc (.cells #[.int .i64 A, .int .i64 B] 3)) = w')) := Lib.hid (by rw [← H0.out]; exact are_any ta tn tc ts 0 _ 2 _ [A, B] _ (HT.out _ (below2 _ _ _ _ _)) (nums_laid 2 [A, B] _ rfl rfl (by simp)) HA_AB.out (by decide) htn)
      have HR : RowKit.Hid ((rowS P 3 N S ([A, B].map (tyAt ts))).2 = false) := Lib.hid (by rw [hr, hs, h0]; rfl)
      clear hr hs h0
      go_enter Tryd.func32, Tryd.ntmps32
      go_wp2_with (first | (go_at_call 37; (with_reducible refine (sign_any N _).mono ?_); rintro e w' ⟨rfl, rfl⟩; rw [HS.out]) | (go_at_call 38; (with_reducible refine (C0.out).mono ?_); rintro e w' ⟨rfl, rfl⟩))
      refine bodyPost_ret (v := .tuple #[.int .i64 (tlV N), .bool false]) (by simp [results, Tryd.results32, go_sem]) rfl ⟨tlV N, by rw [HR.out], fun _ => HR1.out.symm, below2 _ _ _ _ _⟩
    | true =>
      have H0 := Lib.hid h0
      have C0 : RowKit.Hid (Calls Tryd.prog 38 #[.slice ta tn tc, .int .i64 0, .slice (some ⟨w.heap.size + 1, 0, none⟩) 2 2] ((w.alloc (.cells #[.int .i64 3, .int .i64 A, .int .i64 B, .int .i64 C, .int .i64 N, .string S, .slice la ln lc, .bool T] 24)).alloc (.cells #[.int .i64 A, .int .i64 B] 3)) (fun e w' => e = .returned (.bool true) ∧ ((w.alloc (.cells #[.int .i64 3, .int .i64 A, .int .i64 B, .int .i64 C, .int .i64 N, .string S, .slice la ln lc, .bool T] 24)).alloc (.cells #[.int .i64 A, .int .i64 B] 3)) = w')) := Lib.hid (by rw [← H0.out]; exact are_any ta tn tc ts 0 _ 2 _ [A, B] _ (HT.out _ (below2 _ _ _ _ _)) (nums_laid 2 [A, B] _ rfl rfl (by simp)) HA_AB.out (by decide) htn)
      have HR : RowKit.Hid ((rowS P 3 N S ([A, B].map (tyAt ts))).2 = true) := Lib.hid (by rw [hr, hs, h0]; rfl)
      clear hr hs h0
      go_enter Tryd.func32, Tryd.ntmps32
      go_wp2_with (first | (go_at_call 37; (with_reducible refine (sign_any N _).mono ?_); rintro e w' ⟨rfl, rfl⟩; rw [HS.out]) | (go_at_call 38; (with_reducible refine (C0.out).mono ?_); rintro e w' ⟨rfl, rfl⟩))
      refine bodyPost_ret (v := .tuple #[.int .i64 (tlV N), .bool true]) (by simp [results, Tryd.results32, go_sem]) rfl ⟨tlV N, by rw [HR.out], fun _ => HR1.out.symm, below2 _ _ _ _ _⟩

set_option maxRecDepth 100000 in
theorem row_25 (pv : Value) (P : ProgD) (A B C N : Int) (S : ByteArray) (la : Option Addr) (ln lc : Nat) (T : Bool) (L : List Int) (ta : Option Addr) (tn tc : Nat) (ts : List Int) (w : World) (ht : NumsAt w ta tn ts) (htn : tn ≤ 140737488355328) (ham : Among (usesL 25 A B C L) tn) :
    Calls Tryd.prog 32 #[pv, .agg #[.int .i64 25, .int .i64 A, .int .i64 B, .int .i64 C, .int .i64 N, .string S, .slice la ln lc, .bool T], .slice ta tn tc] w (RowPost (rowS P 25 N S ((usesL 25 A B C L).map (tyAt ts))) w) := by
  have hu : usesL 25 A B C L = [A] := by simp [usesL, hasB, fieldsL, oneL, pickL]
  rw [hu] at ham ⊢
  have HT : RowKit.Hid (∀ u, Below w.heap.size w u → NumsAt u ta tn ts) := Lib.hid (fun u hu => ht.since hu)
  have HA_A : RowKit.Hid (Among [A] tn) := Lib.hid ham
  have HR1 : RowKit.Hid ((rowS P 25 N S ([A].map (tyAt ts))).1 = -1) := Lib.hid rfl
  have hr : (rowS P 25 N S ([A].map (tyAt ts))).2 = (areB ts 0 [A] || areB ts 2 [A]) := by
    show (sameB _ _ || sameB _ _) = _
    simp only [List.map_cons, List.map_nil, sameB_one, areB_one]
  clear ht ham hu
  cases h0 : areB ts 0 [A] with
  | true =>
    have H0 := Lib.hid h0
    have C0 : RowKit.Hid (Calls Tryd.prog 38 #[.slice ta tn tc, .int .i64 0, .slice (some ⟨w.heap.size + 1, 0, none⟩) 1 1] ((w.alloc (.cells #[.int .i64 25, .int .i64 A, .int .i64 B, .int .i64 C, .int .i64 N, .string S, .slice la ln lc, .bool T] 24)).alloc (.cells #[.int .i64 A] 3)) (fun e w' => e = .returned (.bool true) ∧ ((w.alloc (.cells #[.int .i64 25, .int .i64 A, .int .i64 B, .int .i64 C, .int .i64 N, .string S, .slice la ln lc, .bool T] 24)).alloc (.cells #[.int .i64 A] 3)) = w')) := Lib.hid (by rw [← H0.out]; exact are_any ta tn tc ts 0 _ 1 _ [A] _ (HT.out _ (below2 _ _ _ _ _)) (nums_laid 1 [A] _ rfl rfl (by simp)) HA_A.out (by decide) htn)
    have HR : RowKit.Hid ((rowS P 25 N S ([A].map (tyAt ts))).2 = true) := Lib.hid (by rw [hr, h0]; rfl)
    clear hr h0
    go_enter Tryd.func32, Tryd.ntmps32
    go_wp2_with (go_at_call 38; (with_reducible refine (C0.out).mono ?_); rintro e w' ⟨rfl, rfl⟩)
    refine bodyPost_ret (v := .tuple #[.int .i64 (-1), .bool true]) (by simp [results, Tryd.results32, go_sem]) rfl ⟨-1, by rw [HR.out], fun _ => HR1.out.symm, below2 _ _ _ _ _⟩
  | false =>
    have H0 := Lib.hid h0
    have C0 : RowKit.Hid (Calls Tryd.prog 38 #[.slice ta tn tc, .int .i64 0, .slice (some ⟨w.heap.size + 1, 0, none⟩) 1 1] ((w.alloc (.cells #[.int .i64 25, .int .i64 A, .int .i64 B, .int .i64 C, .int .i64 N, .string S, .slice la ln lc, .bool T] 24)).alloc (.cells #[.int .i64 A] 3)) (fun e w' => e = .returned (.bool false) ∧ ((w.alloc (.cells #[.int .i64 25, .int .i64 A, .int .i64 B, .int .i64 C, .int .i64 N, .string S, .slice la ln lc, .bool T] 24)).alloc (.cells #[.int .i64 A] 3)) = w')) := Lib.hid (by rw [← H0.out]; exact are_any ta tn tc ts 0 _ 1 _ [A] _ (HT.out _ (below2 _ _ _ _ _)) (nums_laid 1 [A] _ rfl rfl (by simp)) HA_A.out (by decide) htn)
    cases h1 : areB ts 2 [A] with
    | false =>
      have H1 := Lib.hid h1
      have C1 : RowKit.Hid (Calls Tryd.prog 38 #[.slice ta tn tc, .int .i64 2, .slice (some ⟨w.heap.size + 1 + 1, 0, none⟩) 1 1] (((w.alloc (.cells #[.int .i64 25, .int .i64 A, .int .i64 B, .int .i64 C, .int .i64 N, .string S, .slice la ln lc, .bool T] 24)).alloc (.cells #[.int .i64 A] 3)).alloc (.cells #[.int .i64 A] 3)) (fun e w' => e = .returned (.bool false) ∧ (((w.alloc (.cells #[.int .i64 25, .int .i64 A, .int .i64 B, .int .i64 C, .int .i64 N, .string S, .slice la ln lc, .bool T] 24)).alloc (.cells #[.int .i64 A] 3)).alloc (.cells #[.int .i64 A] 3)) = w')) := Lib.hid (by rw [← H1.out]; exact are_any ta tn tc ts 2 _ 1 _ [A] _ (HT.out _ (below3 _ _ _ _ _ _ _)) (nums_laid 1 [A] _ rfl rfl (by simp)) HA_A.out (by decide) htn)
      have HR : RowKit.Hid ((rowS P 25 N S ([A].map (tyAt ts))).2 = false) := Lib.hid (by rw [hr, h0, h1]; rfl)
      clear hr h0 h1
      go_enter Tryd.func32, Tryd.ntmps32
      go_wp2_with (first | (go_at_call 38; (with_reducible refine (C0.out).mono ?_); rintro e w' ⟨rfl, rfl⟩) | (go_at_call 38; (with_reducible refine (C1.out).mono ?_); rintro e w' ⟨rfl, rfl⟩))
      refine bodyPost_ret (v := .tuple #[.int .i64 (-1), .bool false]) (by simp [results, Tryd.results32, go_sem]) rfl ⟨-1, by rw [HR.out], fun _ => HR1.out.symm, below3 _ _ _ _ _ _ _⟩
    | true =>
      have H1 := Lib.hid h1
      have C1 : RowKit.Hid (Calls Tryd.prog 38 #[.slice ta tn tc, .int .i64 2, .slice (some ⟨w.heap.size + 1 + 1, 0, none⟩) 1 1] (((w.alloc (.cells #[.int .i64 25, .int .i64 A, .int .i64 B, .int .i64 C, .int .i64 N, .string S, .slice la ln lc, .bool T] 24)).alloc (.cells #[.int .i64 A] 3)).alloc (.cells #[.int .i64 A] 3)) (fun e w' => e = .returned (.bool true) ∧ (((w.alloc (.cells #[.int .i64 25, .int .i64 A, .int .i64 B, .int .i64 C, .int .i64 N, .string S, .slice la ln lc, .bool T] 24)).alloc (.cells #[.int .i64 A] 3)).alloc (.cells #[.int .i64 A] 3)) = w')) := Lib.hid (by rw [← H1.out]; exact are_any ta tn tc ts 2 _ 1 _ [A] _ (HT.out _ (below3 _ _ _ _ _ _ _)) (nums_laid 1 [A] _ rfl rfl (by simp)) HA_A.out (by decide) htn)
      have HR : RowKit.Hid ((rowS P 25 N S ([A].map (tyAt ts))).2 = true) := Lib.hid (by rw [hr, h0, h1]; rfl)
      clear hr h0 h1
      go_enter Tryd.func32, Tryd.ntmps32
      go_wp2_with (first | (go_at_call 38; (with_reducible refine (C0.out).mono ?_); rintro e w' ⟨rfl, rfl⟩) | (go_at_call 38; (with_reducible refine (C1.out).mono ?_); rintro e w' ⟨rfl, rfl⟩))
      refine bodyPost_ret (v := .tuple #[.int .i64 (-1), .bool true]) (by simp [results, Tryd.results32, go_sem]) rfl ⟨-1, by rw [HR.out], fun _ => HR1.out.symm, below3 _ _ _ _ _ _ _⟩
end Go.Proofs.YtgkcbaakdphigaaDoor
