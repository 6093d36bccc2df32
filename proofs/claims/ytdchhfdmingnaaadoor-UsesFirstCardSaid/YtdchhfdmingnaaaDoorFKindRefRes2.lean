/- Layer 4, P4.3: the document's result, walked at the kinds that ask for more than types. (Its text: by wip/gen/refres2.py.) -/
import Derived.Test.YtdchhfdmingnaaaDoorFT1
import Derived.BigQuiet
namespace Go.Proofs.YtdchhfdmingnaaaDoor
open Go.RowKit (wrap64 intOf Below)
set_option linter.unusedVariables false
set_option maxRecDepth 100000 in
theorem rres_0 (pv : Value) (P : ProgD) (A B C N : Int) (S : ByteArray) (la : Option Addr) (ln lc : Nat) (T : Bool) (va : Option Addr) (vc : Nat) (w : World) (hv : NumsAt w va 0 []) :
    Calls Tryd.prog 68 #[pv, .agg #[.int .i64 0, .int .i64 A, .int .i64 B, .int .i64 C, .int .i64 N, .string S, .slice la ln lc, .bool T], .slice va 0 vc] w (RowPost (rowS P 0 N S []) w) := by
  have HB : RowKit.Hid (∀ q, Below w.heap.size w (((w.alloc (.cells #[.int .i64 0, .int .i64 A, .int .i64 B, .int .i64 C, .int .i64 N, .string S, .slice la ln lc, .bool T] 52)).alloc (.cells #[] 3)).drewN q)) := Lib.hid (fun q => (below2 _ _ _ _ _).drewq q)
  have hci : ∀ q, Calls Tryd.prog 16 #[.slice va 0 vc, .slice (some ⟨w.heap.size + 1, 0, none⟩) 0 0] (((w.alloc (.cells #[.int .i64 0, .int .i64 A, .int .i64 B, .int .i64 C, .int .i64 N, .string S, .slice la ln lc, .bool T] 52)).alloc (.cells #[] 3)).drewN q) (BoolPost (sameB [] []) (((w.alloc (.cells #[.int .i64 0, .int .i64 A, .int .i64 B, .int .i64 C, .int .i64 N, .string S, .slice la ln lc, .bool T] 52)).alloc (.cells #[] 3)).drewN q)) := fun q => ints_any va _ 0 0 vc 0 [] [] _ (hv.since (HB.out q)) ((nums_laid 0 [] _ rfl rfl (by simp)).drewN q) (by omega) (by decide)
  have HR1 : RowKit.Hid ((rowS P 0 N S []).1 = 0) := Lib.hid rfl
  rw [show sameB ([] : List Int) [] = true from rfl] at hci
  have CI := Lib.hid hci
  clear hv hci
  have HR : RowKit.Hid ((rowS P 0 N S []).2 = true) := Lib.hid rfl
  go_enter Tryd.func68, Tryd.ntmps68
  go_wp2_with (go_at_call 77; (with_reducible refine (wants_0 _).mono ?_); rintro e w' ⟨rfl, rfl⟩)
  go_quiet ((go_at_call 16; exact Calls.quiet_of (CI.out _)))
  go_wp2_with fail
  refine bodyPost_ret (v := .tuple #[.int .i64 0, .bool true]) (by simp [results, Tryd.results68, go_sem]) rfl ⟨0, by rw [HR.out], fun _ => HR1.out.symm, HB.out _⟩
set_option maxRecDepth 100000 in
theorem rres_17 (pv : Value) (P : ProgD) (A B C N : Int) (S : ByteArray) (la : Option Addr) (ln lc : Nat) (T : Bool) (va : Option Addr) (vc : Nat) (w : World) (hv : NumsAt w va 0 []) :
    Calls Tryd.prog 68 #[pv, .agg #[.int .i64 17, .int .i64 A, .int .i64 B, .int .i64 C, .int .i64 N, .string S, .slice la ln lc, .bool T], .slice va 0 vc] w (RowPost (rowS P 17 N S []) w) := by
  have HB : RowKit.Hid (∀ q, Below w.heap.size w (((w.alloc (.cells #[.int .i64 17, .int .i64 A, .int .i64 B, .int .i64 C, .int .i64 N, .string S, .slice la ln lc, .bool T] 52)).alloc (.cells #[] 3)).drewN q)) := Lib.hid (fun q => (below2 _ _ _ _ _).drewq q)
  have hci : ∀ q, Calls Tryd.prog 16 #[.slice va 0 vc, .slice (some ⟨w.heap.size + 1, 0, none⟩) 0 0] (((w.alloc (.cells #[.int .i64 17, .int .i64 A, .int .i64 B, .int .i64 C, .int .i64 N, .string S, .slice la ln lc, .bool T] 52)).alloc (.cells #[] 3)).drewN q) (BoolPost (sameB [] []) (((w.alloc (.cells #[.int .i64 17, .int .i64 A, .int .i64 B, .int .i64 C, .int .i64 N, .string S, .slice la ln lc, .bool T] 52)).alloc (.cells #[] 3)).drewN q)) := fun q => ints_any va _ 0 0 vc 0 [] [] _ (hv.since (HB.out q)) ((nums_laid 0 [] _ rfl rfl (by simp)).drewN q) (by omega) (by decide)
  have HR1 : RowKit.Hid ((rowS P 17 N S []).1 = 4) := Lib.hid rfl
  rw [show sameB ([] : List Int) [] = true from rfl] at hci
  have CI := Lib.hid hci
  clear hv hci
  have HR : RowKit.Hid ((rowS P 17 N S []).2 = true) := Lib.hid rfl
  go_enter Tryd.func68, Tryd.ntmps68
  go_wp2_with (go_at_call 77; (with_reducible refine (wants_17 _).mono ?_); rintro e w' ⟨rfl, rfl⟩)
  go_quiet ((go_at_call 16; exact Calls.quiet_of (CI.out _)))
  go_wp2_with fail
  refine bodyPost_ret (v := .tuple #[.int .i64 4, .bool true]) (by simp [results, Tryd.results68, go_sem]) rfl ⟨4, by rw [HR.out], fun _ => HR1.out.symm, HB.out _⟩
set_option maxRecDepth 100000 in
theorem rres_2 (pv : Value) (P : ProgD) (A B C N : Int) (S : ByteArray) (la : Option Addr) (ln lc : Nat) (T : Bool) (va : Option Addr) (vc : Nat) (w : World) (hv : NumsAt w va 0 []) :
    Calls Tryd.prog 68 #[pv, .agg #[.int .i64 2, .int .i64 A, .int .i64 B, .int .i64 C, .int .i64 N, .string S, .slice la ln lc, .bool T], .slice va 0 vc] w (RowPost (rowS P 2 N S []) w) := by
  have HB : RowKit.Hid (∀ q, Below w.heap.size w (((w.alloc (.cells #[.int .i64 2, .int .i64 A, .int .i64 B, .int .i64 C, .int .i64 N, .string S, .slice la ln lc, .bool T] 52)).alloc (.cells #[] 3)).drewN q)) := Lib.hid (fun q => (below2 _ _ _ _ _).drewq q)
  have hci : ∀ q, Calls Tryd.prog 16 #[.slice va 0 vc, .slice (some ⟨w.heap.size + 1, 0, none⟩) 0 0] (((w.alloc (.cells #[.int .i64 2, .int .i64 A, .int .i64 B, .int .i64 C, .int .i64 N, .string S, .slice la ln lc, .bool T] 52)).alloc (.cells #[] 3)).drewN q) (BoolPost (sameB [] []) (((w.alloc (.cells #[.int .i64 2, .int .i64 A, .int .i64 B, .int .i64 C, .int .i64 N, .string S, .slice la ln lc, .bool T] 52)).alloc (.cells #[] 3)).drewN q)) := fun q => ints_any va _ 0 0 vc 0 [] [] _ (hv.since (HB.out q)) ((nums_laid 0 [] _ rfl rfl (by simp)).drewN q) (by omega) (by decide)
  have HR1 : RowKit.Hid ((rowS P 2 N S []).1 = 2) := Lib.hid rfl
  rw [show sameB ([] : List Int) [] = true from rfl] at hci
  have CI := Lib.hid hci
  clear hv hci
  by_cases h : S.size ≤ 64
  · have h' : ((S.size : Int) ≤ 64) := by omega
    have HR : RowKit.Hid ((rowS P 2 N S []).2 = true) := Lib.hid (decide_eq_true h)
    clear h
    go_enter Tryd.func68, Tryd.ntmps68
    go_wp2_with (go_at_call 77; (with_reducible refine (wants_2 _).mono ?_); rintro e w' ⟨rfl, rfl⟩)
    go_quiet ((go_at_call 16; exact Calls.quiet_of (CI.out _)))
    go_wp2_with fail
    refine bodyPost_ret (v := .tuple #[.int .i64 2, .bool true]) (by simp [results, Tryd.results68, go_sem]) rfl ⟨2, by rw [HR.out], fun _ => HR1.out.symm, HB.out _⟩
  · have h' : 64 < (S.size : Int) := by omega
    have hd : decide ((S.size : Int) ≤ 64) = false := decide_eq_false (by omega)
    have HR : RowKit.Hid ((rowS P 2 N S []).2 = false) := Lib.hid (decide_eq_false h)
    clear h
    go_enter Tryd.func68, Tryd.ntmps68
    go_wp2_with (go_at_call 77; (with_reducible refine (wants_2 _).mono ?_); rintro e w' ⟨rfl, rfl⟩)
    go_quiet ((go_at_call 16; exact Calls.quiet_of (CI.out _)))
    go_wp2_with fail
    refine bodyPost_ret (v := .tuple #[.int .i64 2, .bool false]) (by simp [results, Tryd.results68, go_sem]) rfl ⟨2, by rw [HR.out], fun _ => HR1.out.symm, HB.out _⟩
set_option maxRecDepth 100000 in
theorem rres_1 (pv : Value) (P : ProgD) (A B C N : Int) (S : ByteArray) (la : Option Addr) (ln lc : Nat) (T : Bool) (va : Option Addr) (vc : Nat) (w : World) (hv : NumsAt w va 0 []) :
    Calls Tryd.prog 68 #[pv, .agg #[.int .i64 1, .int .i64 A, .int .i64 B, .int .i64 C, .int .i64 N, .string S, .slice la ln lc, .bool T], .slice va 0 vc] w (RowPost (rowS P 1 N S []) w) := by
  have HB : RowKit.Hid (∀ q, Below w.heap.size w (((w.alloc (.cells #[.int .i64 1, .int .i64 A, .int .i64 B, .int .i64 C, .int .i64 N, .string S, .slice la ln lc, .bool T] 52)).alloc (.cells #[] 3)).drewN q)) := Lib.hid (fun q => (below2 _ _ _ _ _).drewq q)
  have hci : ∀ q, Calls Tryd.prog 16 #[.slice va 0 vc, .slice (some ⟨w.heap.size + 1, 0, none⟩) 0 0] (((w.alloc (.cells #[.int .i64 1, .int .i64 A, .int .i64 B, .int .i64 C, .int .i64 N, .string S, .slice la ln lc, .bool T] 52)).alloc (.cells #[] 3)).drewN q) (BoolPost (sameB [] []) (((w.alloc (.cells #[.int .i64 1, .int .i64 A, .int .i64 B, .int .i64 C, .int .i64 N, .string S, .slice la ln lc, .bool T] 52)).alloc (.cells #[] 3)).drewN q)) := fun q => ints_any va _ 0 0 vc 0 [] [] _ (hv.since (HB.out q)) ((nums_laid 0 [] _ rfl rfl (by simp)).drewN q) (by omega) (by decide)
  have HR1 : RowKit.Hid ((rowS P 1 N S []).1 = 1) := Lib.hid rfl
  rw [show sameB ([] : List Int) [] = true from rfl] at hci
  have CI := Lib.hid hci
  clear hv hci
  by_cases h0 : N = 0
  · have e0 : (N == 0) = true := by simpa using h0
    have HR : RowKit.Hid ((rowS P 1 N S []).2 = true) := Lib.hid (by show (N == 0 || N == 1) = true; rw [e0]; rfl)
    clear h0
    go_enter Tryd.func68, Tryd.ntmps68
    go_wp2_with (go_at_call 77; (with_reducible refine (wants_1 _).mono ?_); rintro e w' ⟨rfl, rfl⟩)
    go_quiet ((go_at_call 16; exact Calls.quiet_of (CI.out _)))
    go_wp2_with fail
    refine bodyPost_ret (v := .tuple #[.int .i64 1, .bool true]) (by simp [results, Tryd.results68, go_sem]) rfl ⟨1, by rw [HR.out], fun _ => HR1.out.symm, HB.out _⟩
  · have e0 : (N == 0) = false := by rw [beq_eq_false_iff_ne]; exact h0
    by_cases h1 : N = 1
    · have e1 : (N == 1) = true := by simpa using h1
      have HR : RowKit.Hid ((rowS P 1 N S []).2 = true) := Lib.hid (by show (N == 0 || N == 1) = true; rw [e0, e1]; rfl)
      clear h0 h1
      go_enter Tryd.func68, Tryd.ntmps68
      go_wp2_with (go_at_call 77; (with_reducible refine (wants_1 _).mono ?_); rintro e w' ⟨rfl, rfl⟩)
      go_quiet ((go_at_call 16; exact Calls.quiet_of (CI.out _)))
      go_wp2_with fail
      refine bodyPost_ret (v := .tuple #[.int .i64 1, .bool true]) (by simp [results, Tryd.results68, go_sem]) rfl ⟨1, by rw [HR.out], fun _ => HR1.out.symm, HB.out _⟩
    · have e1 : (N == 1) = false := by rw [beq_eq_false_iff_ne]; exact h1
      have HR : RowKit.Hid ((rowS P 1 N S []).2 = false) := Lib.hid (by show (N == 0 || N == 1) = false; rw [e0, e1]; rfl)
      clear h0 h1
      go_enter Tryd.func68, Tryd.ntmps68
      go_wp2_with (go_at_call 77; (with_reducible refine (wants_1 _).mono ?_); rintro e w' ⟨rfl, rfl⟩)
      go_quiet ((go_at_call 16; exact Calls.quiet_of (CI.out _)))
      go_wp2_with fail
      refine bodyPost_ret (v := .tuple #[.int .i64 1, .bool false]) (by simp [results, Tryd.results68, go_sem]) rfl ⟨1, by rw [HR.out], fun _ => HR1.out.symm, HB.out _⟩
set_option maxRecDepth 100000 in
theorem rres_12 (pv : Value) (P : ProgD) (A B C N : Int) (S : ByteArray) (la : Option Addr) (ln lc : Nat) (T : Bool) (va : Option Addr) (vc : Nat) (w : World) (hv : NumsAt w va 0 []) :
    Calls Tryd.prog 68 #[pv, .agg #[.int .i64 12, .int .i64 A, .int .i64 B, .int .i64 C, .int .i64 N, .string S, .slice la ln lc, .bool T], .slice va 0 vc] w (RowPost (rowS P 12 N S []) w) := by
  have HB : RowKit.Hid (∀ q, Below w.heap.size w (((w.alloc (.cells #[.int .i64 12, .int .i64 A, .int .i64 B, .int .i64 C, .int .i64 N, .string S, .slice la ln lc, .bool T] 52)).alloc (.cells #[] 3)).drewN q)) := Lib.hid (fun q => (below2 _ _ _ _ _).drewq q)
  have hci : ∀ q, Calls Tryd.prog 16 #[.slice va 0 vc, .slice (some ⟨w.heap.size + 1, 0, none⟩) 0 0] (((w.alloc (.cells #[.int .i64 12, .int .i64 A, .int .i64 B, .int .i64 C, .int .i64 N, .string S, .slice la ln lc, .bool T] 52)).alloc (.cells #[] 3)).drewN q) (BoolPost (sameB [] []) (((w.alloc (.cells #[.int .i64 12, .int .i64 A, .int .i64 B, .int .i64 C, .int .i64 N, .string S, .slice la ln lc, .bool T] 52)).alloc (.cells #[] 3)).drewN q)) := fun q => ints_any va _ 0 0 vc 0 [] [] _ (hv.since (HB.out q)) ((nums_laid 0 [] _ rfl rfl (by simp)).drewN q) (by omega) (by decide)
  have HR1 : RowKit.Hid ((rowS P 12 N S []).1 = 3) := Lib.hid rfl
  rw [show sameB ([] : List Int) [] = true from rfl] at hci
  have CI := Lib.hid hci
  clear hv hci
  by_cases h0 : 0 ≤ N
  · by_cases h1 : N ≤ 128
    · have HR : RowKit.Hid ((rowS P 12 N S []).2 = true) := Lib.hid (decide_eq_true ⟨h0, h1⟩)
      go_enter Tryd.func68, Tryd.ntmps68
      go_wp2_with (go_at_call 77; (with_reducible refine (wants_12 _).mono ?_); rintro e w' ⟨rfl, rfl⟩)
      go_quiet ((go_at_call 16; exact Calls.quiet_of (CI.out _)))
      go_wp2_with fail
      refine bodyPost_ret (v := .tuple #[.int .i64 3, .bool true]) (by simp [results, Tryd.results68, go_sem]) rfl ⟨3, by rw [HR.out], fun _ => HR1.out.symm, HB.out _⟩
    · have HR : RowKit.Hid ((rowS P 12 N S []).2 = false) := Lib.hid (decide_eq_false (fun h => h1 h.2))
      have hd : decide (N ≤ 128) = false := decide_eq_false h1
      clear h1
      go_enter Tryd.func68, Tryd.ntmps68
      go_wp2_with (go_at_call 77; (with_reducible refine (wants_12 _).mono ?_); rintro e w' ⟨rfl, rfl⟩)
      go_quiet ((go_at_call 16; exact Calls.quiet_of (CI.out _)))
      go_wp2_with fail
      refine bodyPost_ret (v := .tuple #[.int .i64 3, .bool false]) (by simp [results, Tryd.results68, go_sem]) rfl ⟨3, by rw [HR.out], fun _ => HR1.out.symm, HB.out _⟩
  · have HR : RowKit.Hid ((rowS P 12 N S []).2 = false) := Lib.hid (decide_eq_false (fun h => h0 h.1))
    have hd : decide (0 ≤ N) = false := decide_eq_false h0
    clear h0
    go_enter Tryd.func68, Tryd.ntmps68
    go_wp2_with (go_at_call 77; (with_reducible refine (wants_12 _).mono ?_); rintro e w' ⟨rfl, rfl⟩)
    go_quiet ((go_at_call 16; exact Calls.quiet_of (CI.out _)))
    go_wp2_with fail
    refine bodyPost_ret (v := .tuple #[.int .i64 3, .bool false]) (by simp [results, Tryd.results68, go_sem]) rfl ⟨3, by rw [HR.out], fun _ => HR1.out.symm, HB.out _⟩
end Go.Proofs.YtdchhfdmingnaaaDoor
