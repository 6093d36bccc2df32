/- Layer 4, P4.3: the document's wants and result, walked at the kinds that ask for types alone. (Its text: by wip/gen/refres.py.) -/
import Derived.Test.YtdchhfdmingnaaaDoorFT1
import Derived.BigQuiet
namespace Go.Proofs.YtdchhfdmingnaaaDoor
open Go.RowKit (wrap64 intOf Below)
set_option linter.unusedVariables false
set_option maxRecDepth 100000 in
theorem rres_4 (pv : Value) (P : ProgD) (A B C N : Int) (S : ByteArray) (la : Option Addr) (ln lc : Nat) (T : Bool) (va : Option Addr) (vn vc : Nat) (l : List Int) (w : World) (hv : NumsAt w va vn l) (hvn : vn ≤ 140737488355328) :
    Calls Tryd.prog 68 #[pv, .agg #[.int .i64 4, .int .i64 A, .int .i64 B, .int .i64 C, .int .i64 N, .string S, .slice la ln lc, .bool T], .slice va vn vc] w (RowPost (rowS P 4 N S l) w) := by
  have HB : RowKit.Hid (∀ q, Below w.heap.size w (((w.alloc (.cells #[.int .i64 4, .int .i64 A, .int .i64 B, .int .i64 C, .int .i64 N, .string S, .slice la ln lc, .bool T] 52)).alloc (.cells #[.int .i64 1] 3)).drewN q)) := Lib.hid (fun q => (below2 _ _ _ _ _).drewq q)
  have hci : ∀ q, Calls Tryd.prog 16 #[.slice va vn vc, .slice (some ⟨w.heap.size + 1, 0, none⟩) 1 1] (((w.alloc (.cells #[.int .i64 4, .int .i64 A, .int .i64 B, .int .i64 C, .int .i64 N, .string S, .slice la ln lc, .bool T] 52)).alloc (.cells #[.int .i64 1] 3)).drewN q) (BoolPost (sameB l [1]) (((w.alloc (.cells #[.int .i64 4, .int .i64 A, .int .i64 B, .int .i64 C, .int .i64 N, .string S, .slice la ln lc, .bool T] 52)).alloc (.cells #[.int .i64 1] 3)).drewN q)) := fun q => ints_any va _ vn 1 vc 1 l [1] _ (hv.since (HB.out q)) ((nums_laid 1 [1] _ rfl rfl (by simp)).drewN q) (by omega) (by decide)
  have HR1 : RowKit.Hid ((rowS P 4 N S l).1 = 1) := Lib.hid rfl
  have hr : (rowS P 4 N S l).2 = sameB l [1] := rfl
  clear hv
  cases hb : sameB l [1] with
  | false =>
    have HR : RowKit.Hid ((rowS P 4 N S l).2 = false) := Lib.hid (by rw [hr, hb])
    rw [hb] at hci
    have CI := Lib.hid hci
    clear hr hb hci
    go_enter Tryd.func68, Tryd.ntmps68
    go_wp2_with (go_at_call 77; (with_reducible refine (wants_4 _).mono ?_); rintro e w' ⟨rfl, rfl⟩)
    go_quiet ((go_at_call 16; exact Calls.quiet_of (CI.out _)))
    go_wp2_with fail
    refine bodyPost_ret (v := .tuple #[.int .i64 1, .bool false]) (by simp [results, Tryd.results68, go_sem]) rfl ⟨1, by rw [HR.out], fun _ => HR1.out.symm, HB.out _⟩
  | true =>
    have HR : RowKit.Hid ((rowS P 4 N S l).2 = true) := Lib.hid (by rw [hr, hb])
    rw [hb] at hci
    have CI := Lib.hid hci
    clear hr hb hci
    go_enter Tryd.func68, Tryd.ntmps68
    go_wp2_with (go_at_call 77; (with_reducible refine (wants_4 _).mono ?_); rintro e w' ⟨rfl, rfl⟩)
    go_quiet ((go_at_call 16; exact Calls.quiet_of (CI.out _)))
    go_wp2_with fail
    refine bodyPost_ret (v := .tuple #[.int .i64 1, .bool true]) (by simp [results, Tryd.results68, go_sem]) rfl ⟨1, by rw [HR.out], fun _ => HR1.out.symm, HB.out _⟩
set_option maxRecDepth 100000 in
theorem rres_5 (pv : Value) (P : ProgD) (A B C N : Int) (S : ByteArray) (la : Option Addr) (ln lc : Nat) (T : Bool) (va : Option Addr) (vn vc : Nat) (l : List Int) (w : World) (hv : NumsAt w va vn l) (hvn : vn ≤ 140737488355328) :
    Calls Tryd.prog 68 #[pv, .agg #[.int .i64 5, .int .i64 A, .int .i64 B, .int .i64 C, .int .i64 N, .string S, .slice la ln lc, .bool T], .slice va vn vc] w (RowPost (rowS P 5 N S l) w) := by
  have HB : RowKit.Hid (∀ q, Below w.heap.size w (((w.alloc (.cells #[.int .i64 5, .int .i64 A, .int .i64 B, .int .i64 C, .int .i64 N, .string S, .slice la ln lc, .bool T] 52)).alloc (.cells #[.int .i64 2, .int .i64 2] 3)).drewN q)) := Lib.hid (fun q => (below2 _ _ _ _ _).drewq q)
  have hci : ∀ q, Calls Tryd.prog 16 #[.slice va vn vc, .slice (some ⟨w.heap.size + 1, 0, none⟩) 2 2] (((w.alloc (.cells #[.int .i64 5, .int .i64 A, .int .i64 B, .int .i64 C, .int .i64 N, .string S, .slice la ln lc, .bool T] 52)).alloc (.cells #[.int .i64 2, .int .i64 2] 3)).drewN q) (BoolPost (sameB l [2, 2]) (((w.alloc (.cells #[.int .i64 5, .int .i64 A, .int .i64 B, .int .i64 C, .int .i64 N, .string S, .slice la ln lc, .bool T] 52)).alloc (.cells #[.int .i64 2, .int .i64 2] 3)).drewN q)) := fun q => ints_any va _ vn 2 vc 2 l [2, 2] _ (hv.since (HB.out q)) ((nums_laid 2 [2, 2] _ rfl rfl (by simp)).drewN q) (by omega) (by decide)
  have HR1 : RowKit.Hid ((rowS P 5 N S l).1 = 2) := Lib.hid rfl
  have hr : (rowS P 5 N S l).2 = sameB l [2, 2] := rfl
  clear hv
  cases hb : sameB l [2, 2] with
  | false =>
    have HR : RowKit.Hid ((rowS P 5 N S l).2 = false) := Lib.hid (by rw [hr, hb])
    rw [hb] at hci
    have CI := Lib.hid hci
    clear hr hb hci
    go_enter Tryd.func68, Tryd.ntmps68
    go_wp2_with (go_at_call 77; (with_reducible refine (wants_5 _).mono ?_); rintro e w' ⟨rfl, rfl⟩)
    go_quiet ((go_at_call 16; exact Calls.quiet_of (CI.out _)))
    go_wp2_with fail
    refine bodyPost_ret (v := .tuple #[.int .i64 2, .bool false]) (by simp [results, Tryd.results68, go_sem]) rfl ⟨2, by rw [HR.out], fun _ => HR1.out.symm, HB.out _⟩
  | true =>
    have HR : RowKit.Hid ((rowS P 5 N S l).2 = true) := Lib.hid (by rw [hr, hb])
    rw [hb] at hci
    have CI := Lib.hid hci
    clear hr hb hci
    go_enter Tryd.func68, Tryd.ntmps68
    go_wp2_with (go_at_call 77; (with_reducible refine (wants_5 _).mono ?_); rintro e w' ⟨rfl, rfl⟩)
    go_quiet ((go_at_call 16; exact Calls.quiet_of (CI.out _)))
    go_wp2_with fail
    refine bodyPost_ret (v := .tuple #[.int .i64 2, .bool true]) (by simp [results, Tryd.results68, go_sem]) rfl ⟨2, by rw [HR.out], fun _ => HR1.out.symm, HB.out _⟩
set_option maxRecDepth 100000 in
theorem rres_8 (pv : Value) (P : ProgD) (A B C N : Int) (S : ByteArray) (la : Option Addr) (ln lc : Nat) (T : Bool) (va : Option Addr) (vn vc : Nat) (l : List Int) (w : World) (hv : NumsAt w va vn l) (hvn : vn ≤ 140737488355328) :
    Calls Tryd.prog 68 #[pv, .agg #[.int .i64 8, .int .i64 A, .int .i64 B, .int .i64 C, .int .i64 N, .string S, .slice la ln lc, .bool T], .slice va vn vc] w (RowPost (rowS P 8 N S l) w) := by
  have HB : RowKit.Hid (∀ q, Below w.heap.size w (((w.alloc (.cells #[.int .i64 8, .int .i64 A, .int .i64 B, .int .i64 C, .int .i64 N, .string S, .slice la ln lc, .bool T] 52)).alloc (.cells #[.int .i64 2, .int .i64 2] 3)).drewN q)) := Lib.hid (fun q => (below2 _ _ _ _ _).drewq q)
  have hci : ∀ q, Calls Tryd.prog 16 #[.slice va vn vc, .slice (some ⟨w.heap.size + 1, 0, none⟩) 2 2] (((w.alloc (.cells #[.int .i64 8, .int .i64 A, .int .i64 B, .int .i64 C, .int .i64 N, .string S, .slice la ln lc, .bool T] 52)).alloc (.cells #[.int .i64 2, .int .i64 2] 3)).drewN q) (BoolPost (sameB l [2, 2]) (((w.alloc (.cells #[.int .i64 8, .int .i64 A, .int .i64 B, .int .i64 C, .int .i64 N, .string S, .slice la ln lc, .bool T] 52)).alloc (.cells #[.int .i64 2, .int .i64 2] 3)).drewN q)) := fun q => ints_any va _ vn 2 vc 2 l [2, 2] _ (hv.since (HB.out q)) ((nums_laid 2 [2, 2] _ rfl rfl (by simp)).drewN q) (by omega) (by decide)
  have HR1 : RowKit.Hid ((rowS P 8 N S l).1 = 1) := Lib.hid rfl
  have hr : (rowS P 8 N S l).2 = sameB l [2, 2] := rfl
  clear hv
  cases hb : sameB l [2, 2] with
  | false =>
    have HR : RowKit.Hid ((rowS P 8 N S l).2 = false) := Lib.hid (by rw [hr, hb])
    rw [hb] at hci
    have CI := Lib.hid hci
    clear hr hb hci
    go_enter Tryd.func68, Tryd.ntmps68
    go_wp2_with (go_at_call 77; (with_reducible refine (wants_8 _).mono ?_); rintro e w' ⟨rfl, rfl⟩)
    go_quiet ((go_at_call 16; exact Calls.quiet_of (CI.out _)))
    go_wp2_with fail
    refine bodyPost_ret (v := .tuple #[.int .i64 1, .bool false]) (by simp [results, Tryd.results68, go_sem]) rfl ⟨1, by rw [HR.out], fun _ => HR1.out.symm, HB.out _⟩
  | true =>
    have HR : RowKit.Hid ((rowS P 8 N S l).2 = true) := Lib.hid (by rw [hr, hb])
    rw [hb] at hci
    have CI := Lib.hid hci
    clear hr hb hci
    go_enter Tryd.func68, Tryd.ntmps68
    go_wp2_with (go_at_call 77; (with_reducible refine (wants_8 _).mono ?_); rintro e w' ⟨rfl, rfl⟩)
    go_quiet ((go_at_call 16; exact Calls.quiet_of (CI.out _)))
    go_wp2_with fail
    refine bodyPost_ret (v := .tuple #[.int .i64 1, .bool true]) (by simp [results, Tryd.results68, go_sem]) rfl ⟨1, by rw [HR.out], fun _ => HR1.out.symm, HB.out _⟩
set_option maxRecDepth 100000 in
theorem rres_6 (pv : Value) (P : ProgD) (A B C N : Int) (S : ByteArray) (la : Option Addr) (ln lc : Nat) (T : Bool) (va : Option Addr) (vn vc : Nat) (l : List Int) (w : World) (hv : NumsAt w va vn l) (hvn : vn ≤ 140737488355328) :
    Calls Tryd.prog 68 #[pv, .agg #[.int .i64 6, .int .i64 A, .int .i64 B, .int .i64 C, .int .i64 N, .string S, .slice la ln lc, .bool T], .slice va vn vc] w (RowPost (rowS P 6 N S l) w) := by
  have HB : RowKit.Hid (∀ q, Below w.heap.size w (((w.alloc (.cells #[.int .i64 6, .int .i64 A, .int .i64 B, .int .i64 C, .int .i64 N, .string S, .slice la ln lc, .bool T] 52)).alloc (.cells #[.int .i64 2] 3)).drewN q)) := Lib.hid (fun q => (below2 _ _ _ _ _).drewq q)
  have hci : ∀ q, Calls Tryd.prog 16 #[.slice va vn vc, .slice (some ⟨w.heap.size + 1, 0, none⟩) 1 1] (((w.alloc (.cells #[.int .i64 6, .int .i64 A, .int .i64 B, .int .i64 C, .int .i64 N, .string S, .slice la ln lc, .bool T] 52)).alloc (.cells #[.int .i64 2] 3)).drewN q) (BoolPost (sameB l [2]) (((w.alloc (.cells #[.int .i64 6, .int .i64 A, .int .i64 B, .int .i64 C, .int .i64 N, .string S, .slice la ln lc, .bool T] 52)).alloc (.cells #[.int .i64 2] 3)).drewN q)) := fun q => ints_any va _ vn 1 vc 1 l [2] _ (hv.since (HB.out q)) ((nums_laid 1 [2] _ rfl rfl (by simp)).drewN q) (by omega) (by decide)
  have HR1 : RowKit.Hid ((rowS P 6 N S l).1 = 0) := Lib.hid rfl
  have hr : (rowS P 6 N S l).2 = sameB l [2] := rfl
  clear hv
  cases hb : sameB l [2] with
  | false =>
    have HR : RowKit.Hid ((rowS P 6 N S l).2 = false) := Lib.hid (by rw [hr, hb])
    rw [hb] at hci
    have CI := Lib.hid hci
    clear hr hb hci
    go_enter Tryd.func68, Tryd.ntmps68
    go_wp2_with (go_at_call 77; (with_reducible refine (wants_6 _).mono ?_); rintro e w' ⟨rfl, rfl⟩)
    go_quiet ((go_at_call 16; exact Calls.quiet_of (CI.out _)))
    go_wp2_with fail
    refine bodyPost_ret (v := .tuple #[.int .i64 0, .bool false]) (by simp [results, Tryd.results68, go_sem]) rfl ⟨0, by rw [HR.out], fun _ => HR1.out.symm, HB.out _⟩
  | true =>
    have HR : RowKit.Hid ((rowS P 6 N S l).2 = true) := Lib.hid (by rw [hr, hb])
    rw [hb] at hci
    have CI := Lib.hid hci
    clear hr hb hci
    go_enter Tryd.func68, Tryd.ntmps68
    go_wp2_with (go_at_call 77; (with_reducible refine (wants_6 _).mono ?_); rintro e w' ⟨rfl, rfl⟩)
    go_quiet ((go_at_call 16; exact Calls.quiet_of (CI.out _)))
    go_wp2_with fail
    refine bodyPost_ret (v := .tuple #[.int .i64 0, .bool true]) (by simp [results, Tryd.results68, go_sem]) rfl ⟨0, by rw [HR.out], fun _ => HR1.out.symm, HB.out _⟩
set_option maxRecDepth 100000 in
theorem rres_7 (pv : Value) (P : ProgD) (A B C N : Int) (S : ByteArray) (la : Option Addr) (ln lc : Nat) (T : Bool) (va : Option Addr) (vn vc : Nat) (l : List Int) (w : World) (hv : NumsAt w va vn l) (hvn : vn ≤ 140737488355328) :
    Calls Tryd.prog 68 #[pv, .agg #[.int .i64 7, .int .i64 A, .int .i64 B, .int .i64 C, .int .i64 N, .string S, .slice la ln lc, .bool T], .slice va vn vc] w (RowPost (rowS P 7 N S l) w) := by
  have HB : RowKit.Hid (∀ q, Below w.heap.size w (((w.alloc (.cells #[.int .i64 7, .int .i64 A, .int .i64 B, .int .i64 C, .int .i64 N, .string S, .slice la ln lc, .bool T] 52)).alloc (.cells #[.int .i64 2, .int .i64 0] 3)).drewN q)) := Lib.hid (fun q => (below2 _ _ _ _ _).drewq q)
  have hci : ∀ q, Calls Tryd.prog 16 #[.slice va vn vc, .slice (some ⟨w.heap.size + 1, 0, none⟩) 2 2] (((w.alloc (.cells #[.int .i64 7, .int .i64 A, .int .i64 B, .int .i64 C, .int .i64 N, .string S, .slice la ln lc, .bool T] 52)).alloc (.cells #[.int .i64 2, .int .i64 0] 3)).drewN q) (BoolPost (sameB l [2, 0]) (((w.alloc (.cells #[.int .i64 7, .int .i64 A, .int .i64 B, .int .i64 C, .int .i64 N, .string S, .slice la ln lc, .bool T] 52)).alloc (.cells #[.int .i64 2, .int .i64 0] 3)).drewN q)) := fun q => ints_any va _ vn 2 vc 2 l [2, 0] _ (hv.since (HB.out q)) ((nums_laid 2 [2, 0] _ rfl rfl (by simp)).drewN q) (by omega) (by decide)
  have HR1 : RowKit.Hid ((rowS P 7 N S l).1 = 0) := Lib.hid rfl
  have hr : (rowS P 7 N S l).2 = sameB l [2, 0] := rfl
  clear hv
  cases hb : sameB l [2, 0] with
  | false =>
    have HR : RowKit.Hid ((rowS P 7 N S l).2 = false) := Lib.hid (by rw [hr, hb])
    rw [hb] at hci
    have CI := Lib.hid hci
    clear hr hb hci
    go_enter Tryd.func68, Tryd.ntmps68
    go_wp2_with (go_at_call 77; (with_reducible refine (wants_7 _).mono ?_); rintro e w' ⟨rfl, rfl⟩)
    go_quiet ((go_at_call 16; exact Calls.quiet_of (CI.out _)))
    go_wp2_with fail
    refine bodyPost_ret (v := .tuple #[.int .i64 0, .bool false]) (by simp [results, Tryd.results68, go_sem]) rfl ⟨0, by rw [HR.out], fun _ => HR1.out.symm, HB.out _⟩
  | true =>
    have HR : RowKit.Hid ((rowS P 7 N S l).2 = true) := Lib.hid (by rw [hr, hb])
    rw [hb] at hci
    have CI := Lib.hid hci
    clear hr hb hci
    go_enter Tryd.func68, Tryd.ntmps68
    go_wp2_with (go_at_call 77; (with_reducible refine (wants_7 _).mono ?_); rintro e w' ⟨rfl, rfl⟩)
    go_quiet ((go_at_call 16; exact Calls.quiet_of (CI.out _)))
    go_wp2_with fail
    refine bodyPost_ret (v := .tuple #[.int .i64 0, .bool true]) (by simp [results, Tryd.results68, go_sem]) rfl ⟨0, by rw [HR.out], fun _ => HR1.out.symm, HB.out _⟩
set_option maxRecDepth 100000 in
theorem rres_13 (pv : Value) (P : ProgD) (A B C N : Int) (S : ByteArray) (la : Option Addr) (ln lc : Nat) (T : Bool) (va : Option Addr) (vn vc : Nat) (l : List Int) (w : World) (hv : NumsAt w va vn l) (hvn : vn ≤ 140737488355328) :
    Calls Tryd.prog 68 #[pv, .agg #[.int .i64 13, .int .i64 A, .int .i64 B, .int .i64 C, .int .i64 N, .string S, .slice la ln lc, .bool T], .slice va vn vc] w (RowPost (rowS P 13 N S l) w) := by
  have HB : RowKit.Hid (∀ q, Below w.heap.size w (((w.alloc (.cells #[.int .i64 13, .int .i64 A, .int .i64 B, .int .i64 C, .int .i64 N, .string S, .slice la ln lc, .bool T] 52)).alloc (.cells #[.int .i64 0] 3)).drewN q)) := Lib.hid (fun q => (below2 _ _ _ _ _).drewq q)
  have hci : ∀ q, Calls Tryd.prog 16 #[.slice va vn vc, .slice (some ⟨w.heap.size + 1, 0, none⟩) 1 1] (((w.alloc (.cells #[.int .i64 13, .int .i64 A, .int .i64 B, .int .i64 C, .int .i64 N, .string S, .slice la ln lc, .bool T] 52)).alloc (.cells #[.int .i64 0] 3)).drewN q) (BoolPost (sameB l [0]) (((w.alloc (.cells #[.int .i64 13, .int .i64 A, .int .i64 B, .int .i64 C, .int .i64 N, .string S, .slice la ln lc, .bool T] 52)).alloc (.cells #[.int .i64 0] 3)).drewN q)) := fun q => ints_any va _ vn 1 vc 1 l [0] _ (hv.since (HB.out q)) ((nums_laid 1 [0] _ rfl rfl (by simp)).drewN q) (by omega) (by decide)
  have HR1 : RowKit.Hid ((rowS P 13 N S l).1 = 3) := Lib.hid rfl
  have hr : (rowS P 13 N S l).2 = sameB l [0] := rfl
  clear hv
  cases hb : sameB l [0] with
  | false =>
    have HR : RowKit.Hid ((rowS P 13 N S l).2 = false) := Lib.hid (by rw [hr, hb])
    rw [hb] at hci
    have CI := Lib.hid hci
    clear hr hb hci
    go_enter Tryd.func68, Tryd.ntmps68
    go_wp2_with (go_at_call 77; (with_reducible refine (wants_13 _).mono ?_); rintro e w' ⟨rfl, rfl⟩)
    go_quiet ((go_at_call 16; exact Calls.quiet_of (CI.out _)))
    go_wp2_with fail
    refine bodyPost_ret (v := .tuple #[.int .i64 3, .bool false]) (by simp [results, Tryd.results68, go_sem]) rfl ⟨3, by rw [HR.out], fun _ => HR1.out.symm, HB.out _⟩
  | true =>
    have HR : RowKit.Hid ((rowS P 13 N S l).2 = true) := Lib.hid (by rw [hr, hb])
    rw [hb] at hci
    have CI := Lib.hid hci
    clear hr hb hci
    go_enter Tryd.func68, Tryd.ntmps68
    go_wp2_with (go_at_call 77; (with_reducible refine (wants_13 _).mono ?_); rintro e w' ⟨rfl, rfl⟩)
    go_quiet ((go_at_call 16; exact Calls.quiet_of (CI.out _)))
    go_wp2_with fail
    refine bodyPost_ret (v := .tuple #[.int .i64 3, .bool true]) (by simp [results, Tryd.results68, go_sem]) rfl ⟨3, by rw [HR.out], fun _ => HR1.out.symm, HB.out _⟩
set_option maxRecDepth 100000 in
theorem rres_14 (pv : Value) (P : ProgD) (A B C N : Int) (S : ByteArray) (la : Option Addr) (ln lc : Nat) (T : Bool) (va : Option Addr) (vn vc : Nat) (l : List Int) (w : World) (hv : NumsAt w va vn l) (hvn : vn ≤ 140737488355328) :
    Calls Tryd.prog 68 #[pv, .agg #[.int .i64 14, .int .i64 A, .int .i64 B, .int .i64 C, .int .i64 N, .string S, .slice la ln lc, .bool T], .slice va vn vc] w (RowPost (rowS P 14 N S l) w) := by
  have HB : RowKit.Hid (∀ q, Below w.heap.size w (((w.alloc (.cells #[.int .i64 14, .int .i64 A, .int .i64 B, .int .i64 C, .int .i64 N, .string S, .slice la ln lc, .bool T] 52)).alloc (.cells #[.int .i64 3] 3)).drewN q)) := Lib.hid (fun q => (below2 _ _ _ _ _).drewq q)
  have hci : ∀ q, Calls Tryd.prog 16 #[.slice va vn vc, .slice (some ⟨w.heap.size + 1, 0, none⟩) 1 1] (((w.alloc (.cells #[.int .i64 14, .int .i64 A, .int .i64 B, .int .i64 C, .int .i64 N, .string S, .slice la ln lc, .bool T] 52)).alloc (.cells #[.int .i64 3] 3)).drewN q) (BoolPost (sameB l [3]) (((w.alloc (.cells #[.int .i64 14, .int .i64 A, .int .i64 B, .int .i64 C, .int .i64 N, .string S, .slice la ln lc, .bool T] 52)).alloc (.cells #[.int .i64 3] 3)).drewN q)) := fun q => ints_any va _ vn 1 vc 1 l [3] _ (hv.since (HB.out q)) ((nums_laid 1 [3] _ rfl rfl (by simp)).drewN q) (by omega) (by decide)
  have HR1 : RowKit.Hid ((rowS P 14 N S l).1 = 0) := Lib.hid rfl
  have hr : (rowS P 14 N S l).2 = sameB l [3] := rfl
  clear hv
  cases hb : sameB l [3] with
  | false =>
    have HR : RowKit.Hid ((rowS P 14 N S l).2 = false) := Lib.hid (by rw [hr, hb])
    rw [hb] at hci
    have CI := Lib.hid hci
    clear hr hb hci
    go_enter Tryd.func68, Tryd.ntmps68
    go_wp2_with (go_at_call 77; (with_reducible refine (wants_14 _).mono ?_); rintro e w' ⟨rfl, rfl⟩)
    go_quiet ((go_at_call 16; exact Calls.quiet_of (CI.out _)))
    go_wp2_with fail
    refine bodyPost_ret (v := .tuple #[.int .i64 0, .bool false]) (by simp [results, Tryd.results68, go_sem]) rfl ⟨0, by rw [HR.out], fun _ => HR1.out.symm, HB.out _⟩
  | true =>
    have HR : RowKit.Hid ((rowS P 14 N S l).2 = true) := Lib.hid (by rw [hr, hb])
    rw [hb] at hci
    have CI := Lib.hid hci
    clear hr hb hci
    go_enter Tryd.func68, Tryd.ntmps68
    go_wp2_with (go_at_call 77; (with_reducible refine (wants_14 _).mono ?_); rintro e w' ⟨rfl, rfl⟩)
    go_quiet ((go_at_call 16; exact Calls.quiet_of (CI.out _)))
    go_wp2_with fail
    refine bodyPost_ret (v := .tuple #[.int .i64 0, .bool true]) (by simp [results, Tryd.results68, go_sem]) rfl ⟨0, by rw [HR.out], fun _ => HR1.out.symm, HB.out _⟩
end Go.Proofs.YtdchhfdmingnaaaDoor
