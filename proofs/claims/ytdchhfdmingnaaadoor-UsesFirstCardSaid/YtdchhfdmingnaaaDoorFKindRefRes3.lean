/- Layer 4, P4.3: the document's result, walked at kind 25, kind 22, kind 9. (Its text: by wip/gen/refres3.py.) -/
import Derived.Test.YtdchhfdmingnaaaDoorFT2
import Derived.BigQuiet
namespace Go.Proofs.YtdchhfdmingnaaaDoor
open Go.RowKit (wrap64 intOf Below)
set_option linter.unusedVariables false
set_option maxRecDepth 100000 in
set_option maxHeartbeats 20000000 in
theorem rres_25 (g : Nat) {sa : Option Addr} {sn sc : Nat} {ca : Option Addr} {cn cc : Nat} {fa : Option Addr} {fn fc : Nat} {P : ProgD} (A B C N : Int) (S : ByteArray) (la : Option Addr) (ln lc : Nat) (T : Bool) (va : Option Addr) (vn vc : Nat) (w : World) (x : Int)
    (hP : ProgAt w g sa sn sc ca cn cc fa fn fc P) (hv : NumsAt w va vn [x]) (hvn : vn ≤ 140737488355328) (hr : ∀ z ∈ [x], InR z) (hN : InR N) :
    Calls Tryd.prog 68 #[.pointer (some ⟨g, 0, none⟩), .agg #[.int .i64 25, .int .i64 A, .int .i64 B, .int .i64 C, .int .i64 N, .string S, .slice la ln lc, .bool T], .slice va vn vc] w (RowPost (rowS P 25 N S [x]) w) := by
  obtain ⟨W0, hW0⟩ : ∃ W0, W0 = w.alloc (.cells #[.int .i64 25, .int .i64 A, .int .i64 B, .int .i64 C, .int .i64 N, .string S, .slice la ln lc, .bool T] 52) := ⟨_, rfl⟩
  have hw0 : ∀ u, Below (w.heap.size + 1) W0 u → Below w.heap.size w u := fun u hu => by rw [hW0] at hu; exact first_below hu
  have HW := Lib.hid hw0
  have H2 : RowKit.Hid (Below (w.heap.size + 1) W0 W0) := Lib.hid (Below.refl _ _)
  have hp := hP.since (hw0 _ H2.out)
  have hq := hv.since (hw0 _ H2.out)
  obtain ⟨z0, z1, z2, z3, z4, z5, z6, z7⟩ : W0.cell? ⟨w.heap.size, 0, none⟩ = some (.int .i64 25) ∧ W0.cell? ⟨w.heap.size, 1, none⟩ = some (.int .i64 A) ∧ W0.cell? ⟨w.heap.size, 2, none⟩ = some (.int .i64 B) ∧ W0.cell? ⟨w.heap.size, 3, none⟩ = some (.int .i64 C) ∧ W0.cell? ⟨w.heap.size, 4, none⟩ = some (.int .i64 N) ∧ W0.cell? ⟨w.heap.size, 5, none⟩ = some (.string S) ∧ W0.cell? ⟨w.heap.size, 6, none⟩ = some (.slice la ln lc) ∧ W0.cell? ⟨w.heap.size, 7, none⟩ = some (.bool T) :=
    by have hu := H2.out; rw [hW0] at hu ⊢; exact ⟨first_cells hu 0 _ rfl, first_cells hu 1 _ rfl, first_cells hu 2 _ rfl, first_cells hu 3 _ rfl, first_cells hu 4 _ rfl, first_cells hu 5 _ rfl, first_cells hu 6 _ rfl, first_cells hu 7 _ rfl⟩
  have z8 := hp.c0
  have z9 := hp.c1
  have z10 := hp.c2
  obtain ⟨lg, lo, rfl, _, hlc⟩ := hq.2 (by have := hv.1; simp at this; omega)
  have hl0 : W0.cell? ⟨lg, lo, none⟩ = some (.int .i64 x) := hlc 0 (by simp)
  have hvn0 : vn = 1 := hv.1.symm
  subst hvn0
  have HR1 : RowKit.Hid ((rowS P 25 N S [x]).1 = -1) := Lib.hid rfl
  have hrr : (rowS P 25 N S [x]).2 = ((x == 0) || (x == 2)) := by show (sameB _ _ || sameB _ _) = _; rw [sameB_one, sameB_one]
  clear hP hv hp hq hw0 hr hN hlc
  cases e0 : (x == 0) with
  | true =>
    have HR : RowKit.Hid ((rowS P 25 N S [x]).2 = true) := Lib.hid (by rw [hrr, e0]; rfl)
    clear hrr
    go_enter Tryd.func68, Tryd.ntmps68
    go_wp2_with (go_at_call 77; (with_reducible refine (wants_25 _).mono ?_); rintro e w' ⟨rfl, rfl⟩; rw [← hW0]; clear hW0)
    go_quiet (fail)
    go_wp2_with fail
    refine bodyPost_ret (v := .tuple #[.int .i64 (-1), .bool true]) (by simp [results, Tryd.results68, go_sem]) rfl ⟨-1, by rw [HR.out], fun _ => HR1.out.symm, HW.out _ (by first | exact H2.out.drewq _ | exact (H2.out.drewq _).drewq _ | exact ((H2.out.drewq _).drewq _).drewq _ | exact H2.out)⟩
  | false =>
    cases e1 : (x == 2) with
    | true =>
      have HR : RowKit.Hid ((rowS P 25 N S [x]).2 = true) := Lib.hid (by rw [hrr, e0, e1]; rfl)
      clear hrr
      go_enter Tryd.func68, Tryd.ntmps68
      go_wp2_with (go_at_call 77; (with_reducible refine (wants_25 _).mono ?_); rintro e w' ⟨rfl, rfl⟩; rw [← hW0]; clear hW0)
      go_quiet (fail)
      go_wp2_with fail
      refine bodyPost_ret (v := .tuple #[.int .i64 (-1), .bool true]) (by simp [results, Tryd.results68, go_sem]) rfl ⟨-1, by rw [HR.out], fun _ => HR1.out.symm, HW.out _ (by first | exact H2.out.drewq _ | exact (H2.out.drewq _).drewq _ | exact ((H2.out.drewq _).drewq _).drewq _ | exact H2.out)⟩
    | false =>
      have HR : RowKit.Hid ((rowS P 25 N S [x]).2 = false) := Lib.hid (by rw [hrr, e0, e1]; rfl)
      clear hrr
      go_enter Tryd.func68, Tryd.ntmps68
      go_wp2_with (go_at_call 77; (with_reducible refine (wants_25 _).mono ?_); rintro e w' ⟨rfl, rfl⟩; rw [← hW0]; clear hW0)
      go_quiet (fail)
      go_wp2_with fail
      refine bodyPost_ret (v := .tuple #[.int .i64 (-1), .bool false]) (by simp [results, Tryd.results68, go_sem]) rfl ⟨-1, by rw [HR.out], fun _ => HR1.out.symm, HW.out _ (by first | exact H2.out.drewq _ | exact (H2.out.drewq _).drewq _ | exact ((H2.out.drewq _).drewq _).drewq _ | exact H2.out)⟩
set_option maxRecDepth 100000 in
set_option maxHeartbeats 20000000 in
theorem rres_22 (g : Nat) {sa : Option Addr} {sn sc : Nat} {ca : Option Addr} {cn cc : Nat} {fa : Option Addr} {fn fc : Nat} {P : ProgD} (A B C N : Int) (S : ByteArray) (la : Option Addr) (ln lc : Nat) (T : Bool) (va : Option Addr) (vn vc : Nat) (w : World) (x : Int)
    (hP : ProgAt w g sa sn sc ca cn cc fa fn fc P) (hv : NumsAt w va vn [x]) (hvn : vn ≤ 140737488355328) (hr : ∀ z ∈ [x], InR z) (hN : InR N) :
    Calls Tryd.prog 68 #[.pointer (some ⟨g, 0, none⟩), .agg #[.int .i64 22, .int .i64 A, .int .i64 B, .int .i64 C, .int .i64 N, .string S, .slice la ln lc, .bool T], .slice va vn vc] w (RowPost (rowS P 22 N S [x]) w) := by
  obtain ⟨W0, hW0⟩ : ∃ W0, W0 = w.alloc (.cells #[.int .i64 22, .int .i64 A, .int .i64 B, .int .i64 C, .int .i64 N, .string S, .slice la ln lc, .bool T] 52) := ⟨_, rfl⟩
  have hw0 : ∀ u, Below (w.heap.size + 1) W0 u → Below w.heap.size w u := fun u hu => by rw [hW0] at hu; exact first_below hu
  have HW := Lib.hid hw0
  have H2 : RowKit.Hid (Below (w.heap.size + 1) W0 W0) := Lib.hid (Below.refl _ _)
  have hp := hP.since (hw0 _ H2.out)
  have hq := hv.since (hw0 _ H2.out)
  obtain ⟨z0, z1, z2, z3, z4, z5, z6, z7⟩ : W0.cell? ⟨w.heap.size, 0, none⟩ = some (.int .i64 22) ∧ W0.cell? ⟨w.heap.size, 1, none⟩ = some (.int .i64 A) ∧ W0.cell? ⟨w.heap.size, 2, none⟩ = some (.int .i64 B) ∧ W0.cell? ⟨w.heap.size, 3, none⟩ = some (.int .i64 C) ∧ W0.cell? ⟨w.heap.size, 4, none⟩ = some (.int .i64 N) ∧ W0.cell? ⟨w.heap.size, 5, none⟩ = some (.string S) ∧ W0.cell? ⟨w.heap.size, 6, none⟩ = some (.slice la ln lc) ∧ W0.cell? ⟨w.heap.size, 7, none⟩ = some (.bool T) :=
    by have hu := H2.out; rw [hW0] at hu ⊢; exact ⟨first_cells hu 0 _ rfl, first_cells hu 1 _ rfl, first_cells hu 2 _ rfl, first_cells hu 3 _ rfl, first_cells hu 4 _ rfl, first_cells hu 5 _ rfl, first_cells hu 6 _ rfl, first_cells hu 7 _ rfl⟩
  have z8 := hp.c0
  have z9 := hp.c1
  have z10 := hp.c2
  obtain ⟨lg, lo, rfl, _, hlc⟩ := hq.2 (by have := hv.1; simp at this; omega)
  have hl0 : W0.cell? ⟨lg, lo, none⟩ = some (.int .i64 x) := hlc 0 (by simp)
  have hvn0 : vn = 1 := hv.1.symm
  subst hvn0
  have hlc1 := hP.c.len
  obtain ⟨hx1, hx2⟩ : InR x := hr x (by simp)
  have HR1 : RowKit.Hid ((rowS P 22 N S [x]).1 = 5) := Lib.hid rfl
  have hrr : (rowS P 22 N S [x]).2 = ptrB cn x := by show ptrB P.classes.length x = _; rw [hlc1.1]
  by_cases h6 : 6 ≤ x
  · by_cases hc : x - 6 < (cn : Int)
    · have HR : RowKit.Hid ((rowS P 22 N S [x]).2 = true) := Lib.hid (by rw [hrr]; exact decide_eq_true ⟨h6, hc⟩)
      clear hP hv hp hq hw0 hr hN hlc hrr
      go_enter Tryd.func68, Tryd.ntmps68
      go_wp2_with (go_at_call 77; (with_reducible refine (wants_22 _).mono ?_); rintro e w' ⟨rfl, rfl⟩; rw [← hW0]; clear hW0)
      go_quiet (fail)
      go_wp2_with fail
      refine bodyPost_ret (v := .tuple #[.int .i64 5, .bool true]) (by simp [results, Tryd.results68, go_sem]) rfl ⟨5, by rw [HR.out], fun _ => HR1.out.symm, HW.out _ (by first | exact H2.out.drewq _ | exact (H2.out.drewq _).drewq _ | exact ((H2.out.drewq _).drewq _).drewq _ | exact H2.out)⟩
    · have HR : RowKit.Hid ((rowS P 22 N S [x]).2 = false) := Lib.hid (by rw [hrr]; exact decide_eq_false (fun h => hc h.2))
      have hd : decide (x - 6 < (cn : Int)) = false := decide_eq_false hc
      clear hP hv hp hq hw0 hr hN hlc hrr hc
      go_enter Tryd.func68, Tryd.ntmps68
      go_wp2_with (go_at_call 77; (with_reducible refine (wants_22 _).mono ?_); rintro e w' ⟨rfl, rfl⟩; rw [← hW0]; clear hW0)
      go_quiet (fail)
      go_wp2_with fail
      refine bodyPost_ret (v := .tuple #[.int .i64 5, .bool false]) (by simp [results, Tryd.results68, go_sem]) rfl ⟨5, by rw [HR.out], fun _ => HR1.out.symm, HW.out _ (by first | exact H2.out.drewq _ | exact (H2.out.drewq _).drewq _ | exact ((H2.out.drewq _).drewq _).drewq _ | exact H2.out)⟩
  · have HR : RowKit.Hid ((rowS P 22 N S [x]).2 = false) := Lib.hid (by rw [hrr]; exact decide_eq_false (fun h => h6 h.1))
    have hd : decide (6 ≤ x) = false := decide_eq_false h6
    clear hP hv hp hq hw0 hr hN hlc hrr h6
    go_enter Tryd.func68, Tryd.ntmps68
    go_wp2_with (go_at_call 77; (with_reducible refine (wants_22 _).mono ?_); rintro e w' ⟨rfl, rfl⟩; rw [← hW0]; clear hW0)
    go_quiet (fail)
    go_wp2_with fail
    refine bodyPost_ret (v := .tuple #[.int .i64 5, .bool false]) (by simp [results, Tryd.results68, go_sem]) rfl ⟨5, by rw [HR.out], fun _ => HR1.out.symm, HW.out _ (by first | exact H2.out.drewq _ | exact (H2.out.drewq _).drewq _ | exact ((H2.out.drewq _).drewq _).drewq _ | exact H2.out)⟩
set_option maxRecDepth 100000 in
set_option maxHeartbeats 20000000 in
theorem rres_9 (g : Nat) {sa : Option Addr} {sn sc : Nat} {ca : Option Addr} {cn cc : Nat} {fa : Option Addr} {fn fc : Nat} {P : ProgD} (A B C N : Int) (S : ByteArray) (la : Option Addr) (ln lc : Nat) (T : Bool) (va : Option Addr) (vn vc : Nat) (w : World) (l : List Int)
    (hP : ProgAt w g sa sn sc ca cn cc fa fn fc P) (hv : NumsAt w va vn l) (hvn : vn ≤ 140737488355328) (hr : ∀ z ∈ l, InR z) (hN : InR N) :
    Calls Tryd.prog 68 #[.pointer (some ⟨g, 0, none⟩), .agg #[.int .i64 9, .int .i64 A, .int .i64 B, .int .i64 C, .int .i64 N, .string S, .slice la ln lc, .bool T], .slice va vn vc] w (RowPost (rowS P 9 N S l) w) := by
  obtain ⟨W0, hW0⟩ : ∃ W0, W0 = w.alloc (.cells #[.int .i64 9, .int .i64 A, .int .i64 B, .int .i64 C, .int .i64 N, .string S, .slice la ln lc, .bool T] 52) := ⟨_, rfl⟩
  have hw0 : ∀ u, Below (w.heap.size + 1) W0 u → Below w.heap.size w u := fun u hu => by rw [hW0] at hu; exact first_below hu
  have HW := Lib.hid hw0
  have H2 : RowKit.Hid (Below (w.heap.size + 1) W0 W0) := Lib.hid (Below.refl _ _)
  have hp := hP.since (hw0 _ H2.out)
  have hq := hv.since (hw0 _ H2.out)
  obtain ⟨z0, z1, z2, z3, z4, z5, z6, z7⟩ : W0.cell? ⟨w.heap.size, 0, none⟩ = some (.int .i64 9) ∧ W0.cell? ⟨w.heap.size, 1, none⟩ = some (.int .i64 A) ∧ W0.cell? ⟨w.heap.size, 2, none⟩ = some (.int .i64 B) ∧ W0.cell? ⟨w.heap.size, 3, none⟩ = some (.int .i64 C) ∧ W0.cell? ⟨w.heap.size, 4, none⟩ = some (.int .i64 N) ∧ W0.cell? ⟨w.heap.size, 5, none⟩ = some (.string S) ∧ W0.cell? ⟨w.heap.size, 6, none⟩ = some (.slice la ln lc) ∧ W0.cell? ⟨w.heap.size, 7, none⟩ = some (.bool T) :=
    by have hu := H2.out; rw [hW0] at hu ⊢; exact ⟨first_cells hu 0 _ rfl, first_cells hu 1 _ rfl, first_cells hu 2 _ rfl, first_cells hu 3 _ rfl, first_cells hu 4 _ rfl, first_cells hu 5 _ rfl, first_cells hu 6 _ rfl, first_cells hu 7 _ rfl⟩
  have z8 := hp.c0
  have z9 := hp.c1
  have z10 := hp.c2
  have hlc1 := hP.c.len
  by_cases h0 : N < 0
  · have HR : RowKit.Hid ((rowS P 9 N S l).2 = false) := Lib.hid (by
      show (if 0 ≤ N ∧ N < P.classes.length then (6 + N, sameB l (fieldsOf P N.toNat)) else (-1, false)).2 = _
      rw [if_neg (by omega)])
    clear hP hv hp hq hw0 hr hN
    go_enter Tryd.func68, Tryd.ntmps68
    go_wp2_with (go_at_call 77; (with_reducible refine (wants_9 _).mono ?_); rintro e w' ⟨rfl, rfl⟩; rw [← hW0]; clear hW0)
    go_quiet (fail)
    go_wp2_with fail
    refine bodyPost_ret (v := .tuple #[.int .i64 (-1), .bool false]) (by simp [results, Tryd.results68, go_sem]) rfl ⟨-1, by rw [HR.out], fun h => (by rw [HR.out] at h; cases h), HW.out _ (by first | exact H2.out.drewq _ | exact (H2.out.drewq _).drewq _ | exact ((H2.out.drewq _).drewq _).drewq _ | exact H2.out)⟩
  · by_cases h1 : N < (cn : Int)
    · obtain ⟨k, rfl⟩ := Int.eq_ofNat_of_zero_le (show 0 ≤ N by omega)
      have hk : k < cn := by omega
      obtain ⟨cg, co, cs, hx, rfl, hcl, hcs, f, m, rfl, ⟨a, fnn, fcc, rfl, hfa, _, hfb, _⟩, _⟩ := hp.c.elem hk
      have hc0 : W0.cell? ⟨cg, co + k * 2, none⟩ = some (.slice a fnn fcc) := hcs 0 (by simp)
      have hfo : fieldsOf P k = (P.classes[k]).fields := by unfold fieldsOf; rw [List.getElem?_eq_getElem hx]
      obtain ⟨d, hd⟩ : ∃ d, (P.classes[k]).fields = d := ⟨_, rfl⟩
      rw [hd] at hfa hfo
      have hwr : IntKind.i64.wrap (6 + (k : Int)) = 6 + (k : Int) := wrap_small _ (by omega) (by omega)
      obtain ⟨b, hb⟩ : ∃ b, sameB l d = b := ⟨_, rfl⟩
      have CI : RowKit.Hid (∀ u, Below (w.heap.size + 1) W0 u → Calls Tryd.prog 16 #[.slice va vn vc, .slice a fnn fcc] u (BoolPost b u)) := Lib.hid (fun u hu => by rw [← hb]; exact ints_any va a vn fnn vc fcc l d u (hv.since (hw0 u hu)) (hfa.below hu (by have := hfa; show W0.heap.size ≤ w.heap.size + 1; rw [hW0]; simp)) hvn (by omega))
      have HRR : RowKit.Hid (rowS P 9 (k : Int) S l = (6 + (k : Int), b)) := Lib.hid (by
        show (if 0 ≤ (k : Int) ∧ (k : Int) < P.classes.length then (6 + (k : Int), sameB l (fieldsOf P (k : Int).toNat)) else (-1, false)) = _
        rw [if_pos (by omega), show ((k : Int)).toNat = k from rfl, hfo, hb])
      have HR : RowKit.Hid ((rowS P 9 (k : Int) S l).2 = b) := Lib.hid (by rw [HRR.out])
      have HR1 : RowKit.Hid ((rowS P 9 (k : Int) S l).1 = 6 + (k : Int)) := Lib.hid (by rw [HRR.out])
      clear hP hv hp hq hw0 hr hN hcs hfa h0 hd hfo hb
      go_enter Tryd.func68, Tryd.ntmps68
      go_wp2_with (go_at_call 77; (with_reducible refine (wants_9 _).mono ?_); rintro e w' ⟨rfl, rfl⟩; rw [← hW0]; clear hW0)
      go_quiet (fail)
      go_wp2_with fail
      go_quiet (((go_at_call 16; first | exact quiet_add_of (CI.out _ (H2.out.drewq _)) | exact Calls.quiet_of (CI.out _ (H2.out.drewq _)))))
      go_wp2_with fail
      refine bodyPost_ret (v := .tuple #[.int .i64 (6 + (k : Int)), .bool b]) (by simp [results, Tryd.results68, go_sem]) rfl ⟨6 + (k : Int), by rw [HR.out], fun _ => HR1.out.symm, HW.out _ (by first | exact H2.out.drewq _ | exact (H2.out.drewq _).drewq _ | exact ((H2.out.drewq _).drewq _).drewq _ | exact H2.out)⟩
    · have HR : RowKit.Hid ((rowS P 9 N S l).2 = false) := Lib.hid (by
        show (if 0 ≤ N ∧ N < P.classes.length then (6 + N, sameB l (fieldsOf P N.toNat)) else (-1, false)).2 = _
        rw [if_neg (by omega)])
      have h1' : (cn : Int) ≤ N := by omega
      have h0' : 0 ≤ N := by omega
      clear hP hv hp hq hw0 hr hN h1 h0
      go_enter Tryd.func68, Tryd.ntmps68
      go_wp2_with (go_at_call 77; (with_reducible refine (wants_9 _).mono ?_); rintro e w' ⟨rfl, rfl⟩; rw [← hW0]; clear hW0)
      go_quiet (fail)
      go_wp2_with fail
      refine bodyPost_ret (v := .tuple #[.int .i64 (-1), .bool false]) (by simp [results, Tryd.results68, go_sem]) rfl ⟨-1, by rw [HR.out], fun h => (by rw [HR.out] at h; cases h), HW.out _ (by first | exact H2.out.drewq _ | exact (H2.out.drewq _).drewq _ | exact ((H2.out.drewq _).drewq _).drewq _ | exact H2.out)⟩
end Go.Proofs.YtdchhfdmingnaaaDoor
