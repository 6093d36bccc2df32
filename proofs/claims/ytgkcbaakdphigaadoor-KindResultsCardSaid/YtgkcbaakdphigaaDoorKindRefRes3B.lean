/- Layer 4, P4.3: the document's result, walked at kind 10. (Its text: by wip/gen/refres3.py.) -/
import Derived.Test.YtgkcbaakdphigaaDoorKindRefHelp
import Derived.BigQuiet
namespace Go.Proofs.YtgkcbaakdphigaaDoor
open Go.RowKit (wrap64 intOf Below)
set_option linter.unusedVariables false

set_option maxRecDepth 100000 in
set_option maxHeartbeats 20000000 in
theorem rres_10 (g : Nat) {sa : Option Addr} {sn sc : Nat} {ca : Option Addr} {cn cc : Nat} {fa : Option Addr} {fn fc : Nat} {P : ProgD} (A B C N : Int) (S : ByteArray) (la : Option Addr) (ln lc : Nat) (T : Bool) (va : Option Addr) (vn vc : Nat) (w : World) (x : Int)
    (hP : ProgAt w g sa sn sc ca cn cc fa fn fc P) (hv : NumsAt w va vn [x]) (hvn : vn ≤ 140737488355328) (hr : ∀ z ∈ [x], InR z) (hN : InR N) :
    Calls Tryd.prog 33 #[.pointer (some ⟨g, 0, none⟩), .agg #[.int .i64 10, .int .i64 A, .int .i64 B, .int .i64 C, .int .i64 N, .string S, .slice la ln lc, .bool T], .slice va vn vc] w (RowPost (rowS P 10 N S [x]) w) := by
  obtain ⟨W0, hW0⟩ : ∃ W0, W0 = w.alloc (.cells #[.int .i64 10, .int .i64 A, .int .i64 B, .int .i64 C, .int .i64 N, .string S, .slice la ln lc, .bool T] 24) := ⟨_, rfl⟩
  have hw0 : ∀ u, Below (w.heap.size + 1) W0 u → Below w.heap.size w u := fun u hu => by rw [hW0] at hu; exact first_below hu
  have HW := Lib.hid hw0
  have H2 : RowKit.Hid (Below (w.heap.size + 1) W0 W0) := Lib.hid (Below.refl _ _)
  have hp := hP.since (hw0 _ H2.out)
  have hq := hv.since (hw0 _ H2.out)
  obtain ⟨z0, z1, z2, z3, z4, z5, z6, z7⟩ : W0.cell? ⟨w.heap.size, 0, none⟩ = some (.int .i64 10) ∧ W0.cell? ⟨w.heap.size, 1, none⟩ = some (.int .i64 A) ∧ W0.cell? ⟨w.heap.size, 2, none⟩ = some (.int .i64 B) ∧ W0.cell? ⟨w.heap.size, 3, none⟩ = some (.int .i64 C) ∧ W0.cell? ⟨w.heap.size, 4, none⟩ = some (.int .i64 N) ∧ W0.cell? ⟨w.heap.size, 5, none⟩ = some (.string S) ∧ W0.cell? ⟨w.heap.size, 6, none⟩ = some (.slice la ln lc) ∧ W0.cell? ⟨w.heap.size, 7, none⟩ = some (.bool T) :=
    by have hu := H2.out; rw [hW0] at hu ⊢; exact ⟨first_cells hu 0 _ rfl, first_cells hu 1 _ rfl, first_cells hu 2 _ rfl, first_cells hu 3 _ rfl, first_cells hu 4 _ rfl, first_cells hu 5 _ rfl, first_cells hu 6 _ rfl, first_cells hu 7 _ rfl⟩
  have z8 := hp.c0
  have z9 := hp.c1
  have z10 := hp.c2
  obtain ⟨lg, lo, rfl, _, hlc⟩ := hq.2 (by have := hv.1; simp at this; omega)
  have hl0 : W0.cell? ⟨lg, lo, none⟩ = some (.int .i64 x) := hlc 0 (by simp)
  have hvn0 : vn = 1 := hv.1.symm
  subst hvn0
  have hlc1 := hP.c.len
  obtain ⟨hx1, hx2⟩ : InR x := hr x (by simp)
  have hrr : rowS P 10 N S [x] = fieldS P x N := rfl
  by_cases h6 : x < 6
  · have HR : RowKit.Hid ((rowS P 10 N S [x]).2 = false) := Lib.hid (by
      have e : fieldS P x N = (-1, false) := by unfold fieldS; rw [if_neg (by omega)]
      rw [hrr, e])
    clear hP hv hp hq hw0 hr hN hlc hrr
    go_enter Tryd.func33, Tryd.ntmps33
    go_wp2_with (go_at_call 40; (with_reducible refine (wants_10 _).mono ?_); rintro e w' ⟨rfl, rfl⟩; rw [← hW0]; clear hW0)
    go_quiet (fail)
    go_wp2_with fail
    refine bodyPost_ret (v := .tuple #[.int .i64 (-1), .bool false]) (by simp [results, Tryd.results33, go_sem]) rfl ⟨-1, by rw [HR.out], fun h => (by rw [HR.out] at h; cases h), HW.out _ (by first | exact H2.out.drewq _ | exact (H2.out.drewq _).drewq _ | exact ((H2.out.drewq _).drewq _).drewq _ | exact H2.out)⟩
  · by_cases hc : x - 6 < (cn : Int)
    · obtain ⟨k, hk⟩ := Int.eq_ofNat_of_zero_le (show 0 ≤ x - 6 by omega)
      have hkn : k < cn := by omega
      obtain ⟨cg, co, cs, hx, rfl, hcl, hcs, f, m, rfl, ⟨a, fnn, fcc, rfl, hfa, _, hfb, _⟩, _⟩ := hp.c.elem hkn
      have hc0 : W0.cell? ⟨cg, co + k * 2, none⟩ = some (.slice a fnn fcc) := hcs 0 (by simp)
      have hfo : fieldsOf P k = (P.classes[k]).fields := by unfold fieldsOf; rw [List.getElem?_eq_getElem hx]
      obtain ⟨d, hd⟩ : ∃ d, (P.classes[k]).fields = d := ⟨_, rfl⟩
      rw [hd] at hfa hfo
      have hfl := hfa.1
      have hc3 : 6 ≤ x := by omega
      have hwr : IntKind.i64.wrap (x - 6) = (k : Int) := by rw [hk]; exact wrap_small _ (by omega) (by omega)
      have hkc : (k : Int) < (cn : Int) := by omega
      by_cases hn0 : N < 0
      · have HR : RowKit.Hid ((rowS P 10 N S [x]).2 = false) := Lib.hid (by
          have e : fieldS P x N = (-1, false) := by unfold fieldS; rw [if_pos (by omega), hk, show ((k : Int)).toNat = k from rfl, hfo, if_neg (by omega)]
          rw [hrr, e])
        clear hP hv hp hq hw0 hr hN hlc hrr hcs hfa hd hfo hk h6 hc
        go_enter Tryd.func33, Tryd.ntmps33
        go_wp2_with (go_at_call 40; (with_reducible refine (wants_10 _).mono ?_); rintro e w' ⟨rfl, rfl⟩; rw [← hW0]; clear hW0)
        go_quiet (fail)
        go_wp2_with fail
        go_quiet (fail)
        go_wp2_with fail
        refine bodyPost_ret (v := .tuple #[.int .i64 (-1), .bool false]) (by simp [results, Tryd.results33, go_sem]) rfl ⟨-1, by rw [HR.out], fun h => (by rw [HR.out] at h; cases h), HW.out _ (by first | exact H2.out.drewq _ | exact (H2.out.drewq _).drewq _ | exact ((H2.out.drewq _).drewq _).drewq _ | exact H2.out)⟩
      · by_cases hn1 : N < (fnn : Int)
        · obtain ⟨i, rfl⟩ := Int.eq_ofNat_of_zero_le (show 0 ≤ N by omega)
          have hi : i < fnn := by omega
          obtain ⟨fg, fo, rfl, _, hfc⟩ := hfa.2 (by omega)
          have hci : W0.cell? ⟨fg, fo + i, none⟩ = some (.int .i64 (nth d i)) := by have h3 := hfc i (by omega); rw [nth_is (by omega)]; exact h3
          have e : fieldS P x (i : Int) = (nth d i, true) := by unfold fieldS; rw [if_pos (by omega), hk, show ((k : Int)).toNat = k from rfl, hfo, if_pos (by omega)]; rfl
          have HR : RowKit.Hid ((rowS P 10 (i : Int) S [x]).2 = true) := Lib.hid (by rw [hrr, e])
          have HR1 : RowKit.Hid ((rowS P 10 (i : Int) S [x]).1 = nth d i) := Lib.hid (by rw [hrr, e])
          clear hP hv hp hq hw0 hr hN hlc hrr hcs hfa hd hfo hk h6 hc hfc e
          go_enter Tryd.func33, Tryd.ntmps33
          go_wp2_with (go_at_call 40; (with_reducible refine (wants_10 _).mono ?_); rintro e w' ⟨rfl, rfl⟩; rw [← hW0]; clear hW0)
          go_quiet (fail)
          go_wp2_with fail
          go_quiet (fail)
          go_wp2_with fail
          refine bodyPost_ret (v := .tuple #[.int .i64 (nth d i), .bool true]) (by simp [results, Tryd.results33, go_sem]) rfl ⟨nth d i, by rw [HR.out], fun _ => HR1.out.symm, HW.out _ (by first | exact H2.out.drewq _ | exact (H2.out.drewq _).drewq _ | exact ((H2.out.drewq _).drewq _).drewq _ | exact H2.out)⟩
        · have HR : RowKit.Hid ((rowS P 10 N S [x]).2 = false) := Lib.hid (by
            have e : fieldS P x N = (-1, false) := by unfold fieldS; rw [if_pos (by omega), hk, show ((k : Int)).toNat = k from rfl, hfo, if_neg (by omega)]
            rw [hrr, e])
          clear hP hv hp hq hw0 hr hN hlc hrr hcs hfa hd hfo hk h6 hc
          have hn2 : (fnn : Int) ≤ N := by omega
          have hn3 : 0 ≤ N := by omega
          clear hn0 hn1
          go_enter Tryd.func33, Tryd.ntmps33
          go_wp2_with (go_at_call 40; (with_reducible refine (wants_10 _).mono ?_); rintro e w' ⟨rfl, rfl⟩; rw [← hW0]; clear hW0)
          go_quiet (fail)
          go_wp2_with fail
          go_quiet (fail)
          go_wp2_with fail
          refine bodyPost_ret (v := .tuple #[.int .i64 (-1), .bool false]) (by simp [results, Tryd.results33, go_sem]) rfl ⟨-1, by rw [HR.out], fun h => (by rw [HR.out] at h; cases h), HW.out _ (by first | exact H2.out.drewq _ | exact (H2.out.drewq _).drewq _ | exact ((H2.out.drewq _).drewq _).drewq _ | exact H2.out)⟩
    · have HR : RowKit.Hid ((rowS P 10 N S [x]).2 = false) := Lib.hid (by
        have e : fieldS P x N = (-1, false) := by unfold fieldS; rw [if_neg (by omega)]
        rw [hrr, e])
      clear hP hv hp hq hw0 hr hN hlc hrr
      have hwr : IntKind.i64.wrap (x - 6) = x - 6 := wrap_small _ (by omega) (by omega)
      have hc2 : (cn : Int) ≤ x - 6 := by omega
      have hc3 : 6 ≤ x := by omega
      clear hc h6
      go_enter Tryd.func33, Tryd.ntmps33
      go_wp2_with (go_at_call 40; (with_reducible refine (wants_10 _).mono ?_); rintro e w' ⟨rfl, rfl⟩; rw [← hW0]; clear hW0)
      go_quiet (fail)
      go_wp2_with fail
      refine bodyPost_ret (v := .tuple #[.int .i64 (-1), .bool false]) (by simp [results, Tryd.results33, go_sem]) rfl ⟨-1, by rw [HR.out], fun h => (by rw [HR.out] at h; cases h), HW.out _ (by first | exact H2.out.drewq _ | exact (H2.out.drewq _).drewq _ | exact ((H2.out.drewq _).drewq _).drewq _ | exact H2.out)⟩
end Go.Proofs.YtgkcbaakdphigaaDoor
