/- Layer 4, P4.3: the document's result, walked at kind 24. (Its text: by wip/gen/refres3.py.) -/
import Derived.Test.YtgkcbaakdphigaaDoorKindRefHelp
import Derived.BigQuiet
namespace Go.Proofs.YtgkcbaakdphigaaDoor
open Go.RowKit (wrap64 intOf Below)
set_option linter.unusedVariables false

set_option maxRecDepth 100000 in
set_option maxHeartbeats 20000000 in
theorem rres_24 (g : Nat) {sa : Option Addr} {sn sc : Nat} {ca : Option Addr} {cn cc : Nat} {fa : Option Addr} {fn fc : Nat} {P : ProgD} (A B C N : Int) (S : ByteArray) (la : Option Addr) (ln lc : Nat) (T : Bool) (va : Option Addr) (vn vc : Nat) (w : World) (x : Int) (l : List Int) (hcap : vn ≤ vc)
    (hP : ProgAt w g sa sn sc ca cn cc fa fn fc P) (hv : NumsAt w va vn (x :: l)) (hvn : vn ≤ 140737488355328) (hr : ∀ z ∈ (x :: l), InR z) (hN : InR N) :
    Calls Tryd.prog 33 #[.pointer (some ⟨g, 0, none⟩), .agg #[.int .i64 24, .int .i64 A, .int .i64 B, .int .i64 C, .int .i64 N, .string S, .slice la ln lc, .bool T], .slice va vn vc] w (RowPost (rowS P 24 N S (x :: l)) w) := by
  obtain ⟨W0, hW0⟩ : ∃ W0, W0 = w.alloc (.cells #[.int .i64 24, .int .i64 A, .int .i64 B, .int .i64 C, .int .i64 N, .string S, .slice la ln lc, .bool T] 24) := ⟨_, rfl⟩
  have hw0 : ∀ u, Below (w.heap.size + 1) W0 u → Below w.heap.size w u := fun u hu => by rw [hW0] at hu; exact first_below hu
  have HW := Lib.hid hw0
  have H2 : RowKit.Hid (Below (w.heap.size + 1) W0 W0) := Lib.hid (Below.refl _ _)
  have hp := hP.since (hw0 _ H2.out)
  have hq := hv.since (hw0 _ H2.out)
  obtain ⟨z0, z1, z2, z3, z4, z5, z6, z7⟩ : W0.cell? ⟨w.heap.size, 0, none⟩ = some (.int .i64 24) ∧ W0.cell? ⟨w.heap.size, 1, none⟩ = some (.int .i64 A) ∧ W0.cell? ⟨w.heap.size, 2, none⟩ = some (.int .i64 B) ∧ W0.cell? ⟨w.heap.size, 3, none⟩ = some (.int .i64 C) ∧ W0.cell? ⟨w.heap.size, 4, none⟩ = some (.int .i64 N) ∧ W0.cell? ⟨w.heap.size, 5, none⟩ = some (.string S) ∧ W0.cell? ⟨w.heap.size, 6, none⟩ = some (.slice la ln lc) ∧ W0.cell? ⟨w.heap.size, 7, none⟩ = some (.bool T) :=
    by have hu := H2.out; rw [hW0] at hu ⊢; exact ⟨first_cells hu 0 _ rfl, first_cells hu 1 _ rfl, first_cells hu 2 _ rfl, first_cells hu 3 _ rfl, first_cells hu 4 _ rfl, first_cells hu 5 _ rfl, first_cells hu 6 _ rfl, first_cells hu 7 _ rfl⟩
  have z8 := hp.c0
  have z9 := hp.c1
  have z10 := hp.c2
  obtain ⟨lg, lo, rfl, _, hlc⟩ := hq.2 (by have := hv.1; simp at this; omega)
  have hl0 : W0.cell? ⟨lg, lo, none⟩ = some (.int .i64 x) := hlc 0 (by simp)
  have hlc1 := hP.s.len
  have hvl := hv.1
  simp only [List.length_cons] at hvl
  have hv0 : 0 < vn := by omega
  have hv1 : (0 : Int) < (vn : Int) := by omega
  have hrr : rowS P 24 N S (x :: l) = (if 0 ≤ N ∧ N < P.sigs.length then ((sigOf P N.toNat).ret, x == 5 && sameB l (sigOf P N.toNat).params) else (-1, false)) := rfl
  by_cases h0 : N < 0
  · have HR : RowKit.Hid ((rowS P 24 N S (x :: l)).2 = false) := Lib.hid (by rw [hrr, if_neg (by omega)])
    clear hP hv hp hq hw0 hr hN hlc hrr
    go_enter Tryd.func33, Tryd.ntmps33
    go_wp2_with (go_at_call 40; (with_reducible refine (wants_24 _).mono ?_); rintro e w' ⟨rfl, rfl⟩; rw [← hW0]; clear hW0)
    go_quiet (fail)
    go_wp2_with fail
    refine bodyPost_ret (v := .tuple #[.int .i64 (-1), .bool false]) (by simp [results, Tryd.results33, go_sem]) rfl ⟨-1, by rw [HR.out], fun h => (by rw [HR.out] at h; cases h), HW.out _ (by first | exact H2.out.drewq _ | exact (H2.out.drewq _).drewq _ | exact ((H2.out.drewq _).drewq _).drewq _ | exact H2.out)⟩
  · by_cases h1 : N < (sn : Int)
    · obtain ⟨k, rfl⟩ := Int.eq_ofNat_of_zero_le (show 0 ≤ N by omega)
      have hk : k < sn := by omega
      obtain ⟨sg, so, cs, hx, rfl, hcl, hcs, p, rfl, ⟨pa, pn, pc, rfl, hpa, _, hpb, _⟩, _⟩ := hp.s.elem hk
      have hc0 : W0.cell? ⟨sg, so + k * 2, none⟩ = some (.slice pa pn pc) := hcs 0 (by simp)
      have hc1 : W0.cell? ⟨sg, so + k * 2 + 1, none⟩ = some (.int .i64 (P.sigs[k]).ret) := hcs 1 (by simp)
      have hfo : sigOf P k = P.sigs[k] := by unfold sigOf; rw [List.getElem?_eq_getElem hx]
      obtain ⟨G, hG⟩ : ∃ G, P.sigs[k] = G := ⟨_, rfl⟩
      rw [hG] at hpa hfo hc1
      have hkc : (k : Int) < (sn : Int) := by omega
      rw [show ((k : Int)).toNat = k from rfl, hfo, if_pos (by omega)] at hrr
      cases e5 : (x == 5) with
      | false =>
        have e5' : (x != 5) = true := by unfold bne; rw [e5]; rfl
        have HR : RowKit.Hid ((rowS P 24 (k : Int) S (x :: l)).2 = false) := Lib.hid (by rw [hrr, e5]; rfl)
        clear hP hv hp hq hw0 hr hN hlc hrr hcs hpa hG hfo
        go_enter Tryd.func33, Tryd.ntmps33
        go_wp2_with (go_at_call 40; (with_reducible refine (wants_24 _).mono ?_); rintro e w' ⟨rfl, rfl⟩; rw [← hW0]; clear hW0)
        go_quiet (fail)
        go_wp2_with fail
        refine bodyPost_ret (v := .tuple #[.int .i64 (-1), .bool false]) (by simp [results, Tryd.results33, go_sem]) rfl ⟨-1, by rw [HR.out], fun h => (by rw [HR.out] at h; cases h), HW.out _ (by first | exact H2.out.drewq _ | exact (H2.out.drewq _).drewq _ | exact ((H2.out.drewq _).drewq _).drewq _ | exact H2.out)⟩
      | true =>
        have e5' : (x != 5) = false := by unfold bne; rw [e5]; rfl
        obtain ⟨b, hb⟩ : ∃ b, sameB l G.params = b := ⟨_, rfl⟩
        have hvp : 1 ≤ vn := by omega
        have hdr := NumsAt.drop hv hcap 1 hvp
        obtain ⟨s1, hs1⟩ : ∃ s1, fromA (some ⟨lg, lo, none⟩) vc 1 = s1 := ⟨_, rfl⟩
        have hsl : ∀ u, (Instr.slice 22 (.slice (some ⟨lg, lo, none⟩) vn vc) (some (.int .i64 1)) none none).run Tryd.prog u = .ok (.slice s1 (vn - 1) (vc - 1)) u := fun u => by
          have := run_from Tryd.underlying22 size_int (some ⟨lg, lo, none⟩) vn vc 1 hvp u
          rw [hs1] at this
          exact this
        rw [hs1] at hdr
        have CI : RowKit.Hid (∀ u, Below (w.heap.size + 1) W0 u → Calls Tryd.prog 16 #[.slice s1 (vn - 1) (vc - 1), .slice pa pn pc] u (BoolPost b u)) := Lib.hid (fun u hu => by rw [← hb]; exact ints_any s1 pa (vn - 1) pn (vc - 1) pc l G.params u (hdr.since (hw0 u hu)) (hpa.below hu (by show W0.heap.size ≤ w.heap.size + 1; rw [hW0]; simp)) (by omega) (by omega))
        have HR : RowKit.Hid ((rowS P 24 (k : Int) S (x :: l)).2 = b) := Lib.hid (by rw [hrr, e5, hb]; rfl)
        have HR1 : RowKit.Hid ((rowS P 24 (k : Int) S (x :: l)).1 = G.ret) := Lib.hid (by rw [hrr])
        clear hP hv hp hq hw0 hr hN hlc hrr hcs hpa hG hfo hdr hs1 hb
        go_enter Tryd.func33, Tryd.ntmps33
        go_wp2_with (go_at_call 40; (with_reducible refine (wants_24 _).mono ?_); rintro e w' ⟨rfl, rfl⟩; rw [← hW0]; clear hW0)
        go_quiet (fail)
        go_wp2_with fail
        go_quiet (((go_at_call 16; first | exact quiet_add_of (CI.out _ (H2.out.drewq _)) | exact Calls.quiet_of (CI.out _ (H2.out.drewq _)))))
        go_wp2_with fail
        refine bodyPost_ret (v := .tuple #[.int .i64 G.ret, .bool b]) (by simp [results, Tryd.results33, go_sem]) rfl ⟨G.ret, by rw [HR.out], fun _ => HR1.out.symm, HW.out _ (by first | exact H2.out.drewq _ | exact (H2.out.drewq _).drewq _ | exact ((H2.out.drewq _).drewq _).drewq _ | exact H2.out)⟩
    · have HR : RowKit.Hid ((rowS P 24 N S (x :: l)).2 = false) := Lib.hid (by rw [hrr, if_neg (by omega)])
      have h1' : (sn : Int) ≤ N := by omega
      have h0' : 0 ≤ N := by omega
      clear hP hv hp hq hw0 hr hN h1 h0 hrr hlc
      go_enter Tryd.func33, Tryd.ntmps33
      go_wp2_with (go_at_call 40; (with_reducible refine (wants_24 _).mono ?_); rintro e w' ⟨rfl, rfl⟩; rw [← hW0]; clear hW0)
      go_quiet (fail)
      go_wp2_with fail
      refine bodyPost_ret (v := .tuple #[.int .i64 (-1), .bool false]) (by simp [results, Tryd.results33, go_sem]) rfl ⟨-1, by rw [HR.out], fun h => (by rw [HR.out] at h; cases h), HW.out _ (by first | exact H2.out.drewq _ | exact (H2.out.drewq _).drewq _ | exact ((H2.out.drewq _).drewq _).drewq _ | exact H2.out)⟩
end Go.Proofs.YtgkcbaakdphigaaDoor
