/- Layer 4, P4.3: the document's result, walked at kind 23. (Its text: by wip/gen/refres3.py.) -/
import Derived.Test.YtgkcbaakdphigaaDoorKindRefHelp
import Derived.BigQuiet
namespace Go.Proofs.YtgkcbaakdphigaaDoor
open Go.RowKit (wrap64 intOf Below)
set_option linter.unusedVariables false

set_option maxRecDepth 100000 in
set_option maxHeartbeats 20000000 in
theorem rres_23 (g : Nat) {sa : Option Addr} {sn sc : Nat} {ca : Option Addr} {cn cc : Nat} {fa : Option Addr} {fn fc : Nat} {P : ProgD} (A B C N : Int) (S : ByteArray) (la : Option Addr) (ln lc : Nat) (T : Bool) (va : Option Addr) (vn vc : Nat) (w : World) (l : List Int)
    (hP : ProgAt w g sa sn sc ca cn cc fa fn fc P) (hv : NumsAt w va vn l) (hvn : vn ≤ 140737488355328) (hr : ∀ z ∈ l, InR z) (hN : InR N) :
    Calls Tryd.prog 33 #[.pointer (some ⟨g, 0, none⟩), .agg #[.int .i64 23, .int .i64 A, .int .i64 B, .int .i64 C, .int .i64 N, .string S, .slice la ln lc, .bool T], .slice va vn vc] w (RowPost (rowS P 23 N S l) w) := by
  obtain ⟨W0, hW0⟩ : ∃ W0, W0 = w.alloc (.cells #[.int .i64 23, .int .i64 A, .int .i64 B, .int .i64 C, .int .i64 N, .string S, .slice la ln lc, .bool T] 24) := ⟨_, rfl⟩
  have hw0 : ∀ u, Below (w.heap.size + 1) W0 u → Below w.heap.size w u := fun u hu => by rw [hW0] at hu; exact first_below hu
  have HW := Lib.hid hw0
  have H2 : RowKit.Hid (Below (w.heap.size + 1) W0 W0) := Lib.hid (Below.refl _ _)
  have hp := hP.since (hw0 _ H2.out)
  have hq := hv.since (hw0 _ H2.out)
  obtain ⟨z0, z1, z2, z3, z4, z5, z6, z7⟩ : W0.cell? ⟨w.heap.size, 0, none⟩ = some (.int .i64 23) ∧ W0.cell? ⟨w.heap.size, 1, none⟩ = some (.int .i64 A) ∧ W0.cell? ⟨w.heap.size, 2, none⟩ = some (.int .i64 B) ∧ W0.cell? ⟨w.heap.size, 3, none⟩ = some (.int .i64 C) ∧ W0.cell? ⟨w.heap.size, 4, none⟩ = some (.int .i64 N) ∧ W0.cell? ⟨w.heap.size, 5, none⟩ = some (.string S) ∧ W0.cell? ⟨w.heap.size, 6, none⟩ = some (.slice la ln lc) ∧ W0.cell? ⟨w.heap.size, 7, none⟩ = some (.bool T) :=
    by have hu := H2.out; rw [hW0] at hu ⊢; exact ⟨first_cells hu 0 _ rfl, first_cells hu 1 _ rfl, first_cells hu 2 _ rfl, first_cells hu 3 _ rfl, first_cells hu 4 _ rfl, first_cells hu 5 _ rfl, first_cells hu 6 _ rfl, first_cells hu 7 _ rfl⟩
  have z8 := hp.c0
  have z9 := hp.c1
  have z10 := hp.c2
  have hlc1 := hP.f.len
  have hrr : rowS P 23 N S l = (if 0 ≤ N ∧ N < P.funcs.length ∧ (funcOf P N.toNat).blocks.length ≠ 0 then ((funcOf P N.toNat).ret, sameB l (paramsOf (funcOf P N.toNat))) else (-1, false)) := rfl
  by_cases h0 : N < 0
  · have HR : RowKit.Hid ((rowS P 23 N S l).2 = false) := Lib.hid (by rw [hrr, if_neg (by omega)])
    clear hP hv hp hq hw0 hr hN hrr
    go_enter Tryd.func33, Tryd.ntmps33
    go_wp2_with (go_at_call 40; (with_reducible refine (wants_23 _).mono ?_); rintro e w' ⟨rfl, rfl⟩; rw [← hW0]; clear hW0)
    go_quiet (fail)
    go_wp2_with fail
    refine bodyPost_ret (v := .tuple #[.int .i64 (-1), .bool false]) (by simp [results, Tryd.results33, go_sem]) rfl ⟨-1, by rw [HR.out], fun h => (by rw [HR.out] at h; cases h), HW.out _ (by first | exact H2.out.drewq _ | exact (H2.out.drewq _).drewq _ | exact ((H2.out.drewq _).drewq _).drewq _ | exact H2.out)⟩
  · by_cases h1 : N < (fn : Int)
    · obtain ⟨k, rfl⟩ := Int.eq_ofNat_of_zero_le (show 0 ≤ N by omega)
      have hk : k < fn := by omega
      obtain ⟨fg, fo, cs, hx, rfl, hcl, hcs, bv, rfl, _, hbl⟩ := hp.f.elem hk
      have hb2 := hbl
      obtain ⟨ba, bn, bc, rfl, _⟩ := hb2
      have hc0 : W0.cell? ⟨fg, fo + k * 2, none⟩ = some (.int .i64 (P.funcs[k]).ret) := hcs 0 (by simp)
      have hc1 : W0.cell? ⟨fg, fo + k * 2 + 1, none⟩ = some (.slice ba bn bc) := hcs 1 (by simp)
      have hfo : funcOf P k = P.funcs[k] := by unfold funcOf; rw [List.getElem?_eq_getElem hx]
      obtain ⟨G, hG⟩ : ∃ G, P.funcs[k] = G := ⟨_, rfl⟩
      rw [hG] at hbl hfo hc0
      have hbln := hbl.len
      have hkc : (k : Int) < (fn : Int) := by omega
      rw [show ((k : Int)).toNat = k from rfl, hfo] at hrr
      by_cases hb0 : bn = 0
      · subst hb0
        have HR : RowKit.Hid ((rowS P 23 (k : Int) S l).2 = false) := Lib.hid (by rw [hrr, if_neg (fun hh => hh.2.2 hbln.1)])
        clear hP hv hp hq hw0 hr hN hrr hcs hbl hG hfo hbln
        go_enter Tryd.func33, Tryd.ntmps33
        go_wp2_with (go_at_call 40; (with_reducible refine (wants_23 _).mono ?_); rintro e w' ⟨rfl, rfl⟩; rw [← hW0]; clear hW0)
        go_quiet (fail)
        go_wp2_with fail
        refine bodyPost_ret (v := .tuple #[.int .i64 (-1), .bool false]) (by simp [results, Tryd.results33, go_sem]) rfl ⟨-1, by rw [HR.out], fun h => (by rw [HR.out] at h; cases h), HW.out _ (by first | exact H2.out.drewq _ | exact (H2.out.drewq _).drewq _ | exact ((H2.out.drewq _).drewq _).drewq _ | exact H2.out)⟩
      · obtain ⟨bg, bo, cs2, hx2, rfl, hcl2, hcs2, p, ov, es, rfl, ⟨pa, pn, pc, rfl, hpat, _, hpb, _⟩, _⟩ := hbl.elem (i := 0) (by omega)
        have hc2 : W0.cell? ⟨bg, bo, none⟩ = some (.slice pa pn pc) := by have := hcs2 0 (by simp); rw [Nat.zero_mul] at this; exact this
        have hps : paramsOf G = G.blocks[0].params := by
          unfold paramsOf
          clear hcs2 hpat
          revert hx2
          cases G.blocks with
          | nil => intro hx2; exact absurd hx2 (by simp)
          | cons b r => intros; rfl
        obtain ⟨d, hd⟩ : ∃ d, G.blocks[0].params = d := ⟨_, rfl⟩
        rw [hd] at hpat hps
        obtain ⟨b, hb⟩ : ∃ b, sameB l d = b := ⟨_, rfl⟩
        have CI : RowKit.Hid (∀ u, Below (w.heap.size + 1) W0 u → Calls Tryd.prog 16 #[.slice va vn vc, .slice pa pn pc] u (BoolPost b u)) := Lib.hid (fun u hu => by rw [← hb]; exact ints_any va pa vn pn vc pc l d u (hv.since (hw0 u hu)) (hpat.below hu (by show W0.heap.size ≤ w.heap.size + 1; rw [hW0]; simp)) hvn (by omega))
        have HR : RowKit.Hid ((rowS P 23 (k : Int) S l).2 = b) := Lib.hid (by rw [hrr, if_pos ⟨by omega, by omega, by omega⟩, hps, hb])
        have HR1 : RowKit.Hid ((rowS P 23 (k : Int) S l).1 = G.ret) := Lib.hid (by rw [hrr, if_pos ⟨by omega, by omega, by omega⟩])
        have hbn : ((bn : Int) == 0) = false := by simpa using hb0
        have hbp : (0 : Int) < (bn : Int) := by omega
        have hbq : 0 < bn := by omega
        clear hP hv hp hq hw0 hr hN hrr hcs hbl hG hfo hbln hcs2 hpat hps hd hb
        go_enter Tryd.func33, Tryd.ntmps33
        go_wp2_with (go_at_call 40; (with_reducible refine (wants_23 _).mono ?_); rintro e w' ⟨rfl, rfl⟩; rw [← hW0]; clear hW0)
        go_quiet (fail)
        go_wp2_with fail
        go_quiet (((go_at_call 16; first | exact quiet_add_of (CI.out _ (H2.out.drewq _)) | exact Calls.quiet_of (CI.out _ (H2.out.drewq _)))))
        go_wp2_with fail
        refine bodyPost_ret (v := .tuple #[.int .i64 G.ret, .bool b]) (by simp [results, Tryd.results33, go_sem]) rfl ⟨G.ret, by rw [HR.out], fun _ => HR1.out.symm, HW.out _ (by first | exact H2.out.drewq _ | exact (H2.out.drewq _).drewq _ | exact ((H2.out.drewq _).drewq _).drewq _ | exact H2.out)⟩
    · have HR : RowKit.Hid ((rowS P 23 N S l).2 = false) := Lib.hid (by rw [hrr, if_neg (by omega)])
      have h1' : (fn : Int) ≤ N := by omega
      have h0' : 0 ≤ N := by omega
      have hd1 : decide ((fn : Int) ≤ N) = true := decide_eq_true h1'
      have hd0 : decide (N < 0) = false := decide_eq_false (by omega)
      clear hP hv hp hq hw0 hr hN h1 h0 hrr
      go_enter Tryd.func33, Tryd.ntmps33
      go_wp2_with (go_at_call 40; (with_reducible refine (wants_23 _).mono ?_); rintro e w' ⟨rfl, rfl⟩; rw [← hW0]; clear hW0)
      go_quiet (fail)
      go_wp2_with fail
      refine bodyPost_ret (v := .tuple #[.int .i64 (-1), .bool false]) (by simp [results, Tryd.results33, go_sem]) rfl ⟨-1, by rw [HR.out], fun h => (by rw [HR.out] at h; cases h), HW.out _ (by first | exact H2.out.drewq _ | exact (H2.out.drewq _).drewq _ | exact ((H2.out.drewq _).drewq _).drewq _ | exact H2.out)⟩
end Go.Proofs.YtgkcbaakdphigaaDoor
