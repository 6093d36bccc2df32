/- Layer 4, P4.3: package kind's declared, walked at each kind but one. (Its text: by wip/gen/decl.py.) -/
import Derived.Test.YtgkcbaakdphigaaDoorKindRowS
import Derived.Test.YtgkcbaakdphigaaDoorKindFlagsL
import Derived.Deep.RegionHeld3
import Derived.BigQuiet
import Derived.Deep.RegionWith
namespace Go.Proofs.YtgkcbaakdphigaaDoor
open Go.RowKit (wrap64 intOf Below)
set_option linter.unusedVariables false

set_option maxRecDepth 100000 in
set_option maxHeartbeats 4000000 in
theorem decl_9 (g : Nat) {sa : Option Addr} {sn sc : Nat} {ca : Option Addr} {cn cc : Nat} {fa : Option Addr} {fn fc : Nat} {P : ProgD} (A B C N : Int) (S : ByteArray) (la : Option Addr) (ln lc : Nat) (T : Bool) (L : List Int) (ta : Option Addr) (tn tc : Nat) (ts : List Int) (w : World)
    (hP : ProgAt w g sa sn sc ca cn cc fa fn fc P) (hat : NumsAt w la ln L) (hln : ln ≤ 17592186044000) (ht : NumsAt w ta tn ts) (htn : tn ≤ 140737488355328) (hr : ∀ z ∈ ts, InR z) (hN : InR N) (ham : Among (usesL 9 A B C L) tn) :
    Calls Tryd.prog 39 #[.pointer (some ⟨g, 0, none⟩), .agg #[.int .i64 9, .int .i64 A, .int .i64 B, .int .i64 C, .int .i64 N, .string S, .slice la ln lc, .bool T], .slice ta tn tc] w (RowPost (rowS P 9 N S ((usesL 9 A B C L).map (tyAt ts))) w) := by
  have hu : usesL 9 A B C L = L := by simp [usesL, hasB, fieldsL, oneL, pickL]
  rw [hu] at ham ⊢
  obtain ⟨W0, hW0⟩ : ∃ W0, W0 = w.alloc (.cells #[.int .i64 9, .int .i64 A, .int .i64 B, .int .i64 C, .int .i64 N, .string S, .slice la ln lc, .bool T] 24) := ⟨_, rfl⟩
  have hw0 : ∀ u, Below (w.heap.size + 1) W0 u → Below w.heap.size w u := fun u hu => by rw [hW0] at hu; exact first_below hu
  have HW := Lib.hid hw0
  have HP : RowKit.Hid (∀ u, Below (w.heap.size + 1) W0 u → ProgAt u g sa sn sc ca cn cc fa fn fc P) := Lib.hid (fun u hu => hP.since (hw0 u hu))
  have HT : RowKit.Hid (∀ u, Below (w.heap.size + 1) W0 u → NumsAt u ta tn ts) := Lib.hid (fun u hu => ht.since (hw0 u hu))
  have HL : RowKit.Hid (∀ u, Below (w.heap.size + 1) W0 u → NumsAt u la ln L) := Lib.hid (fun u hu => hat.since (hw0 u hu))
  have HC : RowKit.Hid (∀ u, Below (w.heap.size + 1) W0 u → u.cell? ⟨w.heap.size, 0, none⟩ = some (.int .i64 9) ∧ u.cell? ⟨w.heap.size, 1, none⟩ = some (.int .i64 A) ∧ u.cell? ⟨w.heap.size, 2, none⟩ = some (.int .i64 B) ∧ u.cell? ⟨w.heap.size, 3, none⟩ = some (.int .i64 C) ∧ u.cell? ⟨w.heap.size, 4, none⟩ = some (.int .i64 N) ∧ u.cell? ⟨w.heap.size, 5, none⟩ = some (.string S) ∧ u.cell? ⟨w.heap.size, 6, none⟩ = some (.slice la ln lc) ∧ u.cell? ⟨w.heap.size, 7, none⟩ = some (.bool T) ∧ u.cell? ⟨g, 0, none⟩ = some (.slice sa sn sc) ∧ u.cell? ⟨g, 1, none⟩ = some (.slice ca cn cc) ∧ u.cell? ⟨g, 2, none⟩ = some (.slice fa fn fc)) :=
    Lib.hid (fun u hu => by have hp := HP.out u hu; rw [hW0] at hu; exact ⟨first_cells hu 0 _ rfl, first_cells hu 1 _ rfl, first_cells hu 2 _ rfl, first_cells hu 3 _ rfl, first_cells hu 4 _ rfl, first_cells hu 5 _ rfl, first_cells hu 6 _ rfl, first_cells hu 7 _ rfl, hp.c0, hp.c1, hp.c2⟩)
  have HZ : RowKit.Hid (w.heap.size + 1 ≤ W0.heap.size) := Lib.hid (by rw [hW0]; simp)
  have H0 : RowKit.Hid (Below (w.heap.size + 1) W0 W0.drew) := Lib.hid (Below.refl _ _).drew
  have H1 : RowKit.Hid (Below (w.heap.size + 1) W0 W0.drew.drew) := Lib.hid (Below.refl _ _).drew.drew
  have H2 : RowKit.Hid (Below (w.heap.size + 1) W0 W0) := Lib.hid (Below.refl _ _)
  have hlc := hP.c.len
  by_cases h : 0 ≤ N ∧ N < (cn : Int)
  · obtain ⟨k, rfl⟩ := Int.eq_ofNat_of_zero_le h.1
    have hk : k < cn := by omega
    obtain ⟨cg, co, cs, hx, rfl, hcl, hcs, f, m, rfl, ⟨a, fnn, fcc, rfl, hfa, _, hfb, _⟩, _⟩ := hP.c.elem hk
    have hc0 : w.cell? ⟨cg, co + k * 2, none⟩ = some (.slice a fnn fcc) := hcs 0 (by simp)
    have HCK : RowKit.Hid (∀ u, Below (w.heap.size + 1) W0 u → u.cell? ⟨cg, co + k * 2, none⟩ = some (.slice a fnn fcc)) := Lib.hid (fun u hu => ((hw0 u hu).cell (p := ⟨cg, co + k * 2, none⟩) (World.block_lt_of_cell? _ _ hc0)).trans hc0)
    have hfo : fieldsOf P k = (P.classes[k]).fields := by unfold fieldsOf; rw [List.getElem?_eq_getElem hx]
    obtain ⟨l, hl⟩ : ∃ l, (P.classes[k]).fields = l := ⟨_, rfl⟩
    rw [hl] at hfa hfo
    have HF : RowKit.Hid (∀ u, Below (w.heap.size + 1) W0 u → NumsAt u a fnn l) := Lib.hid (fun u hu => hfa.since (hw0 u hu))
    have HM := Lib.hid (fun u hu => match_any ta tn tc ts la ln lc L a fnn fcc l u (HT.out u hu) (HL.out u hu) (HF.out u hu) ham (by omega) (by omega) htn)
    have HI := Lib.hid (show inB (k : Int) (cn : Int) = true from decide_eq_true h)
    have hwr : IntKind.i64.wrap (6 + (k : Int)) = 6 + (k : Int) := wrap_small _ (by omega) (by omega)
    have HRR : RowKit.Hid (rowS P 9 (k : Int) S (L.map (tyAt ts)) = (6 + (k : Int), matchB ts L l)) := Lib.hid (by
      show (if 0 ≤ (k : Int) ∧ (k : Int) < P.classes.length then (6 + (k : Int), sameB (L.map (tyAt ts)) (fieldsOf P (k : Int).toNat)) else (-1, false)) = _
      rw [if_pos (by omega), show ((k : Int)).toNat = k from rfl, hfo]
      rfl)
    have HR : RowKit.Hid ((rowS P 9 (k : Int) S (L.map (tyAt ts))).2 = matchB ts L l) := Lib.hid (by rw [HRR.out])
    have HR1 : RowKit.Hid ((rowS P 9 (k : Int) S (L.map (tyAt ts))).1 = 6 + (k : Int)) := Lib.hid (by rw [HRR.out])
    clear hcs hfa hP hat ht ham h hc0 hw0 hl hr hfo
    go_enter Tryd.func39, Tryd.ntmps39
    go_wp2_with fail
    rw [← hW0]
    clear hW0
    go_region_held3 (fun u => u.cell? ⟨w.heap.size, 0, none⟩ = some (.int .i64 9) ∧ u.cell? ⟨w.heap.size, 1, none⟩ = some (.int .i64 A) ∧ u.cell? ⟨w.heap.size, 2, none⟩ = some (.int .i64 B) ∧ u.cell? ⟨w.heap.size, 3, none⟩ = some (.int .i64 C) ∧ u.cell? ⟨w.heap.size, 4, none⟩ = some (.int .i64 (k : Int)) ∧ u.cell? ⟨w.heap.size, 5, none⟩ = some (.string S) ∧ u.cell? ⟨w.heap.size, 6, none⟩ = some (.slice la ln lc) ∧ u.cell? ⟨w.heap.size, 7, none⟩ = some (.bool T) ∧ u.cell? ⟨g, 0, none⟩ = some (.slice sa sn sc) ∧ u.cell? ⟨g, 1, none⟩ = some (.slice (some ⟨cg, co, none⟩) cn cc) ∧ u.cell? ⟨g, 2, none⟩ = some (.slice fa fn fc))
      (exact HC.out _ (RowKit.Hid.out (by assumption)))
      (first | (go_at_call 36; (with_reducible refine (among_any _ _ _).mono ?_); rintro e w' ⟨rfl, rfl⟩; rw [HI.out]))
    go_wp2_with fail
    go_region_held3 (fun u => u.cell? ⟨w.heap.size, 0, none⟩ = some (.int .i64 9) ∧ u.cell? ⟨w.heap.size, 1, none⟩ = some (.int .i64 A) ∧ u.cell? ⟨w.heap.size, 2, none⟩ = some (.int .i64 B) ∧ u.cell? ⟨w.heap.size, 3, none⟩ = some (.int .i64 C) ∧ u.cell? ⟨w.heap.size, 4, none⟩ = some (.int .i64 (k : Int)) ∧ u.cell? ⟨w.heap.size, 5, none⟩ = some (.string S) ∧ u.cell? ⟨w.heap.size, 6, none⟩ = some (.slice la ln lc) ∧ u.cell? ⟨w.heap.size, 7, none⟩ = some (.bool T) ∧ u.cell? ⟨g, 0, none⟩ = some (.slice sa sn sc) ∧ u.cell? ⟨g, 1, none⟩ = some (.slice (some ⟨cg, co, none⟩) cn cc) ∧ u.cell? ⟨g, 2, none⟩ = some (.slice fa fn fc) ∧ u.cell? ⟨cg, co + k * 2, none⟩ = some (.slice a fnn fcc))
      (exact (by have hx1 := HC.out _ (RowKit.Hid.out (by assumption)); have hy0 := HCK.out _ (RowKit.Hid.out (by assumption)); exact ⟨hx1.1, hx1.2.1, hx1.2.2.1, hx1.2.2.2.1, hx1.2.2.2.2.1, hx1.2.2.2.2.2.1, hx1.2.2.2.2.2.2.1, hx1.2.2.2.2.2.2.2.1, hx1.2.2.2.2.2.2.2.2.1, hx1.2.2.2.2.2.2.2.2.2.1, hx1.2.2.2.2.2.2.2.2.2.2, hy0⟩))
      (first | (go_at_call 44; (with_reducible refine (HM.out _ (RowKit.Hid.out (by assumption))).mono ?_); rintro e w' ⟨rfl, hb⟩; have HB := Lib.hid (keepN (RowKit.Hid.out (by assumption : RowKit.Hid (Below (w.heap.size + 1) W0 _))) HZ.out hb); clear hb))
    all_goals go_wp2_with fail
    all_goals refine bodyPost_ret (v := .tuple #[.int .i64 (6 + (k : Int)), .bool (matchB ts L l)]) (by simp [results, Tryd.results39, go_sem]) rfl ⟨6 + (k : Int), by rw [HR.out], fun _ => HR1.out.symm, HW.out _ (by first | exact RowKit.Hid.out (by assumption) | exact H0.out.drewq _ | exact H2.out.drewq _)⟩
  · have HI := Lib.hid (show inB N (cn : Int) = false from decide_eq_false h)
    have HR : RowKit.Hid ((rowS P 9 N S (L.map (tyAt ts))).2 = false) := Lib.hid (by
      unfold rowS
      rw [if_neg (show ¬ (9 : Int) = 0 by decide), if_neg (show ¬ (9 : Int) = 1 by decide), if_neg (show ¬ (9 : Int) = 2 by decide), if_neg (show ¬ (9 : Int) = 3 by decide), if_neg (show ¬ (9 : Int) = 4 by decide), if_neg (show ¬ (9 : Int) = 5 by decide), if_neg (show ¬ (9 : Int) = 6 by decide), if_neg (show ¬ (9 : Int) = 7 by decide), if_neg (show ¬ (9 : Int) = 8 by decide), if_pos rfl, if_neg (by omega)]
      skip)
    clear hP hat ht ham h hw0 hr
    go_enter Tryd.func39, Tryd.ntmps39
    go_wp2_with fail
    rw [← hW0]
    clear hW0
    go_region_held3 (fun u => u.cell? ⟨w.heap.size, 0, none⟩ = some (.int .i64 9) ∧ u.cell? ⟨w.heap.size, 1, none⟩ = some (.int .i64 A) ∧ u.cell? ⟨w.heap.size, 2, none⟩ = some (.int .i64 B) ∧ u.cell? ⟨w.heap.size, 3, none⟩ = some (.int .i64 C) ∧ u.cell? ⟨w.heap.size, 4, none⟩ = some (.int .i64 N) ∧ u.cell? ⟨w.heap.size, 5, none⟩ = some (.string S) ∧ u.cell? ⟨w.heap.size, 6, none⟩ = some (.slice la ln lc) ∧ u.cell? ⟨w.heap.size, 7, none⟩ = some (.bool T) ∧ u.cell? ⟨g, 0, none⟩ = some (.slice sa sn sc) ∧ u.cell? ⟨g, 1, none⟩ = some (.slice ca cn cc) ∧ u.cell? ⟨g, 2, none⟩ = some (.slice fa fn fc))
      (exact HC.out _ (RowKit.Hid.out (by assumption)))
      (first | (go_at_call 36; (with_reducible refine (among_any _ _ _).mono ?_); rintro e w' ⟨rfl, rfl⟩; rw [HI.out]))
    go_wp2_with fail
    refine bodyPost_ret (v := .tuple #[.int .i64 (-1), .bool false]) (by simp [results, Tryd.results39, go_sem]) rfl ⟨-1, by rw [HR.out], fun h => (by rw [HR.out] at h; cases h), HW.out _ (by first | exact RowKit.Hid.out (by assumption) | exact H0.out.drewq _ | exact H2.out.drewq _)⟩

set_option maxRecDepth 100000 in
set_option maxHeartbeats 4000000 in
theorem decl_10 (g : Nat) {sa : Option Addr} {sn sc : Nat} {ca : Option Addr} {cn cc : Nat} {fa : Option Addr} {fn fc : Nat} {P : ProgD} (A B C N : Int) (S : ByteArray) (la : Option Addr) (ln lc : Nat) (T : Bool) (L : List Int) (ta : Option Addr) (tn tc : Nat) (ts : List Int) (w : World)
    (hP : ProgAt w g sa sn sc ca cn cc fa fn fc P) (hat : NumsAt w la ln L) (hln : ln ≤ 17592186044000) (ht : NumsAt w ta tn ts) (htn : tn ≤ 140737488355328) (hr : ∀ z ∈ ts, InR z) (hN : InR N) (ham : Among (usesL 10 A B C L) tn) :
    Calls Tryd.prog 39 #[.pointer (some ⟨g, 0, none⟩), .agg #[.int .i64 10, .int .i64 A, .int .i64 B, .int .i64 C, .int .i64 N, .string S, .slice la ln lc, .bool T], .slice ta tn tc] w (RowPost (rowS P 10 N S ((usesL 10 A B C L).map (tyAt ts))) w) := by
  have hu : usesL 10 A B C L = [A] := by simp [usesL, hasB, fieldsL, oneL, pickL]
  rw [hu] at ham ⊢
  obtain ⟨W0, hW0⟩ : ∃ W0, W0 = w.alloc (.cells #[.int .i64 10, .int .i64 A, .int .i64 B, .int .i64 C, .int .i64 N, .string S, .slice la ln lc, .bool T] 24) := ⟨_, rfl⟩
  have hw0 : ∀ u, Below (w.heap.size + 1) W0 u → Below w.heap.size w u := fun u hu => by rw [hW0] at hu; exact first_below hu
  have HW := Lib.hid hw0
  have HP : RowKit.Hid (∀ u, Below (w.heap.size + 1) W0 u → ProgAt u g sa sn sc ca cn cc fa fn fc P) := Lib.hid (fun u hu => hP.since (hw0 u hu))
  have HT : RowKit.Hid (∀ u, Below (w.heap.size + 1) W0 u → NumsAt u ta tn ts) := Lib.hid (fun u hu => ht.since (hw0 u hu))
  have HL : RowKit.Hid (∀ u, Below (w.heap.size + 1) W0 u → NumsAt u la ln L) := Lib.hid (fun u hu => hat.since (hw0 u hu))
  have HC : RowKit.Hid (∀ u, Below (w.heap.size + 1) W0 u → u.cell? ⟨w.heap.size, 0, none⟩ = some (.int .i64 10) ∧ u.cell? ⟨w.heap.size, 1, none⟩ = some (.int .i64 A) ∧ u.cell? ⟨w.heap.size, 2, none⟩ = some (.int .i64 B) ∧ u.cell? ⟨w.heap.size, 3, none⟩ = some (.int .i64 C) ∧ u.cell? ⟨w.heap.size, 4, none⟩ = some (.int .i64 N) ∧ u.cell? ⟨w.heap.size, 5, none⟩ = some (.string S) ∧ u.cell? ⟨w.heap.size, 6, none⟩ = some (.slice la ln lc) ∧ u.cell? ⟨w.heap.size, 7, none⟩ = some (.bool T) ∧ u.cell? ⟨g, 0, none⟩ = some (.slice sa sn sc) ∧ u.cell? ⟨g, 1, none⟩ = some (.slice ca cn cc) ∧ u.cell? ⟨g, 2, none⟩ = some (.slice fa fn fc)) :=
    Lib.hid (fun u hu => by have hp := HP.out u hu; rw [hW0] at hu; exact ⟨first_cells hu 0 _ rfl, first_cells hu 1 _ rfl, first_cells hu 2 _ rfl, first_cells hu 3 _ rfl, first_cells hu 4 _ rfl, first_cells hu 5 _ rfl, first_cells hu 6 _ rfl, first_cells hu 7 _ rfl, hp.c0, hp.c1, hp.c2⟩)
  have HZ : RowKit.Hid (w.heap.size + 1 ≤ W0.heap.size) := Lib.hid (by rw [hW0]; simp)
  have H0 : RowKit.Hid (Below (w.heap.size + 1) W0 W0.drew) := Lib.hid (Below.refl _ _).drew
  have H1 : RowKit.Hid (Below (w.heap.size + 1) W0 W0.drew.drew) := Lib.hid (Below.refl _ _).drew.drew
  have H2 : RowKit.Hid (Below (w.heap.size + 1) W0 W0) := Lib.hid (Below.refl _ _)
  obtain ⟨yA, hA⟩ : ∃ t, tyAt ts A = t := ⟨_, rfl⟩
  have RA : InR yA := by rw [← hA]; exact hr _ (tyAt_mem ht.1 (ham A (by simp)))
  obtain ⟨gA, oA, jA, eA, fA, lA, cA⟩ := ht.type (ham A (by simp))
  rw [hA] at cA
  have HTA : RowKit.Hid (∀ u, Below (w.heap.size + 1) W0 u → u.cell? ⟨gA, oA + jA, none⟩ = some (.int .i64 yA)) := Lib.hid (fun u hu => ((hw0 u hu).cell (p := ⟨gA, oA + jA, none⟩) (World.block_lt_of_cell? _ _ cA)).trans cA)
  rw [List.map_cons, List.map_nil, hA]
  obtain ⟨f1, f2, hf⟩ : ∃ f1 f2, fieldS P yA N = (f1, f2) := ⟨_, _, rfl⟩
  have HFD : RowKit.Hid (∀ u, Below (w.heap.size + 1) W0 u → Calls Tryd.prog 45 #[.pointer (some ⟨g, 0, none⟩), .int .i64 yA, .int .i64 N] u fun e w' => e = .returned (.tuple #[.int .i64 f1, .bool f2]) ∧ u = w') := Lib.hid (fun u hu => by have := field_any g yA N u (HP.out u hu) RA hN; rw [hf] at this; exact this)
  have HR : RowKit.Hid ((rowS P 10 N S [yA]).2 = f2) := Lib.hid (by show (fieldS P yA N).2 = f2; rw [hf])
  have HR1 : RowKit.Hid ((rowS P 10 N S [yA]).1 = f1) := Lib.hid (by show (fieldS P yA N).1 = f1; rw [hf])
  subst eA fA
  clear hP hat ht ham hw0 hr hA cA hf
  go_enter Tryd.func39, Tryd.ntmps39
  go_wp2_with fail
  rw [← hW0]
  clear hW0
  go_region_held3 (fun u => u.cell? ⟨w.heap.size, 0, none⟩ = some (.int .i64 10) ∧ u.cell? ⟨w.heap.size, 1, none⟩ = some (.int .i64 (jA : Int)) ∧ u.cell? ⟨w.heap.size, 2, none⟩ = some (.int .i64 B) ∧ u.cell? ⟨w.heap.size, 3, none⟩ = some (.int .i64 C) ∧ u.cell? ⟨w.heap.size, 4, none⟩ = some (.int .i64 N) ∧ u.cell? ⟨w.heap.size, 5, none⟩ = some (.string S) ∧ u.cell? ⟨w.heap.size, 6, none⟩ = some (.slice la ln lc) ∧ u.cell? ⟨w.heap.size, 7, none⟩ = some (.bool T) ∧ u.cell? ⟨g, 0, none⟩ = some (.slice sa sn sc) ∧ u.cell? ⟨g, 1, none⟩ = some (.slice ca cn cc) ∧ u.cell? ⟨g, 2, none⟩ = some (.slice fa fn fc) ∧ u.cell? ⟨gA, oA + jA, none⟩ = some (.int .i64 yA))
    (exact (by have hx1 := HC.out _ (RowKit.Hid.out (by assumption)); have hy0 := HTA.out _ (RowKit.Hid.out (by assumption)); exact ⟨hx1.1, hx1.2.1, hx1.2.2.1, hx1.2.2.2.1, hx1.2.2.2.2.1, hx1.2.2.2.2.2.1, hx1.2.2.2.2.2.2.1, hx1.2.2.2.2.2.2.2.1, hx1.2.2.2.2.2.2.2.2.1, hx1.2.2.2.2.2.2.2.2.2.1, hx1.2.2.2.2.2.2.2.2.2.2, hy0⟩))
    (first | (go_at_call 45; (with_reducible refine (HFD.out _ (RowKit.Hid.out (by assumption))).mono ?_); rintro e w' ⟨rfl, rfl⟩))
  all_goals go_wp2_with fail
  all_goals refine bodyPost_ret (v := .tuple #[.int .i64 f1, .bool f2]) (by simp [results, Tryd.results39, go_sem]) rfl ⟨f1, by rw [HR.out], fun _ => HR1.out.symm, HW.out _ (by first | exact RowKit.Hid.out (by assumption) | exact H0.out.drewq _ | exact H2.out.drewq _)⟩

set_option maxRecDepth 100000 in
set_option maxHeartbeats 4000000 in
theorem decl_11 (g : Nat) {sa : Option Addr} {sn sc : Nat} {ca : Option Addr} {cn cc : Nat} {fa : Option Addr} {fn fc : Nat} {P : ProgD} (A B C N : Int) (S : ByteArray) (la : Option Addr) (ln lc : Nat) (T : Bool) (L : List Int) (ta : Option Addr) (tn tc : Nat) (ts : List Int) (w : World)
    (hP : ProgAt w g sa sn sc ca cn cc fa fn fc P) (hat : NumsAt w la ln L) (hln : ln ≤ 17592186044000) (ht : NumsAt w ta tn ts) (htn : tn ≤ 140737488355328) (hr : ∀ z ∈ ts, InR z) (hN : InR N) (ham : Among (usesL 11 A B C L) tn) :
    Calls Tryd.prog 39 #[.pointer (some ⟨g, 0, none⟩), .agg #[.int .i64 11, .int .i64 A, .int .i64 B, .int .i64 C, .int .i64 N, .string S, .slice la ln lc, .bool T], .slice ta tn tc] w (RowPost (rowS P 11 N S ((usesL 11 A B C L).map (tyAt ts))) w) := by
  have hu : usesL 11 A B C L = [A, B] := by simp [usesL, hasB, fieldsL, oneL, pickL]
  rw [hu] at ham ⊢
  obtain ⟨W0, hW0⟩ : ∃ W0, W0 = w.alloc (.cells #[.int .i64 11, .int .i64 A, .int .i64 B, .int .i64 C, .int .i64 N, .string S, .slice la ln lc, .bool T] 24) := ⟨_, rfl⟩
  have hw0 : ∀ u, Below (w.heap.size + 1) W0 u → Below w.heap.size w u := fun u hu => by rw [hW0] at hu; exact first_below hu
  have HW := Lib.hid hw0
  have HP : RowKit.Hid (∀ u, Below (w.heap.size + 1) W0 u → ProgAt u g sa sn sc ca cn cc fa fn fc P) := Lib.hid (fun u hu => hP.since (hw0 u hu))
  have HT : RowKit.Hid (∀ u, Below (w.heap.size + 1) W0 u → NumsAt u ta tn ts) := Lib.hid (fun u hu => ht.since (hw0 u hu))
  have HL : RowKit.Hid (∀ u, Below (w.heap.size + 1) W0 u → NumsAt u la ln L) := Lib.hid (fun u hu => hat.since (hw0 u hu))
  have HC : RowKit.Hid (∀ u, Below (w.heap.size + 1) W0 u → u.cell? ⟨w.heap.size, 0, none⟩ = some (.int .i64 11) ∧ u.cell? ⟨w.heap.size, 1, none⟩ = some (.int .i64 A) ∧ u.cell? ⟨w.heap.size, 2, none⟩ = some (.int .i64 B) ∧ u.cell? ⟨w.heap.size, 3, none⟩ = some (.int .i64 C) ∧ u.cell? ⟨w.heap.size, 4, none⟩ = some (.int .i64 N) ∧ u.cell? ⟨w.heap.size, 5, none⟩ = some (.string S) ∧ u.cell? ⟨w.heap.size, 6, none⟩ = some (.slice la ln lc) ∧ u.cell? ⟨w.heap.size, 7, none⟩ = some (.bool T) ∧ u.cell? ⟨g, 0, none⟩ = some (.slice sa sn sc) ∧ u.cell? ⟨g, 1, none⟩ = some (.slice ca cn cc) ∧ u.cell? ⟨g, 2, none⟩ = some (.slice fa fn fc)) :=
    Lib.hid (fun u hu => by have hp := HP.out u hu; rw [hW0] at hu; exact ⟨first_cells hu 0 _ rfl, first_cells hu 1 _ rfl, first_cells hu 2 _ rfl, first_cells hu 3 _ rfl, first_cells hu 4 _ rfl, first_cells hu 5 _ rfl, first_cells hu 6 _ rfl, first_cells hu 7 _ rfl, hp.c0, hp.c1, hp.c2⟩)
  have HZ : RowKit.Hid (w.heap.size + 1 ≤ W0.heap.size) := Lib.hid (by rw [hW0]; simp)
  have H0 : RowKit.Hid (Below (w.heap.size + 1) W0 W0.drew) := Lib.hid (Below.refl _ _).drew
  have H1 : RowKit.Hid (Below (w.heap.size + 1) W0 W0.drew.drew) := Lib.hid (Below.refl _ _).drew.drew
  have H2 : RowKit.Hid (Below (w.heap.size + 1) W0 W0) := Lib.hid (Below.refl _ _)
  obtain ⟨yA, hA⟩ : ∃ t, tyAt ts A = t := ⟨_, rfl⟩
  have RA : InR yA := by rw [← hA]; exact hr _ (tyAt_mem ht.1 (ham A (by simp)))
  obtain ⟨gA, oA, jA, eA, fA, lA, cA⟩ := ht.type (ham A (by simp))
  rw [hA] at cA
  have HTA : RowKit.Hid (∀ u, Below (w.heap.size + 1) W0 u → u.cell? ⟨gA, oA + jA, none⟩ = some (.int .i64 yA)) := Lib.hid (fun u hu => ((hw0 u hu).cell (p := ⟨gA, oA + jA, none⟩) (World.block_lt_of_cell? _ _ cA)).trans cA)
  obtain ⟨yB, hB⟩ : ∃ t, tyAt ts B = t := ⟨_, rfl⟩
  have RB : InR yB := by rw [← hB]; exact hr _ (tyAt_mem ht.1 (ham B (by simp)))
  obtain ⟨gB, oB, jB, eB, fB, lB, cB⟩ := ht.type (ham B (by simp))
  rw [hB] at cB
  have HTB : RowKit.Hid (∀ u, Below (w.heap.size + 1) W0 u → u.cell? ⟨gB, oB + jB, none⟩ = some (.int .i64 yB)) := Lib.hid (fun u hu => ((hw0 u hu).cell (p := ⟨gB, oB + jB, none⟩) (World.block_lt_of_cell? _ _ cB)).trans cB)
  rw [List.map_cons, List.map_cons, List.map_nil, hA, hB]
  obtain ⟨f1, f2, hf⟩ : ∃ f1 f2, fieldS P yA N = (f1, f2) := ⟨_, _, rfl⟩
  have HFD : RowKit.Hid (∀ u, Below (w.heap.size + 1) W0 u → Calls Tryd.prog 45 #[.pointer (some ⟨g, 0, none⟩), .int .i64 yA, .int .i64 N] u fun e w' => e = .returned (.tuple #[.int .i64 f1, .bool f2]) ∧ u = w') := Lib.hid (fun u hu => by have := field_any g yA N u (HP.out u hu) RA hN; rw [hf] at this; exact this)
  have hrr : (rowS P 11 N S [yA, yB]).2 = (f2 && (yB == f1)) := by show ((fieldS P yA N).2 && (yB == (fieldS P yA N).1)) = _; rw [hf]
  have HR1 : RowKit.Hid ((rowS P 11 N S [yA, yB]).1 = -1) := Lib.hid rfl
  subst eA
  cases eB
  subst fA fB
  have hx2 := HTA.out W0 H2.out
  have hx3 := HTB.out W0 H2.out
  obtain ⟨z0, z1, z2, z3, z4, z5, z6, z7, z8, z9, z10⟩ := HC.out W0 H2.out
  clear hP hat ht ham hw0 hr hA hB cA cB hf
  cases f2 with
  | false =>
    have HR : RowKit.Hid ((rowS P 11 N S [yA, yB]).2 = false) := Lib.hid (by rw [hrr]; rfl)
    clear hrr
    go_enter Tryd.func39, Tryd.ntmps39
    go_wp2_with fail
    rw [← hW0]
    clear hW0
    go_region_held3 (fun u => u.cell? ⟨w.heap.size, 0, none⟩ = some (.int .i64 11) ∧ u.cell? ⟨w.heap.size, 1, none⟩ = some (.int .i64 (jA : Int)) ∧ u.cell? ⟨w.heap.size, 2, none⟩ = some (.int .i64 (jB : Int)) ∧ u.cell? ⟨w.heap.size, 3, none⟩ = some (.int .i64 C) ∧ u.cell? ⟨w.heap.size, 4, none⟩ = some (.int .i64 N) ∧ u.cell? ⟨w.heap.size, 5, none⟩ = some (.string S) ∧ u.cell? ⟨w.heap.size, 6, none⟩ = some (.slice la ln lc) ∧ u.cell? ⟨w.heap.size, 7, none⟩ = some (.bool T) ∧ u.cell? ⟨g, 0, none⟩ = some (.slice sa sn sc) ∧ u.cell? ⟨g, 1, none⟩ = some (.slice ca cn cc) ∧ u.cell? ⟨g, 2, none⟩ = some (.slice fa fn fc) ∧ u.cell? ⟨gA, oA + jA, none⟩ = some (.int .i64 yA) ∧ u.cell? ⟨gA, oA + jB, none⟩ = some (.int .i64 yB))
      (exact (by have hx1 := HC.out _ (RowKit.Hid.out (by assumption)); have hy0 := HTA.out _ (RowKit.Hid.out (by assumption)); have hy1 := HTB.out _ (RowKit.Hid.out (by assumption)); exact ⟨hx1.1, hx1.2.1, hx1.2.2.1, hx1.2.2.2.1, hx1.2.2.2.2.1, hx1.2.2.2.2.2.1, hx1.2.2.2.2.2.2.1, hx1.2.2.2.2.2.2.2.1, hx1.2.2.2.2.2.2.2.2.1, hx1.2.2.2.2.2.2.2.2.2.1, hx1.2.2.2.2.2.2.2.2.2.2, hy0, hy1⟩))
      (first | (go_at_call 45; (with_reducible refine (HFD.out _ (RowKit.Hid.out (by assumption))).mono ?_); rintro e w' ⟨rfl, rfl⟩))
    all_goals go_wp2_with fail
    all_goals go_quiet (fail)
    all_goals go_wp2_with fail
    all_goals refine bodyPost_ret (v := .tuple #[.int .i64 (-1), .bool false]) (by simp [results, Tryd.results39, go_sem]) rfl ⟨-1, by rw [HR.out], fun _ => HR1.out.symm, HW.out _ (by first | exact RowKit.Hid.out (by assumption) | exact H0.out.drewq _ | exact H2.out.drewq _)⟩
  | true =>
    have HR : RowKit.Hid ((rowS P 11 N S [yA, yB]).2 = (yB == f1)) := Lib.hid (by rw [hrr]; rfl)
    clear hrr
    go_enter Tryd.func39, Tryd.ntmps39
    go_wp2_with fail
    rw [← hW0]
    clear hW0
    go_region_held3 (fun u => u.cell? ⟨w.heap.size, 0, none⟩ = some (.int .i64 11) ∧ u.cell? ⟨w.heap.size, 1, none⟩ = some (.int .i64 (jA : Int)) ∧ u.cell? ⟨w.heap.size, 2, none⟩ = some (.int .i64 (jB : Int)) ∧ u.cell? ⟨w.heap.size, 3, none⟩ = some (.int .i64 C) ∧ u.cell? ⟨w.heap.size, 4, none⟩ = some (.int .i64 N) ∧ u.cell? ⟨w.heap.size, 5, none⟩ = some (.string S) ∧ u.cell? ⟨w.heap.size, 6, none⟩ = some (.slice la ln lc) ∧ u.cell? ⟨w.heap.size, 7, none⟩ = some (.bool T) ∧ u.cell? ⟨g, 0, none⟩ = some (.slice sa sn sc) ∧ u.cell? ⟨g, 1, none⟩ = some (.slice ca cn cc) ∧ u.cell? ⟨g, 2, none⟩ = some (.slice fa fn fc) ∧ u.cell? ⟨gA, oA + jA, none⟩ = some (.int .i64 yA) ∧ u.cell? ⟨gA, oA + jB, none⟩ = some (.int .i64 yB))
      (exact (by have hx1 := HC.out _ (RowKit.Hid.out (by assumption)); have hy0 := HTA.out _ (RowKit.Hid.out (by assumption)); have hy1 := HTB.out _ (RowKit.Hid.out (by assumption)); exact ⟨hx1.1, hx1.2.1, hx1.2.2.1, hx1.2.2.2.1, hx1.2.2.2.2.1, hx1.2.2.2.2.2.1, hx1.2.2.2.2.2.2.1, hx1.2.2.2.2.2.2.2.1, hx1.2.2.2.2.2.2.2.2.1, hx1.2.2.2.2.2.2.2.2.2.1, hx1.2.2.2.2.2.2.2.2.2.2, hy0, hy1⟩))
      (first | (go_at_call 45; (with_reducible refine (HFD.out _ (RowKit.Hid.out (by assumption))).mono ?_); rintro e w' ⟨rfl, rfl⟩))
    all_goals go_wp2_with fail
    all_goals go_quiet (fail)
    all_goals go_wp2_with fail
    all_goals refine bodyPost_ret (v := .tuple #[.int .i64 (-1), .bool (yB == f1)]) (by simp [results, Tryd.results39, go_sem]) rfl ⟨-1, by rw [HR.out], fun _ => HR1.out.symm, HW.out _ (by first | exact RowKit.Hid.out (by assumption) | exact H0.out.drewq _ | exact H2.out.drewq _)⟩

set_option maxRecDepth 100000 in
set_option maxHeartbeats 4000000 in
theorem decl_22 (g : Nat) {sa : Option Addr} {sn sc : Nat} {ca : Option Addr} {cn cc : Nat} {fa : Option Addr} {fn fc : Nat} {P : ProgD} (A B C N : Int) (S : ByteArray) (la : Option Addr) (ln lc : Nat) (T : Bool) (L : List Int) (ta : Option Addr) (tn tc : Nat) (ts : List Int) (w : World)
    (hP : ProgAt w g sa sn sc ca cn cc fa fn fc P) (hat : NumsAt w la ln L) (hln : ln ≤ 17592186044000) (ht : NumsAt w ta tn ts) (htn : tn ≤ 140737488355328) (hr : ∀ z ∈ ts, InR z) (hN : InR N) (ham : Among (usesL 22 A B C L) tn) :
    Calls Tryd.prog 39 #[.pointer (some ⟨g, 0, none⟩), .agg #[.int .i64 22, .int .i64 A, .int .i64 B, .int .i64 C, .int .i64 N, .string S, .slice la ln lc, .bool T], .slice ta tn tc] w (RowPost (rowS P 22 N S ((usesL 22 A B C L).map (tyAt ts))) w) := by
  have hu : usesL 22 A B C L = [A] := by simp [usesL, hasB, fieldsL, oneL, pickL]
  rw [hu] at ham ⊢
  obtain ⟨W0, hW0⟩ : ∃ W0, W0 = w.alloc (.cells #[.int .i64 22, .int .i64 A, .int .i64 B, .int .i64 C, .int .i64 N, .string S, .slice la ln lc, .bool T] 24) := ⟨_, rfl⟩
  have hw0 : ∀ u, Below (w.heap.size + 1) W0 u → Below w.heap.size w u := fun u hu => by rw [hW0] at hu; exact first_below hu
  have HW := Lib.hid hw0
  have HP : RowKit.Hid (∀ u, Below (w.heap.size + 1) W0 u → ProgAt u g sa sn sc ca cn cc fa fn fc P) := Lib.hid (fun u hu => hP.since (hw0 u hu))
  have HT : RowKit.Hid (∀ u, Below (w.heap.size + 1) W0 u → NumsAt u ta tn ts) := Lib.hid (fun u hu => ht.since (hw0 u hu))
  have HL : RowKit.Hid (∀ u, Below (w.heap.size + 1) W0 u → NumsAt u la ln L) := Lib.hid (fun u hu => hat.since (hw0 u hu))
  have HC : RowKit.Hid (∀ u, Below (w.heap.size + 1) W0 u → u.cell? ⟨w.heap.size, 0, none⟩ = some (.int .i64 22) ∧ u.cell? ⟨w.heap.size, 1, none⟩ = some (.int .i64 A) ∧ u.cell? ⟨w.heap.size, 2, none⟩ = some (.int .i64 B) ∧ u.cell? ⟨w.heap.size, 3, none⟩ = some (.int .i64 C) ∧ u.cell? ⟨w.heap.size, 4, none⟩ = some (.int .i64 N) ∧ u.cell? ⟨w.heap.size, 5, none⟩ = some (.string S) ∧ u.cell? ⟨w.heap.size, 6, none⟩ = some (.slice la ln lc) ∧ u.cell? ⟨w.heap.size, 7, none⟩ = some (.bool T) ∧ u.cell? ⟨g, 0, none⟩ = some (.slice sa sn sc) ∧ u.cell? ⟨g, 1, none⟩ = some (.slice ca cn cc) ∧ u.cell? ⟨g, 2, none⟩ = some (.slice fa fn fc)) :=
    Lib.hid (fun u hu => by have hp := HP.out u hu; rw [hW0] at hu; exact ⟨first_cells hu 0 _ rfl, first_cells hu 1 _ rfl, first_cells hu 2 _ rfl, first_cells hu 3 _ rfl, first_cells hu 4 _ rfl, first_cells hu 5 _ rfl, first_cells hu 6 _ rfl, first_cells hu 7 _ rfl, hp.c0, hp.c1, hp.c2⟩)
  have HZ : RowKit.Hid (w.heap.size + 1 ≤ W0.heap.size) := Lib.hid (by rw [hW0]; simp)
  have H0 : RowKit.Hid (Below (w.heap.size + 1) W0 W0.drew) := Lib.hid (Below.refl _ _).drew
  have H1 : RowKit.Hid (Below (w.heap.size + 1) W0 W0.drew.drew) := Lib.hid (Below.refl _ _).drew.drew
  have H2 : RowKit.Hid (Below (w.heap.size + 1) W0 W0) := Lib.hid (Below.refl _ _)
  obtain ⟨yA, hA⟩ : ∃ t, tyAt ts A = t := ⟨_, rfl⟩
  have RA : InR yA := by rw [← hA]; exact hr _ (tyAt_mem ht.1 (ham A (by simp)))
  obtain ⟨gA, oA, jA, eA, fA, lA, cA⟩ := ht.type (ham A (by simp))
  rw [hA] at cA
  have HTA : RowKit.Hid (∀ u, Below (w.heap.size + 1) W0 u → u.cell? ⟨gA, oA + jA, none⟩ = some (.int .i64 yA)) := Lib.hid (fun u hu => ((hw0 u hu).cell (p := ⟨gA, oA + jA, none⟩) (World.block_lt_of_cell? _ _ cA)).trans cA)
  rw [List.map_cons, List.map_nil, hA]
  have hlc := hP.c.len
  have HPT : RowKit.Hid (∀ u, Below (w.heap.size + 1) W0 u → Calls Tryd.prog 46 #[.pointer (some ⟨g, 0, none⟩), .int .i64 yA] u fun e w' => e = .returned (.bool (ptrB cn yA)) ∧ u = w') := Lib.hid (fun u hu => pointer_any g ca cn cc yA u (HP.out u hu).c1 RA (by omega))
  have HR : RowKit.Hid ((rowS P 22 N S [yA]).2 = ptrB cn yA) := Lib.hid (by show ptrB P.classes.length yA = _; rw [hlc.1])
  have HR1 : RowKit.Hid ((rowS P 22 N S [yA]).1 = 5) := Lib.hid rfl
  subst eA fA
  have hx1 := HC.out W0 H2.out
  have hx2 := HTA.out W0 H2.out
  have HPT0 := Lib.hid (HPT.out W0 H2.out)
  have HBW := Lib.hid (HW.out W0 H2.out)
  rw [hW0] at hx1 hx2 HPT0 HBW
  obtain ⟨z0, z1, z2, z3, z4, z5, z6, z7, z8, z9, z10⟩ := hx1
  clear hP hat ht ham hw0 hr hA cA HPT HW HC HTA HP HT HL H0 H1 H2 HZ hW0
  go_enter Tryd.func39, Tryd.ntmps39
  go_wp2_with (go_at_call 46; (with_reducible refine (HPT0.out).mono ?_); rintro e w' ⟨rfl, rfl⟩)
  refine bodyPost_ret (v := .tuple #[.int .i64 5, .bool (ptrB cn yA)]) (by simp [results, Tryd.results39, go_sem]) rfl ⟨5, by rw [HR.out], fun _ => HR1.out.symm, HBW.out⟩

set_option maxRecDepth 100000 in
set_option maxHeartbeats 4000000 in
theorem decl_23 (g : Nat) {sa : Option Addr} {sn sc : Nat} {ca : Option Addr} {cn cc : Nat} {fa : Option Addr} {fn fc : Nat} {P : ProgD} (A B C N : Int) (S : ByteArray) (la : Option Addr) (ln lc : Nat) (T : Bool) (L : List Int) (ta : Option Addr) (tn tc : Nat) (ts : List Int) (w : World)
    (hP : ProgAt w g sa sn sc ca cn cc fa fn fc P) (hat : NumsAt w la ln L) (hln : ln ≤ 17592186044000) (ht : NumsAt w ta tn ts) (htn : tn ≤ 140737488355328) (hr : ∀ z ∈ ts, InR z) (hN : InR N) (ham : Among (usesL 23 A B C L) tn) :
    Calls Tryd.prog 39 #[.pointer (some ⟨g, 0, none⟩), .agg #[.int .i64 23, .int .i64 A, .int .i64 B, .int .i64 C, .int .i64 N, .string S, .slice la ln lc, .bool T], .slice ta tn tc] w (RowPost (rowS P 23 N S ((usesL 23 A B C L).map (tyAt ts))) w) := by
  have hu : usesL 23 A B C L = L := by simp [usesL, hasB, fieldsL, oneL, pickL]
  rw [hu] at ham ⊢
  obtain ⟨W0, hW0⟩ : ∃ W0, W0 = w.alloc (.cells #[.int .i64 23, .int .i64 A, .int .i64 B, .int .i64 C, .int .i64 N, .string S, .slice la ln lc, .bool T] 24) := ⟨_, rfl⟩
  have hw0 : ∀ u, Below (w.heap.size + 1) W0 u → Below w.heap.size w u := fun u hu => by rw [hW0] at hu; exact first_below hu
  have HW := Lib.hid hw0
  have HP : RowKit.Hid (∀ u, Below (w.heap.size + 1) W0 u → ProgAt u g sa sn sc ca cn cc fa fn fc P) := Lib.hid (fun u hu => hP.since (hw0 u hu))
  have HT : RowKit.Hid (∀ u, Below (w.heap.size + 1) W0 u → NumsAt u ta tn ts) := Lib.hid (fun u hu => ht.since (hw0 u hu))
  have HL : RowKit.Hid (∀ u, Below (w.heap.size + 1) W0 u → NumsAt u la ln L) := Lib.hid (fun u hu => hat.since (hw0 u hu))
  have HC : RowKit.Hid (∀ u, Below (w.heap.size + 1) W0 u → u.cell? ⟨w.heap.size, 0, none⟩ = some (.int .i64 23) ∧ u.cell? ⟨w.heap.size, 1, none⟩ = some (.int .i64 A) ∧ u.cell? ⟨w.heap.size, 2, none⟩ = some (.int .i64 B) ∧ u.cell? ⟨w.heap.size, 3, none⟩ = some (.int .i64 C) ∧ u.cell? ⟨w.heap.size, 4, none⟩ = some (.int .i64 N) ∧ u.cell? ⟨w.heap.size, 5, none⟩ = some (.string S) ∧ u.cell? ⟨w.heap.size, 6, none⟩ = some (.slice la ln lc) ∧ u.cell? ⟨w.heap.size, 7, none⟩ = some (.bool T) ∧ u.cell? ⟨g, 0, none⟩ = some (.slice sa sn sc) ∧ u.cell? ⟨g, 1, none⟩ = some (.slice ca cn cc) ∧ u.cell? ⟨g, 2, none⟩ = some (.slice fa fn fc)) :=
    Lib.hid (fun u hu => by have hp := HP.out u hu; rw [hW0] at hu; exact ⟨first_cells hu 0 _ rfl, first_cells hu 1 _ rfl, first_cells hu 2 _ rfl, first_cells hu 3 _ rfl, first_cells hu 4 _ rfl, first_cells hu 5 _ rfl, first_cells hu 6 _ rfl, first_cells hu 7 _ rfl, hp.c0, hp.c1, hp.c2⟩)
  have HZ : RowKit.Hid (w.heap.size + 1 ≤ W0.heap.size) := Lib.hid (by rw [hW0]; simp)
  have H0 : RowKit.Hid (Below (w.heap.size + 1) W0 W0.drew) := Lib.hid (Below.refl _ _).drew
  have H1 : RowKit.Hid (Below (w.heap.size + 1) W0 W0.drew.drew) := Lib.hid (Below.refl _ _).drew.drew
  have H2 : RowKit.Hid (Below (w.heap.size + 1) W0 W0) := Lib.hid (Below.refl _ _)
  have hlc := hP.f.len
  by_cases h : 0 ≤ N ∧ N < (fn : Int)
  · obtain ⟨k, rfl⟩ := Int.eq_ofNat_of_zero_le h.1
    have hk : k < fn := by omega
    obtain ⟨fg, fo, cs, hx, rfl, hcl, hcs, b, rfl, _, hbl⟩ := hP.f.elem hk
    have hb2 := hbl
    obtain ⟨ba, bn, bc, rfl, _⟩ := hb2
    have hc0 : w.cell? ⟨fg, fo + k * 2, none⟩ = some (.int .i64 (P.funcs[k]).ret) := hcs 0 (by simp)
    have hc1 : w.cell? ⟨fg, fo + k * 2 + 1, none⟩ = some (.slice ba bn bc) := hcs 1 (by simp)
    have hfo : funcOf P k = P.funcs[k] := by unfold funcOf; rw [List.getElem?_eq_getElem hx]
    obtain ⟨G, hG⟩ : ∃ G, P.funcs[k] = G := ⟨_, rfl⟩
    rw [hG] at hbl hfo hc0
    have HCK : RowKit.Hid (∀ u, Below (w.heap.size + 1) W0 u → u.cell? ⟨fg, fo + k * 2, none⟩ = some (.int .i64 G.ret)) := Lib.hid (fun u hu => ((hw0 u hu).cell (p := ⟨fg, fo + k * 2, none⟩) (World.block_lt_of_cell? _ _ hc0)).trans hc0)
    have HCL : RowKit.Hid (∀ u, Below (w.heap.size + 1) W0 u → u.cell? ⟨fg, fo + k * 2 + 1, none⟩ = some (.slice ba bn bc)) := Lib.hid (fun u hu => ((hw0 u hu).cell (p := ⟨fg, fo + k * 2 + 1, none⟩) (World.block_lt_of_cell? _ _ hc1)).trans hc1)
    have HBL : RowKit.Hid (∀ u, Below (w.heap.size + 1) W0 u → RowV BlockQ 8 u (.slice ba bn bc) G.blocks) := Lib.hid (fun u hu => hbl.since BlockQ.lasts (hw0 u hu))
    obtain ⟨c1, c2, hcc⟩ : ∃ c1 c2, callS G ts L = (c1, c2) := ⟨_, _, rfl⟩
    have HM : RowKit.Hid (∀ u, Below (w.heap.size + 1) W0 u → Calls Tryd.prog 47 #[.agg #[.int .i64 G.ret, .slice ba bn bc], .agg #[.int .i64 23, .int .i64 A, .int .i64 B, .int .i64 C, .int .i64 (k : Int), .string S, .slice la ln lc, .bool T], .slice ta tn tc] u fun e w' => e = .returned (.tuple #[.int .i64 c1, .bool c2]) ∧ Below u.heap.size u w') := Lib.hid (fun u hu => by have := call_any ba bn bc G 23 A B C (k : Int) S la ln lc T L ta tn tc ts u (HBL.out u hu) (HL.out u hu) hln (HT.out u hu) htn ham; rw [hcc] at this; exact this)
    have HI := Lib.hid (show inB (k : Int) (fn : Int) = true from decide_eq_true h)
    have HRR : RowKit.Hid (rowS P 23 (k : Int) S (L.map (tyAt ts)) = (c1, c2)) := Lib.hid (by
      rw [← hcc]
      show (if 0 ≤ (k : Int) ∧ (k : Int) < P.funcs.length ∧ (funcOf P (k : Int).toNat).blocks.length ≠ 0 then ((funcOf P (k : Int).toNat).ret, sameB (L.map (tyAt ts)) (paramsOf (funcOf P (k : Int).toNat))) else (-1, false)) = _
      rw [show ((k : Int)).toNat = k from rfl, hfo]
      unfold callS
      by_cases hb0 : G.blocks.length = 0
      · rw [if_neg (fun hh => hh.2.2 hb0), if_pos hb0]
      · rw [if_pos ⟨by omega, by omega, hb0⟩, if_neg hb0]
        rfl)
    have HR : RowKit.Hid ((rowS P 23 (k : Int) S (L.map (tyAt ts))).2 = c2) := Lib.hid (by rw [HRR.out])
    have HR1 : RowKit.Hid ((rowS P 23 (k : Int) S (L.map (tyAt ts))).1 = c1) := Lib.hid (by rw [HRR.out])
    clear hcs hbl hP hat ht ham h hc0 hc1 hw0 hG hr hfo hcc
    go_enter Tryd.func39, Tryd.ntmps39
    go_wp2_with fail
    rw [← hW0]
    clear hW0
    go_region_held3 (fun u => u.cell? ⟨w.heap.size, 0, none⟩ = some (.int .i64 23) ∧ u.cell? ⟨w.heap.size, 1, none⟩ = some (.int .i64 A) ∧ u.cell? ⟨w.heap.size, 2, none⟩ = some (.int .i64 B) ∧ u.cell? ⟨w.heap.size, 3, none⟩ = some (.int .i64 C) ∧ u.cell? ⟨w.heap.size, 4, none⟩ = some (.int .i64 (k : Int)) ∧ u.cell? ⟨w.heap.size, 5, none⟩ = some (.string S) ∧ u.cell? ⟨w.heap.size, 6, none⟩ = some (.slice la ln lc) ∧ u.cell? ⟨w.heap.size, 7, none⟩ = some (.bool T) ∧ u.cell? ⟨g, 0, none⟩ = some (.slice sa sn sc) ∧ u.cell? ⟨g, 1, none⟩ = some (.slice ca cn cc) ∧ u.cell? ⟨g, 2, none⟩ = some (.slice (some ⟨fg, fo, none⟩) fn fc))
      (exact HC.out _ (RowKit.Hid.out (by assumption)))
      (first | (go_at_call 36; (with_reducible refine (among_any _ _ _).mono ?_); rintro e w' ⟨rfl, rfl⟩; rw [HI.out]))
    go_wp2_with fail
    go_region_held3 (fun u => u.cell? ⟨w.heap.size, 0, none⟩ = some (.int .i64 23) ∧ u.cell? ⟨w.heap.size, 1, none⟩ = some (.int .i64 A) ∧ u.cell? ⟨w.heap.size, 2, none⟩ = some (.int .i64 B) ∧ u.cell? ⟨w.heap.size, 3, none⟩ = some (.int .i64 C) ∧ u.cell? ⟨w.heap.size, 4, none⟩ = some (.int .i64 (k : Int)) ∧ u.cell? ⟨w.heap.size, 5, none⟩ = some (.string S) ∧ u.cell? ⟨w.heap.size, 6, none⟩ = some (.slice la ln lc) ∧ u.cell? ⟨w.heap.size, 7, none⟩ = some (.bool T) ∧ u.cell? ⟨g, 0, none⟩ = some (.slice sa sn sc) ∧ u.cell? ⟨g, 1, none⟩ = some (.slice ca cn cc) ∧ u.cell? ⟨g, 2, none⟩ = some (.slice (some ⟨fg, fo, none⟩) fn fc) ∧ u.cell? ⟨fg, fo + k * 2, none⟩ = some (.int .i64 G.ret) ∧ u.cell? ⟨fg, fo + k * 2 + 1, none⟩ = some (.slice ba bn bc))
      (exact (by have hx1 := HC.out _ (RowKit.Hid.out (by assumption)); have hy0 := HCK.out _ (RowKit.Hid.out (by assumption)); have hy1 := HCL.out _ (RowKit.Hid.out (by assumption)); exact ⟨hx1.1, hx1.2.1, hx1.2.2.1, hx1.2.2.2.1, hx1.2.2.2.2.1, hx1.2.2.2.2.2.1, hx1.2.2.2.2.2.2.1, hx1.2.2.2.2.2.2.2.1, hx1.2.2.2.2.2.2.2.2.1, hx1.2.2.2.2.2.2.2.2.2.1, hx1.2.2.2.2.2.2.2.2.2.2, hy0, hy1⟩))
      (first | (go_at_call 47; (with_reducible refine (HM.out _ (RowKit.Hid.out (by assumption))).mono ?_); rintro e w' ⟨rfl, hb⟩; have HB := Lib.hid (keepN (RowKit.Hid.out (by assumption : RowKit.Hid (Below (w.heap.size + 1) W0 _))) HZ.out hb); clear hb))
    all_goals go_wp2_with fail
    all_goals refine bodyPost_ret (v := .tuple #[.int .i64 c1, .bool c2]) (by simp [results, Tryd.results39, go_sem]) rfl ⟨c1, by rw [HR.out], fun _ => HR1.out.symm, HW.out _ (by first | exact RowKit.Hid.out (by assumption) | exact H0.out.drewq _ | exact H2.out.drewq _)⟩
  · have HI := Lib.hid (show inB N (fn : Int) = false from decide_eq_false h)
    have HR : RowKit.Hid ((rowS P 23 N S (L.map (tyAt ts))).2 = false) := Lib.hid (by
      unfold rowS
      rw [if_neg (show ¬ (23 : Int) = 0 by decide), if_neg (show ¬ (23 : Int) = 1 by decide), if_neg (show ¬ (23 : Int) = 2 by decide), if_neg (show ¬ (23 : Int) = 3 by decide), if_neg (show ¬ (23 : Int) = 4 by decide), if_neg (show ¬ (23 : Int) = 5 by decide), if_neg (show ¬ (23 : Int) = 6 by decide), if_neg (show ¬ (23 : Int) = 7 by decide), if_neg (show ¬ (23 : Int) = 8 by decide), if_neg (show ¬ (23 : Int) = 9 by decide), if_neg (show ¬ (23 : Int) = 10 by decide), if_neg (show ¬ (23 : Int) = 11 by decide), if_neg (show ¬ (23 : Int) = 12 by decide), if_neg (show ¬ (23 : Int) = 13 by decide), if_neg (show ¬ (23 : Int) = 14 by decide), if_neg (show ¬ (23 : Int) = 15 by decide), if_neg (show ¬ (23 : Int) = 16 by decide), if_neg (show ¬ (23 : Int) = 17 by decide), if_neg (show ¬ (23 : Int) = 18 by decide), if_neg (show ¬ (23 : Int) = 19 by decide), if_neg (show ¬ (23 : Int) = 20 by decide), if_neg (show ¬ (23 : Int) = 21 by decide), if_neg (show ¬ (23 : Int) = 22 by decide), if_pos rfl, if_neg (by omega)]
      skip)
    clear hP hat ht ham h hw0 hr
    go_enter Tryd.func39, Tryd.ntmps39
    go_wp2_with fail
    rw [← hW0]
    clear hW0
    go_region_held3 (fun u => u.cell? ⟨w.heap.size, 0, none⟩ = some (.int .i64 23) ∧ u.cell? ⟨w.heap.size, 1, none⟩ = some (.int .i64 A) ∧ u.cell? ⟨w.heap.size, 2, none⟩ = some (.int .i64 B) ∧ u.cell? ⟨w.heap.size, 3, none⟩ = some (.int .i64 C) ∧ u.cell? ⟨w.heap.size, 4, none⟩ = some (.int .i64 N) ∧ u.cell? ⟨w.heap.size, 5, none⟩ = some (.string S) ∧ u.cell? ⟨w.heap.size, 6, none⟩ = some (.slice la ln lc) ∧ u.cell? ⟨w.heap.size, 7, none⟩ = some (.bool T) ∧ u.cell? ⟨g, 0, none⟩ = some (.slice sa sn sc) ∧ u.cell? ⟨g, 1, none⟩ = some (.slice ca cn cc) ∧ u.cell? ⟨g, 2, none⟩ = some (.slice fa fn fc))
      (exact HC.out _ (RowKit.Hid.out (by assumption)))
      (first | (go_at_call 36; (with_reducible refine (among_any _ _ _).mono ?_); rintro e w' ⟨rfl, rfl⟩; rw [HI.out]))
    go_wp2_with fail
    refine bodyPost_ret (v := .tuple #[.int .i64 (-1), .bool false]) (by simp [results, Tryd.results39, go_sem]) rfl ⟨-1, by rw [HR.out], fun h => (by rw [HR.out] at h; cases h), HW.out _ (by first | exact RowKit.Hid.out (by assumption) | exact H0.out.drewq _ | exact H2.out.drewq _)⟩
end Go.Proofs.YtgkcbaakdphigaaDoor
