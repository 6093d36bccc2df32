/- Layer 4, P4.3: package kind's declared, walked at a method. (Its text: by wip/gen/decl.py.) -/
import Derived.Test.YtgkcbaakdphigaaDoorKindRowS
import Derived.Test.YtgkcbaakdphigaaDoorKindFlagsL
import Derived.Deep.RegionHeld3
import Derived.BigQuiet
import Derived.Deep.RegionWith
namespace Go.Proofs.YtgkcbaakdphigaaDoor
open Go.RowKit (wrap64 intOf Below)
set_option linter.unusedVariables false

set_option maxRecDepth 100000 in
set_option maxHeartbeats 4000000 in
theorem decl_24 (g : Nat) {sa : Option Addr} {sn sc : Nat} {ca : Option Addr} {cn cc : Nat} {fa : Option Addr} {fn fc : Nat} {P : ProgD} (A B C N : Int) (S : ByteArray) (la : Option Addr) (ln lc : Nat) (T : Bool) (L : List Int) (ta : Option Addr) (tn tc : Nat) (ts : List Int) (w : World)
    (hP : ProgAt w g sa sn sc ca cn cc fa fn fc P) (hat : NumsAt w la ln L) (hln : ln ≤ 17592186044000) (ht : NumsAt w ta tn ts) (htn : tn ≤ 140737488355328) (hr : ∀ z ∈ ts, InR z) (hN : InR N) (ham : Among (usesL 24 A B C L) tn) :
    Calls Tryd.prog 39 #[.pointer (some ⟨g, 0, none⟩), .agg #[.int .i64 24, .int .i64 A, .int .i64 B, .int .i64 C, .int .i64 N, .string S, .slice la ln lc, .bool T], .slice ta tn tc] w (RowPost (rowS P 24 N S ((usesL 24 A B C L).map (tyAt ts))) w) := by
  have hu : usesL 24 A B C L = A :: L := by simp [usesL, hasB, fieldsL, oneL, pickL]
  rw [hu] at ham ⊢
  obtain ⟨W0, hW0⟩ : ∃ W0, W0 = w.alloc (.cells #[.int .i64 24, .int .i64 A, .int .i64 B, .int .i64 C, .int .i64 N, .string S, .slice la ln lc, .bool T] 24) := ⟨_, rfl⟩
  have hw0 : ∀ u, Below (w.heap.size + 1) W0 u → Below w.heap.size w u := fun u hu => by rw [hW0] at hu; exact first_below hu
  have HW := Lib.hid hw0
  have HP : RowKit.Hid (∀ u, Below (w.heap.size + 1) W0 u → ProgAt u g sa sn sc ca cn cc fa fn fc P) := Lib.hid (fun u hu => hP.since (hw0 u hu))
  have HT : RowKit.Hid (∀ u, Below (w.heap.size + 1) W0 u → NumsAt u ta tn ts) := Lib.hid (fun u hu => ht.since (hw0 u hu))
  have HL : RowKit.Hid (∀ u, Below (w.heap.size + 1) W0 u → NumsAt u la ln L) := Lib.hid (fun u hu => hat.since (hw0 u hu))
  have HC : RowKit.Hid (∀ u, Below (w.heap.size + 1) W0 u → u.cell? ⟨w.heap.size, 0, none⟩ = some (.int .i64 24) ∧ u.cell? ⟨w.heap.size, 1, none⟩ = some (.int .i64 A) ∧ u.cell? ⟨w.heap.size, 2, none⟩ = some (.int .i64 B) ∧ u.cell? ⟨w.heap.size, 3, none⟩ = some (.int .i64 C) ∧ u.cell? ⟨w.heap.size, 4, none⟩ = some (.int .i64 N) ∧ u.cell? ⟨w.heap.size, 5, none⟩ = some (.string S) ∧ u.cell? ⟨w.heap.size, 6, none⟩ = some (.slice la ln lc) ∧ u.cell? ⟨w.heap.size, 7, none⟩ = some (.bool T) ∧ u.cell? ⟨g, 0, none⟩ = some (.slice sa sn sc) ∧ u.cell? ⟨g, 1, none⟩ = some (.slice ca cn cc) ∧ u.cell? ⟨g, 2, none⟩ = some (.slice fa fn fc)) :=
    Lib.hid (fun u hu => by have hp := HP.out u hu; rw [hW0] at hu; exact ⟨first_cells hu 0 _ rfl, first_cells hu 1 _ rfl, first_cells hu 2 _ rfl, first_cells hu 3 _ rfl, first_cells hu 4 _ rfl, first_cells hu 5 _ rfl, first_cells hu 6 _ rfl, first_cells hu 7 _ rfl, hp.c0, hp.c1, hp.c2⟩)
  have HZ : RowKit.Hid (w.heap.size + 1 ≤ W0.heap.size) := Lib.hid (by rw [hW0]; simp)
  have H0 : RowKit.Hid (Below (w.heap.size + 1) W0 W0.drew) := Lib.hid (Below.refl _ _).drew
  have H1 : RowKit.Hid (Below (w.heap.size + 1) W0 W0.drew.drew) := Lib.hid (Below.refl _ _).drew.drew
  have H2 : RowKit.Hid (Below (w.heap.size + 1) W0 W0) := Lib.hid (Below.refl _ _)
  obtain ⟨yA, hA⟩ : ∃ t, tyAt ts A = t := ⟨_, rfl⟩
  have RA : InR yA := by rw [← hA]; exact hr _ (tyAt_mem ht.1 (ham A (by simp)))
  obtain ⟨gA, oA, jA, eA, fA, lA, cA⟩ := ht.type (ham A (by simp))
  rw [hA] at cA
  have HTA : RowKit.Hid (∀ u, Below (w.heap.size + 1) W0 u → u.cell? ⟨gA, oA + jA, none⟩ = some (.int .i64 yA)) := Lib.hid (fun u hu => ((hw0 u hu).cell (p := ⟨gA, oA + jA, none⟩) (World.block_lt_of_cell? _ _ cA)).trans cA)
  rw [List.map_cons, hA]
  have hlc := hP.s.len
  have haL : Among L tn := fun v hv => ham v (List.mem_cons_of_mem _ hv)
  by_cases h : 0 ≤ N ∧ N < (sn : Int)
  · obtain ⟨k, rfl⟩ := Int.eq_ofNat_of_zero_le h.1
    have hk : k < sn := by omega
    obtain ⟨sg, so, cs, hx, rfl, hcl, hcs, p, rfl, ⟨pa, pn, pc, rfl, hpa, _, hpb, _⟩, _⟩ := hP.s.elem hk
    have hc0 : w.cell? ⟨sg, so + k * 2, none⟩ = some (.slice pa pn pc) := hcs 0 (by simp)
    have hc1 : w.cell? ⟨sg, so + k * 2 + 1, none⟩ = some (.int .i64 (P.sigs[k]).ret) := hcs 1 (by simp)
    have hfo : sigOf P k = P.sigs[k] := by unfold sigOf; rw [List.getElem?_eq_getElem hx]
    obtain ⟨G, hG⟩ : ∃ G, P.sigs[k] = G := ⟨_, rfl⟩
    rw [hG] at hpa hfo hc1
    have HCK : RowKit.Hid (∀ u, Below (w.heap.size + 1) W0 u → u.cell? ⟨sg, so + k * 2, none⟩ = some (.slice pa pn pc)) := Lib.hid (fun u hu => ((hw0 u hu).cell (p := ⟨sg, so + k * 2, none⟩) (World.block_lt_of_cell? _ _ hc0)).trans hc0)
    have HCL : RowKit.Hid (∀ u, Below (w.heap.size + 1) W0 u → u.cell? ⟨sg, so + k * 2 + 1, none⟩ = some (.int .i64 G.ret)) := Lib.hid (fun u hu => ((hw0 u hu).cell (p := ⟨sg, so + k * 2 + 1, none⟩) (World.block_lt_of_cell? _ _ hc1)).trans hc1)
    have HF : RowKit.Hid (∀ u, Below (w.heap.size + 1) W0 u → NumsAt u pa pn G.params) := Lib.hid (fun u hu => hpa.since (hw0 u hu))
    have HM := Lib.hid (fun u hu => match_any ta tn tc ts la ln lc L pa pn pc G.params u (HT.out u hu) (HL.out u hu) (HF.out u hu) haL (by omega) (by omega) htn)
    have HI := Lib.hid (show inB (k : Int) (sn : Int) = true from decide_eq_true h)
    have HRR : RowKit.Hid (rowS P 24 (k : Int) S (yA :: L.map (tyAt ts)) = (G.ret, (yA == 5) && matchB ts L G.params)) := Lib.hid (by
      show (if 0 ≤ (k : Int) ∧ (k : Int) < P.sigs.length then ((sigOf P (k : Int).toNat).ret, nth (yA :: L.map (tyAt ts)) 0 == 5 && sameB ((yA :: L.map (tyAt ts)).drop 1) (sigOf P (k : Int).toNat).params) else (-1, false)) = _
      rw [if_pos (by omega), show ((k : Int)).toNat = k from rfl, hfo]
      rfl)
    have hrr : (rowS P 24 (k : Int) S (yA :: L.map (tyAt ts))).2 = ((yA == 5) && matchB ts L G.params) := by rw [HRR.out]
    have HR1 : RowKit.Hid ((rowS P 24 (k : Int) S (yA :: L.map (tyAt ts))).1 = G.ret) := Lib.hid (by rw [HRR.out])
    subst fA
    have HEA := Lib.hid eA
    subst eA
    clear hcs hpa hP hat ht ham h hc0 hc1 hw0 hG hr hfo haL hA cA HRR
    have hx1 := HC.out W0 H2.out
    have hx2 := HTA.out W0 H2.out
    have hx3 := HCK.out W0 H2.out
    have hx4 := HCL.out W0 H2.out
    obtain ⟨z0, z1, z2, z3, z4, z5, z6, z7, z8, z9, z10⟩ := hx1
    have HZS := Lib.hid (fun (C0 : Array Value) t0 => H2.out.alloc HZ.out (.cells C0 t0))
    have hv1 := HC.out _ (HZS.out #[.slice none 0 0, .int .i64 0] 76)
    have hv2 := HTA.out _ (HZS.out #[.slice none 0 0, .int .i64 0] 76)
    have hv3 := HCK.out _ (HZS.out #[.slice none 0 0, .int .i64 0] 76)
    have hv4 := HCL.out _ (HZS.out #[.slice none 0 0, .int .i64 0] 76)
    obtain ⟨u0, u1, u2, u3, u4, u5, u6, u7, u8, u9, u10⟩ := hv1
    have hs1 := HC.out _ (HZS.out #[.slice pa pn pc, .int .i64 G.ret] 76)
    have hs2 := HTA.out _ (HZS.out #[.slice pa pn pc, .int .i64 G.ret] 76)
    obtain ⟨v0, v1, v2, v3, v4, v5, v6, v7, v8, v9, v10⟩ := hs1
    have H3 := Lib.hid (HZS.out #[.slice pa pn pc, .int .i64 G.ret] 76).drew.drew.drew
    have H4 := Lib.hid (HZS.out #[.slice pa pn pc, .int .i64 G.ret] 76).drew.drew
    cases h5 : (yA == 5) with
    | false =>
      have HR : RowKit.Hid ((rowS P 24 (k : Int) S (yA :: L.map (tyAt ts))).2 = false) := Lib.hid (by rw [hrr, h5]; rfl)
      clear hrr
      go_enter Tryd.func39, Tryd.ntmps39
      go_wp2_with fail
      rw [← hW0]
      clear hW0
      go_region_held3 (fun u => u.cell? ⟨w.heap.size, 0, none⟩ = some (.int .i64 24) ∧ u.cell? ⟨w.heap.size, 1, none⟩ = some (.int .i64 (jA : Int)) ∧ u.cell? ⟨w.heap.size, 2, none⟩ = some (.int .i64 B) ∧ u.cell? ⟨w.heap.size, 3, none⟩ = some (.int .i64 C) ∧ u.cell? ⟨w.heap.size, 4, none⟩ = some (.int .i64 (k : Int)) ∧ u.cell? ⟨w.heap.size, 5, none⟩ = some (.string S) ∧ u.cell? ⟨w.heap.size, 6, none⟩ = some (.slice la ln lc) ∧ u.cell? ⟨w.heap.size, 7, none⟩ = some (.bool T) ∧ u.cell? ⟨g, 0, none⟩ = some (.slice (some ⟨sg, so, none⟩) sn sc) ∧ u.cell? ⟨g, 1, none⟩ = some (.slice ca cn cc) ∧ u.cell? ⟨g, 2, none⟩ = some (.slice fa fn fc))
        (exact HC.out _ (RowKit.Hid.out (by assumption)))
        (first | (go_at_call 36; (with_reducible refine (among_any _ _ _).mono ?_); rintro e w' ⟨rfl, rfl⟩; rw [HI.out]))
      go_wp2_with fail
      go_region
      go_wp2_with fail
      go_quiet (fail)
      go_wp2_with fail
      refine bodyPost_ret (v := .tuple #[.int .i64 G.ret, .bool false]) (by simp [results, Tryd.results39, go_sem]) rfl ⟨G.ret, by rw [HR.out], fun _ => HR1.out.symm, HW.out _ (by first | exact RowKit.Hid.out (by assumption) | exact H0.out.drewq _ | exact H2.out.drewq _ | exact H4.out.drewq _)⟩
    | true =>
      have HR : RowKit.Hid ((rowS P 24 (k : Int) S (yA :: L.map (tyAt ts))).2 = matchB ts L G.params) := Lib.hid (by rw [hrr, h5]; rfl)
      clear hrr
      go_enter Tryd.func39, Tryd.ntmps39
      go_wp2_with fail
      rw [← hW0]
      clear hW0
      go_region_held3 (fun u => u.cell? ⟨w.heap.size, 0, none⟩ = some (.int .i64 24) ∧ u.cell? ⟨w.heap.size, 1, none⟩ = some (.int .i64 (jA : Int)) ∧ u.cell? ⟨w.heap.size, 2, none⟩ = some (.int .i64 B) ∧ u.cell? ⟨w.heap.size, 3, none⟩ = some (.int .i64 C) ∧ u.cell? ⟨w.heap.size, 4, none⟩ = some (.int .i64 (k : Int)) ∧ u.cell? ⟨w.heap.size, 5, none⟩ = some (.string S) ∧ u.cell? ⟨w.heap.size, 6, none⟩ = some (.slice la ln lc) ∧ u.cell? ⟨w.heap.size, 7, none⟩ = some (.bool T) ∧ u.cell? ⟨g, 0, none⟩ = some (.slice (some ⟨sg, so, none⟩) sn sc) ∧ u.cell? ⟨g, 1, none⟩ = some (.slice ca cn cc) ∧ u.cell? ⟨g, 2, none⟩ = some (.slice fa fn fc))
        (exact HC.out _ (RowKit.Hid.out (by assumption)))
        (first | (go_at_call 36; (with_reducible refine (among_any _ _ _).mono ?_); rintro e w' ⟨rfl, rfl⟩; rw [HI.out]))
      go_wp2_with fail
      go_region
      go_wp2_with fail
      go_region_with (go_at_call 44; (refine (HM.out _ H3.out).mono ?_); rintro e w' ⟨rfl, hb⟩; have hq1 : w'.cell? ⟨W0.heap.size, 1, none⟩ = some (.int .i64 G.ret) := (hb.cell (p := ⟨W0.heap.size, 1, none⟩) (by show W0.heap.size < (W0.alloc _).heap.size; simp)).trans (World.cell?_alloc_mark _ _ _ _ _); have HB := Lib.hid (keepN H3.out HZ.out hb); clear hb)
      all_goals go_wp2_with fail
      all_goals refine bodyPost_ret (v := .tuple #[.int .i64 G.ret, .bool (matchB ts L G.params)]) (by simp [results, Tryd.results39, go_sem]) rfl ⟨G.ret, by rw [HR.out], fun _ => HR1.out.symm, HW.out _ (by first | exact RowKit.Hid.out (by assumption) | exact H0.out.drewq _ | exact H2.out.drewq _)⟩
  · have HI := Lib.hid (show inB N (sn : Int) = false from decide_eq_false h)
    have HR : RowKit.Hid ((rowS P 24 N S (yA :: L.map (tyAt ts))).2 = false) := Lib.hid (by
      unfold rowS
      rw [if_neg (show ¬ (24 : Int) = 0 by decide), if_neg (show ¬ (24 : Int) = 1 by decide), if_neg (show ¬ (24 : Int) = 2 by decide), if_neg (show ¬ (24 : Int) = 3 by decide), if_neg (show ¬ (24 : Int) = 4 by decide), if_neg (show ¬ (24 : Int) = 5 by decide), if_neg (show ¬ (24 : Int) = 6 by decide), if_neg (show ¬ (24 : Int) = 7 by decide), if_neg (show ¬ (24 : Int) = 8 by decide), if_neg (show ¬ (24 : Int) = 9 by decide), if_neg (show ¬ (24 : Int) = 10 by decide), if_neg (show ¬ (24 : Int) = 11 by decide), if_neg (show ¬ (24 : Int) = 12 by decide), if_neg (show ¬ (24 : Int) = 13 by decide), if_neg (show ¬ (24 : Int) = 14 by decide), if_neg (show ¬ (24 : Int) = 15 by decide), if_neg (show ¬ (24 : Int) = 16 by decide), if_neg (show ¬ (24 : Int) = 17 by decide), if_neg (show ¬ (24 : Int) = 18 by decide), if_neg (show ¬ (24 : Int) = 19 by decide), if_neg (show ¬ (24 : Int) = 20 by decide), if_neg (show ¬ (24 : Int) = 21 by decide), if_neg (show ¬ (24 : Int) = 22 by decide), if_neg (show ¬ (24 : Int) = 23 by decide), if_pos rfl, if_neg (by omega)]
      skip)
    clear hP hat ht ham h hw0 hr fA eA cA hA haL
    go_enter Tryd.func39, Tryd.ntmps39
    go_wp2_with fail
    rw [← hW0]
    clear hW0
    go_region_held3 (fun u => u.cell? ⟨w.heap.size, 0, none⟩ = some (.int .i64 24) ∧ u.cell? ⟨w.heap.size, 1, none⟩ = some (.int .i64 A) ∧ u.cell? ⟨w.heap.size, 2, none⟩ = some (.int .i64 B) ∧ u.cell? ⟨w.heap.size, 3, none⟩ = some (.int .i64 C) ∧ u.cell? ⟨w.heap.size, 4, none⟩ = some (.int .i64 N) ∧ u.cell? ⟨w.heap.size, 5, none⟩ = some (.string S) ∧ u.cell? ⟨w.heap.size, 6, none⟩ = some (.slice la ln lc) ∧ u.cell? ⟨w.heap.size, 7, none⟩ = some (.bool T) ∧ u.cell? ⟨g, 0, none⟩ = some (.slice sa sn sc) ∧ u.cell? ⟨g, 1, none⟩ = some (.slice ca cn cc) ∧ u.cell? ⟨g, 2, none⟩ = some (.slice fa fn fc))
      (exact HC.out _ (RowKit.Hid.out (by assumption)))
      (first | (go_at_call 36; (with_reducible refine (among_any _ _ _).mono ?_); rintro e w' ⟨rfl, rfl⟩; rw [HI.out]))
    go_wp2_with fail
    refine bodyPost_ret (v := .tuple #[.int .i64 (-1), .bool false]) (by simp [results, Tryd.results39, go_sem]) rfl ⟨-1, by rw [HR.out], fun h => (by rw [HR.out] at h; cases h), HW.out _ (by first | exact RowKit.Hid.out (by assumption) | exact H0.out.drewq _ | exact H2.out.drewq _)⟩
end Go.Proofs.YtgkcbaakdphigaaDoor
