/- Layer 7: package cfg's Deep (mk_dp.py, dp_walk.py). -/
import Derived.Test.YtdnihphnoibpgaaCfgN
import Derived.Stop.RegionWithIn
namespace Go.Proofs.Ytdnihphnoibpgaa
open Go.RowKit
set_option linter.unusedVariables false
set_option linter.unusedSimpArgs false
attribute [local go_sem] Oper.semAt_some
set_option maxRecDepth 100000 in
set_option maxHeartbeats 8000000 in
theorem deep_any (r : Int) (a : Option Addr) (n c : Nat) (f : FuncD) (w : World) (hrow : RowV BlockQ 8 w (.slice a n c) f.blocks) (hn : n ≤ 1099511627776) :
    Calls Try.prog 20 #[.agg #[.int .i64 r, .slice a n c]] w fun e w' => ∃ va vn vc DL, e = .returned (.slice va vn vc) ∧ OwnsI w' w.heap.size 3 (.slice va vn vc) DL ∧ DL.length = n ∧ Far n (nxF f) (nth DL) ∧ Below w.heap.size w w' := by
  refine (callsIn_wide (n := 9)).1 ?_
  refine callsIn_of_wp_marks Try.func20 rfl trivial ?_ rfl
  simp only [Try.ntmps20, List.size_toArray, List.length_cons, List.length_nil, Nat.reduceAdd, Nat.reduceSub, Array.replicate_succ, Array.replicate_zero, List.push_toArray, List.append_toArray, List.nil_append, List.cons_append]
  have HROW := Lib.hid hrow
  have hlen : n = f.blocks.length := by obtain ⟨_, _, _, e, h, _⟩ := hrow; cases e; exact h.symm
  have HLEN := Lib.hid hlen
  clear hrow hlen
  obtain ⟨W1, hW1⟩ : ∃ W1, (w.alloc (.cells #[.int .i64 r, .slice a n c] 24)).alloc (.cells #[.int .i64 (-1)] 3) = W1 := ⟨_, rfl⟩
  have hz1 : W1.heap.size = w.heap.size + 2 := by rw [← hW1]; simp
  have hb1 : Below w.heap.size w W1 := by rw [← hW1]; exact ((Below.refl w.heap.size w).alloc (Nat.le_refl _) _).alloc (by simp) _
  have hl1 : W1.cell? ⟨w.heap.size + 1, 0, none⟩ = some (.int .i64 (-1)) := by
    rw [← hW1, show w.heap.size + 1 = (w.alloc (.cells #[.int .i64 r, .slice a n c] 24)).heap.size by simp]
    exact World.cell?_alloc_mark _ _ _ _ _
  have hf1 : W1.heap[w.heap.size]? = some (.cells #[.int .i64 r, .slice a n c] 24 (0, 0)) := by
    rw [← hW1]; exact (Below.heap_alloc _ _ _ (by simp)).trans (World.alloc_heap_new w _)
  have CR := Lib.hid (repeat_any (w.heap.size + 1) 1 (-1) n W1 hl1 hn)
  have HZ1 := Lib.hid hz1
  have HB1 := Lib.hid hb1
  have HF1 := Lib.hid hf1
  have hc11 : W1.cell? ⟨w.heap.size, 1, none⟩ = some (.slice a n c) := by simp [World.cell?, hf1]
  clear hz1 hb1 hf1 hl1
  have HTH : RowKit.Hid (∀ (z : Int) (u : World), Calls Try.prog 36 #[.agg #[.int .i64 r, .slice a n c], .int .i64 z] u fun e w' => e = .returned (.bool (thereB n z)) ∧ w' = u.alloc (.cells #[.int .i64 r, .slice a n c] 24)) := Lib.hid fun z u => there_any r a n c z u (by omega)
  by_cases hn0 : n = 0
  · subst hn0
    have HF : RowKit.Hid (thereB 0 0 = false) := Lib.hid (by rfl)
    gi_wp2_with (first
      | (refine ⟨trivial, ?_⟩; gi_at_call 40; refine (callsIn_wide.2 CR.out).mono ?_; rintro e w2 ⟨rfl, ho2, hb2⟩; have HO2 := Lib.hid ho2; have HB2 := Lib.hid hb2; have hwl : w.heap.size < w2.heap.size := (by have := hb2.size; rw [HZ1.out] at this; omega); have hd0 : w2.cell? ⟨w.heap.size, 0, none⟩ = some (.int .i64 r) := (hb2.cell (p := ⟨w.heap.size, 0, none⟩) (show w.heap.size < W1.heap.size by rw [HZ1.out]; omega)).trans (by simp [World.cell?, HF1.out]); have hd1 : w2.cell? ⟨w.heap.size, 1, none⟩ = some (.slice a 0 c) := (hb2.cell (p := ⟨w.heap.size, 1, none⟩) (show w.heap.size < W1.heap.size by rw [HZ1.out]; omega)).trans hc11; clear ho2 hb2)
      | (refine ⟨trivial, ?_⟩; gi_at_call 36; refine (callsIn_wide.2 (HTH.out 0 _)).mono ?_; rintro e w3 ⟨rfl, rfl⟩; rw [HF.out]))
    exact ⟨_, results_tmp rfl _ _ _, _, _, _, [], rfl, (World.ownsRow.alloc (World.ownsRow.alloc (show OwnsI w2 w.heap.size 3 _ [] from HO2.out.mono (by rw [HZ1.out]; omega)) _) _), rfl, ⟨fun x hx => absurd hx (by omega), fun x hx => absurd hx (by omega), fun x hx => absurd hx (by omega), fun x hx => absurd hx (by omega)⟩, ((HB1.out.trans (HB2.out.mono (by rw [HZ1.out]; omega))).alloc (by omega) _).alloc (by simp; omega) _⟩
  · have HF : RowKit.Hid (thereB n 0 = true) := Lib.hid (by unfold thereB There; exact decide_eq_true ⟨by omega, by omega⟩)
    have hpos : (0 : Int) < n := by omega
    have hposn : 0 < n := by omega
    gi_wp2_with (first
      | (refine ⟨trivial, ?_⟩; gi_at_call 40; refine (callsIn_wide.2 CR.out).mono ?_; rintro e w2 ⟨rfl, ho2, hb2⟩; have HO2 := Lib.hid ho2; have HB2 := Lib.hid hb2; have hwl : w.heap.size < w2.heap.size := (by have := hb2.size; rw [HZ1.out] at this; omega); have hd0 : w2.cell? ⟨w.heap.size, 0, none⟩ = some (.int .i64 r) := (hb2.cell (p := ⟨w.heap.size, 0, none⟩) (show w.heap.size < W1.heap.size by rw [HZ1.out]; omega)).trans (by simp [World.cell?, HF1.out]); have hd1 : w2.cell? ⟨w.heap.size, 1, none⟩ = some (.slice a n c) := (hb2.cell (p := ⟨w.heap.size, 1, none⟩) (show w.heap.size < W1.heap.size by rw [HZ1.out]; omega)).trans hc11; have hql : W1.heap.size < w2.heap.size := (own_addr ho2 (by simpa using hposn)).elim (fun g h => by have h1 := h.1; cases h1; exact h.2.2); have hq0 : w2.cell? ⟨W1.heap.size, 0, none⟩ = some (.int .i64 (nth (List.replicate n (-1)) 0)) := own_cell ho2 (by simpa using hposn); have hqf : w2.frozen? ⟨W1.heap.size, 0, none⟩ = false := own_free ho2 0; clear ho2 hb2)
      | (refine ⟨trivial, ?_⟩; gi_at_call 36; refine (callsIn_wide.2 (HTH.out 0 _)).mono ?_; rintro e w3 ⟨rfl, rfl⟩; rw [HF.out]))
    obtain ⟨q, hq⟩ : ∃ q, q = W1.heap.size := ⟨_, rfl⟩
    obtain ⟨bd, hbd⟩ : ∃ bd, bd = w2.heap.size := ⟨_, rfl⟩
    obtain ⟨W5, hW5⟩ : ∃ W5, (((((w2.setCell ⟨W1.heap.size, 0, none⟩ (.int .i64 0)).alloc (.cells #[.slice (some ⟨W1.heap.size, 0, none⟩) n n] 30)).alloc (.cells #[.int .i64 r, .slice a n c] 24)).alloc (.cells #[.int .i64 0] 3)).alloc (.cells #[.slice (some ⟨w2.heap.size + 1 + 1, 0, none⟩) 1 1] 30)) = W5 := ⟨_, rfl⟩
    have HST : RowKit.Hid (DpSt w r a n c q bd (bd + 1 + 1 + 1) (.slice (some ⟨bd + 1 + 1, 0, none⟩) 1 1) ((List.replicate n (-1)).set 0 0) [0] W5) := Lib.hid (by
      rw [hq, hbd, ← hW5]
      exact dp_start HZ1.out HB1.out HF1.out HO2.out HB2.out hposn)
    have HBF : RowKit.Hid (Bfs n (nxF f) ((List.replicate n (-1)).set 0 0) [] [0]) := Lib.hid (Bfs.start hposn (by simp) fun x hx => by rw [nth_set (by simpa using hposn)]; split; rfl; rw [nth_is (by simpa using hx)]; simp)
    rw [hW5, ← hq, ← hbd]
    clear hW5 hW1 hc11 hd0 hd1 hwl hql hq0 hqf HO2 HB2 CR HF HF1 HB1 HZ1 hq hbd
    refine wpIn_loop_ghost (σ := List Int × List Int × List Int) (fun s A W => ∃ (bm : Nat) (u5 u6 u7 u8 u9 u10 u11 u12 u13 u14 u15 u16 u17 u18 u19 u20 u21 u22 u23 u24 u25 u26 u27 u28 u29 u30 u31 u32 u33 u34 u35 u36 u37 u38 u39 u40 u41 u42 u43 u44 u45 u46 u47 u48 u49 u50 u51 u52 u53 u54 u55 u56 u57 u58 u59 u60 u61 u62 vm : Value) (Ds : List Nat), A = { tmps := #[.agg #[.int .i64 r, .slice a n c], .pointer (some ⟨w.heap.size, 0, none⟩), .slice none 0 0, .pointer (some ⟨bd, 0, none⟩), .pointer (some ⟨bm, 0, none⟩), u5, u6, u7, u8, u9, u10, u11, u12, u13, u14, u15, u16, u17, u18, u19, u20, u21, u22, u23, u24, u25, u26, u27, u28, u29, u30, u31, u32, u33, u34, u35, u36, u37, u38, u39, u40, u41, u42, u43, u44, u45, u46, u47, u48, u49, u50, u51, u52, u53, u54, u55, u56, u57, u58, u59, u60, u61, u62], defers := Ds.map markOf } ∧ DpSt w r a n c q bd bm vm s.1 s.2.2 W ∧ Marks w.heap.size W Ds ∧ Bfs n (nxF f) s.1 s.2.1 s.2.2) (fun s => n - s.2.1.length) ((List.replicate n (-1)).set 0 0, [], [0]) ⟨_, _, _, _, _, _, _, _, _, _, _, _, _, _, _, _, _, _, _, _, _, _, _, _, _, _, _, _, _, _, _, _, _, _, _, _, _, _, _, _, _, _, _, _, _, _, _, _, _, _, _, _, _, _, _, _, _, _, _, _, [], rfl, HST.out, ⟨List.nodup_nil, fun D hD => by cases hD⟩, HBF.out⟩ ?_
    clear HST HBF
    rintro ⟨DL, dn, Q⟩ A W K ⟨bm, u5, u6, u7, u8, u9, u10, u11, u12, u13, u14, u15, u16, u17, u18, u19, u20, u21, u22, u23, u24, u25, u26, u27, u28, u29, u30, u31, u32, u33, u34, u35, u36, u37, u38, u39, u40, u41, u42, u43, u44, u45, u46, u47, u48, u49, u50, u51, u52, u53, u54, u55, u56, u57, u58, u59, u60, u61, u62, vm, Ds, rfl, hS, hM, hB⟩ hK
    dsimp only at hS hM hB hK ⊢
    have HS := Lib.hid hS
    have HM := Lib.hid hM
    have HB := Lib.hid hB
    have HK := Lib.hid hK
    have hcm := hS.bxm.cell
    have hcd := hS.bxd.cell
    have hc1 := hS.c1
    obtain ⟨gq, oq, cap, cur, rfl, _, _, hq2, hq3, _⟩ := hS.que
    clear hS hM hB hK
    cases Q with
    | nil =>
      simp only [List.length_nil] at hcm
      gi_wp2
      exact leaves_marks (J := fun (_ : Unit) W => DpEnd w n q bd DL W) (s := ()) (DpEnd.abides w n q bd DL) (fun W hs => ⟨_, results_tmp rfl _ _ _, _, _, _, DL, rfl, hs.2.1.mono (by omega), HB.out.len, HB.out.far, hs.2.2⟩) Ds W HS.out.lies HM.out ⟨HS.out.bxd, HS.out.row, HS.out.bel⟩
    | cons h Q =>
      obtain ⟨k, rfl, hk⟩ := nat_of (HB.out.inv.2 h (by simp))
      simp only [List.length_cons] at hcm HS
      obtain ⟨hqh, _, hq4, hq5⟩ := HS.out.que.head
      obtain ⟨g, off, pa, pn, pc, oa, on, oc, la, ln, lc, ma, mn, mc, rfl, hg, hblk⟩ := block_at (HROW.out.since BlockQ.lasts HS.out.bel) hk
      obtain ⟨b0, b1, b2, b3, b4, b5, b6, b7⟩ := hblk W (Below.refl _ _)
      have hki : (k : Int) < (n : Int) := by omega
      have hk0 : (0 : Int) ≤ (k : Int) := by omega
      have hm0 : (0 : Int) < (Q.length : Int) + 1 := by omega
      have HK2 := Lib.hid hk
      have HNX : RowKit.Hid (nextL (theEnd f k) = nxF f k) := Lib.hid rfl
      have HIN : RowKit.Hid (∀ x : Bool, x ∈ ixs (theEnd f k).K → tgInt (theEnd f k).To (theEnd f k).Else x ∈ nxF f k) := Lib.hid fun x hx => tgInt_mem hx
      have HOUT : RowKit.Hid (∀ z ∈ nxF f k, ∃ x ∈ ixs (theEnd f k).K, tgInt (theEnd f k).To (theEnd f k).Else x = z) := Lib.hid fun z hz => next_tgInt hz
      have HTL := Lib.hid (ixs_len (theEnd f k).K)
      clear hblk hg HNX
      generalize (theEnd f k).K = EK at *
      generalize (theEnd f k).A = EA at *
      generalize (theEnd f k).To = ET at *
      generalize (theEnd f k).Else = EE at *
      gi_wp2_with fail
      refine wpIn_region_any (by kernel_rfl) ?_
      generalize hQQ : Exit.then _ (Exit.inBlock 1 _) = QQ
      refine (fun hgo : QQ Exit.normal { tmps := #[.agg #[.int .i64 r, .slice (some ⟨g, off, none⟩) n c], .pointer (some ⟨w.heap.size, 0, none⟩), .slice none 0 0, .pointer (some ⟨bd, 0, none⟩), .pointer (some ⟨bm, 0, none⟩), u5, u6, u7, u8, u9, u10, u11, u12, u13, u14, u15, u16, u17, .slice (some ⟨gq, oq, none⟩) (Q.length + 1) cap, .int .i64 (Q.length + 1), .bool true, u21, u22, .pointer (some ⟨w.heap.size, 1, none⟩), .slice (some ⟨g, off, none⟩) n c, .slice (some ⟨gq, oq, none⟩) (Q.length + 1) cap, .pointer (some ⟨gq, oq, none⟩), .int .i64 (k : Int), .pointer (some ⟨g, off + k * 8, none⟩), .pointer (some ⟨g, off + k * 8 + 2, none⟩), .agg #[.int .i64 EK, .int .i64 EA, .int .i64 ET, .int .i64 EE, .slice la ln lc, .slice ma mn mc], .func (.func 49) #[] #[.pointer (some ⟨W.heap.size, 0, none⟩)], u32, u33, u34, u35, u36, u37, u38, u39, u40, u41, u42, u43, u44, u45, u46, u47, u48, u49, u50, u51, u52, u53, u54, u55, u56, u57, u58, u59, u60, u61, u62], defers := Ds.map markOf } (W.alloc (.cells #[.int .i64 EK, .int .i64 EA, .int .i64 ET, .int .i64 EE, .slice la ln lc, .slice ma mn mc] 33)).drew => ?reg) ?rest
      case reg =>
        refine wpAnyIn_ready (rs := [0, 2]) (by kernel_rfl) (by simp) (AllReadyIn.cons rfl (fun K' hK' => ?_) (AllReadyIn.cons rfl (fun K' hK' => ?_) (AllReadyIn.nil)))
        · go_simp
          refine hK' _ _ ?_
          clear hK' K'
          (try simp only [Act.put, List.setIfInBounds_toArray, List.set_cons_zero, List.set_cons_succ])
          refine wpAnyIn_ready (rs := [1, 2]) (by kernel_rfl) (by simp) (AllReadyIn.cons rfl (fun K' hK' => ?_) (AllReadyIn.cons rfl (fun K' hK' => ?_) (AllReadyIn.nil)))
          · go_simp
            refine hK' _ _ ?_
            clear hK' K'
            (try simp only [Act.put, List.setIfInBounds_toArray, List.set_cons_zero, List.set_cons_succ])
            refine wpAnyIn_ready (rs := [2]) (by kernel_rfl) (by simp) (AllReadyIn.cons rfl (fun K' hK' => ?_) (AllReadyIn.nil))
            · go_simp
              refine hK' _ _ ?_
              clear hK' K'
              (try simp only [Act.put, List.setIfInBounds_toArray, List.set_cons_zero, List.set_cons_succ])
              refine wpAnyIn_ready (rs := [3]) (by kernel_rfl) (by simp) (AllReadyIn.cons rfl (fun K' hK' => ?_) (AllReadyIn.nil))
              · go_simp
                refine hK' _ _ ?_
                clear hK' K'
                (try simp only [Act.put, List.setIfInBounds_toArray, List.set_cons_zero, List.set_cons_succ])
                refine wpAnyIn_ready (rs := [4]) (by kernel_rfl) (by simp) (AllReadyIn.cons rfl (fun K' hK' => ?_) (AllReadyIn.nil))
                · go_simp
                  refine hK' _ _ ?_
                  clear hK' K'
                  (try simp only [Act.put, List.setIfInBounds_toArray, List.set_cons_zero, List.set_cons_succ])
                  refine wpAnyIn_ready (rs := [5]) (by kernel_rfl) (by simp) (AllReadyIn.cons rfl (fun K' hK' => ?_) (AllReadyIn.nil))
                  · go_simp
                    refine hK' _ _ ?_
                    clear hK' K'
                    (try simp only [Act.put, List.setIfInBounds_toArray, List.set_cons_zero, List.set_cons_succ])
                    refine wpAnyIn_ready (rs := [6]) (by kernel_rfl) (by simp) (AllReadyIn.cons rfl (fun K' hK' => ?_) (AllReadyIn.nil))
                    · go_simp
                      refine hK' _ _ ?_
                      clear hK' K'
                      (try simp only [Act.put, List.setIfInBounds_toArray, List.set_cons_zero, List.set_cons_succ])
                      refine wpAnyIn_ready (rs := [7]) (by kernel_rfl) (by simp) (AllReadyIn.cons rfl (fun K' hK' => ?_) (AllReadyIn.nil))
                      · go_simp
                        refine hK' _ _ ?_
                        clear hK' K'
                        (try simp only [Act.put, List.setIfInBounds_toArray, List.set_cons_zero, List.set_cons_succ])
                        refine wpAnyIn_ready (rs := [8]) (by kernel_rfl) (by simp) (AllReadyIn.cons rfl (fun K' hK' => ?_) (AllReadyIn.nil))
                        · go_simp
                          refine ⟨trivial, ?_⟩
                          gi_at_call 37
                          refine (callsIn_wide.2 (targets_any EK EA ET EE la ln lc ma mn mc _)).mono ?_
                          rintro e w' ⟨rfl, rfl⟩
                          refine hK' _ _ ?_
                          clear hK' K'
                          (try simp only [Act.put, List.setIfInBounds_toArray, List.set_cons_zero, List.set_cons_succ])
                          exact wpAnyIn_done (by kernel_rfl) hgo _
          · go_simp
            refine hK' _ _ ?_
            clear hK' K'
            (try simp only [Act.put, List.setIfInBounds_toArray, List.set_cons_zero, List.set_cons_succ])
            refine wpAnyIn_ready (rs := [1, 3]) (by kernel_rfl) (by simp) (AllReadyIn.cons rfl (fun K' hK' => ?_) (AllReadyIn.cons rfl (fun K' hK' => ?_) (AllReadyIn.nil)))
            · go_simp
              refine hK' _ _ ?_
              clear hK' K'
              (try simp only [Act.put, List.setIfInBounds_toArray, List.set_cons_zero, List.set_cons_succ])
              refine wpAnyIn_ready (rs := [3]) (by kernel_rfl) (by simp) (AllReadyIn.cons rfl (fun K' hK' => ?_) (AllReadyIn.nil))
              · go_simp
                refine hK' _ _ ?_
                clear hK' K'
                (try simp only [Act.put, List.setIfInBounds_toArray, List.set_cons_zero, List.set_cons_succ])
                refine wpAnyIn_ready (rs := [4]) (by kernel_rfl) (by simp) (AllReadyIn.cons rfl (fun K' hK' => ?_) (AllReadyIn.nil))
                · go_simp
                  refine hK' _ _ ?_
                  clear hK' K'
                  (try simp only [Act.put, List.setIfInBounds_toArray, List.set_cons_zero, List.set_cons_succ])
                  refine wpAnyIn_ready (rs := [5]) (by kernel_rfl) (by simp) (AllReadyIn.cons rfl (fun K' hK' => ?_) (AllReadyIn.nil))
                  · go_simp
                    refine hK' _ _ ?_
                    clear hK' K'
                    (try simp only [Act.put, List.setIfInBounds_toArray, List.set_cons_zero, List.set_cons_succ])
                    refine wpAnyIn_ready (rs := [6]) (by kernel_rfl) (by simp) (AllReadyIn.cons rfl (fun K' hK' => ?_) (AllReadyIn.nil))
                    · go_simp
                      refine hK' _ _ ?_
                      clear hK' K'
                      (try simp only [Act.put, List.setIfInBounds_toArray, List.set_cons_zero, List.set_cons_succ])
                      refine wpAnyIn_ready (rs := [7]) (by kernel_rfl) (by simp) (AllReadyIn.cons rfl (fun K' hK' => ?_) (AllReadyIn.nil))
                      · go_simp
                        refine hK' _ _ ?_
                        clear hK' K'
                        (try simp only [Act.put, List.setIfInBounds_toArray, List.set_cons_zero, List.set_cons_succ])
                        refine wpAnyIn_ready (rs := [8]) (by kernel_rfl) (by simp) (AllReadyIn.cons rfl (fun K' hK' => ?_) (AllReadyIn.nil))
                        · go_simp
                          refine ⟨trivial, ?_⟩
                          gi_at_call 37
                          refine (callsIn_wide.2 (targets_any EK EA ET EE la ln lc ma mn mc _)).mono ?_
                          rintro e w' ⟨rfl, rfl⟩
                          refine hK' _ _ ?_
                          clear hK' K'
                          (try simp only [Act.put, List.setIfInBounds_toArray, List.set_cons_zero, List.set_cons_succ])
                          exact wpAnyIn_done (by kernel_rfl) hgo _
            · go_simp
              refine hK' _ _ ?_
              clear hK' K'
              (try simp only [Act.put, List.setIfInBounds_toArray, List.set_cons_zero, List.set_cons_succ])
              refine wpAnyIn_ready (rs := [1, 4]) (by kernel_rfl) (by simp) (AllReadyIn.cons rfl (fun K' hK' => ?_) (AllReadyIn.cons rfl (fun K' hK' => ?_) (AllReadyIn.nil)))
              · go_simp
                refine hK' _ _ ?_
                clear hK' K'
                (try simp only [Act.put, List.setIfInBounds_toArray, List.set_cons_zero, List.set_cons_succ])
                refine wpAnyIn_ready (rs := [4]) (by kernel_rfl) (by simp) (AllReadyIn.cons rfl (fun K' hK' => ?_) (AllReadyIn.nil))
                · go_simp
                  refine hK' _ _ ?_
                  clear hK' K'
                  (try simp only [Act.put, List.setIfInBounds_toArray, List.set_cons_zero, List.set_cons_succ])
                  refine wpAnyIn_ready (rs := [5]) (by kernel_rfl) (by simp) (AllReadyIn.cons rfl (fun K' hK' => ?_) (AllReadyIn.nil))
                  · go_simp
                    refine hK' _ _ ?_
                    clear hK' K'
                    (try simp only [Act.put, List.setIfInBounds_toArray, List.set_cons_zero, List.set_cons_succ])
                    refine wpAnyIn_ready (rs := [6]) (by kernel_rfl) (by simp) (AllReadyIn.cons rfl (fun K' hK' => ?_) (AllReadyIn.nil))
                    · go_simp
                      refine hK' _ _ ?_
                      clear hK' K'
                      (try simp only [Act.put, List.setIfInBounds_toArray, List.set_cons_zero, List.set_cons_succ])
                      refine wpAnyIn_ready (rs := [7]) (by kernel_rfl) (by simp) (AllReadyIn.cons rfl (fun K' hK' => ?_) (AllReadyIn.nil))
                      · go_simp
                        refine hK' _ _ ?_
                        clear hK' K'
                        (try simp only [Act.put, List.setIfInBounds_toArray, List.set_cons_zero, List.set_cons_succ])
                        refine wpAnyIn_ready (rs := [8]) (by kernel_rfl) (by simp) (AllReadyIn.cons rfl (fun K' hK' => ?_) (AllReadyIn.nil))
                        · go_simp
                          refine ⟨trivial, ?_⟩
                          gi_at_call 37
                          refine (callsIn_wide.2 (targets_any EK EA ET EE la ln lc ma mn mc _)).mono ?_
                          rintro e w' ⟨rfl, rfl⟩
                          refine hK' _ _ ?_
                          clear hK' K'
                          (try simp only [Act.put, List.setIfInBounds_toArray, List.set_cons_zero, List.set_cons_succ])
                          exact wpAnyIn_done (by kernel_rfl) hgo _
              · go_simp
                refine hK' _ _ ?_
                clear hK' K'
                (try simp only [Act.put, List.setIfInBounds_toArray, List.set_cons_zero, List.set_cons_succ])
                refine wpAnyIn_ready (rs := [1]) (by kernel_rfl) (by simp) (AllReadyIn.cons rfl (fun K' hK' => ?_) (AllReadyIn.nil))
                · go_simp
                  refine hK' _ _ ?_
                  clear hK' K'
                  (try simp only [Act.put, List.setIfInBounds_toArray, List.set_cons_zero, List.set_cons_succ])
                  refine wpAnyIn_ready (rs := [5]) (by kernel_rfl) (by simp) (AllReadyIn.cons rfl (fun K' hK' => ?_) (AllReadyIn.nil))
                  · go_simp
                    refine hK' _ _ ?_
                    clear hK' K'
                    (try simp only [Act.put, List.setIfInBounds_toArray, List.set_cons_zero, List.set_cons_succ])
                    refine wpAnyIn_ready (rs := [6]) (by kernel_rfl) (by simp) (AllReadyIn.cons rfl (fun K' hK' => ?_) (AllReadyIn.nil))
                    · go_simp
                      refine hK' _ _ ?_
                      clear hK' K'
                      (try simp only [Act.put, List.setIfInBounds_toArray, List.set_cons_zero, List.set_cons_succ])
                      refine wpAnyIn_ready (rs := [7]) (by kernel_rfl) (by simp) (AllReadyIn.cons rfl (fun K' hK' => ?_) (AllReadyIn.nil))
                      · go_simp
                        refine hK' _ _ ?_
                        clear hK' K'
                        (try simp only [Act.put, List.setIfInBounds_toArray, List.set_cons_zero, List.set_cons_succ])
                        refine wpAnyIn_ready (rs := [8]) (by kernel_rfl) (by simp) (AllReadyIn.cons rfl (fun K' hK' => ?_) (AllReadyIn.nil))
                        · go_simp
                          refine ⟨trivial, ?_⟩
                          gi_at_call 37
                          refine (callsIn_wide.2 (targets_any EK EA ET EE la ln lc ma mn mc _)).mono ?_
                          rintro e w' ⟨rfl, rfl⟩
                          refine hK' _ _ ?_
                          clear hK' K'
                          (try simp only [Act.put, List.setIfInBounds_toArray, List.set_cons_zero, List.set_cons_succ])
                          exact wpAnyIn_done (by kernel_rfl) hgo _
        · go_simp
          refine hK' _ _ ?_
          clear hK' K'
          (try simp only [Act.put, List.setIfInBounds_toArray, List.set_cons_zero, List.set_cons_succ])
          refine wpAnyIn_ready (rs := [0, 3]) (by kernel_rfl) (by simp) (AllReadyIn.cons rfl (fun K' hK' => ?_) (AllReadyIn.cons rfl (fun K' hK' => ?_) (AllReadyIn.nil)))
          · go_simp
            refine hK' _ _ ?_
            clear hK' K'
            (try simp only [Act.put, List.setIfInBounds_toArray, List.set_cons_zero, List.set_cons_succ])
            refine wpAnyIn_ready (rs := [1, 3]) (by kernel_rfl) (by simp) (AllReadyIn.cons rfl (fun K' hK' => ?_) (AllReadyIn.cons rfl (fun K' hK' => ?_) (AllReadyIn.nil)))
            · go_simp
              refine hK' _ _ ?_
              clear hK' K'
              (try simp only [Act.put, List.setIfInBounds_toArray, List.set_cons_zero, List.set_cons_succ])
              refine wpAnyIn_ready (rs := [3]) (by kernel_rfl) (by simp) (AllReadyIn.cons rfl (fun K' hK' => ?_) (AllReadyIn.nil))
              · go_simp
                refine hK' _ _ ?_
                clear hK' K'
                (try simp only [Act.put, List.setIfInBounds_toArray, List.set_cons_zero, List.set_cons_succ])
                refine wpAnyIn_ready (rs := [4]) (by kernel_rfl) (by simp) (AllReadyIn.cons rfl (fun K' hK' => ?_) (AllReadyIn.nil))
                · go_simp
                  refine hK' _ _ ?_
                  clear hK' K'
                  (try simp only [Act.put, List.setIfInBounds_toArray, List.set_cons_zero, List.set_cons_succ])
                  refine wpAnyIn_ready (rs := [5]) (by kernel_rfl) (by simp) (AllReadyIn.cons rfl (fun K' hK' => ?_) (AllReadyIn.nil))
                  · go_simp
                    refine hK' _ _ ?_
                    clear hK' K'
                    (try simp only [Act.put, List.setIfInBounds_toArray, List.set_cons_zero, List.set_cons_succ])
                    refine wpAnyIn_ready (rs := [6]) (by kernel_rfl) (by simp) (AllReadyIn.cons rfl (fun K' hK' => ?_) (AllReadyIn.nil))
                    · go_simp
                      refine hK' _ _ ?_
                      clear hK' K'
                      (try simp only [Act.put, List.setIfInBounds_toArray, List.set_cons_zero, List.set_cons_succ])
                      refine wpAnyIn_ready (rs := [7]) (by kernel_rfl) (by simp) (AllReadyIn.cons rfl (fun K' hK' => ?_) (AllReadyIn.nil))
                      · go_simp
                        refine hK' _ _ ?_
                        clear hK' K'
                        (try simp only [Act.put, List.setIfInBounds_toArray, List.set_cons_zero, List.set_cons_succ])
                        refine wpAnyIn_ready (rs := [8]) (by kernel_rfl) (by simp) (AllReadyIn.cons rfl (fun K' hK' => ?_) (AllReadyIn.nil))
                        · go_simp
                          refine ⟨trivial, ?_⟩
                          gi_at_call 37
                          refine (callsIn_wide.2 (targets_any EK EA ET EE la ln lc ma mn mc _)).mono ?_
                          rintro e w' ⟨rfl, rfl⟩
                          refine hK' _ _ ?_
                          clear hK' K'
                          (try simp only [Act.put, List.setIfInBounds_toArray, List.set_cons_zero, List.set_cons_succ])
                          exact wpAnyIn_done (by kernel_rfl) hgo _
            · go_simp
              refine hK' _ _ ?_
              clear hK' K'
              (try simp only [Act.put, List.setIfInBounds_toArray, List.set_cons_zero, List.set_cons_succ])
              refine wpAnyIn_ready (rs := [1, 4]) (by kernel_rfl) (by simp) (AllReadyIn.cons rfl (fun K' hK' => ?_) (AllReadyIn.cons rfl (fun K' hK' => ?_) (AllReadyIn.nil)))
              · go_simp
                refine hK' _ _ ?_
                clear hK' K'
                (try simp only [Act.put, List.setIfInBounds_toArray, List.set_cons_zero, List.set_cons_succ])
                refine wpAnyIn_ready (rs := [4]) (by kernel_rfl) (by simp) (AllReadyIn.cons rfl (fun K' hK' => ?_) (AllReadyIn.nil))
                · go_simp
                  refine hK' _ _ ?_
                  clear hK' K'
                  (try simp only [Act.put, List.setIfInBounds_toArray, List.set_cons_zero, List.set_cons_succ])
                  refine wpAnyIn_ready (rs := [5]) (by kernel_rfl) (by simp) (AllReadyIn.cons rfl (fun K' hK' => ?_) (AllReadyIn.nil))
                  · go_simp
                    refine hK' _ _ ?_
                    clear hK' K'
                    (try simp only [Act.put, List.setIfInBounds_toArray, List.set_cons_zero, List.set_cons_succ])
                    refine wpAnyIn_ready (rs := [6]) (by kernel_rfl) (by simp) (AllReadyIn.cons rfl (fun K' hK' => ?_) (AllReadyIn.nil))
                    · go_simp
                      refine hK' _ _ ?_
                      clear hK' K'
                      (try simp only [Act.put, List.setIfInBounds_toArray, List.set_cons_zero, List.set_cons_succ])
                      refine wpAnyIn_ready (rs := [7]) (by kernel_rfl) (by simp) (AllReadyIn.cons rfl (fun K' hK' => ?_) (AllReadyIn.nil))
                      · go_simp
                        refine hK' _ _ ?_
                        clear hK' K'
                        (try simp only [Act.put, List.setIfInBounds_toArray, List.set_cons_zero, List.set_cons_succ])
                        refine wpAnyIn_ready (rs := [8]) (by kernel_rfl) (by simp) (AllReadyIn.cons rfl (fun K' hK' => ?_) (AllReadyIn.nil))
                        · go_simp
                          refine ⟨trivial, ?_⟩
                          gi_at_call 37
                          refine (callsIn_wide.2 (targets_any EK EA ET EE la ln lc ma mn mc _)).mono ?_
                          rintro e w' ⟨rfl, rfl⟩
                          refine hK' _ _ ?_
                          clear hK' K'
                          (try simp only [Act.put, List.setIfInBounds_toArray, List.set_cons_zero, List.set_cons_succ])
                          exact wpAnyIn_done (by kernel_rfl) hgo _
              · go_simp
                refine hK' _ _ ?_
                clear hK' K'
                (try simp only [Act.put, List.setIfInBounds_toArray, List.set_cons_zero, List.set_cons_succ])
                refine wpAnyIn_ready (rs := [1]) (by kernel_rfl) (by simp) (AllReadyIn.cons rfl (fun K' hK' => ?_) (AllReadyIn.nil))
                · go_simp
                  refine hK' _ _ ?_
                  clear hK' K'
                  (try simp only [Act.put, List.setIfInBounds_toArray, List.set_cons_zero, List.set_cons_succ])
                  refine wpAnyIn_ready (rs := [5]) (by kernel_rfl) (by simp) (AllReadyIn.cons rfl (fun K' hK' => ?_) (AllReadyIn.nil))
                  · go_simp
                    refine hK' _ _ ?_
                    clear hK' K'
                    (try simp only [Act.put, List.setIfInBounds_toArray, List.set_cons_zero, List.set_cons_succ])
                    refine wpAnyIn_ready (rs := [6]) (by kernel_rfl) (by simp) (AllReadyIn.cons rfl (fun K' hK' => ?_) (AllReadyIn.nil))
                    · go_simp
                      refine hK' _ _ ?_
                      clear hK' K'
                      (try simp only [Act.put, List.setIfInBounds_toArray, List.set_cons_zero, List.set_cons_succ])
                      refine wpAnyIn_ready (rs := [7]) (by kernel_rfl) (by simp) (AllReadyIn.cons rfl (fun K' hK' => ?_) (AllReadyIn.nil))
                      · go_simp
                        refine hK' _ _ ?_
                        clear hK' K'
                        (try simp only [Act.put, List.setIfInBounds_toArray, List.set_cons_zero, List.set_cons_succ])
                        refine wpAnyIn_ready (rs := [8]) (by kernel_rfl) (by simp) (AllReadyIn.cons rfl (fun K' hK' => ?_) (AllReadyIn.nil))
                        · go_simp
                          refine ⟨trivial, ?_⟩
                          gi_at_call 37
                          refine (callsIn_wide.2 (targets_any EK EA ET EE la ln lc ma mn mc _)).mono ?_
                          rintro e w' ⟨rfl, rfl⟩
                          refine hK' _ _ ?_
                          clear hK' K'
                          (try simp only [Act.put, List.setIfInBounds_toArray, List.set_cons_zero, List.set_cons_succ])
                          exact wpAnyIn_done (by kernel_rfl) hgo _
          · go_simp
            refine hK' _ _ ?_
            clear hK' K'
            (try simp only [Act.put, List.setIfInBounds_toArray, List.set_cons_zero, List.set_cons_succ])
            refine wpAnyIn_ready (rs := [0, 4]) (by kernel_rfl) (by simp) (AllReadyIn.cons rfl (fun K' hK' => ?_) (AllReadyIn.cons rfl (fun K' hK' => ?_) (AllReadyIn.nil)))
            · go_simp
              refine hK' _ _ ?_
              clear hK' K'
              (try simp only [Act.put, List.setIfInBounds_toArray, List.set_cons_zero, List.set_cons_succ])
              refine wpAnyIn_ready (rs := [1, 4]) (by kernel_rfl) (by simp) (AllReadyIn.cons rfl (fun K' hK' => ?_) (AllReadyIn.cons rfl (fun K' hK' => ?_) (AllReadyIn.nil)))
              · go_simp
                refine hK' _ _ ?_
                clear hK' K'
                (try simp only [Act.put, List.setIfInBounds_toArray, List.set_cons_zero, List.set_cons_succ])
                refine wpAnyIn_ready (rs := [4]) (by kernel_rfl) (by simp) (AllReadyIn.cons rfl (fun K' hK' => ?_) (AllReadyIn.nil))
                · go_simp
                  refine hK' _ _ ?_
                  clear hK' K'
                  (try simp only [Act.put, List.setIfInBounds_toArray, List.set_cons_zero, List.set_cons_succ])
                  refine wpAnyIn_ready (rs := [5]) (by kernel_rfl) (by simp) (AllReadyIn.cons rfl (fun K' hK' => ?_) (AllReadyIn.nil))
                  · go_simp
                    refine hK' _ _ ?_
                    clear hK' K'
                    (try simp only [Act.put, List.setIfInBounds_toArray, List.set_cons_zero, List.set_cons_succ])
                    refine wpAnyIn_ready (rs := [6]) (by kernel_rfl) (by simp) (AllReadyIn.cons rfl (fun K' hK' => ?_) (AllReadyIn.nil))
                    · go_simp
                      refine hK' _ _ ?_
                      clear hK' K'
                      (try simp only [Act.put, List.setIfInBounds_toArray, List.set_cons_zero, List.set_cons_succ])
                      refine wpAnyIn_ready (rs := [7]) (by kernel_rfl) (by simp) (AllReadyIn.cons rfl (fun K' hK' => ?_) (AllReadyIn.nil))
                      · go_simp
                        refine hK' _ _ ?_
                        clear hK' K'
                        (try simp only [Act.put, List.setIfInBounds_toArray, List.set_cons_zero, List.set_cons_succ])
                        refine wpAnyIn_ready (rs := [8]) (by kernel_rfl) (by simp) (AllReadyIn.cons rfl (fun K' hK' => ?_) (AllReadyIn.nil))
                        · go_simp
                          refine ⟨trivial, ?_⟩
                          gi_at_call 37
                          refine (callsIn_wide.2 (targets_any EK EA ET EE la ln lc ma mn mc _)).mono ?_
                          rintro e w' ⟨rfl, rfl⟩
                          refine hK' _ _ ?_
                          clear hK' K'
                          (try simp only [Act.put, List.setIfInBounds_toArray, List.set_cons_zero, List.set_cons_succ])
                          exact wpAnyIn_done (by kernel_rfl) hgo _
              · go_simp
                refine hK' _ _ ?_
                clear hK' K'
                (try simp only [Act.put, List.setIfInBounds_toArray, List.set_cons_zero, List.set_cons_succ])
                refine wpAnyIn_ready (rs := [1]) (by kernel_rfl) (by simp) (AllReadyIn.cons rfl (fun K' hK' => ?_) (AllReadyIn.nil))
                · go_simp
                  refine hK' _ _ ?_
                  clear hK' K'
                  (try simp only [Act.put, List.setIfInBounds_toArray, List.set_cons_zero, List.set_cons_succ])
                  refine wpAnyIn_ready (rs := [5]) (by kernel_rfl) (by simp) (AllReadyIn.cons rfl (fun K' hK' => ?_) (AllReadyIn.nil))
                  · go_simp
                    refine hK' _ _ ?_
                    clear hK' K'
                    (try simp only [Act.put, List.setIfInBounds_toArray, List.set_cons_zero, List.set_cons_succ])
                    refine wpAnyIn_ready (rs := [6]) (by kernel_rfl) (by simp) (AllReadyIn.cons rfl (fun K' hK' => ?_) (AllReadyIn.nil))
                    · go_simp
                      refine hK' _ _ ?_
                      clear hK' K'
                      (try simp only [Act.put, List.setIfInBounds_toArray, List.set_cons_zero, List.set_cons_succ])
                      refine wpAnyIn_ready (rs := [7]) (by kernel_rfl) (by simp) (AllReadyIn.cons rfl (fun K' hK' => ?_) (AllReadyIn.nil))
                      · go_simp
                        refine hK' _ _ ?_
                        clear hK' K'
                        (try simp only [Act.put, List.setIfInBounds_toArray, List.set_cons_zero, List.set_cons_succ])
                        refine wpAnyIn_ready (rs := [8]) (by kernel_rfl) (by simp) (AllReadyIn.cons rfl (fun K' hK' => ?_) (AllReadyIn.nil))
                        · go_simp
                          refine ⟨trivial, ?_⟩
                          gi_at_call 37
                          refine (callsIn_wide.2 (targets_any EK EA ET EE la ln lc ma mn mc _)).mono ?_
                          rintro e w' ⟨rfl, rfl⟩
                          refine hK' _ _ ?_
                          clear hK' K'
                          (try simp only [Act.put, List.setIfInBounds_toArray, List.set_cons_zero, List.set_cons_succ])
                          exact wpAnyIn_done (by kernel_rfl) hgo _
            · go_simp
              refine hK' _ _ ?_
              clear hK' K'
              (try simp only [Act.put, List.setIfInBounds_toArray, List.set_cons_zero, List.set_cons_succ])
              refine wpAnyIn_ready (rs := [0]) (by kernel_rfl) (by simp) (AllReadyIn.cons rfl (fun K' hK' => ?_) (AllReadyIn.nil))
              · go_simp
                refine hK' _ _ ?_
                clear hK' K'
                (try simp only [Act.put, List.setIfInBounds_toArray, List.set_cons_zero, List.set_cons_succ])
                refine wpAnyIn_ready (rs := [1]) (by kernel_rfl) (by simp) (AllReadyIn.cons rfl (fun K' hK' => ?_) (AllReadyIn.nil))
                · go_simp
                  refine hK' _ _ ?_
                  clear hK' K'
                  (try simp only [Act.put, List.setIfInBounds_toArray, List.set_cons_zero, List.set_cons_succ])
                  refine wpAnyIn_ready (rs := [5]) (by kernel_rfl) (by simp) (AllReadyIn.cons rfl (fun K' hK' => ?_) (AllReadyIn.nil))
                  · go_simp
                    refine hK' _ _ ?_
                    clear hK' K'
                    (try simp only [Act.put, List.setIfInBounds_toArray, List.set_cons_zero, List.set_cons_succ])
                    refine wpAnyIn_ready (rs := [6]) (by kernel_rfl) (by simp) (AllReadyIn.cons rfl (fun K' hK' => ?_) (AllReadyIn.nil))
                    · go_simp
                      refine hK' _ _ ?_
                      clear hK' K'
                      (try simp only [Act.put, List.setIfInBounds_toArray, List.set_cons_zero, List.set_cons_succ])
                      refine wpAnyIn_ready (rs := [7]) (by kernel_rfl) (by simp) (AllReadyIn.cons rfl (fun K' hK' => ?_) (AllReadyIn.nil))
                      · go_simp
                        refine hK' _ _ ?_
                        clear hK' K'
                        (try simp only [Act.put, List.setIfInBounds_toArray, List.set_cons_zero, List.set_cons_succ])
                        refine wpAnyIn_ready (rs := [8]) (by kernel_rfl) (by simp) (AllReadyIn.cons rfl (fun K' hK' => ?_) (AllReadyIn.nil))
                        · go_simp
                          refine ⟨trivial, ?_⟩
                          gi_at_call 37
                          refine (callsIn_wide.2 (targets_any EK EA ET EE la ln lc ma mn mc _)).mono ?_
                          rintro e w' ⟨rfl, rfl⟩
                          refine hK' _ _ ?_
                          clear hK' K'
                          (try simp only [Act.put, List.setIfInBounds_toArray, List.set_cons_zero, List.set_cons_succ])
                          exact wpAnyIn_done (by kernel_rfl) hgo _
      rw [← hQQ]
      clear b0 b1 b2 b3 b4 b5 b6 b7 hqh hcm hcd hc1 hQQ QQ
      obtain ⟨W2, hW2⟩ : ∃ W2, (W.alloc (.cells #[.int .i64 EK, .int .i64 EA, .int .i64 ET, .int .i64 EE, .slice la ln lc, .slice ma mn mc] 33)).drew = W2 := ⟨_, rfl⟩
      have hcB : ∀ j, W2.cell? ⟨W.heap.size, j, none⟩ = (#[.int .i64 EK, .int .i64 EA, .int .i64 ET, .int .i64 EE, .slice la ln lc, .slice ma mn mc] : Array Value)[j]? := by
        intro j; rw [← hW2]; exact World.cell?_alloc_mark _ _ _ _ _
      have hz2 : W2.heap.size = W.heap.size + 1 := by rw [← hW2]; simp [World.drew]
      have hbW2 : Below W.heap.size W W2 := by rw [← hW2]; exact ((Below.refl _ W).alloc (Nat.le_refl _) _).drew
      have HS2 : RowKit.Hid (DpSt w r (some ⟨g, off, none⟩) n c q bd bm (.slice (some ⟨gq, oq, none⟩) (Q.length + 1) cap) DL ((k : Int) :: Q) W2 ∧ Marks w.heap.size W2 Ds) := Lib.hid ⟨HS.out.kept (hbW2.mono HS.out.bel.size) (fun i hi => by obtain ⟨C, t, hC⟩ := HS.out.cells hi; exact hbW2.block i (Array.getElem?_eq_some_iff.1 hC).1), HM.out.kept (row := none) ⟨hbW2.os, hbW2.tape, hbW2.output, hbW2.size, fun k hk _ => hbW2.block k hk⟩ (fun r e => by cases e)⟩
      rw [hW2]
      clear hW2 hbW2
      have hst := tg_stopsS EK EA ET EE la ln lc ma mn mc W.heap.size 8 W2 hcB
      clear hcB
      gi_wp2
      refine wpIn_rangeFunc_ownH rfl (by omega) (gf := 49) (lb := #[.pointer (some ⟨W.heap.size, 0, none⟩)]) rfl trivial (enters_of Try.func49 (by kernel_rfl) rfl) hst KeptT.trans ?hKb (Below.refl _ _) (fun x => by obtain ⟨x, _⟩ := x; cases x <;> rfl)
        (fun pre U => ∃ vm DM QM, DpSt w r (some ⟨g, off, none⟩) n c q bd bm vm DM ((k : Int) :: QM) U ∧ Marks w.heap.size U Ds ∧ Bfs n (nxF f) DM dn ((k : Int) :: QM) ∧ (∀ x ∈ pre, There n (tgInt ET EE x.1) → 0 ≤ nth DM (tgInt ET EE x.1).toNat) ∧ pre.length ≤ 2 ∧ W2.heap.size ≤ U.heap.size ∧ qBlock vm ≠ some W.heap.size)
        (fun _ _ _ => False) ?hI (fun _ _ _ _ _ hs _ _ => hs) ⟨_, _, _, HS2.out.1, HS2.out.2, HB.out, by simp, by simp, Nat.le_refl _, fun e => by obtain ⟨g', cur', e', _, hg'⟩ := HS.out.que.blk; rw [e] at e'; cases e'; have := (Array.getElem?_eq_some_iff.1 hg').1; omega⟩
        (fun x a' U => ∃ p xa xn xc v0 u6 u7 u8 u9 u10 u11 u12 u13 u14 u15 u16 u17 u18 u19 u20 u21 u22 u23 u24 u25 u26 u27 u28 u29 u30 u31 u32 u33 u34 u35 u36 u37 u38 u39 u40 u41 u42 u43 u44 u45 u46 u47 u48 u49 u50 u51 u52 u53 u54 u55 u56 u57 u58 u59 u60 u61 u62, encB ET EE la ln lc ma mn mc x.1 = #[.agg #[.int .i64 (tgInt ET EE x.1), .slice xa xn xc]] ∧ TgBox W2.heap.size p (tgInt ET EE x.1, xa, xn, xc) U ∧ Boxed U bm 30 v0 ∧ a' = { tmps := #[.agg #[.int .i64 r, .slice (some ⟨g, off, none⟩) n c], .pointer (some ⟨w.heap.size, 0, none⟩), .slice none 0 0, .pointer (some ⟨bd, 0, none⟩), .pointer (some ⟨bm, 0, none⟩), .pointer (some ⟨p, 0, none⟩), u6, u7, u8, u9, u10, u11, u12, u13, u14, u15, u16, u17, u18, u19, u20, u21, u22, u23, u24, u25, u26, u27, u28, u29, u30, u31, u32, u33, u34, u35, u36, u37, u38, u39, u40, u41, u42, u43, u44, u45, u46, u47, u48, u49, u50, u51, u52, u53, u54, u55, u56, u57, u58, u59, u60, u61, u62], defers := [] })
        ?hAx ?assign ?body ?ran ?stop
      case hKb => exact keptT_putObj (n0 := W2.heap.size) (by omega)
      case hI =>
        rintro pre U U' row ⟨vm, DM, QM, h1, h2, h3, h4, h5, h6, h7⟩ hg hr
        have hD : ∀ D ∈ Ds, D < W2.heap.size := fun D hD => HS2.out.2.lt hD
        exact ⟨vm, DM, QM, h1.grown hg (fun i e => ⟨by have := (hr i e).1; have := HS2.out.1.siz; omega, (hr i e).2⟩), h2.kept hg (fun i e hm => by have := (hr i e).1; have := hD i hm; omega), h3, h4, h5, Nat.le_trans h6 hg.size, h7⟩
      case hAx =>
        rintro x a' _ U U' row ⟨p, xa, xn, xc, v0, u6, u7, u8, u9, u10, u11, u12, u13, u14, u15, u16, u17, u18, u19, u20, u21, u22, u23, u24, u25, u26, u27, u28, u29, u30, u31, u32, u33, u34, u35, u36, u37, u38, u39, u40, u41, u42, u43, u44, u45, u46, u47, u48, u49, u50, u51, u52, u53, u54, u55, u56, u57, u58, u59, u60, u61, u62, hx, hp, hb0, rfl⟩ hg hr
        exact ⟨p, xa, xn, xc, v0, u6, u7, u8, u9, u10, u11, u12, u13, u14, u15, u16, u17, u18, u19, u20, u21, u22, u23, u24, u25, u26, u27, u28, u29, u30, u31, u32, u33, u34, u35, u36, u37, u38, u39, u40, u41, u42, u43, u44, u45, u46, u47, u48, u49, u50, u51, u52, u53, u54, u55, u56, u57, u58, u59, u60, u61, u62, hx, hp.grown hg (fun r e => (hr r e).2), Boxed.grownRow hb0 hg (fun r e => (hr r e).2), rfl⟩
      case assign =>
        rintro l pre x U K' ⟨vm, DM, QM, h1, h2, h3, h4, h5, h6, h7⟩ hK'
        obtain ⟨xa, xn, xc, hx⟩ : ∃ xa xn xc, encB ET EE la ln lc ma mn mc x.1 = #[.agg #[.int .i64 (tgInt ET EE x.1), .slice xa xn xc]] := by
          obtain ⟨x, hx⟩ := x
          cases x
          · exact ⟨la, ln, lc, rfl⟩
          · exact ⟨ma, mn, mc, rfl⟩
        have HXE := Lib.hid hx
        rw [hx]
        generalize tgInt ET EE x.1 = t at *
        have H1 := Lib.hid h1
        have H2 := Lib.hid h2
        have H3 := Lib.hid h3
        have H4 := Lib.hid h4
        have hblt : W.heap.size < U.heap.size := by omega
        clear h1 h2 h3 h4 hx
        gi_wp2
        refine hK' _ _ (KeepsOthers.alloc _ _ |>.from _) (KeptT.alloc _ hblt) ⟨vm, DM, QM, H1.out.alloc _, H2.out.kept (World.grownBy_alloc U _ none) (fun r e => by cases e), H3.out, H4.out, h5, by rw [World.size_alloc]; omega, h7⟩ ⟨_, xa, xn, xc, vm, _, _, _, _, _, _, _, _, _, _, _, _, _, _, _, _, _, _, _, _, _, _, _, _, _, _, _, _, _, _, _, _, _, _, _, _, _, _, _, _, _, _, _, _, _, _, _, _, _, _, _, _, _, _, _, _, _, HXE.out, ⟨h6, heap_alloc_new U _⟩, (H1.out.alloc _).bxm, rfl⟩
      case body =>
        rintro l pre x a' U hl0 _ ⟨vm, DM, QM, h1, h2, h3, h4, h5, h6, h7⟩ ⟨p, xa, xn, xc, v0, u6, u7, u8, u9, u10, u11, u12, u13, u14, u15, u16, u17, u18, u19, u20, u21, u22, u23, u24, u25, u26, u27, u28, u29, u30, u31, u32, u33, u34, u35, u36, u37, u38, u39, u40, u41, u42, u43, u44, u45, u46, u47, u48, u49, u50, u51, u52, u53, u54, u55, u56, u57, u58, u59, u60, u61, u62, hx, hp, hb0, rfl⟩ hlen
        have HTN : RowKit.Hid (tgInt ET EE x.1 ∈ nxF f k) := Lib.hid (HIN.out x.1 x.2)
        have HTE : RowKit.Hid (∀ y ∈ pre ++ [x], y ∈ pre ∨ tgInt ET EE y.1 = tgInt ET EE x.1) := Lib.hid fun y hy => by
          rcases List.mem_append.1 hy with hy | hy
          · exact .inl hy
          · simp only [List.mem_singleton] at hy; subst hy; exact .inr rfl
        have HL2 : RowKit.Hid ((pre ++ [x]).length ≤ 2) := Lib.hid (by have := HTL.out; simp; omega)
        have hpc : U.cell? ⟨p, 0, none⟩ = some (.int .i64 (tgInt ET EE x.1)) := by simp [World.cell?, hp.2]
        generalize tgInt ET EE x.1 = t at *
        have hlp : p < U.heap.size := (Array.getElem?_eq_some_iff.1 hp.2).1
        have H1 := Lib.hid h1
        have H2 := Lib.hid h2
        have H3 := Lib.hid h3
        have H4 := Lib.hid h4
        have H6 := Lib.hid h6
        have H7 := Lib.hid h7
        have HP := Lib.hid hp
        have hc0 := h1.c0
        have hc1 := h1.c1
        have hcd := h1.bxd.cell
        have hcm := h1.bxm.cell
        have hld := h1.bxd.lt
        have hlm := h1.bxm.lt
        have hlw := h1.siz
        obtain ⟨gq2, oq2, cap2, cur2, rfl, _, hgq2, hcp1, hcp2, _⟩ := h1.que
        have hlq2 : gq2 < U.heap.size := (Array.getElem?_eq_some_iff.1 hgq2).1
        obtain ⟨cq, hcq⟩ := h1.qblk
        have hlq : q < U.heap.size := (Array.getElem?_eq_some_iff.1 hcq).1
        have HBE : RowKit.Hid (W.heap.size < U.heap.size) := Lib.hid (by omega)
        clear h2 h3 h4 h5 h6 h7 hp hx hb0 hlen hl0 hgq2 hcq
        by_cases hT : There n t
        · obtain ⟨j, rfl, hj⟩ := nat_of hT
          have HTB : RowKit.Hid (thereB n (j : Int) = true) := Lib.hid (by unfold thereB; exact decide_eq_true hT)
          have hcj := own_cell h1.row (j := j) (by rw [H3.out.len]; exact hj)
          have hji : (j : Int) < (n : Int) := by omega
          have hj0 : (0 : Int) ≤ (j : Int) := by omega
          obtain ⟨d, hd⟩ : ∃ d, d = nth DM j := ⟨_, rfl⟩
          rw [← hd] at hcj
          have HD := Lib.hid hd
          have HT := Lib.hid hT
          clear hd hT
          by_cases hneg : d < 0
          · have HNG := Lib.hid hneg
            have hck := own_cell h1.row (j := k) (by rw [H3.out.len]; exact HK2.out)
            have hqf := own_free h1.row j
            have hqh := h1.que.head.1
            obtain ⟨dk, hdk⟩ : ∃ dk, dk = nth DM k := ⟨_, rfl⟩
            rw [← hdk] at hck
            have HDK := Lib.hid hdk
            have HWD : RowKit.Hid (IntKind.i64.wrap (dk + 1) = dk + 1) := Lib.hid (by have h1 := H3.out.small HK2.out; have h2 := H3.out.low k HK2.out; rw [← hdk] at h1 h2; simp [IntKind.wrap, IntKind.bits, IntKind.signed]; omega)
            have HLQ : RowKit.Hid ((((k : Int) :: QM).length + 1) * 8 ≤ 140737488355328) := Lib.hid (by have h1 := H3.out.inv.len; simp at h1; simp; omega)
            have HV := Lib.hid ((H1.out.alloc (.cells #[.int .i64 r, .slice (some ⟨g, off, none⟩) n c] 24)).kept (Below.refl _ _).drew (fun _ _ => rfl))
            have HBV : RowKit.Hid (Below U.heap.size U (U.alloc (.cells #[.int .i64 r, .slice (some ⟨g, off, none⟩) n c] 24)).drew) := Lib.hid ((Below.refl _ U).alloc (Nat.le_refl _) _).drew
            have HKT : RowKit.Hid ((fun u : World => u.cell? ⟨bd, 0, none⟩ = some (.slice (some ⟨q, 0, none⟩) n n) ∧ u.cell? ⟨p, 0, none⟩ = some (.int .i64 (j : Int)) ∧ u.cell? ⟨bm, 0, none⟩ = some (.slice (some ⟨gq2, oq2, none⟩) (QM.length + 1) cap2) ∧ u.cell? ⟨gq2, oq2, none⟩ = some (.int .i64 (k : Int)) ∧ u.cell? ⟨q, k, none⟩ = some (.int .i64 dk)) (U.alloc (.cells #[.int .i64 r, .slice (some ⟨g, off, none⟩) n c] 24)).drew) := Lib.hid
              ⟨(HBV.out.cell (p := ⟨bd, 0, none⟩) hld).trans hcd, (HBV.out.cell (p := ⟨p, 0, none⟩) hlp).trans hpc, (HBV.out.cell (p := ⟨bm, 0, none⟩) hlm).trans hcm, (HBV.out.cell (p := ⟨gq2, oq2, none⟩) hlq2).trans hqh, (HBV.out.cell (p := ⟨q, k, none⟩) hlq).trans hck⟩
            have hqc3 : (U.alloc (.cells #[.int .i64 r, .slice (some ⟨g, off, none⟩) n c] 24)).drew.cell? ⟨q, j, none⟩ = some (.int .i64 d) := (HBV.out.cell (p := ⟨q, j, none⟩) hlq).trans hcj
            have hqf3 : (U.alloc (.cells #[.int .i64 r, .slice (some ⟨g, off, none⟩) n c] 24)).drew.frozen? ⟨q, j, none⟩ = false := own_free HV.out.row j
            have hm0 : (0 : Int) < (QM.length : Int) + 1 := by omega
            clear h1 hdk
            gi_wp2_with (refine ⟨trivial, ?_⟩; gi_at_call 36; refine (CallsIn.inRound l (callsIn_wide.2 (HTH.out (j : Int) _))).mono ?_; rintro e w' ⟨rfl, rfl⟩; rw [HTB.out])
            refine wpIn_region_calm (by kernel_rfl) ?_ ?_ (wpAny_of_Z (S := fun u : World => u.cell? ⟨bd, 0, none⟩ = some (.slice (some ⟨q, 0, none⟩) n n) ∧ u.cell? ⟨p, 0, none⟩ = some (.int .i64 (j : Int)) ∧ u.cell? ⟨bm, 0, none⟩ = some (.slice (some ⟨gq2, oq2, none⟩) (QM.length + 1) cap2) ∧ u.cell? ⟨gq2, oq2, none⟩ = some (.int .i64 (k : Int)) ∧ u.cell? ⟨q, k, none⟩ = some (.int .i64 dk)) (z := 11) _ _ _ _ ?_)
            · kernel_rfl
            · rintro ⟨_, _, h⟩; exact h
            have hHeld := HKT.out
            refine wpAnyZ_take (i := 0) (oi := ⟨some 45, _, _, _, _, _⟩) (v := ?_) rfl (by kernel_rfl) (by kernel_rfl) (by kernel_rfl) (by kernel_rfl) (fun _ _ _ h => h) (Or.inl ⟨by rfl, ?_⟩) (by assumption) ?_
            rotate_left
            · ((intro w hSw; (try dsimp only at hSw); go_simp); try with_reducible rfl)
            (try simp only [Act.put, List.setIfInBounds_toArray, List.set_cons_zero, List.set_cons_succ])
            refine wpAnyZ_take (i := 1) (oi := ⟨some 46, _, _, _, _, _⟩) (v := ?_) rfl (by kernel_rfl) (by kernel_rfl) (by kernel_rfl) (by kernel_rfl) (fun _ _ _ h => h) (Or.inl ⟨by rfl, ?_⟩) (by assumption) ?_
            rotate_left
            · ((intro w hSw; (try dsimp only at hSw); go_simp); try with_reducible rfl)
            (try simp only [Act.put, List.setIfInBounds_toArray, List.set_cons_zero, List.set_cons_succ])
            refine wpAnyZ_take (i := 2) (oi := ⟨some 47, _, _, _, _, _⟩) (v := ?_) rfl (by kernel_rfl) (by kernel_rfl) (by kernel_rfl) (by kernel_rfl) (fun _ _ _ h => h) (Or.inl ⟨by rfl, ?_⟩) (by assumption) ?_
            rotate_left
            · ((intro w hSw; (try dsimp only at hSw); go_simp); try with_reducible rfl)
            (try simp only [Act.put, List.setIfInBounds_toArray, List.set_cons_zero, List.set_cons_succ])
            refine wpAnyZ_take (i := 3) (oi := ⟨some 48, _, _, _, _, _⟩) (v := ?_) rfl (by kernel_rfl) (by kernel_rfl) (by kernel_rfl) (by kernel_rfl) (fun _ _ _ h => h) (Or.inl ⟨by rfl, ?_⟩) (by assumption) ?_
            rotate_left
            · ((intro w hSw; (try dsimp only at hSw); go_simp); try with_reducible rfl)
            (try simp only [Act.put, List.setIfInBounds_toArray, List.set_cons_zero, List.set_cons_succ])
            refine wpAnyZ_take (i := 4) (oi := ⟨some 49, _, _, _, _, _⟩) (v := ?_) rfl (by kernel_rfl) (by kernel_rfl) (by kernel_rfl) (by kernel_rfl) (fun _ _ _ h => h) (Or.inl ⟨by rfl, ?_⟩) (by assumption) ?_
            rotate_left
            · ((intro w hSw; (try dsimp only at hSw); go_simp); try with_reducible rfl)
            (try simp only [Act.put, List.setIfInBounds_toArray, List.set_cons_zero, List.set_cons_succ])
            refine wpAnyZ_take (i := 5) (oi := ⟨some 50, _, _, _, _, _⟩) (v := ?_) rfl (by kernel_rfl) (by kernel_rfl) (by kernel_rfl) (by kernel_rfl) (fun _ _ _ h => h) (Or.inl ⟨by rfl, ?_⟩) (by assumption) ?_
            rotate_left
            · ((intro w hSw; (try dsimp only at hSw); go_simp); try with_reducible rfl)
            (try simp only [Act.put, List.setIfInBounds_toArray, List.set_cons_zero, List.set_cons_succ])
            refine wpAnyZ_take (i := 6) (oi := ⟨some 51, _, _, _, _, _⟩) (v := ?_) rfl (by kernel_rfl) (by kernel_rfl) (by kernel_rfl) (by kernel_rfl) (fun _ _ _ h => h) (Or.inl ⟨by rfl, ?_⟩) (by assumption) ?_
            rotate_left
            · ((intro w hSw; (try dsimp only at hSw); go_simp); try with_reducible rfl)
            (try simp only [Act.put, List.setIfInBounds_toArray, List.set_cons_zero, List.set_cons_succ])
            refine wpAnyZ_take (i := 7) (oi := ⟨some 52, _, _, _, _, _⟩) (v := ?_) rfl (by kernel_rfl) (by kernel_rfl) (by kernel_rfl) (by kernel_rfl) (fun _ _ _ h => h) (Or.inl ⟨by rfl, ?_⟩) (by assumption) ?_
            rotate_left
            · ((intro w hSw; (try dsimp only at hSw); go_simp); try with_reducible rfl)
            (try simp only [Act.put, List.setIfInBounds_toArray, List.set_cons_zero, List.set_cons_succ])
            refine wpAnyZ_take (i := 8) (oi := ⟨some 53, _, _, _, _, _⟩) (v := ?_) rfl (by kernel_rfl) (by kernel_rfl) (by kernel_rfl) (by kernel_rfl) (fun _ _ _ h => h) (Or.inl ⟨by rfl, ?_⟩) (by assumption) ?_
            rotate_left
            · ((intro w hSw; (try dsimp only at hSw); go_simp); try with_reducible rfl)
            (try simp only [Act.put, List.setIfInBounds_toArray, List.set_cons_zero, List.set_cons_succ])
            refine wpAnyZ_take (i := 9) (oi := ⟨some 54, _, _, _, _, _⟩) (v := ?_) rfl (by kernel_rfl) (by kernel_rfl) (by kernel_rfl) (by kernel_rfl) (fun _ _ _ h => h) (Or.inl ⟨by rfl, ?_⟩) (by assumption) ?_
            rotate_left
            · ((intro w hSw; (try dsimp only at hSw); go_simp); try with_reducible rfl)
            (try simp only [Act.put, List.setIfInBounds_toArray, List.set_cons_zero, List.set_cons_succ])
            refine wpAnyZ_take (i := 10) (oi := ⟨some 55, _, _, _, _, _⟩) (v := ?_) rfl (by kernel_rfl) (by kernel_rfl) (by kernel_rfl) (by kernel_rfl) (fun _ _ _ h => h) (Or.inl ⟨by rfl, ?_⟩) (by assumption) ?_
            rotate_left
            · ((intro w hSw; (try dsimp only at hSw); go_simp); try with_reducible rfl)
            (try simp only [Act.put, List.setIfInBounds_toArray, List.set_cons_zero, List.set_cons_succ])
            refine wpAnyZ_last (by kernel_rfl) rfl (by kernel_rfl) (fun K hK => ?_)
            rw [if_pos (by rfl)]
            go_simp
            refine hK.out _ _ ?_
            clear hK K
            (try simp only [Act.put, List.setIfInBounds_toArray, List.set_cons_zero, List.set_cons_succ])
            rw [HWD.out]
            have HT0 := Lib.hid (H1.out.tell j (dk + 1))
            obtain ⟨V2, hV2⟩ : ∃ V2, ((U.setCell ⟨q, j, none⟩ (.int .i64 (dk + 1))).alloc (.cells #[.int .i64 r, .slice (some ⟨g, off, none⟩) n c] 24)).drew = V2 := ⟨_, rfl⟩
            have hbV : Below U.heap.size (U.setCell ⟨q, j, none⟩ (.int .i64 (dk + 1))) V2 := by rw [← hV2]; exact ((Below.refl _ _).alloc (by simp [World.setCell]) _).drew
            have hszS : (U.setCell ⟨q, j, none⟩ (.int .i64 (dk + 1))).heap.size = U.heap.size := by simp [World.setCell]
            have HT2 : RowKit.Hid (DpSt w r (some ⟨g, off, none⟩) n c q bd bm (.slice (some ⟨gq2, oq2, none⟩) ((k : Int) :: QM).length cap2) (DM.set j (dk + 1)) ((k : Int) :: QM) V2) := Lib.hid (by rw [← hV2]; exact (HT0.out.alloc _).kept (Below.refl _ _).drew (fun _ _ => rfl))
            have HOF : RowKit.Hid (Off (fun i => i = q) U V2) := Lib.hid (by rw [← hV2]; exact ((H1.out.tell_off j _).alloc _).drew)
            have hpq : p ≠ q := fun e => by
              obtain ⟨cur, hc⟩ := H1.out.qblk
              have h2 := HP.out.2
              rw [e, hc] at h2
              simp at h2
            have hcm2 : V2.cell? ⟨bm, 0, none⟩ = some (.slice (some ⟨gq2, oq2, none⟩) (QM.length + 1) cap2) := HT2.out.bxm.cell
            have hcp2' : V2.cell? ⟨p, 0, none⟩ = some (.int .i64 (j : Int)) := (HOF.out.cell (p := ⟨p, 0, none⟩) hlp hpq).trans hpc
            have HSZ : RowKit.Hid (w.heap.size + 1 ≤ V2.heap.size) := Lib.hid HT2.out.siz
            have HGE : RowKit.Hid (U.heap.size ≤ V2.heap.size) := Lib.hid HOF.out.size
            rw [hV2]
            clear hV2 hbV hszS hcd hcm hc0 hc1 hcj hck hqf hqh hqc3 hqf3 hHeld HKT HBV HV hpc HT0
            gi_wp2_with (gi_at_builtin; refine wpListIn_append_q _ rfl _ _ 30 rfl 3 Try.underlying30 info_int (w.heap.size + 1) (.slice (some ⟨gq2, oq2, none⟩) ((k : Int) :: QM).length cap2) ((k : Int) :: QM) rfl HT2.out.que HSZ.out _ 1 _ (j : Int) rfl rfl rfl HLQ.out ?_; intro v3 w3 hq3 hg3 hw3; have hq4 := hq3; obtain ⟨gq3, oq3, cap3, cur3, hv3, _⟩ := hq4; clear hq4; subst hv3; have HPU := Lib.hid (HT2.out.push hg3 hq3 hw3); have hc3 := HPU.out.1.cell; have hf3 := HPU.out.1.frozen; have HW3 := Lib.hid hw3; clear hq3 hg3 hw3)
            have hl3 : (((k : Int) :: QM) ++ [(j : Int)]).length = QM.length + 1 + 1 := by simp
            rw [hl3] at HPU HW3
            have hX : ∀ i, (i = q ∨ i = bm ∨ qBlock (Value.slice (some ⟨gq2, oq2, none⟩) ((k : Int) :: QM).length cap2) = some i) → ∃ o : Obj, U.heap[i]? = some o ∧ o.isCells = true := fun i hi => by
              obtain ⟨C, t, hC⟩ := H1.out.cells (i := i) (by rcases hi with rfl | rfl | hi; exact .inr (.inr (.inr (.inl rfl))); exact .inr (.inr (.inl rfl)); exact .inr (.inr (.inr (.inr hi))))
              exact ⟨_, hC, rfl⟩
            have hoff : Off (fun i => i = q ∨ i = bm ∨ qBlock (Value.slice (some ⟨gq2, oq2, none⟩) ((k : Int) :: QM).length cap2) = some i) U (w3.setCell ⟨bm, 0, none⟩ (.slice (some ⟨gq3, oq3, none⟩) (QM.length + 1 + 1) cap3)) := (HOF.out.mono (fun i _ hi => .inl hi)).trans_new HPU.out.2.2.1 (fun i hi => .inl (.inr hi))
            have hkeep : KeepsOthers U (w3.setCell ⟨bm, 0, none⟩ (.slice (some ⟨gq3, oq3, none⟩) (QM.length + 1 + 1) cap3)) := KeepsOthers.of_off hoff fun i hi o ho => by
              obtain ⟨o', h1, h2⟩ := hX i hi
              rw [ho] at h1; cases h1; exact h2
            have hnx : ¬ (W.heap.size = q ∨ W.heap.size = bm ∨ qBlock (Value.slice (some ⟨gq2, oq2, none⟩) ((k : Int) :: QM).length cap2) = some W.heap.size) := by
              rintro (e | e | e)
              · obtain ⟨cur, hc⟩ := HS.out.qblk
                have := (Array.getElem?_eq_some_iff.1 hc).1
                omega
              · have := HS.out.bxm.lt; omega
              · exact H7.out e
            refine ⟨hkeep.from _, KeptT.off hoff hkeep HBE.out hnx, _, DM.set j (dk + 1), QM ++ [(j : Int)], HPU.out.2.1, H2.out.off hoff hX, ?_, ?_, HL2.out, Nat.le_trans H6.out hoff.size, fun e => ?_⟩
            · have h := H3.out.push (t := (j : Int)) ⟨by omega, by omega⟩ (by simpa using HTN.out) (by simp only [Int.toNat_natCast]; rw [← HD.out]; exact HNG.out)
              simp only [Int.toNat_natCast] at h
              rw [← HDK.out] at h
              exact h
            · intro y hy hTy
              have hset := nth_set (L := DM) (i := j) (z := dk + 1) (by rw [H3.out.len]; exact hj)
              have h0 : 0 ≤ dk := by rw [HDK.out]; exact (H3.out.set k HK2.out).2 (by simp)
              rw [hset]
              split
              · omega
              · rename_i hne
                rcases HTE.out y hy with hy | hy
                · exact H4.out y hy hTy
                · rw [hy] at hne; simp at hne
            · rcases HW3.out _ e with e' | e'
              · exact H7.out e'
              · have := HGE.out; have := HBE.out; omega
          · clear h1
            gi_wp2_with (refine ⟨trivial, ?_⟩; gi_at_call 36; refine (CallsIn.inRound l (callsIn_wide.2 (HTH.out (j : Int) _))).mono ?_; rintro e w' ⟨rfl, rfl⟩; rw [HTB.out])
            refine ⟨(KeepsOthers.alloc _ _).from _, KeptT.alloc _ HBE.out, _, DM, QM, H1.out.alloc _, H2.out.kept (World.grownBy_alloc U _ none) (fun r e => by cases e), H3.out, ?_, HL2.out, by rw [World.size_alloc]; have := H6.out; omega, H7.out⟩
            intro y hy hTy
            rcases HTE.out y hy with hy | hy
            · exact H4.out y hy hTy
            · rw [hy] at hTy ⊢
              have := HD.out
              simp only [Int.toNat_natCast]
              omega
        · have HTB : RowKit.Hid (thereB n t = false) := Lib.hid (by unfold thereB; exact decide_eq_false hT)
          have HT := Lib.hid hT
          clear h1 hT
          gi_wp2_with (refine ⟨trivial, ?_⟩; gi_at_call 36; refine (CallsIn.inRound l (callsIn_wide.2 (HTH.out t _))).mono ?_; rintro e w' ⟨rfl, rfl⟩; rw [HTB.out])
          refine ⟨(KeepsOthers.alloc _ _).from _, KeptT.alloc _ HBE.out, _, DM, QM, H1.out.alloc _, H2.out.kept (World.grownBy_alloc U _ none) (fun r e => by cases e), H3.out, ?_, HL2.out, by rw [World.size_alloc]; have := H6.out; omega, H7.out⟩
          intro y hy hTy
          rcases HTE.out y hy with hy | hy
          · exact H4.out y hy hTy
          · rw [hy] at hTy
            exact absurd hTy HT.out
      case ran =>
        rintro D ys U hD hys ⟨vm, DM, QM, h1, h2, h3, h4, h5, h6, h7⟩ hKD
        have hclos : ∀ z ∈ nxF f k, There n z → 0 ≤ nth DM z.toNat := fun z hz hTz => by
          obtain ⟨x, hx, rfl⟩ := HOUT.out z hz
          rw [← hys] at hx
          obtain ⟨y, hy, rfl⟩ := List.mem_map.1 hx
          exact h4 y hy hTz
        have HP : RowKit.Hid (Bfs n (nxF f) DM (dn ++ [(k : Int)]) QM) := Lib.hid (h3.pop (by simpa using hclos))
        have hroom := h3.room
        have hmk2 : Marks w.heap.size U (D :: Ds) := ⟨List.nodup_cons.2 ⟨fun hm => by have := HS2.out.2.lt hm; omega, h2.1⟩, fun D' hD' => by
          rcases List.mem_cons.1 hD' with rfl | hD'
          · exact ⟨hKD, by have := HS2.out.1.siz; omega⟩
          · exact h2.2 D' hD'⟩
        have HM2 := Lib.hid hmk2
        have H1 := Lib.hid h1
        have hcm := h1.bxm.cell
        have hlm := h1.bxm.lt
        obtain ⟨gq2, oq2, cap2, cur2, rfl, _, _, hcp1, hcp2, _⟩ := h1.que
        have hqt := h1.que.tail
        simp only [List.length_cons, Nat.add_sub_cancel] at hcm hcp1 hqt
        have HQT := Lib.hid hqt
        clear h1 h2 h3 h4 h5 h6 h7 hys hKD hmk2 hclos hqt
        have hms : n - (dn ++ [(k : Int)]).length < n - dn.length := by rw [List.length_append]; simp only [List.length_cons, List.length_nil]; omega
        by_cases hcap : cap2 = 1
        · subst hcap
          gi_wp2
          exact HK.out (DM, dn ++ [(k : Int)], QM) _ _ ⟨_, _, _, _, _, _, _, _, _, _, _, _, _, _, _, _, _, _, _, _, _, _, _, _, _, _, _, _, _, _, _, _, _, _, _, _, _, _, _, _, _, _, _, _, _, _, _, _, _, _, _, _, _, _, _, _, _, _, _, _, D :: Ds, rfl, H1.out.shift (HQT.out.1 (by simp)) rfl, HM2.out.kept (World.grownBy_alloc U _ none) (fun r e => by cases e), HP.out⟩ hms
        · gi_wp2
          exact HK.out (DM, dn ++ [(k : Int)], QM) _ _ ⟨_, _, _, _, _, _, _, _, _, _, _, _, _, _, _, _, _, _, _, _, _, _, _, _, _, _, _, _, _, _, _, _, _, _, _, _, _, _, _, _, _, _, _, _, _, _, _, _, _, _, _, _, _, _, _, _, _, _, _, _, D :: Ds, rfl, H1.out.shift HQT.out.2 rfl, HM2.out.kept (World.grownBy_alloc U _ none) (fun r e => by cases e), HP.out⟩ hms
      case stop =>
        rintro D c pre W _ _ h _
        exact h.elim
end Go.Proofs.Ytdnihphnoibpgaa
