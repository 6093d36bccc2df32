/- Layer 8: the document's Tame (mk_tame.py). -/
import Derived.Test.YtdnihphnoibpgaaQDomFirstL
import Derived.Test.YtdnihphnoibpgaaQT4

namespace Go.Proofs.Ytdnihphnoibpgaa
open Go.RowKit (wrap64 intOf Below)
set_option linter.unusedVariables false
set_option linter.unusedSimpArgs false

/-- The i-th block in order goes to the j-th one only if that is over it. -/
def okT (f : FuncD) (i j : Nat) : Prop := nth (orderL f) j ∈ nxF f (nth (orderL f) i).toNat → OverF f (nth (orderL f) j) (nth (orderL f) i)
theorem nth_at {L : List Int} {i : Nat} (h : i < L.length) : nth L i = L[i] := by unfold nth; rw [List.getD_eq_getElem?_getD, List.getElem?_eq_getElem h]; rfl
theorem nth_met {f : FuncD} {i : Nat} (h : i < (orderL f).length) : ∃ u : Nat, nth (orderL f) i = (u : Int) ∧ MetF f u ∧ plF f u = i := by
  obtain ⟨u, hu, _⟩ := order_at h
  have hm : MetF f u := by
    have h1 : (u : Int) ∈ orderL f := by rw [← hu]; exact List.getElem_mem h
    exact h1
  refine ⟨u, (nth_at h).trans hu, hm, ?_⟩
  have h1 := pl_at hm
  rw [← hu] at h1
  rcases Nat.lt_trichotomy (plF f u) i with h2 | h2 | h2
  · exact absurd h1 (List.pairwise_iff_getElem.1 (order_facts f).nodup _ _ (pl_lt hm) h h2)
  · exact h2
  · exact absurd h1.symm (List.pairwise_iff_getElem.1 (order_facts f).nodup _ _ h (pl_lt hm) h2)
theorem tame_all {f : FuncD} : TameF f ↔ ∀ i, i < (orderL f).length → ∀ j, j ≤ i → okT f i j := by
  constructor
  · intro h i hi j hj hm
    obtain ⟨u, eu, hu, pu⟩ := nth_met hi
    obtain ⟨v, ev, hv, pv⟩ := nth_met (f := f) (i := j) (by omega)
    rw [eu, ev] at hm ⊢
    exact h u v hu hv ⟨hm, met_lt hv⟩ (by omega)
  · intro h u v hu hv he hp
    have h1 := h _ (pl_lt hu) _ hp
    unfold okT at h1
    rw [nth_at (pl_lt hu), nth_at (pl_lt hv), pl_at hu, pl_at hv] at h1
    exact h1 he.1
open Classical in
noncomputable def tameB (f : FuncD) : Bool := decide (TameF f)
theorem tameB_true {f : FuncD} (h : TameF f) : tameB f = true := by unfold tameB; simpa using h
theorem tameB_false {f : FuncD} (h : ¬ TameF f) : tameB f = false := by unfold tameB; simpa using h
set_option maxRecDepth 100000 in
set_option maxHeartbeats 8000000 in
theorem reftame_any (r : Int) (a : Option Addr) (n c : Nat) (F : FuncD) (w : World) (hrow : RowV BlockQ 8 w (.slice a n c) F.blocks) (hn : n ≤ 100000) :
    Calls Try.prog 35 #[.agg #[.int .i64 r, .slice a n c]] w fun e w' => e = .returned (.bool (tameB F)) ∧ Below w.heap.size w w' := by
  have hlen : n = F.blocks.length := by obtain ⟨_, _, _, e, h, _⟩ := hrow; cases e; exact h.symm
  have HLEN := Lib.hid hlen
  have HROW : RowKit.Hid (∀ u, Below w.heap.size w u → RowV BlockQ 8 u (.slice a n c) F.blocks) := Lib.hid fun u hb => hrow.since BlockQ.lasts hb
  clear hrow hlen
  obtain ⟨W0, hW0⟩ : ∃ W0, w.alloc (.cells #[.int .i64 r, .slice a n c] 24) = W0 := ⟨_, rfl⟩
  have HS0 : RowKit.Hid (LawSt w r a n c none 0 [] W0) := Lib.hid (by rw [← hW0]; exact law_enter w r a n c)
  have hc0 := HS0.out.c0
  have hc1 := HS0.out.c1
  have CRF : RowKit.Hid (Calls Try.prog 28 #[.agg #[.int .i64 r, .slice a n c]] W0 fun e w' => ∃ va vn vc, e = .returned (.slice va vn vc) ∧ OwnsI w' W0.heap.size 3 (.slice va vn vc) (orderL F) ∧ Below W0.heap.size W0 w') := Lib.hid (reforder_any r a n c F W0 (HROW.out _ HS0.out.bel) (by omega))
  go_enter Try.func35, Try.ntmps35
  go_wp2_with (go_at_call 28; (with_reducible refine CRF.out.mono ?_); rintro e w1 ⟨va, vn, vc, rfl, ho, hb⟩; have HB1 := Lib.hid hb; have HO1 := Lib.hid ho; clear ho hb)
  have HLS : RowKit.Hid (LawSt w r a n c va vn (orderL F) w1) := Lib.hid (by have h := HS0.out.since HB1.out; exact ⟨h.bel, h.siz, h.c0, h.c1, HO1.out.read⟩)
  have HVN : RowKit.Hid ((orderL F).length = vn) := Lib.hid HO1.out.read.1
  have hvn : vn ≤ n := by have := order_len F; have := HVN.out; have := HLEN.out; omega
  clear hW0 hc0 hc1 CRF
  go_loopw [4] (fun v4 wr => ∃ i : Nat, i ≤ vn ∧ v4 = .int .i64 (i : Int) ∧ RowKit.Hid (LawSt w r a n c va vn (orderL F) wr) ∧ RowKit.Hid (∀ x, x < i → ∀ y, y ≤ x → okT F x y)) (fun v4 _ => vn - (intOf v4).toNat)
  case atStart => exact ⟨0, Nat.zero_le _, rfl, HLS, Lib.hid fun x hx => absurd hx (by omega)⟩
  case round =>
    obtain ⟨i, hi, rfl, HI, HOK⟩ := hrel
    clear HLS
    obtain ⟨wo, hwo⟩ : ∃ u, u = wr := ⟨_, rfl⟩
    rw [← hwo] at HI ⊢
    clear hwo
    have hw : wrap64 ((i : Int) + 1) = (i : Int) + 1 := by unfold wrap64; omega
    by_cases hlt : i < vn
    · have HW := Lib.hid hw
      have HJ0 : RowKit.Hid (∀ y, y < 0 → okT F i y) := Lib.hid fun y hy => absurd hy (by omega)
      go_wp2_with fail
      go_loopw [5] (fun v5 wr => ∃ j : Nat, j ≤ i + 1 ∧ v5 = .int .i64 (j : Int) ∧ RowKit.Hid (LawSt w r a n c va vn (orderL F) wr) ∧ RowKit.Hid (∀ y, y < j → okT F i y)) (fun v5 _ => i + 1 - (intOf v5).toNat)
      case atStart => exact ⟨0, Nat.zero_le _, rfl, HI, HJ0⟩
      case round =>
        obtain ⟨j, hj, rfl, HX, HJ⟩ := hrel
        clear HJ0
        obtain ⟨wq, hwq⟩ : ∃ u, u = wr := ⟨_, rfl⟩
        rw [← hwq] at HX ⊢
        clear hwq
        have hwj : wrap64 ((j : Int) + 1) = (j : Int) + 1 := by unfold wrap64; omega
        by_cases hji : j < i + 1
        · have hle : (j : Int) ≤ (i : Int) := by omega
          have hiL : i < (orderL F).length := by rw [HVN.out]; exact hlt
          have hjL : j < (orderL F).length := by rw [HVN.out]; omega
          obtain ⟨p, hp, hpm, _⟩ := nth_met hiL
          obtain ⟨q, hq, hqm, _⟩ := nth_met hjL
          have hpm2 : p < n := by rw [HLEN.out]; exact met_lt hpm
          obtain ⟨g, off, rfl, hg, hcs⟩ := HX.out.lis.2 (by omega)
          obtain ⟨g2, off2, pa, pn, pc, oa, on, oc, la, ln, lc, ma, mn, mc, rfl, hg2, hblk⟩ := block_at (HROW.out _ HX.out.bel) hpm2
          have HTK : RowKit.Hid (okT F i j ↔ (inL (nextL (theEnd F p)) (q : Int) = true → overB F q p = true)) := Lib.hid (by unfold okT inL; rw [hp, hq, decide_eq_true_eq, overB_iff]; rfl)
          obtain ⟨bb, hbb⟩ : ∃ b, inL (nextL (theEnd F p)) (q : Int) = b := ⟨_, rfl⟩
          obtain ⟨b2, hb2⟩ : ∃ b, overB F q p = b := ⟨_, rfl⟩
          rw [hbb, hb2] at HTK
          have CN : RowKit.Hid (∀ u, Calls Try.prog 17 #[.agg #[.slice pa pn pc, .slice oa on oc, .int .i64 (theEnd F p).K, .int .i64 (theEnd F p).A, .int .i64 (theEnd F p).To, .int .i64 (theEnd F p).Else, .slice la ln lc, .slice ma mn mc]] u fun e' w' => ∃ va vn vc, e' = .returned (.slice va vn vc) ∧ OwnsI w' u.heap.size 3 (.slice va vn vc) (nextL (theEnd F p)) ∧ Below u.heap.size u w') := Lib.hid fun u => refnext_any pa pn pc oa on oc (theEnd F p).A la ln lc ma mn mc (theEnd F p) u
          have HNL : RowKit.Hid ((nextL (theEnd F p)).length ≤ 2) := Lib.hid (next_len _)
          have CV : RowKit.Hid (∀ u, Below wq.heap.size wq u → Calls Try.prog 25 #[.agg #[.int .i64 r, .slice (some ⟨g2, off2, none⟩) n c], .int .i64 q, .int .i64 p] u fun e w' => e = .returned (.bool b2) ∧ Below u.heap.size u w') := Lib.hid fun u hb => hb2 ▸ refover_any r (some ⟨g2, off2, none⟩) n c F q p u (HROW.out u (HX.out.bel.trans (hb.mono HX.out.bel.size))) (by omega)
          have HBB := Lib.hid hbb
          have hcp : wq.cell? ⟨g, off + i, none⟩ = some (.int .i64 (p : Int)) := by rw [hcs i hiL, ← nth_at hiL, hp]; rfl
          have hcq : wq.cell? ⟨g, off + j, none⟩ = some (.int .i64 (q : Int)) := by rw [hcs j hjL, ← nth_at hjL, hq]; rfl
          have HKT : RowKit.Hid (∀ u, Below wq.heap.size wq u → (fun u : World => u.cell? ⟨g, off + i, none⟩ = some (.int .i64 (p : Int)) ∧ u.cell? ⟨g, off + j, none⟩ = some (.int .i64 (q : Int)) ∧ u.cell? ⟨w.heap.size, 0, none⟩ = some (.int .i64 r) ∧ u.cell? ⟨w.heap.size, 1, none⟩ = some (.slice (some ⟨g2, off2, none⟩) n c) ∧ u.cell? ⟨g2, off2 + p * 8, none⟩ = some (.slice pa pn pc) ∧ u.cell? ⟨g2, off2 + p * 8 + 1, none⟩ = some (.slice oa on oc) ∧ u.cell? ⟨g2, off2 + p * 8 + 2, none⟩ = some (.int .i64 (theEnd F p).K) ∧ u.cell? ⟨g2, off2 + p * 8 + 3, none⟩ = some (.int .i64 (theEnd F p).A) ∧ u.cell? ⟨g2, off2 + p * 8 + 4, none⟩ = some (.int .i64 (theEnd F p).To) ∧ u.cell? ⟨g2, off2 + p * 8 + 5, none⟩ = some (.int .i64 (theEnd F p).Else) ∧ u.cell? ⟨g2, off2 + p * 8 + 6, none⟩ = some (.slice la ln lc) ∧ u.cell? ⟨g2, off2 + p * 8 + 7, none⟩ = some (.slice ma mn mc)) u) := Lib.hid fun u hb => ⟨(hb.cell (p := ⟨g, off + i, none⟩) hg).trans hcp, (hb.cell (p := ⟨g, off + j, none⟩) hg).trans hcq, (hb.cell (p := ⟨w.heap.size, 0, none⟩) HX.out.siz).trans HX.out.c0, (hb.cell (p := ⟨w.heap.size, 1, none⟩) HX.out.siz).trans HX.out.c1, hblk u hb⟩
          generalize (theEnd F p).K = EK at *
          generalize (theEnd F p).A = EA at *
          generalize (theEnd F p).To = ET at *
          generalize (theEnd F p).Else = EE at *
          have hd1 := HX.out.c1
          clear hcp hcq hblk hiL hjL hp hq hpm hqm hg2 hbb hb2 hcs hg
          have hpm3 : (p : Int) < (n : Int) := by omega
          have hp0 : (0 : Int) ≤ (p : Int) := by omega
          have hi0 : (0 : Int) ≤ (i : Int) := by omega
          have him : (i : Int) < (vn : Int) := by omega
          have hj0 : (0 : Int) ≤ (j : Int) := by omega
          have hjm : (j : Int) < (vn : Int) := by omega
          have hk0 : Below wq.heap.size wq wq.drew := (Below.refl _ _).drew
          go_upto_region 8 with fail
          clear hd1
          cases bb with
          | false =>
            have HJ2 : RowKit.Hid (∀ y, y < j + 1 → okT F i y) := Lib.hid fun y hy => by
              by_cases e : y = j
              · rw [e]; exact HTK.out.2 fun h => by cases h
              · exact HJ.out y (by omega)
            refine wp_region_held_drew (S := (fun u : World => u.cell? ⟨g, off + i, none⟩ = some (.int .i64 (p : Int)) ∧ u.cell? ⟨g, off + j, none⟩ = some (.int .i64 (q : Int)) ∧ u.cell? ⟨w.heap.size, 0, none⟩ = some (.int .i64 r) ∧ u.cell? ⟨w.heap.size, 1, none⟩ = some (.slice (some ⟨g2, off2, none⟩) n c) ∧ u.cell? ⟨g2, off2 + p * 8, none⟩ = some (.slice pa pn pc) ∧ u.cell? ⟨g2, off2 + p * 8 + 1, none⟩ = some (.slice oa on oc) ∧ u.cell? ⟨g2, off2 + p * 8 + 2, none⟩ = some (.int .i64 EK) ∧ u.cell? ⟨g2, off2 + p * 8 + 3, none⟩ = some (.int .i64 EA) ∧ u.cell? ⟨g2, off2 + p * 8 + 4, none⟩ = some (.int .i64 ET) ∧ u.cell? ⟨g2, off2 + p * 8 + 5, none⟩ = some (.int .i64 EE) ∧ u.cell? ⟨g2, off2 + p * 8 + 6, none⟩ = some (.slice la ln lc) ∧ u.cell? ⟨g2, off2 + p * 8 + 7, none⟩ = some (.slice ma mn mc))) (by kernel_rfl) (HKT.out _ hk0) (fun hHeld => ?_)
            refine wpAnyH_take (i := 0) (oi := ⟨some 19, _, _, _, _, _⟩) (v := ?_) rfl (by kernel_rfl) (by kernel_rfl) (by kernel_rfl) (fun _ _ _ h => h) (Or.inl ⟨by rfl, ?_⟩) (by assumption) ?_
            rotate_left
            · ((intro w hSw; (try dsimp only at hSw); go_simp); try with_reducible rfl)
            (try simp only [Act.put, List.setIfInBounds_toArray, List.set_cons_zero, List.set_cons_succ])
            refine wpAnyH_take (i := 1) (oi := ⟨some 20, _, _, _, _, _⟩) (v := ?_) rfl (by kernel_rfl) (by kernel_rfl) (by kernel_rfl) (fun _ _ _ h => h) (Or.inl ⟨by rfl, ?_⟩) (by assumption) ?_
            rotate_left
            · ((intro w hSw; (try dsimp only at hSw); go_simp); try with_reducible rfl)
            (try simp only [Act.put, List.setIfInBounds_toArray, List.set_cons_zero, List.set_cons_succ])
            refine wpAnyH_take (i := 2) (oi := ⟨some 21, _, _, _, _, _⟩) (v := ?_) rfl (by kernel_rfl) (by kernel_rfl) (by kernel_rfl) (fun _ _ _ h => h) (Or.inl ⟨by rfl, ?_⟩) (by assumption) ?_
            rotate_left
            · ((intro w hSw; (try dsimp only at hSw); go_simp); try with_reducible rfl)
            (try simp only [Act.put, List.setIfInBounds_toArray, List.set_cons_zero, List.set_cons_succ])
            refine wpAnyH_take (i := 3) (oi := ⟨some 22, _, _, _, _, _⟩) (v := ?_) rfl (by kernel_rfl) (by kernel_rfl) (by kernel_rfl) (fun _ _ _ h => h) (Or.inl ⟨by rfl, ?_⟩) (by assumption) ?_
            rotate_left
            · ((intro w hSw; (try dsimp only at hSw); go_simp); try with_reducible rfl)
            (try simp only [Act.put, List.setIfInBounds_toArray, List.set_cons_zero, List.set_cons_succ])
            refine wpAnyH_take (i := 4) (oi := ⟨some 23, _, _, _, _, _⟩) (v := ?_) rfl (by kernel_rfl) (by kernel_rfl) (by kernel_rfl) (fun _ _ _ h => h) (Or.inl ⟨by rfl, ?_⟩) (by assumption) ?_
            rotate_left
            · ((intro w hSw; (try dsimp only at hSw); go_simp); try with_reducible rfl)
            (try simp only [Act.put, List.setIfInBounds_toArray, List.set_cons_zero, List.set_cons_succ])
            refine wpAnyH_take (i := 5) (oi := ⟨some 24, _, _, _, _, _⟩) (v := ?_) rfl (by kernel_rfl) (by kernel_rfl) (by kernel_rfl) (fun _ _ _ h => h) (Or.inl ⟨by rfl, ?_⟩) (by assumption) ?_
            rotate_left
            · ((intro w hSw; (try dsimp only at hSw); go_simp); try with_reducible rfl)
            (try simp only [Act.put, List.setIfInBounds_toArray, List.set_cons_zero, List.set_cons_succ])
            refine wpAnyH_take (i := 6) (oi := ⟨some 25, _, _, _, _, _⟩) (v := ?_) rfl (by kernel_rfl) (by kernel_rfl) (by kernel_rfl) (fun _ _ _ h => h) (Or.inl ⟨by rfl, ?_⟩) (by assumption) ?_
            rotate_left
            · ((intro w hSw; (try dsimp only at hSw); go_simp); try with_reducible rfl)
            (try simp only [Act.put, List.setIfInBounds_toArray, List.set_cons_zero, List.set_cons_succ])
            refine wpAnyH_take (i := 7) (oi := ⟨some 26, _, _, _, _, _⟩) (v := ?_) rfl (by kernel_rfl) (by kernel_rfl) (by kernel_rfl) (fun _ _ _ h => h) (Or.inl ⟨by rfl, ?_⟩) (by assumption) ?_
            rotate_left
            · ((intro w hSw; (try dsimp only at hSw); go_simp); try with_reducible rfl)
            (try simp only [Act.put, List.setIfInBounds_toArray, List.set_cons_zero, List.set_cons_succ])
            refine wpAnyH_take (i := 9) (oi := ⟨some 28, _, _, _, _, _⟩) (v := ?_) rfl (by kernel_rfl) (by kernel_rfl) (by kernel_rfl) (fun _ _ _ h => h) (Or.inl ⟨by rfl, ?_⟩) (by assumption) ?_
            rotate_left
            · ((intro w hSw; (try dsimp only at hSw); go_simp); try with_reducible rfl)
            (try simp only [Act.put, List.setIfInBounds_toArray, List.set_cons_zero, List.set_cons_succ])
            refine wpAnyH_take (i := 10) (oi := ⟨some 29, _, _, _, _, _⟩) (v := ?_) rfl (by kernel_rfl) (by kernel_rfl) (by kernel_rfl) (fun _ _ _ h => h) (Or.inl ⟨by rfl, ?_⟩) (by assumption) ?_
            rotate_left
            · ((intro w hSw; (try dsimp only at hSw); go_simp); try with_reducible rfl)
            (try simp only [Act.put, List.setIfInBounds_toArray, List.set_cons_zero, List.set_cons_succ])
            refine wpAnyH_take (i := 11) (oi := ⟨some 30, _, _, _, _, _⟩) (v := ?_) rfl (by kernel_rfl) (by kernel_rfl) (by kernel_rfl) (fun _ _ _ h => h) (Or.inl ⟨by rfl, ?_⟩) (by assumption) ?_
            rotate_left
            · ((intro w hSw; (try dsimp only at hSw); go_simp); try with_reducible rfl)
            (try simp only [Act.put, List.setIfInBounds_toArray, List.set_cons_zero, List.set_cons_succ])
            refine wpAnyH_take (i := 12) (oi := ⟨some 31, _, _, _, _, _⟩) (v := ?_) rfl (by kernel_rfl) (by kernel_rfl) (by kernel_rfl) (fun _ _ _ h => h) (Or.inl ⟨by rfl, ?_⟩) (by assumption) ?_
            rotate_left
            · ((intro w hSw; (try dsimp only at hSw); go_simp); try with_reducible rfl)
            (try simp only [Act.put, List.setIfInBounds_toArray, List.set_cons_zero, List.set_cons_succ])
            refine wpAnyH_ready (rs := [8]) (by kernel_rfl) (by simp) (AllReadyH.cons rfl (fun K hK => ?_) AllReadyH.nil)
            rw [if_pos (by rfl)]
            go_simp
            go_at_call 17
            (with_reducible refine (CN.out _).mono ?_)
            rintro e v1 ⟨ya, yn, yc, rfl, ho, hb1⟩
            have hk1 : Below wq.heap.size wq v1 := hk0.trans (hb1.mono hk0.size)
            have HO := Lib.hid ho
            have hyn : yn ≤ 2 := by have := ho.read.1; have := HNL.out; omega
            clear ho hb1
            have CH : RowKit.Hid (∀ u, Below v1.heap.size v1 u → Calls Try.prog 29 #[.slice ya yn yc, .int .i64 (q : Int)] u fun e w' => e = .returned (.bool false) ∧ u = w') := Lib.hid fun u hb => by rw [← HBB.out]; exact has_any ya yn yc _ q u (HO.out.read.since hb) (by omega)
            refine hK.out _ _ (HKT.out _ hk1) (fun hHeld => ?_)
            clear hK K
            (try simp only [Act.put, List.setIfInBounds_toArray, List.set_cons_zero, List.set_cons_succ])
            refine wpAnyH_ready (rs := [13]) (by kernel_rfl) (by simp) (AllReadyH.cons rfl (fun K hK => ?_) AllReadyH.nil)
            rw [if_pos (by rfl)]
            go_simp
            go_at_call 29
            (with_reducible refine (CH.out _ (Below.refl _ _)).mono ?_)
            rintro e v2 ⟨rfl, rfl⟩
            refine hK.out _ _ (HKT.out _ hk1) (fun hHeld => ?_)
            clear hK K
            (try simp only [Act.put, List.setIfInBounds_toArray, List.set_cons_zero, List.set_cons_succ])
            refine wpAnyH_take (i := 14) (oi := ⟨some 33, _, _, _, _, _⟩) (v := ?_) rfl (by kernel_rfl) (by kernel_rfl) (by kernel_rfl) (fun _ _ _ h => h) (Or.inl ⟨by rfl, ?_⟩) (by assumption) ?_
            rotate_left
            · ((intro w hSw; (try dsimp only at hSw); go_simp); try with_reducible rfl)
            (try simp only [Act.put, List.setIfInBounds_toArray, List.set_cons_zero, List.set_cons_succ])
            refine wpAnyH_take (i := 15) (oi := ⟨some 34, _, _, _, _, _⟩) (v := undef) rfl (by kernel_rfl) (by kernel_rfl) (by kernel_rfl) (fun _ _ _ h => h) (Or.inr ⟨by rfl, rfl⟩) (by assumption) ?_
            (try simp only [Act.put, List.setIfInBounds_toArray, List.set_cons_zero, List.set_cons_succ])
            refine wpAnyH_take (i := 16) (oi := ⟨some 35, _, _, _, _, _⟩) (v := undef) rfl (by kernel_rfl) (by kernel_rfl) (by kernel_rfl) (fun _ _ _ h => h) (Or.inr ⟨by rfl, rfl⟩) (by assumption) ?_
            (try simp only [Act.put, List.setIfInBounds_toArray, List.set_cons_zero, List.set_cons_succ])
            refine wpAnyH_take (i := 17) (oi := ⟨some 36, _, _, _, _, _⟩) (v := undef) rfl (by kernel_rfl) (by kernel_rfl) (by kernel_rfl) (fun _ _ _ h => h) (Or.inr ⟨by rfl, rfl⟩) (by assumption) ?_
            (try simp only [Act.put, List.setIfInBounds_toArray, List.set_cons_zero, List.set_cons_succ])
            refine wpAnyH_take (i := 18) (oi := ⟨some 37, _, _, _, _, _⟩) (v := undef) rfl (by kernel_rfl) (by kernel_rfl) (by kernel_rfl) (fun _ _ _ h => h) (Or.inr ⟨by rfl, rfl⟩) (by assumption) ?_
            (try simp only [Act.put, List.setIfInBounds_toArray, List.set_cons_zero, List.set_cons_succ])
            refine wpAnyH_take (i := 19) (oi := ⟨some 38, _, _, _, _, _⟩) (v := undef) rfl (by kernel_rfl) (by kernel_rfl) (by kernel_rfl) (fun _ _ _ h => h) (Or.inr ⟨by rfl, rfl⟩) (by assumption) ?_
            (try simp only [Act.put, List.setIfInBounds_toArray, List.set_cons_zero, List.set_cons_succ])
            refine wpAnyH_take (i := 20) (oi := ⟨some 39, _, _, _, _, _⟩) (v := undef) rfl (by kernel_rfl) (by kernel_rfl) (by kernel_rfl) (fun _ _ _ h => h) (Or.inr ⟨by rfl, rfl⟩) (by assumption) ?_
            (try simp only [Act.put, List.setIfInBounds_toArray, List.set_cons_zero, List.set_cons_succ])
            refine wpAnyH_take (i := 21) (oi := ⟨some 40, _, _, _, _, _⟩) (v := undef) rfl (by kernel_rfl) (by kernel_rfl) (by kernel_rfl) (fun _ _ _ h => h) (Or.inr ⟨by rfl, rfl⟩) (by assumption) ?_
            (try simp only [Act.put, List.setIfInBounds_toArray, List.set_cons_zero, List.set_cons_succ])
            refine wpAnyH_take (i := 22) (oi := ⟨some 41, _, _, _, _, _⟩) (v := undef) rfl (by kernel_rfl) (by kernel_rfl) (by kernel_rfl) (fun _ _ _ h => h) (Or.inr ⟨by rfl, rfl⟩) (by assumption) ?_
            (try simp only [Act.put, List.setIfInBounds_toArray, List.set_cons_zero, List.set_cons_succ])
            refine wpAnyH_take (i := 23) (oi := ⟨some 42, _, _, _, _, _⟩) (v := undef) rfl (by kernel_rfl) (by kernel_rfl) (by kernel_rfl) (fun _ _ _ h => h) (Or.inr ⟨by rfl, rfl⟩) (by assumption) ?_
            (try simp only [Act.put, List.setIfInBounds_toArray, List.set_cons_zero, List.set_cons_succ])
            refine wpAnyH_ready (rs := [24]) (by kernel_rfl) (by simp) (AllReadyH.cons rfl (fun K hK => ?_) AllReadyH.nil)
            rw [if_neg (by intro h; cases h)]
            refine skip_put (K := K) (d := some 43) rfl ?_
            refine hK.out _ _ (HKT.out _ hk1) (fun hHeld => ?_)
            clear hK K
            (try simp only [Act.put, List.setIfInBounds_toArray, List.set_cons_zero, List.set_cons_succ])
            refine wpAnyH_take (i := 25) (oi := ⟨some 44, _, _, _, _, _⟩) (v := undef) rfl (by kernel_rfl) (by kernel_rfl) (by kernel_rfl) (fun _ _ _ h => h) (Or.inr ⟨by rfl, rfl⟩) (by assumption) ?_
            (try simp only [Act.put, List.setIfInBounds_toArray, List.set_cons_zero, List.set_cons_succ])
            refine wpAnyH_take (i := 26) (oi := ⟨some 45, _, _, _, _, _⟩) (v := ?_) rfl (by kernel_rfl) (by kernel_rfl) (by kernel_rfl) (fun _ _ _ h => h) (Or.inl ⟨by rfl, ?_⟩) (by assumption) ?_
            rotate_left
            · ((intro w hSw; (try dsimp only at hSw); go_simp); try with_reducible rfl)
            (try simp only [Act.put, List.setIfInBounds_toArray, List.set_cons_zero, List.set_cons_succ])
            refine wpAnyH_done (by kernel_rfl) ?_ _
            have HX2 := Lib.hid (HX.out.since hk1)
            clear hk0 hk1 HKT CN CV CH
            go_wp2_with fail
            go_roundw
            case rel => exact ⟨j + 1, by omega, by go_num, HX2, HJ2⟩
            case measure => simp [intOf, hwj]; omega
          | true =>
            cases b2 with
            | true =>
              have HJ2 : RowKit.Hid (∀ y, y < j + 1 → okT F i y) := Lib.hid fun y hy => by
                by_cases e : y = j
                · rw [e]; exact HTK.out.2 fun _ => rfl
                · exact HJ.out y (by omega)
              refine wp_region_held_drew (S := (fun u : World => u.cell? ⟨g, off + i, none⟩ = some (.int .i64 (p : Int)) ∧ u.cell? ⟨g, off + j, none⟩ = some (.int .i64 (q : Int)) ∧ u.cell? ⟨w.heap.size, 0, none⟩ = some (.int .i64 r) ∧ u.cell? ⟨w.heap.size, 1, none⟩ = some (.slice (some ⟨g2, off2, none⟩) n c) ∧ u.cell? ⟨g2, off2 + p * 8, none⟩ = some (.slice pa pn pc) ∧ u.cell? ⟨g2, off2 + p * 8 + 1, none⟩ = some (.slice oa on oc) ∧ u.cell? ⟨g2, off2 + p * 8 + 2, none⟩ = some (.int .i64 EK) ∧ u.cell? ⟨g2, off2 + p * 8 + 3, none⟩ = some (.int .i64 EA) ∧ u.cell? ⟨g2, off2 + p * 8 + 4, none⟩ = some (.int .i64 ET) ∧ u.cell? ⟨g2, off2 + p * 8 + 5, none⟩ = some (.int .i64 EE) ∧ u.cell? ⟨g2, off2 + p * 8 + 6, none⟩ = some (.slice la ln lc) ∧ u.cell? ⟨g2, off2 + p * 8 + 7, none⟩ = some (.slice ma mn mc))) (by kernel_rfl) (HKT.out _ hk0) (fun hHeld => ?_)
              refine wpAnyH_take (i := 0) (oi := ⟨some 19, _, _, _, _, _⟩) (v := ?_) rfl (by kernel_rfl) (by kernel_rfl) (by kernel_rfl) (fun _ _ _ h => h) (Or.inl ⟨by rfl, ?_⟩) (by assumption) ?_
              rotate_left
              · ((intro w hSw; (try dsimp only at hSw); go_simp); try with_reducible rfl)
              (try simp only [Act.put, List.setIfInBounds_toArray, List.set_cons_zero, List.set_cons_succ])
              refine wpAnyH_take (i := 1) (oi := ⟨some 20, _, _, _, _, _⟩) (v := ?_) rfl (by kernel_rfl) (by kernel_rfl) (by kernel_rfl) (fun _ _ _ h => h) (Or.inl ⟨by rfl, ?_⟩) (by assumption) ?_
              rotate_left
              · ((intro w hSw; (try dsimp only at hSw); go_simp); try with_reducible rfl)
              (try simp only [Act.put, List.setIfInBounds_toArray, List.set_cons_zero, List.set_cons_succ])
              refine wpAnyH_take (i := 2) (oi := ⟨some 21, _, _, _, _, _⟩) (v := ?_) rfl (by kernel_rfl) (by kernel_rfl) (by kernel_rfl) (fun _ _ _ h => h) (Or.inl ⟨by rfl, ?_⟩) (by assumption) ?_
              rotate_left
              · ((intro w hSw; (try dsimp only at hSw); go_simp); try with_reducible rfl)
              (try simp only [Act.put, List.setIfInBounds_toArray, List.set_cons_zero, List.set_cons_succ])
              refine wpAnyH_take (i := 3) (oi := ⟨some 22, _, _, _, _, _⟩) (v := ?_) rfl (by kernel_rfl) (by kernel_rfl) (by kernel_rfl) (fun _ _ _ h => h) (Or.inl ⟨by rfl, ?_⟩) (by assumption) ?_
              rotate_left
              · ((intro w hSw; (try dsimp only at hSw); go_simp); try with_reducible rfl)
              (try simp only [Act.put, List.setIfInBounds_toArray, List.set_cons_zero, List.set_cons_succ])
              refine wpAnyH_take (i := 4) (oi := ⟨some 23, _, _, _, _, _⟩) (v := ?_) rfl (by kernel_rfl) (by kernel_rfl) (by kernel_rfl) (fun _ _ _ h => h) (Or.inl ⟨by rfl, ?_⟩) (by assumption) ?_
              rotate_left
              · ((intro w hSw; (try dsimp only at hSw); go_simp); try with_reducible rfl)
              (try simp only [Act.put, List.setIfInBounds_toArray, List.set_cons_zero, List.set_cons_succ])
              refine wpAnyH_take (i := 5) (oi := ⟨some 24, _, _, _, _, _⟩) (v := ?_) rfl (by kernel_rfl) (by kernel_rfl) (by kernel_rfl) (fun _ _ _ h => h) (Or.inl ⟨by rfl, ?_⟩) (by assumption) ?_
              rotate_left
              · ((intro w hSw; (try dsimp only at hSw); go_simp); try with_reducible rfl)
              (try simp only [Act.put, List.setIfInBounds_toArray, List.set_cons_zero, List.set_cons_succ])
              refine wpAnyH_take (i := 6) (oi := ⟨some 25, _, _, _, _, _⟩) (v := ?_) rfl (by kernel_rfl) (by kernel_rfl) (by kernel_rfl) (fun _ _ _ h => h) (Or.inl ⟨by rfl, ?_⟩) (by assumption) ?_
              rotate_left
              · ((intro w hSw; (try dsimp only at hSw); go_simp); try with_reducible rfl)
              (try simp only [Act.put, List.setIfInBounds_toArray, List.set_cons_zero, List.set_cons_succ])
              refine wpAnyH_take (i := 7) (oi := ⟨some 26, _, _, _, _, _⟩) (v := ?_) rfl (by kernel_rfl) (by kernel_rfl) (by kernel_rfl) (fun _ _ _ h => h) (Or.inl ⟨by rfl, ?_⟩) (by assumption) ?_
              rotate_left
              · ((intro w hSw; (try dsimp only at hSw); go_simp); try with_reducible rfl)
              (try simp only [Act.put, List.setIfInBounds_toArray, List.set_cons_zero, List.set_cons_succ])
              refine wpAnyH_take (i := 9) (oi := ⟨some 28, _, _, _, _, _⟩) (v := ?_) rfl (by kernel_rfl) (by kernel_rfl) (by kernel_rfl) (fun _ _ _ h => h) (Or.inl ⟨by rfl, ?_⟩) (by assumption) ?_
              rotate_left
              · ((intro w hSw; (try dsimp only at hSw); go_simp); try with_reducible rfl)
              (try simp only [Act.put, List.setIfInBounds_toArray, List.set_cons_zero, List.set_cons_succ])
              refine wpAnyH_take (i := 10) (oi := ⟨some 29, _, _, _, _, _⟩) (v := ?_) rfl (by kernel_rfl) (by kernel_rfl) (by kernel_rfl) (fun _ _ _ h => h) (Or.inl ⟨by rfl, ?_⟩) (by assumption) ?_
              rotate_left
              · ((intro w hSw; (try dsimp only at hSw); go_simp); try with_reducible rfl)
              (try simp only [Act.put, List.setIfInBounds_toArray, List.set_cons_zero, List.set_cons_succ])
              refine wpAnyH_take (i := 11) (oi := ⟨some 30, _, _, _, _, _⟩) (v := ?_) rfl (by kernel_rfl) (by kernel_rfl) (by kernel_rfl) (fun _ _ _ h => h) (Or.inl ⟨by rfl, ?_⟩) (by assumption) ?_
              rotate_left
              · ((intro w hSw; (try dsimp only at hSw); go_simp); try with_reducible rfl)
              (try simp only [Act.put, List.setIfInBounds_toArray, List.set_cons_zero, List.set_cons_succ])
              refine wpAnyH_take (i := 12) (oi := ⟨some 31, _, _, _, _, _⟩) (v := ?_) rfl (by kernel_rfl) (by kernel_rfl) (by kernel_rfl) (fun _ _ _ h => h) (Or.inl ⟨by rfl, ?_⟩) (by assumption) ?_
              rotate_left
              · ((intro w hSw; (try dsimp only at hSw); go_simp); try with_reducible rfl)
              (try simp only [Act.put, List.setIfInBounds_toArray, List.set_cons_zero, List.set_cons_succ])
              refine wpAnyH_ready (rs := [8]) (by kernel_rfl) (by simp) (AllReadyH.cons rfl (fun K hK => ?_) AllReadyH.nil)
              rw [if_pos (by rfl)]
              go_simp
              go_at_call 17
              (with_reducible refine (CN.out _).mono ?_)
              rintro e v1 ⟨ya, yn, yc, rfl, ho, hb1⟩
              have hk1 : Below wq.heap.size wq v1 := hk0.trans (hb1.mono hk0.size)
              have HO := Lib.hid ho
              have hyn : yn ≤ 2 := by have := ho.read.1; have := HNL.out; omega
              clear ho hb1
              have CH : RowKit.Hid (∀ u, Below v1.heap.size v1 u → Calls Try.prog 29 #[.slice ya yn yc, .int .i64 (q : Int)] u fun e w' => e = .returned (.bool true) ∧ u = w') := Lib.hid fun u hb => by rw [← HBB.out]; exact has_any ya yn yc _ q u (HO.out.read.since hb) (by omega)
              refine hK.out _ _ (HKT.out _ hk1) (fun hHeld => ?_)
              clear hK K
              (try simp only [Act.put, List.setIfInBounds_toArray, List.set_cons_zero, List.set_cons_succ])
              refine wpAnyH_ready (rs := [13]) (by kernel_rfl) (by simp) (AllReadyH.cons rfl (fun K hK => ?_) AllReadyH.nil)
              rw [if_pos (by rfl)]
              go_simp
              go_at_call 29
              (with_reducible refine (CH.out _ (Below.refl _ _)).mono ?_)
              rintro e v2 ⟨rfl, rfl⟩
              refine hK.out _ _ (HKT.out _ hk1) (fun hHeld => ?_)
              clear hK K
              (try simp only [Act.put, List.setIfInBounds_toArray, List.set_cons_zero, List.set_cons_succ])
              refine wpAnyH_take (i := 14) (oi := ⟨some 33, _, _, _, _, _⟩) (v := ?_) rfl (by kernel_rfl) (by kernel_rfl) (by kernel_rfl) (fun _ _ _ h => h) (Or.inl ⟨by rfl, ?_⟩) (by assumption) ?_
              rotate_left
              · ((intro w hSw; (try dsimp only at hSw); go_simp); try with_reducible rfl)
              (try simp only [Act.put, List.setIfInBounds_toArray, List.set_cons_zero, List.set_cons_succ])
              refine wpAnyH_take (i := 15) (oi := ⟨some 34, _, _, _, _, _⟩) (v := ?_) rfl (by kernel_rfl) (by kernel_rfl) (by kernel_rfl) (fun _ _ _ h => h) (Or.inl ⟨by rfl, ?_⟩) (by assumption) ?_
              rotate_left
              · ((intro w hSw; (try dsimp only at hSw); go_simp); try with_reducible rfl)
              (try simp only [Act.put, List.setIfInBounds_toArray, List.set_cons_zero, List.set_cons_succ])
              refine wpAnyH_take (i := 16) (oi := ⟨some 35, _, _, _, _, _⟩) (v := ?_) rfl (by kernel_rfl) (by kernel_rfl) (by kernel_rfl) (fun _ _ _ h => h) (Or.inl ⟨by rfl, ?_⟩) (by assumption) ?_
              rotate_left
              · ((intro w hSw; (try dsimp only at hSw); go_simp); try with_reducible rfl)
              (try simp only [Act.put, List.setIfInBounds_toArray, List.set_cons_zero, List.set_cons_succ])
              refine wpAnyH_take (i := 17) (oi := ⟨some 36, _, _, _, _, _⟩) (v := ?_) rfl (by kernel_rfl) (by kernel_rfl) (by kernel_rfl) (fun _ _ _ h => h) (Or.inl ⟨by rfl, ?_⟩) (by assumption) ?_
              rotate_left
              · ((intro w hSw; (try dsimp only at hSw); go_simp); try with_reducible rfl)
              (try simp only [Act.put, List.setIfInBounds_toArray, List.set_cons_zero, List.set_cons_succ])
              refine wpAnyH_take (i := 18) (oi := ⟨some 37, _, _, _, _, _⟩) (v := ?_) rfl (by kernel_rfl) (by kernel_rfl) (by kernel_rfl) (fun _ _ _ h => h) (Or.inl ⟨by rfl, ?_⟩) (by assumption) ?_
              rotate_left
              · ((intro w hSw; (try dsimp only at hSw); go_simp); try with_reducible rfl)
              (try simp only [Act.put, List.setIfInBounds_toArray, List.set_cons_zero, List.set_cons_succ])
              refine wpAnyH_take (i := 19) (oi := ⟨some 38, _, _, _, _, _⟩) (v := ?_) rfl (by kernel_rfl) (by kernel_rfl) (by kernel_rfl) (fun _ _ _ h => h) (Or.inl ⟨by rfl, ?_⟩) (by assumption) ?_
              rotate_left
              · ((intro w hSw; (try dsimp only at hSw); go_simp); try with_reducible rfl)
              (try simp only [Act.put, List.setIfInBounds_toArray, List.set_cons_zero, List.set_cons_succ])
              refine wpAnyH_take (i := 20) (oi := ⟨some 39, _, _, _, _, _⟩) (v := ?_) rfl (by kernel_rfl) (by kernel_rfl) (by kernel_rfl) (fun _ _ _ h => h) (Or.inl ⟨by rfl, ?_⟩) (by assumption) ?_
              rotate_left
              · ((intro w hSw; (try dsimp only at hSw); go_simp); try with_reducible rfl)
              (try simp only [Act.put, List.setIfInBounds_toArray, List.set_cons_zero, List.set_cons_succ])
              refine wpAnyH_take (i := 21) (oi := ⟨some 40, _, _, _, _, _⟩) (v := ?_) rfl (by kernel_rfl) (by kernel_rfl) (by kernel_rfl) (fun _ _ _ h => h) (Or.inl ⟨by rfl, ?_⟩) (by assumption) ?_
              rotate_left
              · ((intro w hSw; (try dsimp only at hSw); go_simp); try with_reducible rfl)
              (try simp only [Act.put, List.setIfInBounds_toArray, List.set_cons_zero, List.set_cons_succ])
              refine wpAnyH_take (i := 22) (oi := ⟨some 41, _, _, _, _, _⟩) (v := ?_) rfl (by kernel_rfl) (by kernel_rfl) (by kernel_rfl) (fun _ _ _ h => h) (Or.inl ⟨by rfl, ?_⟩) (by assumption) ?_
              rotate_left
              · ((intro w hSw; (try dsimp only at hSw); go_simp); try with_reducible rfl)
              (try simp only [Act.put, List.setIfInBounds_toArray, List.set_cons_zero, List.set_cons_succ])
              refine wpAnyH_take (i := 23) (oi := ⟨some 42, _, _, _, _, _⟩) (v := ?_) rfl (by kernel_rfl) (by kernel_rfl) (by kernel_rfl) (fun _ _ _ h => h) (Or.inl ⟨by rfl, ?_⟩) (by assumption) ?_
              rotate_left
              · ((intro w hSw; (try dsimp only at hSw); go_simp); try with_reducible rfl)
              (try simp only [Act.put, List.setIfInBounds_toArray, List.set_cons_zero, List.set_cons_succ])
              refine wpAnyH_ready (rs := [24]) (by kernel_rfl) (by simp) (AllReadyH.cons rfl (fun K hK => ?_) AllReadyH.nil)
              rw [if_pos (by rfl)]
              go_simp
              go_at_call 25
              (with_reducible refine (CV.out _ hk1).mono ?_)
              rintro e v3 ⟨rfl, hb3⟩
              have hk3 : Below wq.heap.size wq v3 := hk1.trans (hb3.mono hk1.size)
              clear hb3
              refine hK.out _ _ (HKT.out _ hk3) (fun hHeld => ?_)
              clear hK K
              (try simp only [Act.put, List.setIfInBounds_toArray, List.set_cons_zero, List.set_cons_succ])
              refine wpAnyH_take (i := 25) (oi := ⟨some 44, _, _, _, _, _⟩) (v := ?_) rfl (by kernel_rfl) (by kernel_rfl) (by kernel_rfl) (fun _ _ _ h => h) (Or.inl ⟨by rfl, ?_⟩) (by assumption) ?_
              rotate_left
              · ((intro w hSw; (try dsimp only at hSw); go_simp); try with_reducible rfl)
              (try simp only [Act.put, List.setIfInBounds_toArray, List.set_cons_zero, List.set_cons_succ])
              refine wpAnyH_take (i := 26) (oi := ⟨some 45, _, _, _, _, _⟩) (v := ?_) rfl (by kernel_rfl) (by kernel_rfl) (by kernel_rfl) (fun _ _ _ h => h) (Or.inl ⟨by rfl, ?_⟩) (by assumption) ?_
              rotate_left
              · ((intro w hSw; (try dsimp only at hSw); go_simp); try with_reducible rfl)
              (try simp only [Act.put, List.setIfInBounds_toArray, List.set_cons_zero, List.set_cons_succ])
              refine wpAnyH_done (by kernel_rfl) ?_ _
              have HX2 := Lib.hid (HX.out.since hk3)
              clear hk0 hk1 hk3 HKT CN CV CH
              go_wp2_with fail
              go_roundw
              case rel => exact ⟨j + 1, by omega, by go_num, HX2, HJ2⟩
              case measure => simp [intOf, hwj]; omega
            | false =>
              have HR : RowKit.Hid (tameB F = false) := Lib.hid (tameB_false fun ht => by have h := HTK.out.1 (tame_all.1 ht i (by rw [HVN.out]; exact hlt) j (by omega)) rfl; cases h)
              refine wp_region_held_drew (S := (fun u : World => u.cell? ⟨g, off + i, none⟩ = some (.int .i64 (p : Int)) ∧ u.cell? ⟨g, off + j, none⟩ = some (.int .i64 (q : Int)) ∧ u.cell? ⟨w.heap.size, 0, none⟩ = some (.int .i64 r) ∧ u.cell? ⟨w.heap.size, 1, none⟩ = some (.slice (some ⟨g2, off2, none⟩) n c) ∧ u.cell? ⟨g2, off2 + p * 8, none⟩ = some (.slice pa pn pc) ∧ u.cell? ⟨g2, off2 + p * 8 + 1, none⟩ = some (.slice oa on oc) ∧ u.cell? ⟨g2, off2 + p * 8 + 2, none⟩ = some (.int .i64 EK) ∧ u.cell? ⟨g2, off2 + p * 8 + 3, none⟩ = some (.int .i64 EA) ∧ u.cell? ⟨g2, off2 + p * 8 + 4, none⟩ = some (.int .i64 ET) ∧ u.cell? ⟨g2, off2 + p * 8 + 5, none⟩ = some (.int .i64 EE) ∧ u.cell? ⟨g2, off2 + p * 8 + 6, none⟩ = some (.slice la ln lc) ∧ u.cell? ⟨g2, off2 + p * 8 + 7, none⟩ = some (.slice ma mn mc))) (by kernel_rfl) (HKT.out _ hk0) (fun hHeld => ?_)
              refine wpAnyH_take (i := 0) (oi := ⟨some 19, _, _, _, _, _⟩) (v := ?_) rfl (by kernel_rfl) (by kernel_rfl) (by kernel_rfl) (fun _ _ _ h => h) (Or.inl ⟨by rfl, ?_⟩) (by assumption) ?_
              rotate_left
              · ((intro w hSw; (try dsimp only at hSw); go_simp); try with_reducible rfl)
              (try simp only [Act.put, List.setIfInBounds_toArray, List.set_cons_zero, List.set_cons_succ])
              refine wpAnyH_take (i := 1) (oi := ⟨some 20, _, _, _, _, _⟩) (v := ?_) rfl (by kernel_rfl) (by kernel_rfl) (by kernel_rfl) (fun _ _ _ h => h) (Or.inl ⟨by rfl, ?_⟩) (by assumption) ?_
              rotate_left
              · ((intro w hSw; (try dsimp only at hSw); go_simp); try with_reducible rfl)
              (try simp only [Act.put, List.setIfInBounds_toArray, List.set_cons_zero, List.set_cons_succ])
              refine wpAnyH_take (i := 2) (oi := ⟨some 21, _, _, _, _, _⟩) (v := ?_) rfl (by kernel_rfl) (by kernel_rfl) (by kernel_rfl) (fun _ _ _ h => h) (Or.inl ⟨by rfl, ?_⟩) (by assumption) ?_
              rotate_left
              · ((intro w hSw; (try dsimp only at hSw); go_simp); try with_reducible rfl)
              (try simp only [Act.put, List.setIfInBounds_toArray, List.set_cons_zero, List.set_cons_succ])
              refine wpAnyH_take (i := 3) (oi := ⟨some 22, _, _, _, _, _⟩) (v := ?_) rfl (by kernel_rfl) (by kernel_rfl) (by kernel_rfl) (fun _ _ _ h => h) (Or.inl ⟨by rfl, ?_⟩) (by assumption) ?_
              rotate_left
              · ((intro w hSw; (try dsimp only at hSw); go_simp); try with_reducible rfl)
              (try simp only [Act.put, List.setIfInBounds_toArray, List.set_cons_zero, List.set_cons_succ])
              refine wpAnyH_take (i := 4) (oi := ⟨some 23, _, _, _, _, _⟩) (v := ?_) rfl (by kernel_rfl) (by kernel_rfl) (by kernel_rfl) (fun _ _ _ h => h) (Or.inl ⟨by rfl, ?_⟩) (by assumption) ?_
              rotate_left
              · ((intro w hSw; (try dsimp only at hSw); go_simp); try with_reducible rfl)
              (try simp only [Act.put, List.setIfInBounds_toArray, List.set_cons_zero, List.set_cons_succ])
              refine wpAnyH_take (i := 5) (oi := ⟨some 24, _, _, _, _, _⟩) (v := ?_) rfl (by kernel_rfl) (by kernel_rfl) (by kernel_rfl) (fun _ _ _ h => h) (Or.inl ⟨by rfl, ?_⟩) (by assumption) ?_
              rotate_left
              · ((intro w hSw; (try dsimp only at hSw); go_simp); try with_reducible rfl)
              (try simp only [Act.put, List.setIfInBounds_toArray, List.set_cons_zero, List.set_cons_succ])
              refine wpAnyH_take (i := 6) (oi := ⟨some 25, _, _, _, _, _⟩) (v := ?_) rfl (by kernel_rfl) (by kernel_rfl) (by kernel_rfl) (fun _ _ _ h => h) (Or.inl ⟨by rfl, ?_⟩) (by assumption) ?_
              rotate_left
              · ((intro w hSw; (try dsimp only at hSw); go_simp); try with_reducible rfl)
              (try simp only [Act.put, List.setIfInBounds_toArray, List.set_cons_zero, List.set_cons_succ])
              refine wpAnyH_take (i := 7) (oi := ⟨some 26, _, _, _, _, _⟩) (v := ?_) rfl (by kernel_rfl) (by kernel_rfl) (by kernel_rfl) (fun _ _ _ h => h) (Or.inl ⟨by rfl, ?_⟩) (by assumption) ?_
              rotate_left
              · ((intro w hSw; (try dsimp only at hSw); go_simp); try with_reducible rfl)
              (try simp only [Act.put, List.setIfInBounds_toArray, List.set_cons_zero, List.set_cons_succ])
              refine wpAnyH_take (i := 9) (oi := ⟨some 28, _, _, _, _, _⟩) (v := ?_) rfl (by kernel_rfl) (by kernel_rfl) (by kernel_rfl) (fun _ _ _ h => h) (Or.inl ⟨by rfl, ?_⟩) (by assumption) ?_
              rotate_left
              · ((intro w hSw; (try dsimp only at hSw); go_simp); try with_reducible rfl)
              (try simp only [Act.put, List.setIfInBounds_toArray, List.set_cons_zero, List.set_cons_succ])
              refine wpAnyH_take (i := 10) (oi := ⟨some 29, _, _, _, _, _⟩) (v := ?_) rfl (by kernel_rfl) (by kernel_rfl) (by kernel_rfl) (fun _ _ _ h => h) (Or.inl ⟨by rfl, ?_⟩) (by assumption) ?_
              rotate_left
              · ((intro w hSw; (try dsimp only at hSw); go_simp); try with_reducible rfl)
              (try simp only [Act.put, List.setIfInBounds_toArray, List.set_cons_zero, List.set_cons_succ])
              refine wpAnyH_take (i := 11) (oi := ⟨some 30, _, _, _, _, _⟩) (v := ?_) rfl (by kernel_rfl) (by kernel_rfl) (by kernel_rfl) (fun _ _ _ h => h) (Or.inl ⟨by rfl, ?_⟩) (by assumption) ?_
              rotate_left
              · ((intro w hSw; (try dsimp only at hSw); go_simp); try with_reducible rfl)
              (try simp only [Act.put, List.setIfInBounds_toArray, List.set_cons_zero, List.set_cons_succ])
              refine wpAnyH_take (i := 12) (oi := ⟨some 31, _, _, _, _, _⟩) (v := ?_) rfl (by kernel_rfl) (by kernel_rfl) (by kernel_rfl) (fun _ _ _ h => h) (Or.inl ⟨by rfl, ?_⟩) (by assumption) ?_
              rotate_left
              · ((intro w hSw; (try dsimp only at hSw); go_simp); try with_reducible rfl)
              (try simp only [Act.put, List.setIfInBounds_toArray, List.set_cons_zero, List.set_cons_succ])
              refine wpAnyH_ready (rs := [8]) (by kernel_rfl) (by simp) (AllReadyH.cons rfl (fun K hK => ?_) AllReadyH.nil)
              rw [if_pos (by rfl)]
              go_simp
              go_at_call 17
              (with_reducible refine (CN.out _).mono ?_)
              rintro e v1 ⟨ya, yn, yc, rfl, ho, hb1⟩
              have hk1 : Below wq.heap.size wq v1 := hk0.trans (hb1.mono hk0.size)
              have HO := Lib.hid ho
              have hyn : yn ≤ 2 := by have := ho.read.1; have := HNL.out; omega
              clear ho hb1
              have CH : RowKit.Hid (∀ u, Below v1.heap.size v1 u → Calls Try.prog 29 #[.slice ya yn yc, .int .i64 (q : Int)] u fun e w' => e = .returned (.bool true) ∧ u = w') := Lib.hid fun u hb => by rw [← HBB.out]; exact has_any ya yn yc _ q u (HO.out.read.since hb) (by omega)
              refine hK.out _ _ (HKT.out _ hk1) (fun hHeld => ?_)
              clear hK K
              (try simp only [Act.put, List.setIfInBounds_toArray, List.set_cons_zero, List.set_cons_succ])
              refine wpAnyH_ready (rs := [13]) (by kernel_rfl) (by simp) (AllReadyH.cons rfl (fun K hK => ?_) AllReadyH.nil)
              rw [if_pos (by rfl)]
              go_simp
              go_at_call 29
              (with_reducible refine (CH.out _ (Below.refl _ _)).mono ?_)
              rintro e v2 ⟨rfl, rfl⟩
              refine hK.out _ _ (HKT.out _ hk1) (fun hHeld => ?_)
              clear hK K
              (try simp only [Act.put, List.setIfInBounds_toArray, List.set_cons_zero, List.set_cons_succ])
              refine wpAnyH_take (i := 14) (oi := ⟨some 33, _, _, _, _, _⟩) (v := ?_) rfl (by kernel_rfl) (by kernel_rfl) (by kernel_rfl) (fun _ _ _ h => h) (Or.inl ⟨by rfl, ?_⟩) (by assumption) ?_
              rotate_left
              · ((intro w hSw; (try dsimp only at hSw); go_simp); try with_reducible rfl)
              (try simp only [Act.put, List.setIfInBounds_toArray, List.set_cons_zero, List.set_cons_succ])
              refine wpAnyH_take (i := 15) (oi := ⟨some 34, _, _, _, _, _⟩) (v := ?_) rfl (by kernel_rfl) (by kernel_rfl) (by kernel_rfl) (fun _ _ _ h => h) (Or.inl ⟨by rfl, ?_⟩) (by assumption) ?_
              rotate_left
              · ((intro w hSw; (try dsimp only at hSw); go_simp); try with_reducible rfl)
              (try simp only [Act.put, List.setIfInBounds_toArray, List.set_cons_zero, List.set_cons_succ])
              refine wpAnyH_take (i := 16) (oi := ⟨some 35, _, _, _, _, _⟩) (v := ?_) rfl (by kernel_rfl) (by kernel_rfl) (by kernel_rfl) (fun _ _ _ h => h) (Or.inl ⟨by rfl, ?_⟩) (by assumption) ?_
              rotate_left
              · ((intro w hSw; (try dsimp only at hSw); go_simp); try with_reducible rfl)
              (try simp only [Act.put, List.setIfInBounds_toArray, List.set_cons_zero, List.set_cons_succ])
              refine wpAnyH_take (i := 17) (oi := ⟨some 36, _, _, _, _, _⟩) (v := ?_) rfl (by kernel_rfl) (by kernel_rfl) (by kernel_rfl) (fun _ _ _ h => h) (Or.inl ⟨by rfl, ?_⟩) (by assumption) ?_
              rotate_left
              · ((intro w hSw; (try dsimp only at hSw); go_simp); try with_reducible rfl)
              (try simp only [Act.put, List.setIfInBounds_toArray, List.set_cons_zero, List.set_cons_succ])
              refine wpAnyH_take (i := 18) (oi := ⟨some 37, _, _, _, _, _⟩) (v := ?_) rfl (by kernel_rfl) (by kernel_rfl) (by kernel_rfl) (fun _ _ _ h => h) (Or.inl ⟨by rfl, ?_⟩) (by assumption) ?_
              rotate_left
              · ((intro w hSw; (try dsimp only at hSw); go_simp); try with_reducible rfl)
              (try simp only [Act.put, List.setIfInBounds_toArray, List.set_cons_zero, List.set_cons_succ])
              refine wpAnyH_take (i := 19) (oi := ⟨some 38, _, _, _, _, _⟩) (v := ?_) rfl (by kernel_rfl) (by kernel_rfl) (by kernel_rfl) (fun _ _ _ h => h) (Or.inl ⟨by rfl, ?_⟩) (by assumption) ?_
              rotate_left
              · ((intro w hSw; (try dsimp only at hSw); go_simp); try with_reducible rfl)
              (try simp only [Act.put, List.setIfInBounds_toArray, List.set_cons_zero, List.set_cons_succ])
              refine wpAnyH_take (i := 20) (oi := ⟨some 39, _, _, _, _, _⟩) (v := ?_) rfl (by kernel_rfl) (by kernel_rfl) (by kernel_rfl) (fun _ _ _ h => h) (Or.inl ⟨by rfl, ?_⟩) (by assumption) ?_
              rotate_left
              · ((intro w hSw; (try dsimp only at hSw); go_simp); try with_reducible rfl)
              (try simp only [Act.put, List.setIfInBounds_toArray, List.set_cons_zero, List.set_cons_succ])
              refine wpAnyH_take (i := 21) (oi := ⟨some 40, _, _, _, _, _⟩) (v := ?_) rfl (by kernel_rfl) (by kernel_rfl) (by kernel_rfl) (fun _ _ _ h => h) (Or.inl ⟨by rfl, ?_⟩) (by assumption) ?_
              rotate_left
              · ((intro w hSw; (try dsimp only at hSw); go_simp); try with_reducible rfl)
              (try simp only [Act.put, List.setIfInBounds_toArray, List.set_cons_zero, List.set_cons_succ])
              refine wpAnyH_take (i := 22) (oi := ⟨some 41, _, _, _, _, _⟩) (v := ?_) rfl (by kernel_rfl) (by kernel_rfl) (by kernel_rfl) (fun _ _ _ h => h) (Or.inl ⟨by rfl, ?_⟩) (by assumption) ?_
              rotate_left
              · ((intro w hSw; (try dsimp only at hSw); go_simp); try with_reducible rfl)
              (try simp only [Act.put, List.setIfInBounds_toArray, List.set_cons_zero, List.set_cons_succ])
              refine wpAnyH_take (i := 23) (oi := ⟨some 42, _, _, _, _, _⟩) (v := ?_) rfl (by kernel_rfl) (by kernel_rfl) (by kernel_rfl) (fun _ _ _ h => h) (Or.inl ⟨by rfl, ?_⟩) (by assumption) ?_
              rotate_left
              · ((intro w hSw; (try dsimp only at hSw); go_simp); try with_reducible rfl)
              (try simp only [Act.put, List.setIfInBounds_toArray, List.set_cons_zero, List.set_cons_succ])
              refine wpAnyH_ready (rs := [24]) (by kernel_rfl) (by simp) (AllReadyH.cons rfl (fun K hK => ?_) AllReadyH.nil)
              rw [if_pos (by rfl)]
              go_simp
              go_at_call 25
              (with_reducible refine (CV.out _ hk1).mono ?_)
              rintro e v3 ⟨rfl, hb3⟩
              have hk3 : Below wq.heap.size wq v3 := hk1.trans (hb3.mono hk1.size)
              clear hb3
              refine hK.out _ _ (HKT.out _ hk3) (fun hHeld => ?_)
              clear hK K
              (try simp only [Act.put, List.setIfInBounds_toArray, List.set_cons_zero, List.set_cons_succ])
              refine wpAnyH_take (i := 25) (oi := ⟨some 44, _, _, _, _, _⟩) (v := ?_) rfl (by kernel_rfl) (by kernel_rfl) (by kernel_rfl) (fun _ _ _ h => h) (Or.inl ⟨by rfl, ?_⟩) (by assumption) ?_
              rotate_left
              · ((intro w hSw; (try dsimp only at hSw); go_simp); try with_reducible rfl)
              (try simp only [Act.put, List.setIfInBounds_toArray, List.set_cons_zero, List.set_cons_succ])
              refine wpAnyH_take (i := 26) (oi := ⟨some 45, _, _, _, _, _⟩) (v := ?_) rfl (by kernel_rfl) (by kernel_rfl) (by kernel_rfl) (fun _ _ _ h => h) (Or.inl ⟨by rfl, ?_⟩) (by assumption) ?_
              rotate_left
              · ((intro w hSw; (try dsimp only at hSw); go_simp); try with_reducible rfl)
              (try simp only [Act.put, List.setIfInBounds_toArray, List.set_cons_zero, List.set_cons_succ])
              refine wpAnyH_done (by kernel_rfl) ?_ _
              have HBZ : RowKit.Hid (Below w.heap.size w v3) := Lib.hid (HX.out.bel.trans (hk3.mono HX.out.bel.size))
              clear hk0 hk1 hk3 HKT CN CV CH
              go_wp2_with fail
              go_ret
              exact ⟨by rw [HR.out]; rfl, HBZ.out⟩
        · obtain rfl : j = i + 1 := by omega
          have hw := HW.out
          have hnle : ¬ ((i + 1 : Nat) : Int) ≤ (i : Int) := by omega
          have HOK2 : RowKit.Hid (∀ x, x < i + 1 → ∀ y, y ≤ x → okT F x y) := Lib.hid fun x hx y hy => by
            by_cases e : x = i
            · subst e; exact HJ.out y (by omega)
            · exact HOK.out x (by omega) y hy
          go_wp2_with fail
          go_roundw
          case rel => exact ⟨i + 1, hlt, by go_num, HX, HOK2⟩
          case measure => simp [intOf, hw]; omega
    · obtain rfl : i = vn := by omega
      have HR : RowKit.Hid (tameB F = true) := Lib.hid (tameB_true (tame_all.2 fun x hx y hy => HOK.out x (by rw [← HVN.out]; exact hx) y hy))
      go_wp2_with fail
      go_ret
      exact ⟨by rw [HR.out]; rfl, HI.out.bel⟩
end Go.Proofs.Ytdnihphnoibpgaa
