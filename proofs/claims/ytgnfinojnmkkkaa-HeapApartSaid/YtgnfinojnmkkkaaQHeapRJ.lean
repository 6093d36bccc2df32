/- Layer 10: the document's why, Get, Set and Size. -/
import Derived.Test.YtgnfinojnmkkkaaQT4

namespace Go.Proofs.Ytgnfinojnmkkkaa
open Go.RowKit (wrap64 intOf Below)
set_option linter.unusedVariables false
set_option linter.unusedSimpArgs false

section
variable {W : World} {B cap : Nat} {R : RM} {G : GR}
/-- Which thing r is. -/
theorem robj_cases (R : RM) (r : Int) : (R.obj r = none ∧ (r < 1 ∨ (R.L.length : Int) < r)) ∨ ∃ (i : Nat) (h1 : i < R.L.length), r = (i : Int) + 1 ∧ R.obj r = some R.L[i] := by
  unfold RM.obj
  by_cases h1 : 1 ≤ r
  · rw [if_pos h1]
    by_cases h2 : (r - 1).toNat < R.L.length
    · exact .inr ⟨(r - 1).toNat, h2, by omega, List.getElem?_eq_getElem h2⟩
    · exact .inl ⟨List.getElem?_eq_none_iff.2 (by omega), .inr (by omega)⟩
  · rw [if_neg h1]; exact .inl ⟨rfl, .inl (by omega)⟩
end
set_option maxRecDepth 100000 in
set_option maxHeartbeats 1000000 in
theorem refwhy_any {W : World} {B cap : Nat} {R : RM} {G : GR} (h : RefAt W B cap R G) (hcap : cap ≤ 1099511627776) (r k : Int) (hr : -9223372036854775808 ≤ r ∧ r ≤ 9223372036854775807) :
    Calls Try.prog 50 #[.pointer (some ⟨G.p, 0, none⟩), .int .i64 r, .int .i64 k] W fun e w' => e = .returned (.int .i64 (whyR R r k)) ∧ w' = W := by
  have c0 := h.cell 0
  simp only [List.getElem?_toArray, List.getElem?_cons_succ, List.getElem?_cons_zero] at c0
  rw [h.ln] at c0
  have hll := h.num.len
  rcases robj_cases R r with ⟨ho, h1⟩ | ⟨i, h1, rfl, ho⟩
  · have HR : RowKit.Hid (whyR R r k = 6) := Lib.hid (by unfold whyR; rw [ho])
    generalize R.L.length = N at *
    rcases h1 with h1 | h1
    · have hd : decide (r < 1) = true := decide_eq_true h1
      clear h ho
      go_enter Try.func50, Try.ntmps50
      go_wp2_with fail
      go_ret
      exact ⟨by rw [HR.out]; rfl, rfl⟩
    · have hd : decide (r < 1) = false := decide_eq_false (by omega)
      have hd2 : decide ((N : Int) < r) = true := decide_eq_true h1
      clear h ho
      go_enter Try.func50, Try.ntmps50
      go_wp2_with fail
      go_ret
      exact ⟨by rw [HR.out]; rfl, rfl⟩
  · obtain ⟨lb, e, hl, _, _, t0, t1, t2, t3, t4, t5⟩ := h.thing h1 (by rw [h.glen]; exact h1)
    rw [e] at c0
    have HW : RowKit.Hid (whyR R ((i : Int) + 1) k = if R.L[i].kind = k then (if R.L[i].gone then 5 else 0) else 6) := Lib.hid (by unfold whyR; rw [ho])
    have hd : decide ((i : Int) + 1 < 1) = false := decide_eq_false (by omega)
    have hd2 : decide ((R.L.length : Int) < (i : Int) + 1) = false := decide_eq_false (by omega)
    have hw : wrap64 ((i : Int) + 1 - 1) = (i : Int) := by unfold wrap64; omega
    have hi0 : (0 : Int) ≤ (i : Int) := by omega
    have hi1 : (i : Int) < (R.L.length : Int) := by omega
    generalize R.L[i] = t at *
    obtain ⟨N, hN⟩ : ∃ N, R.L.length = N := ⟨_, rfl⟩
    rw [hN] at c0 hd2 hi1
    obtain ⟨kd, hkd⟩ : ∃ kd, t.kind = kd := ⟨_, rfl⟩
    obtain ⟨gn, hgn⟩ : ∃ gn, t.gone = gn := ⟨_, rfl⟩
    rw [hkd] at t0 HW
    rw [hgn] at t5 HW
    clear h ho e t1 t2 t3 t4 h1 hkd hgn t hN hll
    by_cases hk : kd = k
    · have hb : (kd != k) = false := by simp [hk]
      have hb2 : (kd == k) = true := by simp [hk]
      rw [if_pos hk] at HW
      cases gn with
      | true =>
        clear hk
        go_enter Try.func50, Try.ntmps50
        go_wp2_with fail
        go_ret
        exact ⟨by rw [HW.out]; rfl, rfl⟩
      | false =>
        clear hk
        go_enter Try.func50, Try.ntmps50
        go_wp2_with fail
        go_ret
        exact ⟨by rw [HW.out]; rfl, rfl⟩
    · have hb : (kd != k) = true := by simp [hk]
      have hb2 : (kd == k) = false := by simp [hk]
      rw [if_neg hk] at HW
      clear hk
      go_enter Try.func50, Try.ntmps50
      go_wp2_with fail
      go_ret
      exact ⟨by rw [HW.out]; rfl, rfl⟩
/-! ## Get -/
section
variable {W : World} {B cap : Nat} {R : RM} {G : GR}
theorem getR_why (R : RM) (r i : Int) (h : whyR R r 0 ≠ 0) : getR R r i = (zeroVV, whyR R r 0) := by
  unfold whyR at h ⊢
  unfold getR
  cases ho : R.obj r with
  | none => rfl
  | some t =>
    rw [ho] at h
    simp only at h ⊢
    by_cases hk : t.kind = 0
    · by_cases hg : t.gone = true
      · simp [hk, hg]
      · simp [hk, hg] at h
    · simp [hk]
theorem getR_ok (R : RM) (r i : Int) (h : whyR R r 0 = 0) : ∃ (k : Nat) (h1 : k < R.L.length), r = (k : Int) + 1 ∧ R.obj r = some R.L[k] ∧ getR R r i = if i < 0 ∨ (R.L[k].V.length : Int) ≤ i then (zeroVV, 2) else (R.L[k].V.getD i.toNat zeroVV, 0) := by
  rcases robj_cases R r with ⟨ho, _⟩ | ⟨k, h1, hr, ho⟩
  · unfold whyR at h; rw [ho] at h; simp at h
  · refine ⟨k, h1, hr, ho, ?_⟩
    unfold whyR at h
    rw [ho] at h
    unfold getR
    rw [ho]
    simp only at h ⊢
    split at h <;> rename_i hk
    · split at h <;> rename_i hg
      · simp at h
      · rw [if_pos hk, if_neg hg]
    · simp at h
end
set_option maxRecDepth 100000 in
set_option maxHeartbeats 1000000 in
theorem refget_any {W : World} {B cap : Nat} {R : RM} {G : GR} (h : RefAt W B cap R G) (hcap : cap ≤ 1099511627776) (r j : Int) (hr : -9223372036854775808 ≤ r ∧ r ≤ 9223372036854775807) :
    Calls Try.prog 33 #[.pointer (some ⟨G.p, 0, none⟩), .int .i64 r, .int .i64 j] W fun e w' => e = .returned (.tuple #[vvV (getR R r j).1, .int .i64 (getR R r j).2]) ∧ Below W.heap.size W w' := by
  have b1 : Below W.heap.size W (W.alloc (.cells #[.int .i64 0, .string ⟨#[]⟩, .int .i64 0] 24)) := (Below.refl _ W).alloc (Nat.le_refl _) _
  have hx1 : (W.alloc (.cells #[.int .i64 0, .string ⟨#[]⟩, .int .i64 0] 24)).heap[W.heap.size]? = _ := World.alloc_heap_new _ _
  obtain ⟨W1, hW1⟩ : ∃ W1, W.alloc (.cells #[.int .i64 0, .string ⟨#[]⟩, .int .i64 0] 24) = W1 := ⟨_, rfl⟩
  rw [hW1] at b1 hx1
  have HB1 := Lib.hid b1
  have h1 := h.since b1
  have CW := Lib.hid (refwhy_any h1 hcap r 0 hr)
  have HX := Lib.hid hx1
  have e0 : W1.cell? ⟨W.heap.size, 0, none⟩ = some (.int .i64 0) := by simp [World.cell?, hx1]
  have e1 : W1.cell? ⟨W.heap.size, 1, none⟩ = some (.string ⟨#[]⟩) := by simp [World.cell?, hx1]
  have e2 : W1.cell? ⟨W.heap.size, 2, none⟩ = some (.int .i64 0) := by simp [World.cell?, hx1]
  have f0 : W1.frozen? ⟨W.heap.size, 0, none⟩ = false := by simp [World.frozen?, hx1]
  have f1 : W1.frozen? ⟨W.heap.size, 1, none⟩ = false := by simp [World.frozen?, hx1]
  have f2 : W1.frozen? ⟨W.heap.size, 2, none⟩ = false := by simp [World.frozen?, hx1]
  by_cases ha : whyR R r 0 = 0
  · rw [ha] at CW
    obtain ⟨k, k1, hrk, ho, hgv⟩ := getR_ok R r j ha
    have k2 : k < G.gts.length := by rw [h.glen]; exact k1
    obtain ⟨lb, e, hl, _, _, t0, t1, t2, t3, t4, t5⟩ := h1.thing k1 k2
    have c0 := h1.cell 0
    simp only [List.getElem?_toArray, List.getElem?_cons_succ, List.getElem?_cons_zero] at c0
    rw [h.ln, e] at c0
    have hll := h.num.len
    have HV : RowKit.Hid (getR R r j = if j < 0 ∨ (R.L[k].V.length : Int) ≤ j then (zeroVV, 2) else (R.L[k].V.getD j.toNat zeroVV, 0)) := Lib.hid hgv
    obtain ⟨hvn, hvc⟩ := (h1.th k k1 k2).V.cells
    have hw : wrap64 (r - 1) = (k : Int) := by unfold wrap64; omega
    have hk0 : (0 : Int) ≤ (k : Int) := by omega
    have hk1 : (k : Int) < (R.L.length : Int) := by omega
    have hVl := (h.num.one _ (List.getElem_mem k1)).V
    generalize R.L[k] = t at *
    generalize G.gts[k] = g at *
    generalize R.L.length = N at *
    unfold sv at t1
    by_cases hj0 : j < 0
    · have hd : decide (j < 0) = true := decide_eq_true hj0
      rw [if_pos (.inl hj0)] at HV
      clear h h1 ha ho hgv e t0 t2 t3 t4 t5 hvc hrk k1 k2 hx1 b1
      go_enter Try.func33, Try.ntmps33
      go_upto_region 1 with fail
      try rw [hW1]
      clear hW1
      go_wp2_with (go_at_call 50; refine CW.out.mono ?_; rintro e u ⟨rfl, hu⟩; rw [hu]; clear hu u)
      refine bodyPost_ret (results_box rfl _ _ W.heap.size _ _ (0, 0) _ rfl (box_set HX.out _ _ _) Try.underlying24 rfl (by kernel_rfl)) rfl ?_
      exact ⟨box_end (by rw [HV.out]; rfl) (by rw [HV.out]), box_below HB1.out _ _ _⟩
    · have hd : decide (j < 0) = false := decide_eq_false hj0
      by_cases hj1 : (g.V.2.1 : Int) ≤ j
      · have hd2 : decide ((g.V.2.1 : Int) ≤ j) = true := decide_eq_true hj1
        rw [if_pos (.inr (by omega))] at HV
        clear h h1 ha ho hgv e t0 t2 t3 t4 t5 hvc hrk k1 k2 hx1 b1 hvn
        go_enter Try.func33, Try.ntmps33
        go_upto_region 1 with fail
        try rw [hW1]
        clear hW1
        go_wp2_with (go_at_call 50; refine CW.out.mono ?_; rintro e u ⟨rfl, hu⟩; rw [hu]; clear hu u)
        refine bodyPost_ret (results_box rfl _ _ W.heap.size _ _ (0, 0) _ rfl (box_set HX.out _ _ _) Try.underlying24 rfl (by kernel_rfl)) rfl ?_
        exact ⟨box_end (by rw [HV.out]; rfl) (by rw [HV.out]), box_below HB1.out _ _ _⟩
      · have hd2 : decide ((g.V.2.1 : Int) ≤ j) = false := decide_eq_false hj1
        obtain ⟨q, rfl⟩ : ∃ q : Nat, j = q := ⟨j.toNat, by omega⟩
        have hql : q < t.V.length := by omega
        rw [if_neg (by omega), Int.toNat_natCast] at HV
        obtain ⟨gb, ev, hgl, _, hcs⟩ := hvc (by omega)
        obtain ⟨d0, d1, d2⟩ := hcs q hql
        have hge : t.V[q] = t.V.getD q zeroVV := by rw [List.getD_eq_getElem?_getD, List.getElem?_eq_getElem hql]; rfl
        rw [hge] at d0 d1 d2
        obtain ⟨y1, y2, y3, hy⟩ : ∃ y1 y2 y3, t.V.getD q zeroVV = (y1, y2, y3) := ⟨_, _, _, rfl⟩
        rw [hy] at d0 d1 d2 HV
        simp only at d0 d1 d2
        rw [ev] at t1
        have hq0 : (0 : Int) ≤ (q : Int) := by omega
        have hq1 : (q : Int) < (g.V.2.1 : Int) := by omega
        clear h h1 ha ho hgv e t0 t2 t3 t4 t5 hvc hrk k1 k2 hx1 b1 hvn hcs hge hy hj0 hj1 ev hql hVl
        go_enter Try.func33, Try.ntmps33
        go_upto_region 1 with fail
        try rw [hW1]
        clear hW1
        go_wp2_with (go_at_call 50; refine CW.out.mono ?_; rintro e u ⟨rfl, hu⟩; rw [hu]; clear hu u)
        refine bodyPost_ret (results_box rfl _ _ W.heap.size _ _ (0, 0) _ rfl (box_set HX.out _ _ _) Try.underlying24 rfl (by kernel_rfl)) rfl ?_
        exact ⟨box_end (by rw [HV.out]) (by rw [HV.out]), box_below HB1.out _ _ _⟩
  · have HV : RowKit.Hid (getR R r j = (zeroVV, whyR R r 0)) := Lib.hid (getR_why R r j ha)
    obtain ⟨x, hx⟩ : ∃ x, whyR R r 0 = x := ⟨_, rfl⟩
    have hxb : (x != 0) = true := by rw [← hx, bne_iff_ne]; exact ha
    rw [hx] at CW HV
    clear h h1 ha hx b1 hx1
    go_enter Try.func33, Try.ntmps33
    go_upto_region 1 with fail
    try rw [hW1]
    clear hW1
    go_wp2_with (go_at_call 50; refine CW.out.mono ?_; rintro e u ⟨rfl, hu⟩; rw [hu]; clear hu u)
    refine bodyPost_ret (results_box rfl _ _ W.heap.size _ _ (0, 0) _ rfl (box_set HX.out _ _ _) Try.underlying24 rfl (by kernel_rfl)) rfl ?_
    exact ⟨box_end (by rw [HV.out]; rfl) (by rw [HV.out]), box_below HB1.out _ _ _⟩
/-! ## Size -/
set_option maxRecDepth 100000 in
set_option maxHeartbeats 1000000 in
theorem refsize_any {W : World} {B cap : Nat} {R : RM} {G : GR} (h : RefAt W B cap R G) (hcap : cap ≤ 1099511627776) (r : Int) (hr : -9223372036854775808 ≤ r ∧ r ≤ 9223372036854775807) :
    Calls Try.prog 36 #[.pointer (some ⟨G.p, 0, none⟩), .int .i64 r] W fun e w' => e = .returned (.tuple #[.int .i64 (sizeR R r).1, .int .i64 (sizeR R r).2]) ∧ Below W.heap.size W w' := by
  have c0 := h.cell 0
  simp only [List.getElem?_toArray, List.getElem?_cons_succ, List.getElem?_cons_zero] at c0
  rw [h.ln] at c0
  have hll := h.num.len
  rcases robj_cases R r with ⟨ho, h1⟩ | ⟨i, h1, rfl, ho⟩
  · have HR : RowKit.Hid (sizeR R r = (0, 6)) := Lib.hid (by unfold sizeR; rw [ho])
    generalize R.L.length = N at *
    rcases h1 with h1 | h1
    · have hd : decide (r < 1) = true := decide_eq_true h1
      clear h ho
      go_enter Try.func36, Try.ntmps36
      go_wp2_with fail
      go_ret2
      exact ⟨int_end (by rw [HR.out]) (by rw [HR.out]), Below.refl _ _⟩
    · have hd : decide (r < 1) = false := decide_eq_false (by omega)
      have hd2 : decide ((N : Int) < r) = true := decide_eq_true h1
      clear h ho
      go_enter Try.func36, Try.ntmps36
      go_wp2_with fail
      go_ret2
      exact ⟨int_end (by rw [HR.out]) (by rw [HR.out]), Below.refl _ _⟩
  · have k2 : i < G.gts.length := by rw [h.glen]; exact h1
    obtain ⟨lb, e, hl, _, _, t0, t1, t2, t3, t4, t5⟩ := h.thing h1 k2
    rw [e] at c0
    have HW : RowKit.Hid (sizeR R ((i : Int) + 1) = if R.L[i].gone then (0, 5) else ((R.L[i].V.length : Int) + (R.L[i].keys.length : Int), 0)) := Lib.hid (by unfold sizeR; rw [ho])
    have hd : decide ((i : Int) + 1 < 1) = false := decide_eq_false (by omega)
    have hd2 : decide ((R.L.length : Int) < (i : Int) + 1) = false := decide_eq_false (by omega)
    have hw : wrap64 ((i : Int) + 1 - 1) = (i : Int) := by unfold wrap64; omega
    have hi0 : (0 : Int) ≤ (i : Int) := by omega
    have hi1 : (i : Int) < (R.L.length : Int) := by omega
    obtain ⟨hvn, _⟩ := (h.th i h1 k2).V.cells
    have hkn : G.gts[i].K.2.1 = R.L[i].keys.length := (OwnsI.read (h.th i h1 k2).K).1.symm
    have hVl := (h.num.one _ (List.getElem_mem h1)).V
    have hKl := (h.num.one _ (List.getElem_mem h1)).keys
    have hws : wrap64 ((G.gts[i].V.2.1 : Int) + (G.gts[i].K.2.1 : Int)) = (R.L[i].V.length : Int) + (R.L[i].keys.length : Int) := by rw [hvn, hkn]; unfold wrap64; omega
    generalize R.L[i] = t at *
    generalize G.gts[i] = g at *
    generalize R.L.length = N at *
    unfold sv at t1 t2 t3
    obtain ⟨gn, hgn⟩ : ∃ gn, t.gone = gn := ⟨_, rfl⟩
    rw [hgn] at t5 HW
    clear h ho e h1 hgn hvn hkn hVl hKl k2
    cases gn with
    | true =>
      go_enter Try.func36, Try.ntmps36
      go_wp2_with fail
      go_ret2
      exact ⟨int_end (by rw [HW.out]; first | rfl | (rw [hws]; rfl)) (by rw [HW.out]; rfl), by first | exact (Below.refl _ W).alloc (Nat.le_refl _) _ | exact box_below ((Below.refl _ W).alloc (Nat.le_refl _) _) _ _ _⟩
    | false =>
      go_enter Try.func36, Try.ntmps36
      go_wp2_with fail
      go_ret2
      exact ⟨int_end (by rw [HW.out]; first | rfl | (rw [hws]; rfl)) (by rw [HW.out]; rfl), by first | exact (Below.refl _ W).alloc (Nat.le_refl _) _ | exact box_below ((Below.refl _ W).alloc (Nat.le_refl _) _) _ _ _⟩
end Go.Proofs.Ytgnfinojnmkkkaa
