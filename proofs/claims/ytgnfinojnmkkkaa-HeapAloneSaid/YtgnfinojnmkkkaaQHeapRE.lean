/- Layer 10: package heap's row.put. -/
import Derived.Test.YtgnfinojnmkkkaaQT0
import Derived.Test.YtgnfinojnmkkkaaQT2

namespace Go.Proofs.Ytgnfinojnmkkkaa
open Go.RowKit (wrap64 intOf Below)
open Go.Maps (Keyed)
set_option linter.unusedVariables false
set_option linter.unusedSimpArgs false

/-- 'm[k] = v' as a step of a region. -/
theorem step_mapUpdate_own {H : Type} {P : Program} {w : World} {ops : Array Oper} {o : Oper} {a : Act} {K' : Act → World → Prop} {Q : Exit → Act → World → Prop} {E : Prop}
    (hgd : Region.wanted o (yielded ops a.tmps) = true) (m x v : Operand) (t : TypeId) (hop : o.op = Op.mapUpdate t m x v)
    (k e : TypeId) (K : Keyed P k) (ht : P.underlying t = some (.map k e)) (R : Value → Option (DataW H × List MemPlace)) (b n : Nat) (D : DataW H)
    (hm : a.eval m = .map (some b)) (hown : w.ownsMap P k R b n D) (hn : n < maxLen) (key val : Value) (kl : Lit) (hx : a.eval x = key) (hv : a.eval v = val) (hkey : keyOf P k key = some kl)
    (d : DataW H) (ps : List MemPlace) (hval : R val = some (d, ps))
    (hK : ∀ w', w'.ownsMap P k R b (n + 1) (D.put kl d) → w.grownBy w' (some b) → K' (a.put o.dst undef) w') :
    if Region.wanted o (yielded ops a.tmps) = true then Oper.wp P o a w K' Q else E := by
  rw [if_pos hgd]
  obtain ⟨w', hrun, r1, r2⟩ := hown.update K ht hn hkey hval
  unfold Oper.wp
  simp [execOp, hop, hm, hx, hv, hrun, Result.andThen]
  exact hK w' r1 r2
structure RowSt (W w' : World) (B cap : Nat) (ρ : Rho) (i : Nat) (o : PO) (g g' : GO) (j : Int) (v : VV) : Prop where
  rw : RwAt w' B (cap + 1) ρ i (rowUp o j v) g'
  ptr : g'.ptr = g.ptr
  q : g'.q = g.q
  kp : Kp ρ (bodyR i) W w'
  bel : Below B W w'
  off : Off (dom ρ) W w'
section
variable {W W2 w3 : World} {B cap : Nat} {ρ ρ' : Rho} {i : Nat} {o : PO} {g : GO}
theorem three_set {W : World} {gb j : Nat} {cs : Array Value} {T : TypeId} (a b c : Value) (h : W.heap[gb]? = some (.cells cs T (0, 0))) : (((W.setCell ⟨gb, j, none⟩ a).setCell ⟨gb, j + 1, none⟩ b).setCell ⟨gb, j + 2, none⟩ c).heap[gb]? = some (.cells (((cs.setIfInBounds j a).setIfInBounds (j + 1) b).setIfInBounds (j + 2) c) T (0, 0)) := by
  rw [heap_setCell_same _ gb (j + 2) _ _ _ (heap_setCell_same _ gb (j + 1) _ _ _ (heap_setCell_same _ gb j _ _ _ h))]
/-- A given value is set. -/
theorem RwAt.putGiv (h : RwAt W B cap ρ i o g) (hq : ρ g.q = some (3, i)) (hr : ∀ b r, ρ b = some r → B ≤ b ∧ b < W.heap.size) (hg : g.giv = true) {k gb : Nat} (hk : k < g.kn) (hgb : g.ka = some ⟨gb, 0, none⟩) {u : World} (hu : Below W.heap.size W u) (v : VV) :
    RowSt W (((u.setCell ⟨gb, k * 3, none⟩ (.int .i64 v.1)).setCell ⟨gb, k * 3 + 1, none⟩ (.string v.2.1)).setCell ⟨gb, k * 3 + 2, none⟩ (.int .i64 v.2.2)) B cap ρ i o g g (k : Int) v := by
  have hb := h.body
  rw [hg] at hb
  obtain ⟨hn, hgv⟩ := hb
  obtain ⟨gb', cs, e, hr4, hh, hc⟩ := hgv (by omega)
  rw [hgb] at e
  cases e
  have hgl := (hr _ _ hr4).2
  have s1 : Off (fun b => b = gb) W (u.setCell ⟨gb, k * 3, none⟩ (.int .i64 v.1)) := (Off.since (X := fun b => b = gb) hu).setCell (p := ⟨gb, k * 3, none⟩) (.inl rfl) _
  have s2 : Off (fun b => b = gb) W ((u.setCell ⟨gb, k * 3, none⟩ (.int .i64 v.1)).setCell ⟨gb, k * 3 + 1, none⟩ (.string v.2.1)) := s1.setCell (p := ⟨gb, k * 3 + 1, none⟩) (.inl rfl) _
  have hoff : Off (fun b => b = gb) W (((u.setCell ⟨gb, k * 3, none⟩ (.int .i64 v.1)).setCell ⟨gb, k * 3 + 1, none⟩ (.string v.2.1)).setCell ⟨gb, k * 3 + 2, none⟩ (.int .i64 v.2.2)) := s2.setCell (p := ⟨gb, k * 3 + 2, none⟩) (.inl rfl) _
  have hkp : Kp ρ (fun r => r ≠ (4, i)) W (((u.setCell ⟨gb, k * 3, none⟩ (.int .i64 v.1)).setCell ⟨gb, k * 3 + 1, none⟩ (.string v.2.1)).setCell ⟨gb, k * 3 + 2, none⟩ (.int .i64 v.2.2)) := kp_of_off hr hoff fun b r hx hbr hR => by
    rw [hx, hr4] at hbr
    exact hR (Option.some.inj hbr).symm
  have hBW : B ≤ W.heap.size := by have := (hr _ _ hq).1; have := (hr _ _ hq).2; omega
  refine ⟨⟨?_, ?_, h.size⟩, rfl, rfl, fun b r hbr hR => hkp b r hbr (fun e => body_in (i := i) (by omega : 3 ≤ 4) (by omega) (e ▸ hR)), hoff.below hBW (fun b hb => by rw [hb]; exact (hr _ _ hr4).1), hoff.mono (fun b _ hb => ⟨(4, i), by rw [hb]; exact hr4⟩)⟩
  · exact (hkp _ _ hq (by simp)).trans h.blk
  · rw [hg]
    refine ⟨hn, fun _ => ⟨gb, _, hgb, hr4, three_set _ _ _ ((hu.block gb hgl).trans hh), fun k' hk' => ?_⟩⟩
    obtain ⟨d0, d1, d2⟩ := hc k' hk'
    show (_ : Option Value) = some (.int .i64 (if ((k' : Int) = (k : Int)) then v else o.get k').1) ∧ (_ : Option Value) = some (.string (if ((k' : Int) = (k : Int)) then v else o.get k').2.1) ∧ (_ : Option Value) = some (.int .i64 (if ((k' : Int) = (k : Int)) then v else o.get k').2.2)
    have hs0 := (Array.getElem?_eq_some_iff.1 d0).1
    have hs1 := (Array.getElem?_eq_some_iff.1 d1).1
    have hs2 := (Array.getElem?_eq_some_iff.1 d2).1
    by_cases e : k' = k
    · subst e
      rw [if_pos rfl]
      refine ⟨?_, ?_, ?_⟩
      · rw [Array.getElem?_setIfInBounds_ne (by omega), Array.getElem?_setIfInBounds_ne (by omega), Array.getElem?_setIfInBounds_self_of_lt hs0]
      · rw [Array.getElem?_setIfInBounds_ne (by omega), Array.getElem?_setIfInBounds_self_of_lt (by simpa using hs1)]
      · rw [Array.getElem?_setIfInBounds_self_of_lt (by simpa using hs2)]
    · rw [if_neg (by omega)]
      refine ⟨?_, ?_, ?_⟩
      · rw [Array.getElem?_setIfInBounds_ne (by omega), Array.getElem?_setIfInBounds_ne (by omega), Array.getElem?_setIfInBounds_ne (by omega)]; exact d0
      · rw [Array.getElem?_setIfInBounds_ne (by omega), Array.getElem?_setIfInBounds_ne (by omega), Array.getElem?_setIfInBounds_ne (by omega)]; exact d1
      · rw [Array.getElem?_setIfInBounds_ne (by omega), Array.getElem?_setIfInBounds_ne (by omega), Array.getElem?_setIfInBounds_ne (by omega)]; exact d2
/-- A value is set in the map. -/
theorem RwAt.putSet (h : RwAt W B cap ρ i o g) (hq : ρ g.q = some (3, i)) (hr : ∀ b r, ρ b = some r → B ≤ b ∧ b < W.heap.size) (hg : g.giv = false) {j : Int} {u : World} (hu : Below W.heap.size W u) (v : VV)
    (hm : w3.ownsMap Try.prog 2 valElem g.mp (cap + 1) (g.D.put (.int .i64 j) (vvD v))) (hgr : u.grownBy w3 (some g.mp)) : ∃ g', RowSt W w3 B cap ρ i o g g' j v := by
  have hb := h.body
  rw [hg] at hb
  obtain ⟨k1, k2, k3, k4, k5, k6⟩ := hb
  have hmap : Maps.IsMap g.D := k5.isMap
  have hoff : Off (fun b => b = g.mp) W w3 := (Off.since hu).grown hgr (fun b hb => by cases hb; exact .inl rfl)
  have hkp : Kp ρ (fun r => r ≠ (5, i)) W w3 := kp_of_off hr hoff fun b r hx hbr hR => by
    rw [hx, k4] at hbr
    exact hR (Option.some.inj hbr).symm
  have hBW : B ≤ W.heap.size := by have := (hr _ _ hq).1; have := (hr _ _ hq).2; omega
  refine ⟨{g with D := g.D.put (.int .i64 j) (vvD v)}, ⟨?_, ?_, h.size⟩, rfl, rfl, fun b r hbr hR => hkp b r hbr (fun e => body_in (i := i) (by omega : 3 ≤ 5) (by omega) (e ▸ hR)), hoff.below hBW (fun b hb => by rw [hb]; exact (hr _ _ k4).1), hoff.mono (fun b _ hb => ⟨(5, i), by rw [hb]; exact k4⟩)⟩
  · exact (hkp _ _ hq (by simp)).trans h.blk
  · show if g.giv then _ else _
    rw [hg]
    refine ⟨k1, k2, k3, k4, hm, fun x => ?_⟩
    show (g.D.put _ _).atKey _ _ = vvD (if x = j then v else o.get x)
    by_cases e : x = j
    · subst e
      rw [if_pos rfl, Maps.atKey_put_same hmap (show WideAt.IsKeyLit (.int .i64 x) from trivial)]
    · rw [if_neg e, Maps.atKey_put_other (by intro h'; cases h'; exact e rfl)]
      exact k6 x
end
set_option maxRecDepth 100000 in
set_option maxHeartbeats 1000000 in
theorem rput_any {W : World} {B cap : Nat} {ρ : Rho} {i : Nat} {o : PO} {g : GO} (h : RwAt W B cap ρ i o g) (hq : ρ g.q = some (3, i)) (hr : ∀ b r, ρ b = some r → B ≤ b ∧ b < W.heap.size) (hcap : cap ≤ 1099511627776) (j : Int) (hj : 0 ≤ j ∧ j < o.size) (v : VV) :
    Calls Try.prog 51 #[.pointer (some ⟨g.q, 0, none⟩), .int .i64 j, .agg #[.int .i64 v.1, .string v.2.1, .int .i64 v.2.2]] W fun e w' => e = .returned (.tuple #[]) ∧ ∃ g', RowSt W w' B cap ρ i o g g' j v := by
  have hql : g.q < W.heap.size := (hr _ _ hq).2
  obtain ⟨U, hU⟩ : ∃ U, W.alloc (.cells #[.int .i64 v.1, .string v.2.1, .int .i64 v.2.2] 24) = U := ⟨_, rfl⟩
  have bb : Below W.heap.size W U.drew := by rw [← hU]; exact ((Below.refl _ W).alloc (Nat.le_refl _) _).drew
  have HB := Lib.hid bb
  have bx : U.drew.heap[W.heap.size]? = some (.cells #[.int .i64 v.1, .string v.2.1, .int .i64 v.2.2] 24 (0, 0)) := by rw [← hU]; exact World.alloc_heap_new _ _
  have b0 : U.drew.cell? ⟨W.heap.size, 0, none⟩ = some (.int .i64 v.1) := by simp only [World.cell?, bx]; rfl
  have b1 : U.drew.cell? ⟨W.heap.size, 1, none⟩ = some (.string v.2.1) := by simp only [World.cell?, bx]; rfl
  have b2 : U.drew.cell? ⟨W.heap.size, 2, none⟩ = some (.int .i64 v.2.2) := by simp only [World.cell?, bx]; rfl
  have c1 : U.drew.cell? ⟨g.q, 1, none⟩ = some (.slice g.ka g.kn g.kc) := (bb.cell (p := ⟨g.q, 1, none⟩) hql).trans (by simp [World.cell?, h.blk])
  have c2 : U.drew.cell? ⟨g.q, 2, none⟩ = some (.map (if g.giv then none else some g.mp)) := (bb.cell (p := ⟨g.q, 2, none⟩) hql).trans (by simp [World.cell?, h.blk])
  have u1 : U.cell? ⟨g.q, 1, none⟩ = some (.slice g.ka g.kn g.kc) := c1
  have hb := h.body
  have hsz := h.size
  cases hg : g.giv with
  | true =>
    rw [hg] at hb c2
    obtain ⟨hn, hgv⟩ := hb
    obtain ⟨k, rfl⟩ : ∃ k : Nat, j = k := ⟨j.toNat, by omega⟩
    have hkn : k < g.kn := by omega
    obtain ⟨gb, cs, e, hr4, hh, hc⟩ := hgv (by omega)
    obtain ⟨d0, d1, d2⟩ := hc k hkn
    have hgl : gb < W.heap.size := (hr _ _ hr4).2
    have hk3 : U.heap[gb]? = some (.cells cs 24 (0, 0)) := (bb.block gb hgl).trans hh
    have g0 : U.frozen? ⟨gb, k * 3, none⟩ = false := by simp [World.frozen?, hk3]
    have g1 : U.frozen? ⟨gb, k * 3 + 1, none⟩ = false := by simp [World.frozen?, hk3]
    have g2 : U.frozen? ⟨gb, k * 3 + 2, none⟩ = false := by simp [World.frozen?, hk3]
    have e0 : U.cell? ⟨gb, k * 3, none⟩ = some (.int .i64 (o.get k).1) := by simp [World.cell?, hk3, d0]
    have e1 : U.cell? ⟨gb, k * 3 + 1, none⟩ = some (.string (o.get k).2.1) := by simp [World.cell?, hk3, d1]
    have e2 : U.cell? ⟨gb, k * 3 + 2, none⟩ = some (.int .i64 (o.get k).2.2) := by simp [World.cell?, hk3, d2]
    have hki : (k : Int) < (g.kn : Int) := by omega
    have hk0 : (0 : Int) ≤ (k : Int) := by omega
    have hd : decide ((k : Int) < (g.kn : Int)) = true := decide_eq_true hki
    have HE := Lib.hid (h.putGiv hq hr hg hkn e bb v)
    rw [e] at c1 u1
    obtain ⟨q, hqe⟩ : ∃ q, g.q = q := ⟨_, rfl⟩
    obtain ⟨kn, hkne⟩ : ∃ kn, g.kn = kn := ⟨_, rfl⟩
    obtain ⟨kc, hkce⟩ : ∃ kc, g.kc = kc := ⟨_, rfl⟩
    rw [hqe] at c1 u1 ⊢
    rw [hkne, hkce] at c1 u1
    rw [hkne] at hki hd
    generalize o.get k = ok at *
    clear h bb e hc hgv hh d0 d1 d2 hg hj hn hsz hgl hkn bx hk3 c2 hr4 hq hr
    go_enter Try.func51, Try.ntmps51
    go_upto_region 2 with fail
    try rw [hU]
    refine wp_region_T (S := (fun u : World => u.cell? ⟨q, 1, none⟩ = some (.slice (some ⟨gb, 0, none⟩) kn kc) ∧ u.cell? ⟨W.heap.size, 0, none⟩ = some (.int .i64 v.1) ∧ u.cell? ⟨W.heap.size, 1, none⟩ = some (.string v.2.1) ∧ u.cell? ⟨W.heap.size, 2, none⟩ = some (.int .i64 v.2.2))) 7 (by kernel_rfl) ⟨c1, b0, b1, b2⟩ (fun hHeld => ?_)
    refine wpAnyT_takeW (i := 0) (oi := ⟨some 13, _, _, _, _, _⟩) (v := ?_) rfl (by kernel_rfl) (by kernel_rfl) (by kernel_rfl) (fun _ _ _ h => h) (Or.inl ⟨by rfl, ?_⟩) ?_
    rotate_left
    · ((intro w _; go_simp); try with_reducible rfl)
    (try simp only [Act.put, List.setIfInBounds_toArray, List.set_cons_zero, List.set_cons_succ])
    refine wpAnyT_takeW (i := 1) (oi := ⟨some 14, _, _, _, _, _⟩) (v := ?_) rfl (by kernel_rfl) (by kernel_rfl) (by kernel_rfl) (fun _ _ _ h => h) (Or.inl ⟨by rfl, ?_⟩) ?_
    rotate_left
    · ((intro w _; go_simp); try with_reducible rfl)
    (try simp only [Act.put, List.setIfInBounds_toArray, List.set_cons_zero, List.set_cons_succ])
    refine wpAnyT_takeW (i := 2) (oi := ⟨some 15, _, _, _, _, _⟩) (v := ?_) rfl (by kernel_rfl) (by kernel_rfl) (by kernel_rfl) (fun _ _ _ h => h) (Or.inl ⟨by rfl, ?_⟩) ?_
    rotate_left
    · ((intro w _; go_simp); try with_reducible rfl)
    (try simp only [Act.put, List.setIfInBounds_toArray, List.set_cons_zero, List.set_cons_succ])
    refine wpAnyT_take (i := 3) (oi := ⟨some 16, _, _, _, _, _⟩) (v := ?_) 8 rfl (by kernel_rfl) (by kernel_rfl) (by kernel_rfl) (by kernel_rfl) (by kernel_rfl) (fun _ _ _ h => h) (Or.inl ⟨by rfl, ?_⟩) (by assumption) ?_
    rotate_left
    · ((intro w hSw; (try dsimp only at hSw); go_simp); try with_reducible rfl)
    (try simp only [Act.put, List.setIfInBounds_toArray, List.set_cons_zero, List.set_cons_succ])
    refine wpAnyT_takeW (i := 4) (oi := ⟨some 17, _, _, _, _, _⟩) (v := ?_) rfl (by kernel_rfl) (by kernel_rfl) (by kernel_rfl) (fun _ _ _ h => h) (Or.inl ⟨by rfl, ?_⟩) ?_
    rotate_left
    · ((intro w _; go_simp); try with_reducible rfl)
    (try simp only [Act.put, List.setIfInBounds_toArray, List.set_cons_zero, List.set_cons_succ])
    refine wpAnyT_take (i := 5) (oi := ⟨some 18, _, _, _, _, _⟩) (v := ?_) 8 rfl (by kernel_rfl) (by kernel_rfl) (by kernel_rfl) (by kernel_rfl) (by kernel_rfl) (fun _ _ _ h => h) (Or.inl ⟨by rfl, ?_⟩) (by assumption) ?_
    rotate_left
    · ((intro w hSw; (try dsimp only at hSw); go_simp); try with_reducible rfl)
    (try simp only [Act.put, List.setIfInBounds_toArray, List.set_cons_zero, List.set_cons_succ])
    refine wpAnyT_takeW (i := 6) (oi := ⟨some 19, _, _, _, _, _⟩) (v := ?_) rfl (by kernel_rfl) (by kernel_rfl) (by kernel_rfl) (fun _ _ _ h => h) (Or.inl ⟨by rfl, ?_⟩) ?_
    rotate_left
    · ((intro w _; go_simp); try with_reducible rfl)
    (try simp only [Act.put, List.setIfInBounds_toArray, List.set_cons_zero, List.set_cons_succ])
    refine wpAnyT_end (i := 7) (by kernel_rfl) (by kernel_rfl) rfl (fun K hK => ?_)
    rw [if_pos (by rfl)]
    go_simp
    refine hK.out _ _ ?_
    clear hK K
    (try simp only [Act.put, List.setIfInBounds_toArray, List.set_cons_zero, List.set_cons_succ])
    refine wpAnyT_done (by kernel_rfl) ?_
    go_end0
    exact ⟨rfl, g, HE.out⟩
  | false =>
    rw [hg] at hb c2
    obtain ⟨k1, k2, k3, k4, k5, k6⟩ := hb
    rw [k1, k2, k3] at c1 u1
    have HMAP : RowKit.Hid (U.drew.ownsMap Try.prog 2 valElem g.mp cap g.D) := Lib.hid (map_kept k5 (bb.block _ (hr _ _ k4).2) (Nat.le_refl _))
    have HKEY : RowKit.Hid (keyOf Try.prog 2 (.int .i64 j) = some (.int .i64 j)) := Lib.hid (key64 (by omega))
    have hd : decide (j < 0) = false := decide_eq_false (by omega)
    have HE : RowKit.Hid (∀ w3, w3.ownsMap Try.prog 2 valElem g.mp (cap + 1) (g.D.put (.int .i64 j) (vvD v)) → U.drew.grownBy w3 (some g.mp) → ∃ g', RowSt W w3 B cap ρ i o g g' j v) := Lib.hid fun w3 hm hgr => h.putSet hq hr hg bb v hm hgr
    obtain ⟨q, hqe⟩ : ∃ q, g.q = q := ⟨_, rfl⟩
    obtain ⟨mp, hmp⟩ : ∃ mp, g.mp = mp := ⟨_, rfl⟩
    obtain ⟨D, hD⟩ : ∃ D, g.D = D := ⟨_, rfl⟩
    rw [hqe] at c1 c2 u1 ⊢
    rw [hmp] at c2 HMAP HE
    rw [hD] at HMAP HE
    simp only [Bool.false_eq_true, if_false] at c2
    clear h bb hg hj hsz bx k5 k6 hq hr k1 k2 k3 k4 hD hmp hqe hql
    go_enter Try.func51, Try.ntmps51
    go_upto_region 3 with fail
    try rw [hU]
    refine wp_region_T (S := (fun u : World => u.cell? ⟨q, 2, none⟩ = some (.map (some mp)) ∧ u.cell? ⟨W.heap.size, 0, none⟩ = some (.int .i64 v.1) ∧ u.cell? ⟨W.heap.size, 1, none⟩ = some (.string v.2.1) ∧ u.cell? ⟨W.heap.size, 2, none⟩ = some (.int .i64 v.2.2))) 6 (by kernel_rfl) ⟨c2, b0, b1, b2⟩ (fun hHeld => ?_)
    refine wpAnyT_takeW (i := 0) (oi := ⟨some 20, _, _, _, _, _⟩) (v := ?_) rfl (by kernel_rfl) (by kernel_rfl) (by kernel_rfl) (fun _ _ _ h => h) (Or.inl ⟨by rfl, ?_⟩) ?_
    rotate_left
    · ((intro w _; go_simp); try with_reducible rfl)
    (try simp only [Act.put, List.setIfInBounds_toArray, List.set_cons_zero, List.set_cons_succ])
    refine wpAnyT_takeW (i := 1) (oi := ⟨some 21, _, _, _, _, _⟩) (v := ?_) rfl (by kernel_rfl) (by kernel_rfl) (by kernel_rfl) (fun _ _ _ h => h) (Or.inl ⟨by rfl, ?_⟩) ?_
    rotate_left
    · ((intro w _; go_simp); try with_reducible rfl)
    (try simp only [Act.put, List.setIfInBounds_toArray, List.set_cons_zero, List.set_cons_succ])
    refine wpAnyT_takeW (i := 2) (oi := ⟨some 22, _, _, _, _, _⟩) (v := ?_) rfl (by kernel_rfl) (by kernel_rfl) (by kernel_rfl) (fun _ _ _ h => h) (Or.inl ⟨by rfl, ?_⟩) ?_
    rotate_left
    · ((intro w _; go_simp); try with_reducible rfl)
    (try simp only [Act.put, List.setIfInBounds_toArray, List.set_cons_zero, List.set_cons_succ])
    refine wpAnyT_take (i := 3) (oi := ⟨some 23, _, _, _, _, _⟩) (v := ?_) 8 rfl (by kernel_rfl) (by kernel_rfl) (by kernel_rfl) (by kernel_rfl) (by kernel_rfl) (fun _ _ _ h => h) (Or.inl ⟨by rfl, ?_⟩) (by assumption) ?_
    rotate_left
    · ((intro w hSw; (try dsimp only at hSw); go_simp); try with_reducible rfl)
    (try simp only [Act.put, List.setIfInBounds_toArray, List.set_cons_zero, List.set_cons_succ])
    refine wpAnyT_takeW (i := 4) (oi := ⟨some 24, _, _, _, _, _⟩) (v := ?_) rfl (by kernel_rfl) (by kernel_rfl) (by kernel_rfl) (fun _ _ _ h => h) (Or.inl ⟨by rfl, ?_⟩) ?_
    rotate_left
    · ((intro w _; go_simp); try with_reducible rfl)
    (try simp only [Act.put, List.setIfInBounds_toArray, List.set_cons_zero, List.set_cons_succ])
    refine wpAnyT_take (i := 5) (oi := ⟨some 25, _, _, _, _, _⟩) (v := ?_) 8 rfl (by kernel_rfl) (by kernel_rfl) (by kernel_rfl) (by kernel_rfl) (by kernel_rfl) (fun _ _ _ h => h) (Or.inl ⟨by rfl, ?_⟩) (by assumption) ?_
    rotate_left
    · ((intro w hSw; (try dsimp only at hSw); go_simp); try with_reducible rfl)
    (try simp only [Act.put, List.setIfInBounds_toArray, List.set_cons_zero, List.set_cons_succ])
    refine wpAnyT_end (i := 6) (by kernel_rfl) (by kernel_rfl) rfl (fun K hK => ?_)
    refine step_mapUpdate_own (by rfl) _ _ _ 67 rfl 2 24 law64 Try.underlying67 _ mp cap D rfl HMAP.out (by unfold maxLen; omega) _ _ (.int .i64 j) rfl rfl HKEY.out _ [] (valElem_vv v) ?_; intro w3 hm3 hg3; have HW3 := Lib.hid (And.intro hm3 hg3); clear hm3 hg3
    refine hK.out _ _ ?_
    clear hK K
    (try simp only [Act.put, List.setIfInBounds_toArray, List.set_cons_zero, List.set_cons_succ])
    refine wpAnyT_done (by kernel_rfl) ?_
    go_end0
    exact ⟨rfl, HE.out _ HW3.out.1 HW3.out.2⟩
end Go.Proofs.Ytgnfinojnmkkkaa
