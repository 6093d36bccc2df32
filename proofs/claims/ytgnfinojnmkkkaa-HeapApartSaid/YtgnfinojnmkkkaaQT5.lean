/- Layer 10: the document's Set. -/
import Derived.Test.YtgnfinojnmkkkaaQHeapRJ

namespace Go.Proofs.Ytgnfinojnmkkkaa
open Go.RowKit (wrap64 intOf Below)
set_option linter.unusedVariables false
set_option linter.unusedSimpArgs false

theorem flat_same {α : Type} {f : α → List Value} : ∀ {l : List α} {i : Nat} {x : α} (h : i < l.length), f x = f l[i] → (l.set i x).flatMap f = l.flatMap f := fun {l i x} h e => by
  rw [List.flatMap_def, List.flatMap_def, map_set_same h e]
theorem zip_setL {α β : Type} : ∀ (l : List α) (m : List β) (i : Nat) (hm : i < m.length) (s : α), (l.zip m).set i (s, m[i]) = (l.set i s).zip m := by
  intro l
  induction l with
  | nil => intro m i hm s; rfl
  | cons x l ih =>
    intro m i hm s
    cases m with
    | nil => exact absurd hm (by simp)
    | cons y m =>
      cases i with
      | zero => rfl
      | succ i => simp only [List.zip_cons_cons, List.set_cons_succ, List.getElem_cons_succ]; rw [ih m i (by simpa using hm) s]
def thR (k : Nat) (r : Nat × Nat) : Prop := ¬ (2 ≤ r.1 ∧ r.1 ≤ 4 ∧ r.2 = k)
section
variable {W W' : World} {B cap : Nat} {R : RM} {G : GR}
theorem RNum.set (h : RNum cap R) {t : RT} (ht : TNum cap t) (k : Nat) : RNum cap {R with L := R.L.set k t} :=
  ⟨h.frames, h.limit, h.used, h.makes, by show (R.L.set k t).length ≤ cap; rw [List.length_set]; exact h.len, fun x hx => (List.mem_or_eq_of_mem_set hx).elim (h.one x) (fun e => e ▸ ht)⟩
/-- Thing k's own rows have turned. -/
theorem RefAt.turn (h : RefAt W B cap R G) {k : Nat} (h1 : k < R.L.length) (h2 : k < G.gts.length) {t : RT} (hth : thV (t, G.gts[k]) = thV (R.L[k], G.gts[k])) (hT : ThAt W' B G.ρ k t G.gts[k]) (hkp : Kp G.ρ (thR k) W W') (hs : W.heap.size ≤ W'.heap.size) (hn : TNum cap t) : RefAt W' B cap {R with L := R.L.set k t} G := by
  have hlow : ∀ a j, a < 2 → thR k (a, j) := fun a j ha hh => by have := hh.1; simp at this; omega
  have hoth : ∀ a j, j ≠ k → thR k (a, j) := fun a j hj hh => hj hh.2.2
  refine ⟨fun b r hbr => ⟨(h.range b r hbr).1, Nat.lt_of_lt_of_le (h.range b r hbr).2 hs⟩, h.rm, (hkp _ _ h.rm (hlow 0 0 (by omega))).trans h.blk, ?_, h.rl, by simp [h.glen], fun j k1 k2 => ?_, h.num.set hn k⟩
  · have hz : k < (R.L.zip G.gts).length := by rw [List.length_zip]; omega
    have e : ((R.L.set k t).zip G.gts).flatMap thV = (R.L.zip G.gts).flatMap thV := by
      rw [← zip_setL R.L G.gts k h2 t]
      exact flat_same hz (by rw [List.getElem_zip]; exact hth)
    have hl : ((R.L.set k t).zip G.gts).length = (R.L.zip G.gts).length := by simp
    show W'.ownsRow B 63 6 _ ((R.L.set k t).zip G.gts).length (((R.L.set k t).zip G.gts).flatMap thV)
    rw [e, hl]
    exact row_kept h.lv h.rl hkp (hlow 1 0 (by omega))
  · have k1' : j < R.L.length := by simpa using k1
    show ThAt W' B G.ρ j (R.L.set k t)[j] G.gts[j]
    by_cases e : k = j
    · subst e
      rw [List.getElem_set_self]; exact hT
    · rw [List.getElem_set_ne e]
      exact (h.th j k1' k2).kept hkp (fun a _ _ => hoth a j (fun e' => e e'.symm)) (Ex.refl _)
theorem kp_th (hr : ∀ k r, G.ρ k = some r → B ≤ k ∧ k < W.heap.size) {b k a : Nat} (hb : G.ρ b = some (a, k)) (ha : 2 ≤ a ∧ a ≤ 4) (ho : Off (fun x => x = b) W W') : Kp G.ρ (thR k) W W' := kp_of_off hr ho fun x r hx hbr hR => by
  rw [hx, hb] at hbr
  cases hbr
  exact hR ⟨ha.1, ha.2, rfl⟩
/-- Another row of thing k has another block. -/
theorem RoleS.off {ρ : Rho} {v : Value} {r r' : Nat × Nat} {b : Nat} (h : RoleS ρ v r) (hb : ρ b = some r') (hne : r ≠ r') {e k n : Nat} {xs : List Value} (ho : W.ownsRow B e k v n xs) (hoff : Off (fun x => x = b) W W') : W'.ownsRow B e k v n xs := by
  refine ⟨ho.1, ?_⟩
  rcases ho.2 with h1 | ⟨g, cp, cur, e1, hB, hg, rest⟩
  · exact .inl h1
  · have hgr := h g (by rw [e1]; rfl)
    exact .inr ⟨g, cp, cur, e1, hB, (hoff.block g (Array.getElem?_eq_some_iff.1 hg).1 (fun e2 => by rw [e2, hb] at hgr; exact hne (Option.some.inj hgr).symm)).trans hg, rest⟩
theorem vvL_sets (l : List VV) (j : Nat) (hj : j < l.length) (v : VV) : (((l.flatMap vvL).set (j * 3) (.int .i64 v.1)).set (j * 3 + 1) (.string v.2.1)).set (j * 3 + 2) (.int .i64 v.2.2) = (l.set j v).flatMap vvL := by
  have e1 := flat_set vvL_len l j hj 0 (.int .i64 v.1) (v.1, l[j].2.1, l[j].2.2) (by omega) rfl
  have e2 := flat_set vvL_len (l.set j (v.1, l[j].2.1, l[j].2.2)) j (by simpa using hj) 1 (.string v.2.1) (v.1, v.2.1, l[j].2.2) (by omega) (by rw [List.getElem_set_self]; rfl)
  have e3 := flat_set vvL_len ((l.set j (v.1, l[j].2.1, l[j].2.2)).set j (v.1, v.2.1, l[j].2.2)) j (by simpa using hj) 2 (.int .i64 v.2.2) v (by omega) (by rw [List.getElem_set_self]; rfl)
  rw [Nat.add_zero] at e1
  rw [e1, e2, e3, List.set_set, List.set_set]
/-- A value of thing k is set. -/
theorem RefAt.setV (h : RefAt W B cap R G) {k : Nat} (h1 : k < R.L.length) (h2 : k < G.gts.length) {j gb : Nat} (hj : j < R.L[k].V.length) (hgb : G.gts[k].V.1 = some ⟨gb, 0, none⟩) (v : VV) {u : World} (hu : Below W.heap.size W u) {w3 : World} (hw3 : w3 = ((u.setCell ⟨gb, j * 3, none⟩ (.int .i64 v.1)).setCell ⟨gb, j * 3 + 1, none⟩ (.string v.2.1)).setCell ⟨gb, j * 3 + 2, none⟩ (.int .i64 v.2.2)) :
    RefAt w3 B cap {R with L := R.L.set k (setT R.L[k] j v)} G ∧ Below B W w3 ∧ Sep W w3 G.ρ G.ρ := by
  have hu' := h.since hu
  have hT := hu'.th k h1 h2
  have hrb : G.ρ gb = some (2, k) := hT.rv gb (by unfold sv; rw [hgb]; rfl)
  have s1 : Off (fun b => b = gb) u (u.setCell ⟨gb, j * 3, none⟩ (.int .i64 v.1)) := (Off.refl (fun b => b = gb) u).setCell (p := ⟨gb, j * 3, none⟩) (.inl rfl) _
  have s2 : Off (fun b => b = gb) u ((u.setCell ⟨gb, j * 3, none⟩ (.int .i64 v.1)).setCell ⟨gb, j * 3 + 1, none⟩ (.string v.2.1)) := s1.setCell (p := ⟨gb, j * 3 + 1, none⟩) (.inl rfl) _
  have s3 : Off (fun b => b = gb) u w3 := by rw [hw3]; exact s2.setCell (p := ⟨gb, j * 3 + 2, none⟩) (.inl rfl) _
  have hV : OwnsV w3 B (sv G.gts[k].V) (R.L[k].V.set j v) := by
    have hv0 := hT.V
    have hn := (show OwnsV u B (.slice G.gts[k].V.1 G.gts[k].V.2.1 G.gts[k].V.2.2) R.L[k].V from hv0).cells.1
    unfold OwnsV sv at hv0 ⊢
    rw [hgb, hn] at hv0
    have t1 := (World.ownsRow.stored hv0 (j * 3) (.int .i64 v.1)).1
    have t2 := (World.ownsRow.stored t1 (j * 3 + 1) (.string v.2.1)).1
    have t3 := (World.ownsRow.stored t2 (j * 3 + 2) (.int .i64 v.2.2)).1
    rw [vvL_sets _ j hj v] at t3
    rw [hw3, hgb, hn, List.length_set]
    exact t3
  have hBu : B ≤ u.heap.size := by have := hu'.plt; omega
  refine ⟨hu'.turn h1 h2 rfl ⟨hV, hT.rv, hT.rk.off hrb (by simp) hT.K s3, hT.rk, hT.ru.off hrb (by simp) hT.U s3, hT.ru⟩ (kp_th hu'.range hrb (by omega) s3) s3.size ?_, (hu.mono (by have := h.plt; omega)).trans (s3.below hBu (fun b hb => by rw [hb]; exact (h.range _ _ hrb).1)), (Off.since hu).trans (s3.mono fun b _ hb => ⟨(2, k), by rw [hb]; exact hrb⟩), fun b r hr => .inl ⟨r, hr⟩⟩
  have n := h.num.one _ (List.getElem_mem h1)
  exact ⟨n.kind, by show (R.L[k].V.set j v).length ≤ _; rw [List.length_set]; exact n.V, n.keys, n.under, n.frame⟩
end
def RSPost (W : World) (B cap : Nat) (G : GR) (X : RM × Int) (e : Ending) (w' : World) : Prop := e = .returned (.int .i64 X.2) ∧ ∃ G', RefAt w' B (cap + 1) X.1 G' ∧ G'.p = G.p ∧ Below B W w' ∧ Sep W w' G.ρ G'.ρ
set_option maxRecDepth 100000 in
set_option maxHeartbeats 1000000 in
theorem refset_any {W : World} {B cap : Nat} {R : RM} {G : GR} (h : RefAt W B cap R G) (hcap : cap ≤ 1099511627776) (r j : Int) (v : VV) (hr : -9223372036854775808 ≤ r ∧ r ≤ 9223372036854775807) :
    Calls Try.prog 35 #[.pointer (some ⟨G.p, 0, none⟩), .int .i64 r, .int .i64 j, .agg #[.int .i64 v.1, .string v.2.1, .int .i64 v.2.2]] W (RSPost W B cap G (setR R r j v)) := by
  have HB0 : RowKit.Hid (B ≤ W.heap.size) := Lib.hid (by have := h.plt; omega)
  obtain ⟨W1, hW1⟩ : ∃ W1, W.alloc (.cells #[.int .i64 v.1, .string v.2.1, .int .i64 v.2.2] 24) = W1 := ⟨_, rfl⟩
  have b1 : Below W.heap.size W W1 := by rw [← hW1]; exact (Below.refl _ W).alloc (Nat.le_refl _) _
  have hx1 : W1.heap[W.heap.size]? = some (.cells #[.int .i64 v.1, .string v.2.1, .int .i64 v.2.2] 24 (0, 0)) := by rw [← hW1]; exact World.alloc_heap_new _ _
  have hz1 : W.heap.size < W1.heap.size := (Array.getElem?_eq_some_iff.1 hx1).1
  have h1 := h.since b1
  have CG := Lib.hid (refget_any h1 hcap r j hr)
  have HB1 := Lib.hid b1
  by_cases ha : (getR R r j).2 = 0
  · have hwy : whyR R r 0 = 0 := by
      by_cases hc : whyR R r 0 = 0
      · exact hc
      · rw [getR_why R r j hc] at ha; exact absurd ha hc
    obtain ⟨k, k1, hrk, ho, hgv⟩ := getR_ok R r j hwy
    have hjj : ¬ (j < 0 ∨ (R.L[k].V.length : Int) ≤ j) := fun hc => by rw [hgv, if_pos hc] at ha; cases ha
    obtain ⟨q, rfl⟩ : ∃ q : Nat, j = q := ⟨j.toNat, by omega⟩
    have hql : q < R.L[k].V.length := by omega
    have k2 : k < G.gts.length := by rw [h.glen]; exact k1
    obtain ⟨lb, e, hl, _, _, t0, t1, t2, t3, t4, t5⟩ := h1.thing k1 k2
    have c0 := h1.cell 0
    simp only [List.getElem?_toArray, List.getElem?_cons_succ, List.getElem?_cons_zero] at c0
    rw [h.ln, e] at c0
    obtain ⟨hvn, hvc⟩ := (show OwnsV W1 B (.slice G.gts[k].V.1 G.gts[k].V.2.1 G.gts[k].V.2.2) R.L[k].V from (h1.th k k1 k2).V).cells
    obtain ⟨gb, ev, hgl, _, hcs⟩ := hvc (by omega)
    obtain ⟨d0, d1, d2⟩ := hcs q hql
    have hll := h.num.len
    have hpl := h1.plt.2
    have HS : RowKit.Hid (setR R r (q : Int) v = ({R with L := R.L.set k (setT R.L[k] q v)}, 0)) := Lib.hid (by unfold setR; rw [if_pos ha, ho]; simp only [Int.toNat_natCast]; rw [show (r - 1).toNat = k by omega])
    have HE : RowKit.Hid (∀ u, Below W1.heap.size W1 u → ∀ w3, w3 = ((u.setCell ⟨gb, q * 3, none⟩ (.int .i64 v.1)).setCell ⟨gb, q * 3 + 1, none⟩ (.string v.2.1)).setCell ⟨gb, q * 3 + 2, none⟩ (.int .i64 v.2.2) → RSPost W B cap G (setR R r (q : Int) v) (.returned (.int .i64 0)) w3) := Lib.hid fun u hu w3 hw3 => by
      obtain ⟨p1, p2, p3⟩ := h1.setV k1 k2 hql ev v hu hw3
      rw [HS.out]
      exact ⟨rfl, G, p1.mono (Nat.le_succ _), rfl, (HB1.out.mono HB0.out).trans p2, (Sep.since HB1.out).trans p3⟩
    have hgk : W1.frozen? ⟨gb, q * 3, none⟩ = false ∧ W1.frozen? ⟨gb, q * 3 + 1, none⟩ = false ∧ W1.frozen? ⟨gb, q * 3 + 2, none⟩ = false := by
      have hv0 := (h1.th k k1 k2).V
      unfold OwnsV sv at hv0
      rw [ev, hvn] at hv0
      exact ⟨World.ownsRow.frozenAt hv0 _, World.ownsRow.frozenAt hv0 _, World.ownsRow.frozenAt hv0 _⟩
    have HF : RowKit.Hid (∀ u, Below W1.heap.size W1 u → (u.cell? ⟨G.p, 0, none⟩ = some (.slice (some ⟨lb, 0, none⟩) R.L.length G.lc) ∧ u.cell? ⟨lb, k * 6 + 1, none⟩ = some (.slice (some ⟨gb, 0, none⟩) G.gts[k].V.2.1 G.gts[k].V.2.2) ∧ u.cell? ⟨W.heap.size, 0, none⟩ = some (.int .i64 v.1) ∧ u.cell? ⟨W.heap.size, 1, none⟩ = some (.string v.2.1) ∧ u.cell? ⟨W.heap.size, 2, none⟩ = some (.int .i64 v.2.2)) ∧ (u.cell? ⟨gb, q * 3, none⟩ = some (.int .i64 R.L[k].V[q].1) ∧ u.cell? ⟨gb, q * 3 + 1, none⟩ = some (.string R.L[k].V[q].2.1) ∧ u.cell? ⟨gb, q * 3 + 2, none⟩ = some (.int .i64 R.L[k].V[q].2.2)) ∧ (u.frozen? ⟨gb, q * 3, none⟩ = false ∧ u.frozen? ⟨gb, q * 3 + 1, none⟩ = false ∧ u.frozen? ⟨gb, q * 3 + 2, none⟩ = false)) := Lib.hid fun u hu => by
      have hx2 := (hu.block W.heap.size hz1).trans hx1
      unfold sv at t1
      rw [ev] at t1
      have fz : ∀ o, u.frozen? ⟨gb, o, none⟩ = W1.frozen? ⟨gb, o, none⟩ := fun o => by simp only [World.frozen?, hu.block gb hgl]
      exact ⟨⟨(hu.cell (p := ⟨G.p, 0, none⟩) hpl).trans c0, (hu.cell (p := ⟨lb, k * 6 + 1, none⟩) hl).trans t1, by simp [World.cell?, hx2], by simp [World.cell?, hx2], by simp [World.cell?, hx2]⟩, ⟨(hu.cell (p := ⟨gb, q * 3, none⟩) hgl).trans d0, (hu.cell (p := ⟨gb, q * 3 + 1, none⟩) hgl).trans d1, (hu.cell (p := ⟨gb, q * 3 + 2, none⟩) hgl).trans d2⟩, (fz _).trans hgk.1, (fz _).trans hgk.2.1, (fz _).trans hgk.2.2⟩
    have hw : wrap64 (r - 1) = (k : Int) := by unfold wrap64; omega
    have hvw : IntKind.i64.wrap (r - 1) = (k : Int) := by rw [show r - 1 = (k : Int) by omega]; exact wrap_small _ (by omega) (by omega)
    have hk0 : (0 : Int) ≤ (k : Int) := by omega
    have hk1 : (k : Int) < (R.L.length : Int) := by omega
    have hq0 : (0 : Int) ≤ (q : Int) := by omega
    have hq1 : (q : Int) < (G.gts[k].V.2.1 : Int) := by omega
    obtain ⟨x1, hx⟩ : ∃ x1, (getR R r (q : Int)).1 = x1 := ⟨_, rfl⟩
    obtain ⟨y1, y2, y3⟩ := x1
    rw [ha, hx] at CG
    unfold vvV at CG
    obtain ⟨vn, hvne⟩ : ∃ vn, G.gts[k].V.2.1 = vn := ⟨_, rfl⟩
    obtain ⟨vc, hvce⟩ : ∃ vc, G.gts[k].V.2.2 = vc := ⟨_, rfl⟩
    rw [hvne] at hq1 HF
    rw [hvce] at HF
    obtain ⟨N, hN⟩ : ∃ N, R.L.length = N := ⟨_, rfl⟩
    rw [hN] at hk1 HF
    obtain ⟨z, hz⟩ : ∃ z, R.L[k].V[q] = z := ⟨_, rfl⟩
    rw [hz] at HF
    clear h h1 ha hwy ho hgv hjj e t0 t1 t2 t3 t4 t5 c0 hvn hvc hcs d0 d1 d2 hgk hx hvne hvce hN hz hx1 b1 hrk ev hl hgl k2 hql hpl hll hz1
    go_enter Try.func35, Try.ntmps35
    go_upto_region 1 with fail
    try rw [hW1]
    clear hW1
    go_upto_region 3 with (go_at_call 33; refine CG.out.mono ?_; rintro e u ⟨rfl, hb⟩; have HB := Lib.hid hb; clear hb)
    obtain ⟨U, hU⟩ : ∃ U, u.alloc (.cells #[.int .i64 y1, .string y2, .int .i64 y3] 24) = U := ⟨_, rfl⟩
    have HU : RowKit.Hid (Below W1.heap.size W1 U) := Lib.hid (by rw [← hU]; exact HB.out.alloc HB.out.size _)
    have hs0 := (HF.out U HU.out).1
    obtain ⟨m0, m1, m2⟩ := (HF.out U HU.out).2.1
    obtain ⟨n0, n1, n2⟩ := (HF.out U HU.out).2.2
    try rw [hU]
    clear hU
    refine wp_region_T (S := (fun u : World => u.cell? ⟨G.p, 0, none⟩ = some (.slice (some ⟨lb, 0, none⟩) N G.lc) ∧ u.cell? ⟨lb, k * 6 + 1, none⟩ = some (.slice (some ⟨gb, 0, none⟩) vn vc) ∧ u.cell? ⟨W.heap.size, 0, none⟩ = some (.int .i64 v.1) ∧ u.cell? ⟨W.heap.size, 1, none⟩ = some (.string v.2.1) ∧ u.cell? ⟨W.heap.size, 2, none⟩ = some (.int .i64 v.2.2))) 12 (by kernel_rfl) hs0 (fun hHeld => ?_)
    refine wpAnyT_takeW (i := 0) (oi := ⟨some 20, _, _, _, _, _⟩) (v := ?_) rfl (by kernel_rfl) (by kernel_rfl) (by kernel_rfl) (fun _ _ _ h => h) (Or.inl ⟨by rfl, ?_⟩) ?_
    rotate_left
    · ((intro w _; go_simp); try with_reducible rfl)
    (try simp only [Act.put, List.setIfInBounds_toArray, List.set_cons_zero, List.set_cons_succ])
    refine wpAnyT_takeW (i := 1) (oi := ⟨some 21, _, _, _, _, _⟩) (v := ?_) rfl (by kernel_rfl) (by kernel_rfl) (by kernel_rfl) (fun _ _ _ h => h) (Or.inl ⟨by rfl, ?_⟩) ?_
    rotate_left
    · ((intro w _; go_simp); try with_reducible rfl)
    (try simp only [Act.put, List.setIfInBounds_toArray, List.set_cons_zero, List.set_cons_succ])
    refine wpAnyT_takeW (i := 2) (oi := ⟨some 22, _, _, _, _, _⟩) (v := ?_) rfl (by kernel_rfl) (by kernel_rfl) (by kernel_rfl) (fun _ _ _ h => h) (Or.inl ⟨by rfl, ?_⟩) ?_
    rotate_left
    · ((intro w _; go_simp); try with_reducible rfl)
    (try simp only [Act.put, List.setIfInBounds_toArray, List.set_cons_zero, List.set_cons_succ])
    refine wpAnyT_take (i := 3) (oi := ⟨some 23, _, _, _, _, _⟩) (v := ?_) 8 rfl (by kernel_rfl) (by kernel_rfl) (by kernel_rfl) (by kernel_rfl) (by kernel_rfl) (fun _ _ _ h => h) (Or.inl ⟨by rfl, ?_⟩) (by assumption) ?_
    rotate_left
    · ((intro w hSw; (try dsimp only at hSw); go_simp); try with_reducible rfl)
    (try simp only [Act.put, List.setIfInBounds_toArray, List.set_cons_zero, List.set_cons_succ])
    refine wpAnyT_takeW (i := 4) (oi := ⟨some 24, _, _, _, _, _⟩) (v := ?_) rfl (by kernel_rfl) (by kernel_rfl) (by kernel_rfl) (fun _ _ _ h => h) (Or.inl ⟨by rfl, ?_⟩) ?_
    rotate_left
    · ((intro w _; go_simp); try with_reducible rfl)
    (try simp only [Act.put, List.setIfInBounds_toArray, List.set_cons_zero, List.set_cons_succ])
    refine wpAnyT_takeW (i := 5) (oi := ⟨some 25, _, _, _, _, _⟩) (v := ?_) rfl (by kernel_rfl) (by kernel_rfl) (by kernel_rfl) (fun _ _ _ h => h) (Or.inl ⟨by rfl, ?_⟩) ?_
    rotate_left
    · ((intro w _; go_simp); try with_reducible rfl)
    (try simp only [Act.put, List.setIfInBounds_toArray, List.set_cons_zero, List.set_cons_succ])
    refine wpAnyT_takeW (i := 6) (oi := ⟨some 26, _, _, _, _, _⟩) (v := ?_) rfl (by kernel_rfl) (by kernel_rfl) (by kernel_rfl) (fun _ _ _ h => h) (Or.inl ⟨by rfl, ?_⟩) ?_
    rotate_left
    · ((intro w _; go_simp); try with_reducible rfl)
    (try simp only [Act.put, List.setIfInBounds_toArray, List.set_cons_zero, List.set_cons_succ])
    refine wpAnyT_takeW (i := 7) (oi := ⟨some 27, _, _, _, _, _⟩) (v := ?_) rfl (by kernel_rfl) (by kernel_rfl) (by kernel_rfl) (fun _ _ _ h => h) (Or.inl ⟨by rfl, ?_⟩) ?_
    rotate_left
    · ((intro w _; go_simp); try with_reducible rfl)
    (try simp only [Act.put, List.setIfInBounds_toArray, List.set_cons_zero, List.set_cons_succ])
    refine wpAnyT_take (i := 8) (oi := ⟨some 28, _, _, _, _, _⟩) (v := ?_) 8 rfl (by kernel_rfl) (by kernel_rfl) (by kernel_rfl) (by kernel_rfl) (by kernel_rfl) (fun _ _ _ h => h) (Or.inl ⟨by rfl, ?_⟩) (by assumption) ?_
    rotate_left
    · ((intro w hSw; (try dsimp only at hSw); go_simp); try with_reducible rfl)
    (try simp only [Act.put, List.setIfInBounds_toArray, List.set_cons_zero, List.set_cons_succ])
    refine wpAnyT_takeW (i := 9) (oi := ⟨some 29, _, _, _, _, _⟩) (v := ?_) rfl (by kernel_rfl) (by kernel_rfl) (by kernel_rfl) (fun _ _ _ h => h) (Or.inl ⟨by rfl, ?_⟩) ?_
    rotate_left
    · ((intro w _; go_simp); try with_reducible rfl)
    (try simp only [Act.put, List.setIfInBounds_toArray, List.set_cons_zero, List.set_cons_succ])
    refine wpAnyT_take (i := 10) (oi := ⟨some 30, _, _, _, _, _⟩) (v := ?_) 8 rfl (by kernel_rfl) (by kernel_rfl) (by kernel_rfl) (by kernel_rfl) (by kernel_rfl) (fun _ _ _ h => h) (Or.inl ⟨by rfl, ?_⟩) (by assumption) ?_
    rotate_left
    · ((intro w hSw; (try dsimp only at hSw); go_simp); try with_reducible rfl)
    (try simp only [Act.put, List.setIfInBounds_toArray, List.set_cons_zero, List.set_cons_succ])
    refine wpAnyT_takeW (i := 11) (oi := ⟨some 31, _, _, _, _, _⟩) (v := ?_) rfl (by kernel_rfl) (by kernel_rfl) (by kernel_rfl) (fun _ _ _ h => h) (Or.inl ⟨by rfl, ?_⟩) ?_
    rotate_left
    · ((intro w _; go_simp); try with_reducible rfl)
    (try simp only [Act.put, List.setIfInBounds_toArray, List.set_cons_zero, List.set_cons_succ])
    refine wpAnyT_end (i := 12) (by kernel_rfl) (by kernel_rfl) rfl (fun K hK => ?_)
    rw [if_pos (by rfl)]
    go_simp
    refine hK.out _ _ ?_
    clear hK K
    (try simp only [Act.put, List.setIfInBounds_toArray, List.set_cons_zero, List.set_cons_succ])
    refine wpAnyT_done (by kernel_rfl) ?_
    go_wp2_with fail
    go_ret
    exact HE.out _ (HU.out.drew) _ rfl
  · have HS : RowKit.Hid (setR R r j v = (R, (getR R r j).2)) := Lib.hid (by unfold setR; rw [if_neg ha])
    obtain ⟨x, hx⟩ : ∃ x, (getR R r j).2 = x := ⟨_, rfl⟩
    have hxb : (x == 0) = false := by rw [← hx]; simpa using ha
    obtain ⟨x1, hxe⟩ : ∃ x1, (getR R r j).1 = x1 := ⟨_, rfl⟩
    obtain ⟨y1, y2, y3⟩ := x1
    rw [hx] at HS
    rw [hx, hxe] at CG
    unfold vvV at CG
    have HE : RowKit.Hid (∀ u, Below W1.heap.size W1 u → RSPost W B cap G (setR R r j v) (.returned (.int .i64 x)) u) := Lib.hid fun u hu => by
      rw [HS.out]
      exact ⟨rfl, G, (h1.since hu).mono (Nat.le_succ _), rfl, (HB1.out.mono HB0.out).trans (hu.mono (by have := HB0.out; omega)), (Sep.since HB1.out).trans (Sep.since hu)⟩
    clear h h1 ha hx hxe b1 hx1 hz1
    go_enter Try.func35, Try.ntmps35
    go_upto_region 1 with fail
    try rw [hW1]
    clear hW1
    go_wp2_with (go_at_call 33; refine CG.out.mono ?_; rintro e u ⟨rfl, hb⟩; have HB := Lib.hid hb; clear hb)
    go_ret
    exact HE.out _ (HB.out.alloc HB.out.size _)
end Go.Proofs.Ytgnfinojnmkkkaa

/- Layer 10: the document's find, Look and Key. -/
namespace Go.Proofs.Ytgnfinojnmkkkaa
open Go.RowKit (wrap64 intOf Below)
set_option linter.unusedVariables false
set_option linter.unusedSimpArgs false

theorem findL_at : ∀ (l : List Int) (k : Int) (i : Nat) (h : i < l.length), (∀ q (hq : q < i), l[q]'(by omega) ≠ k) → l[i] = k → findL l k = i := by
  intro l
  induction l with
  | nil => intro k i h; exact absurd h (by simp)
  | cons x l ih =>
    intro k i h hb he
    unfold findL
    cases i with
    | zero => rw [if_pos (show x = k from he)]; rfl
    | succ i =>
      have h0 : x ≠ k := hb 0 (by omega)
      have e := ih k i (by simpa using h) (fun q hq => hb (q + 1) (by omega)) he
      rw [if_neg h0, e, if_neg (by omega)]
      omega
theorem findL_none (l : List Int) (k : Int) (h : ∀ q (hq : q < l.length), l[q] ≠ k) : findL l k = -1 := by
  have h1 := findL_range l k
  by_cases h2 : 0 ≤ findL l k
  · obtain ⟨q, hq, e⟩ := List.getElem_of_mem ((findL_mem l k).1 h2)
    exact absurd e (h q hq)
  · omega
set_option maxRecDepth 100000 in
set_option maxHeartbeats 1000000 in
theorem find_any {W : World} {a : Option Addr} {n c : Nat} {L : List Int} (h : NumsAt W a n L) (hn : n ≤ 1099511627776) (key : Int) :
    Calls Try.prog 52 #[.slice a n c, .int .i64 key] W fun e w' => e = .returned (.int .i64 (findL L key)) ∧ w' = W := by
  have hl := h.1
  have HC := Lib.hid h.2
  have HL := Lib.hid hl
  clear h
  go_enter Try.func52, Try.ntmps52
  go_wp2_with fail
  go_loopw [4, 5] (fun v4 v5 wr => ∃ i : Nat, i ≤ n ∧ v4 = .int .i64 0 ∧ v5 = .int .i64 (i : Int) ∧ wr = W ∧ RowKit.Hid (∀ q (hq : q < L.length), q < i → L[q] ≠ key)) (fun _ v5 _ => n - (intOf v5).toNat)
  case atStart => exact ⟨0, Nat.zero_le _, rfl, rfl, rfl, Lib.hid fun q _ h => absurd h (by omega)⟩
  case round =>
    obtain ⟨i, hi, rfl, rfl, rfl, HI⟩ := hrel
    have HW : RowKit.Hid (wrap64 ((i : Int) + 1) = (i : Int) + 1) := Lib.hid (by unfold wrap64; omega)
    by_cases hlt : i < n
    · obtain ⟨g, off, rfl, _, hcs⟩ := HC.out (by omega)
      have hil : i < L.length := by omega
      have hc : wr.cell? ⟨g, off + i, none⟩ = some (.int .i64 L[i]) := hcs i hil
      have hi0 : (0 : Int) ≤ (i : Int) := by omega
      have hi1 : (i : Int) < (n : Int) := by omega
      by_cases he : L[i] = key
      · have HR : RowKit.Hid (findL L key = (i : Int)) := Lib.hid (findL_at L key i hil (fun q hq => HI.out q (by omega) hq) he)
        have hb : (key == key) = true := by simp
        rw [he] at hc
        clear hcs hl he hil
        go_wp2_with fail
        go_ret
        exact ⟨by rw [HR.out]; rfl, rfl⟩
      · have HN : RowKit.Hid (∀ q (hq : q < L.length), q < i + 1 → L[q] ≠ key) := Lib.hid fun q hq h => by
          by_cases e : q = i
          · subst e; exact he
          · exact HI.out q hq (by omega)
        have hb : (L[i] == key) = false := by simpa using he
        generalize L[i] = x at *
        clear hcs hl he hil HI
        go_wp2_with fail
        go_roundw
        case rel => exact ⟨i + 1, hlt, (by first | trivial | rfl), by go_num, (by first | trivial | rfl), HN⟩
        case measure => simp [intOf, HW.out]; omega
    · obtain rfl : i = n := by omega
      have HR : RowKit.Hid (findL L key = -1) := Lib.hid (findL_none L key fun q hq => HI.out q hq (by have := HL.out; omega))
      clear hl
      go_wp2_with fail
      go_ret
      exact ⟨by rw [HR.out]; rfl, rfl⟩
/-! ## Look and Key -/
section
variable {W : World} {B cap : Nat} {R : RM} {G : GR}
theorem tabR_why (R : RM) (r : Int) : (whyR R r 1 ≠ 0 ∧ (∀ k, lookR R r k = (0, whyR R r 1)) ∧ (∀ i, keyR R r i = (0, whyR R r 1)) ∧ ∀ k n, putR R r k n = (R, whyR R r 1)) ∨ (whyR R r 1 = 0 ∧ ∃ (k : Nat) (h1 : k < R.L.length), r = (k : Int) + 1 ∧ R.obj r = some R.L[k] ∧ R.L[k].kind = 1 ∧ R.L[k].gone = false) := by
  rcases robj_cases R r with ⟨ho, _⟩ | ⟨k, h1, hr, ho⟩
  · left
    unfold whyR lookR keyR putR
    rw [ho]
    exact ⟨by simp, fun _ => rfl, fun _ => rfl, fun _ _ => rfl⟩
  · unfold whyR lookR keyR putR
    rw [ho]
    simp only
    by_cases hk : R.L[k].kind = 1
    · cases hg : R.L[k].gone with
      | true => left; simp [hk, hg]
      | false => right; exact ⟨by simp [hk, hg], k, h1, hr, rfl, hk, hg⟩
    · left; simp [hk]
end
set_option maxRecDepth 100000 in
set_option maxHeartbeats 1000000 in
theorem reflook_any {W : World} {B cap : Nat} {R : RM} {G : GR} (h : RefAt W B cap R G) (hcap : cap ≤ 1099511627776) (r j : Int) (hr : -9223372036854775808 ≤ r ∧ r ≤ 9223372036854775807) :
    Calls Try.prog 38 #[.pointer (some ⟨G.p, 0, none⟩), .int .i64 r, .int .i64 j] W fun e w' => e = .returned (.tuple #[.int .i64 (lookR R r j).1, .int .i64 (lookR R r j).2]) ∧ Below W.heap.size W w' := by
  have CW := Lib.hid (refwhy_any h hcap r 1 hr)
  rcases tabR_why R r with ⟨hw, hl, _, _⟩ | ⟨hw, k, k1, hrk, ho, hkd, hgn⟩
  · have HV := Lib.hid (hl j)
    obtain ⟨x, hx⟩ : ∃ x, whyR R r 1 = x := ⟨_, rfl⟩
    have hxb : (x != 0) = true := by rw [← hx, bne_iff_ne]; exact hw
    rw [hx] at CW HV
    clear h hw hl hx
    go_enter Try.func38, Try.ntmps38
    go_wp2_with (go_at_call 50; refine CW.out.mono ?_; rintro e u ⟨rfl, hu⟩; rw [hu]; clear hu u)
    go_ret2
    exact ⟨int_end (by rw [HV.out]) (by rw [HV.out]), Below.refl _ _⟩
  · rw [hw] at CW
    have k2 : k < G.gts.length := by rw [h.glen]; exact k1
    obtain ⟨lb, e, hl, _, _, t0, t1, t2, t3, t4, t5⟩ := h.thing k1 k2
    have c0 := h.cell 0
    simp only [List.getElem?_toArray, List.getElem?_cons_succ, List.getElem?_cons_zero] at c0
    rw [h.ln, e] at c0
    have hll := h.num.len
    have hT := h.th k k1 k2
    have hn := h.num.one _ (List.getElem_mem k1)
    have hrd : NumsAt W G.gts[k].K.1 G.gts[k].K.2.1 R.L[k].keys := OwnsI.read hT.K
    have hru : NumsAt W G.gts[k].U.1 G.gts[k].U.2.1 R.L[k].under := OwnsI.read hT.U
    have HRU := Lib.hid hru.2
    have HV : RowKit.Hid (lookR R r j = (lookT R.L[k] j, 0)) := Lib.hid (by unfold lookR; rw [ho]; simp [hkd, hgn])
    have hfr := findL_range R.L[k].keys j
    have HUL : RowKit.Hid (R.L[k].under.length = R.L[k].keys.length ∧ R.L[k].under.length = G.gts[k].U.2.1) := Lib.hid ⟨hn.under, hru.1⟩
    have CF : RowKit.Hid (∀ u, Below W.heap.size W u → Calls Try.prog 52 #[.slice G.gts[k].K.1 G.gts[k].K.2.1 G.gts[k].K.2.2, .int .i64 j] u fun e w' => e = .returned (.int .i64 (findL R.L[k].keys j)) ∧ w' = u) := Lib.hid fun u hu => find_any (hrd.below hu (Nat.le_refl _)) (by have := hrd.1; have := hn.keys; omega) j
    have hw1 : wrap64 (r - 1) = (k : Int) := by unfold wrap64; omega
    have hk0 : (0 : Int) ≤ (k : Int) := by omega
    have hk1 : (k : Int) < (R.L.length : Int) := by omega
    obtain ⟨N, hN⟩ : ∃ N, R.L.length = N := ⟨_, rfl⟩
    rw [hN] at hk1 c0
    unfold sv at t1 t2 t3
    have HX := Lib.hid (show lookT R.L[k] j = if 0 ≤ findL R.L[k].keys j then nth R.L[k].under (findL R.L[k].keys j).toNat else 0 from rfl)
    generalize R.L[k] = t at *
    generalize G.gts[k] = g at *
    obtain ⟨fi, hfi⟩ : ∃ fi, findL t.keys j = fi := ⟨_, rfl⟩
    rw [hfi] at CF HX hfr
    obtain ⟨kd, hkd2⟩ : ∃ kd, t.kind = kd := ⟨_, rfl⟩
    obtain ⟨gn, hgn2⟩ : ∃ gn, t.gone = gn := ⟨_, rfl⟩
    rw [hkd2] at t0
    rw [hgn2] at t5
    have HBA : RowKit.Hid (∀ X : Obj, Below W.heap.size W (W.alloc X)) := Lib.hid fun X => (Below.refl _ W).alloc (Nat.le_refl _) _
    by_cases hf : 0 ≤ fi
    · obtain ⟨q, rfl⟩ : ∃ q : Nat, fi = q := ⟨fi.toNat, by omega⟩
      have hqu : q < t.under.length := by have := HUL.out.1; omega
      obtain ⟨gu, offu, eu, hgu, hcu⟩ := HRU.out (by have := HUL.out.2; omega)
      have hcq := hcu q hqu
      rw [eu] at t3
      have hq0 : (0 : Int) ≤ (q : Int) := hf
      have hq1 : (q : Int) < (g.U.2.1 : Int) := by have := HUL.out.2; omega
      have hlt : decide ((q : Int) < 0) = false := decide_eq_false (by omega)
      have HY : RowKit.Hid (lookT t j = t.under[q]) := Lib.hid (by rw [HX.out, if_pos hf, Int.toNat_natCast, nth_is hqu])
      generalize t.under[q] = y at *
      unfold numV at hcq
      have HCQ : RowKit.Hid (∀ u, Below W.heap.size W u → u.cell? ⟨gu, offu + q, none⟩ = some (.int .i64 y)) := Lib.hid fun u hu => (hu.cell (p := ⟨gu, offu + q, none⟩) hgu).trans hcq
      clear h hw ho hkd hgn hT hn hrd hru hN hfi hfr hcu eu hf hqu k1 k2 hrk e hll hkd2 hgn2
      go_enter Try.func38, Try.ntmps38
      go_wp2_with (first
        | (go_at_call 50; refine CW.out.mono ?_; rintro e u ⟨rfl, hu⟩; rw [hu]; clear hu u)
        | (go_at_call 52; (with_reducible refine (CF.out _ (HBA.out _)).mono ?_); rintro e u ⟨rfl, hu⟩; rw [hu]; clear hu u; have hcz := HCQ.out _ (HBA.out (.cells #[.int .i64 kd, .slice g.V.1 g.V.2.1 g.V.2.2, .slice g.K.1 g.K.2.1 g.K.2.2, .slice (some ⟨gu, offu, none⟩) g.U.2.1 g.U.2.2, .int .i64 t.frame, .bool gn] 63))))
      go_ret2
      exact ⟨int_end (by rw [HV.out]; exact HY.out) (by rw [HV.out]), HBA.out _⟩
    · have hlt : decide (fi < 0) = true := decide_eq_true (by omega)
      have hle : decide (0 ≤ fi) = false := decide_eq_false hf
      have HY : RowKit.Hid (lookT t j = 0) := Lib.hid (by rw [HX.out, if_neg hf])
      clear h hw ho hkd hgn hT hn hrd hru hN hfi hfr k1 k2 hrk e hll hkd2 hgn2
      go_enter Try.func38, Try.ntmps38
      go_wp2_with (first
        | (go_at_call 50; refine CW.out.mono ?_; rintro e u ⟨rfl, hu⟩; rw [hu]; clear hu u)
        | (go_at_call 52; (with_reducible refine (CF.out _ (HBA.out _)).mono ?_); rintro e u ⟨rfl, hu⟩; rw [hu]; clear hu u))
      go_ret2
      exact ⟨int_end (by rw [HV.out]; exact HY.out) (by rw [HV.out]), HBA.out _⟩
set_option maxRecDepth 100000 in
set_option maxHeartbeats 1000000 in
theorem refkey_any {W : World} {B cap : Nat} {R : RM} {G : GR} (h : RefAt W B cap R G) (hcap : cap ≤ 1099511627776) (r j : Int) (hr : -9223372036854775808 ≤ r ∧ r ≤ 9223372036854775807) :
    Calls Try.prog 39 #[.pointer (some ⟨G.p, 0, none⟩), .int .i64 r, .int .i64 j] W fun e w' => e = .returned (.tuple #[.int .i64 (keyR R r j).1, .int .i64 (keyR R r j).2]) ∧ Below W.heap.size W w' := by
  have CW := Lib.hid (refwhy_any h hcap r 1 hr)
  rcases tabR_why R r with ⟨hw, _, hl, _⟩ | ⟨hw, k, k1, hrk, ho, hkd, hgn⟩
  · have HV := Lib.hid (hl j)
    obtain ⟨x, hx⟩ : ∃ x, whyR R r 1 = x := ⟨_, rfl⟩
    have hxb : (x != 0) = true := by rw [← hx, bne_iff_ne]; exact hw
    rw [hx] at CW HV
    clear h hw hl hx
    go_enter Try.func39, Try.ntmps39
    go_wp2_with (go_at_call 50; refine CW.out.mono ?_; rintro e u ⟨rfl, hu⟩; rw [hu]; clear hu u)
    go_ret2
    exact ⟨int_end (by rw [HV.out]) (by rw [HV.out]), Below.refl _ _⟩
  · rw [hw] at CW
    have k2 : k < G.gts.length := by rw [h.glen]; exact k1
    obtain ⟨lb, e, hl, _, _, t0, t1, t2, t3, t4, t5⟩ := h.thing k1 k2
    have c0 := h.cell 0
    simp only [List.getElem?_toArray, List.getElem?_cons_succ, List.getElem?_cons_zero] at c0
    rw [h.ln, e] at c0
    have hll := h.num.len
    have hT := h.th k k1 k2
    have hn := h.num.one _ (List.getElem_mem k1)
    have hrd : NumsAt W G.gts[k].K.1 G.gts[k].K.2.1 R.L[k].keys := OwnsI.read hT.K
    have HV : RowKit.Hid (keyR R r j = if j < 0 ∨ (R.L[k].keys.length : Int) ≤ j then (0, 2) else (nth R.L[k].keys j.toNat, 0)) := Lib.hid (by unfold keyR; rw [ho]; simp [hkd, hgn])
    have hkl := hrd.1
    have HRD := Lib.hid hrd.2
    have hw1 : wrap64 (r - 1) = (k : Int) := by unfold wrap64; omega
    have hk0 : (0 : Int) ≤ (k : Int) := by omega
    have hk1 : (k : Int) < (R.L.length : Int) := by omega
    obtain ⟨N, hN⟩ : ∃ N, R.L.length = N := ⟨_, rfl⟩
    rw [hN] at hk1 c0
    unfold sv at t1 t2 t3
    generalize R.L[k] = t at *
    generalize G.gts[k] = g at *
    clear h hw ho hkd hgn hT hn hrd hN k1 k2 hrk e hll t0 t1 t3 t4 t5
    by_cases hj0 : j < 0
    · have hd : decide (j < 0) = true := decide_eq_true hj0
      rw [if_pos (.inl hj0)] at HV
      clear hkl
      go_enter Try.func39, Try.ntmps39
      go_wp2_with (go_at_call 50; refine CW.out.mono ?_; rintro e u ⟨rfl, hu⟩; rw [hu]; clear hu u)
      go_ret2
      exact ⟨int_end (by rw [HV.out]) (by rw [HV.out]), Below.refl _ _⟩
    · have hd : decide (j < 0) = false := decide_eq_false hj0
      by_cases hj1 : (g.K.2.1 : Int) ≤ j
      · have hd2 : decide ((g.K.2.1 : Int) ≤ j) = true := decide_eq_true hj1
        rw [if_pos (.inr (by omega))] at HV
        clear hkl
        go_enter Try.func39, Try.ntmps39
        go_wp2_with (go_at_call 50; refine CW.out.mono ?_; rintro e u ⟨rfl, hu⟩; rw [hu]; clear hu u)
        go_ret2
        exact ⟨int_end (by rw [HV.out]) (by rw [HV.out]), Below.refl _ _⟩
      · have hd2 : decide ((g.K.2.1 : Int) ≤ j) = false := decide_eq_false hj1
        obtain ⟨q, rfl⟩ : ∃ q : Nat, j = q := ⟨j.toNat, by omega⟩
        have hql : q < t.keys.length := by omega
        rw [if_neg (by omega), Int.toNat_natCast, nth_is hql] at HV
        obtain ⟨gk, off, ek, hgk, hck⟩ := HRD.out (by omega)
        have hcq := hck q hql
        rw [ek] at t2
        generalize t.keys[q] = y at *
        unfold numV at hcq
        have hq0 : (0 : Int) ≤ (q : Int) := by omega
        have hq1 : (q : Int) < (g.K.2.1 : Int) := by omega
        clear hkl hck ek hql
        go_enter Try.func39, Try.ntmps39
        go_wp2_with (go_at_call 50; refine CW.out.mono ?_; rintro e u ⟨rfl, hu⟩; rw [hu]; clear hu u)
        go_ret2
        exact ⟨int_end (by rw [HV.out]) (by rw [HV.out]), Below.refl _ _⟩
end Go.Proofs.Ytgnfinojnmkkkaa
