/- Layer 7: the law CfgOnce, walked (mk_once.py). -/
import Derived.Test.YtccajbgdlicbnaaCfgG
import Derived.Test.YtccajbgdlicbnaaCfgPm
import Derived.Deep.RegionHeld3
namespace Go.Proofs.Ytccajbgdlicbnaa
open Go.RowKit (wrap64 intOf Below)
set_option linter.unusedVariables false
set_option linter.unusedSimpArgs false

/-- What stands while a law of this layer runs: the function in its box, and the order. -/
structure LawSt (w : World) (r : Int) (a : Option Addr) (n c : Nat) (va : Option Addr) (vn : Nat) (L : List Int) (W : World) : Prop where
  bel : Below w.heap.size w W
  siz : w.heap.size < W.heap.size
  c0 : W.cell? ⟨w.heap.size, 0, none⟩ = some (.int .i64 r)
  c1 : W.cell? ⟨w.heap.size, 1, none⟩ = some (.slice a n c)
  lis : NumsAt W va vn L
theorem LawSt.since {w : World} {r : Int} {a : Option Addr} {n c : Nat} {va : Option Addr} {vn : Nat} {L : List Int} {W W' : World} (h : LawSt w r a n c va vn L W) (hb : Below W.heap.size W W') : LawSt w r a n c va vn L W' :=
  ⟨h.bel.trans (hb.mono h.bel.size), Nat.lt_of_lt_of_le h.siz hb.size, (hb.cell (p := ⟨w.heap.size, 0, none⟩) h.siz).trans h.c0, (hb.cell (p := ⟨w.heap.size, 1, none⟩) h.siz).trans h.c1, h.lis.since hb⟩
theorem two_cells {w1 : World} {b : Nat} {x y u v : Value} (h0 : w1.cell? ⟨b, 0, none⟩ = some x) (h1 : w1.cell? ⟨b, 1, none⟩ = some y) : ((w1.setCell ⟨b, 0, none⟩ u).setCell ⟨b, 1, none⟩ v).cell? ⟨b, 0, none⟩ = some u ∧ ((w1.setCell ⟨b, 0, none⟩ u).setCell ⟨b, 1, none⟩ v).cell? ⟨b, 1, none⟩ = some v := by
  have e0 : (w1.setCell ⟨b, 0, none⟩ u).cell? ⟨b, 0, none⟩ = some u := World.cell?_setCell_same' _ _ _ (by rw [h0]; rfl)
  have e1 : (w1.setCell ⟨b, 0, none⟩ u).cell? ⟨b, 1, none⟩ = some y := by
    exact (World.cell?_setCell_other _ _ _ _ (show (⟨b, 0, none⟩ : Addr) ≠ ⟨b, 1, none⟩ by simp)).trans h1
  refine ⟨?_, World.cell?_setCell_same' _ _ _ (by rw [e1]; rfl)⟩
  exact (World.cell?_setCell_other _ _ _ _ (show (⟨b, 1, none⟩ : Addr) ≠ ⟨b, 0, none⟩ by simp)).trans e0
theorem law_st {w w1 w2 : World} {r : Int} {a : Option Addr} {m c : Nat} {va : Option Addr} {vn : Nat} {L : List Int} (h0 : Below w.heap.size w w1) (hl : w.heap.size < w1.heap.size)
    (hc : ((w1.setCell ⟨w.heap.size, 0, none⟩ (.int .i64 r)).setCell ⟨w.heap.size, 1, none⟩ (.slice a m c)).cell? ⟨w.heap.size, 0, none⟩ = some (.int .i64 r) ∧ ((w1.setCell ⟨w.heap.size, 0, none⟩ (.int .i64 r)).setCell ⟨w.heap.size, 1, none⟩ (.slice a m c)).cell? ⟨w.heap.size, 1, none⟩ = some (.slice a m c))
    (hb : Below ((w1.setCell ⟨w.heap.size, 0, none⟩ (.int .i64 r)).setCell ⟨w.heap.size, 1, none⟩ (.slice a m c)).heap.size ((w1.setCell ⟨w.heap.size, 0, none⟩ (.int .i64 r)).setCell ⟨w.heap.size, 1, none⟩ (.slice a m c)) w2) (hr : NumsAt w2 va vn L) : LawSt w r a m c va vn L w2 := by
  have hU : Below w.heap.size w ((w1.setCell ⟨w.heap.size, 0, none⟩ (.int .i64 r)).setCell ⟨w.heap.size, 1, none⟩ (.slice a m c)) := (h0.setCell (p := ⟨w.heap.size, 0, none⟩) (Nat.le_refl _) _).setCell (p := ⟨w.heap.size, 1, none⟩) (Nat.le_refl _) _
  have hlt : w.heap.size < ((w1.setCell ⟨w.heap.size, 0, none⟩ (.int .i64 r)).setCell ⟨w.heap.size, 1, none⟩ (.slice a m c)).heap.size := by simpa [World.setCell] using hl
  exact ⟨hU.trans (hb.mono hU.size), Nat.lt_of_lt_of_le hlt hb.size, (hb.cell (p := ⟨w.heap.size, 0, none⟩) hlt).trans hc.1, (hb.cell (p := ⟨w.heap.size, 1, none⟩) hlt).trans hc.2, hr⟩
theorem own_cap {w : World} {B : Nat} {e : TypeId} {va : Option Addr} {vn vc : Nat} {Z : List Int} (h : OwnsI w B e (.slice va vn vc) Z) : vn ≤ vc := by
  rcases h.2 with ⟨e, h0⟩ | ⟨g, cap, cur, e, _, _, h1, _⟩
  · cases e; omega
  · cases e; exact h1
theorem next_len (e : EndD) : (nextL e).length ≤ 2 := by
  unfold nextL
  split
  · simp
  · split
    · split <;> simp
    · simp
theorem not_before {L : List Int} (h : L.Nodup) {i : Nat} (hi : i < L.length) : L[i] ∉ L.take i := by
  intro hm
  obtain ⟨j, hj, e⟩ := List.getElem_of_mem hm
  simp only [List.length_take] at hj
  rw [List.getElem_take] at e
  exact List.pairwise_iff_getElem.1 h j i (by omega) hi (by omega) e
theorem first_zero {f : FuncD} {i : Nat} (hi : i < (orderL f).length) : i = 0 ↔ (orderL f)[i] = 0 := by
  have hn := (order_facts f).nodup
  have hp : 0 < f.blocks.length := by have := order_len f; omega
  obtain ⟨r, hr⟩ := order_head hp
  have h0 : (orderL f)[0]'(by omega) = 0 := by simp only [hr, List.getElem_cons_zero]
  constructor
  · rintro rfl; exact h0
  · intro h
    refine Nat.eq_zero_of_not_pos fun hpos => ?_
    exact List.pairwise_iff_getElem.1 hn 0 i (by omega) hi hpos (h0.trans h.symm)
theorem met_all {f : FuncD} {i : Nat} (hi : i < (orderL f).length) : i = 0 ∨ ∃ q ∈ orderL f, (orderL f)[i] ∈ nxF f q.toNat := by
  rcases (order_facts f).pred _ (List.getElem_mem hi) with h | h
  · exact .inl ((first_zero hi).2 h)
  · exact .inr h
theorem order_some (f : FuncD) : 0 < (orderL f).length ↔ 0 < f.blocks.length := by
  constructor
  · intro h; have := order_len f; omega
  · intro h; obtain ⟨r, hr⟩ := order_head h; rw [hr]; simp
theorem order_at {f : FuncD} {k : Nat} (hk : k < (orderL f).length) : ∃ p : Nat, (orderL f)[k] = (p : Int) ∧ p < f.blocks.length := by
  have h := (order_facts f).there _ (List.getElem_mem hk)
  exact ⟨(orderL f)[k].toNat, by have := h.1; omega, by have := h.1; have := h.2; omega⟩
/-- A block of a function that came in, as it lies. -/
def BlockAt (u : World) (g off p : Nat) (e : EndD) (pa : Option Addr) (pn pc : Nat) (oa : Option Addr) (on oc : Nat) (la : Option Addr) (ln lc : Nat) (ma : Option Addr) (mn mc : Nat) : Prop :=
  u.cell? ⟨g, off + p * 8, none⟩ = some (.slice pa pn pc) ∧ u.cell? ⟨g, off + p * 8 + 1, none⟩ = some (.slice oa on oc) ∧ u.cell? ⟨g, off + p * 8 + 2, none⟩ = some (.int .i64 e.K) ∧ u.cell? ⟨g, off + p * 8 + 3, none⟩ = some (.int .i64 e.A) ∧ u.cell? ⟨g, off + p * 8 + 4, none⟩ = some (.int .i64 e.To) ∧ u.cell? ⟨g, off + p * 8 + 5, none⟩ = some (.int .i64 e.Else) ∧ u.cell? ⟨g, off + p * 8 + 6, none⟩ = some (.slice la ln lc) ∧ u.cell? ⟨g, off + p * 8 + 7, none⟩ = some (.slice ma mn mc)
theorem block_at {W : World} {a : Option Addr} {n c : Nat} {f : FuncD} (h : RowV BlockQ 8 W (.slice a n c) f.blocks) {p : Nat} (hp : p < n) : ∃ g off pa pn pc oa on oc la ln lc ma mn mc, a = some ⟨g, off, none⟩ ∧ g < W.heap.size ∧ ∀ u, Below W.heap.size W u → BlockAt u g off p (theEnd f p) pa pn pc oa on oc la ln lc ma mn mc := by
  obtain ⟨a', n', c', e, hl, _, _, hrow⟩ := h
  cases e
  obtain ⟨g, off, rfl, hg, hcs⟩ := hrow (by omega)
  obtain ⟨cs, h8, hc, pv, ov, es, rfl, hpv, hov, l, m, rfl, _, _, _, _, hL, hM⟩ := hcs p (by omega)
  obtain ⟨pa, pn, pc, rfl, _⟩ := hpv
  obtain ⟨oa, on, oc, rfl, _⟩ := hov
  obtain ⟨la, ln, lc, rfl, _⟩ := hL
  obtain ⟨ma, mn, mc, rfl, _⟩ := hM
  refine ⟨g, off, pa, pn, pc, oa, on, oc, la, ln, lc, ma, mn, mc, rfl, hg, fun u hb => ?_⟩
  rw [theEnd_at (by omega)]
  have hk : ∀ j (hj : j < 8), u.cell? ⟨g, off + p * 8 + j, none⟩ = _ := fun j hj => (hb.cell (p := ⟨g, off + p * 8 + j, none⟩) hg).trans (hc j hj)
  exact ⟨hk 0 (by omega), hk 1 (by omega), hk 2 (by omega), hk 3 (by omega), hk 4 (by omega), hk 5 (by omega), hk 6 (by omega), hk 7 (by omega)⟩
/-- Whether a block behind some of the first k was named. -/
def metB (f : FuncD) (i k : Nat) (z : Int) : Bool := decide (i = 0 ∨ ∃ q ∈ (orderL f).take k, z ∈ nxF f q.toNat)
theorem metB_more {f : FuncD} {i k : Nat} {z : Int} (hk : k < (orderL f).length) : metB f i (k + 1) z = (metB f i k z || inL (nxF f ((orderL f)[k]).toNat) z) := by
  unfold metB inL
  rw [List.take_succ_eq_append_getElem hk]
  rw [Bool.eq_iff_iff]
  simp only [List.mem_append, List.mem_singleton, decide_eq_true_eq, Bool.or_eq_true]
  constructor
  · rintro (h | ⟨q, hq | rfl, hz⟩)
    · exact .inl (.inl h)
    · exact .inl (.inr ⟨q, hq, hz⟩)
    · exact .inr hz
  · rintro ((h | ⟨q, hq, hz⟩) | h)
    · exact .inl h
    · exact .inr ⟨q, .inl hq, hz⟩
    · exact .inr ⟨_, .inr rfl, h⟩

set_option maxRecDepth 100000 in
set_option maxHeartbeats 8000000 in
theorem once_walk (r : Int) (a : Option Addr) (n c : Nat) (f : FuncD) (w : World) (hrow : RowV BlockQ 8 w (.slice a n c) f.blocks) (hnc : n ≤ c) (hc : c ≤ 9223372036854775807) :
    Calls Try.prog 5 #[.agg #[.int .i64 r, .slice a n c]] w fun e w' => e = .returned (.bool true) ∧ Below w.heap.size w w' := by
  have hn : n ≤ 140737488351232 := by obtain ⟨_, _, _, e, _, _, h, _⟩ := hrow; cases e; exact h
  have hrow2 := hrow.few
  have hlen : fewN n = (fewF f).blocks.length := by obtain ⟨_, _, _, e, h, _⟩ := hrow2; cases e; exact h.symm
  have hn60 := fewN_le n
  have HFEW : RowKit.Hid (∀ u : World, Calls Try.prog 13 #[.agg #[.int .i64 r, .slice a n c]] u fun e w' => e = .returned (.agg #[.int .i64 r, .slice a (fewN n) c]) ∧ Below u.heap.size u w') := Lib.hid fun u => few_any r a n c u (by omega) hnc hc
  generalize fewF f = F at *
  generalize fewN n = m at *
  have HROW := Lib.hid hrow2
  have HLEN := Lib.hid hlen
  clear hrow hrow2 hlen hnc hc hn
  go_enter Try.func5, Try.ntmps5
  go_wp2_with (first
    | ((go_at_call 13; refine (HFEW.out _).mono ?_); rintro e w1 ⟨rfl, hb⟩; have hbl : w.heap.size < w1.heap.size := (by have := hb.size; simp at this; omega); have hheap : w1.heap[w.heap.size]? = some (.cells #[.int .i64 r, .slice a n c] 24 (0, 0)) := ((hb.block w.heap.size (by simp)).trans (World.alloc_heap_new w _)); have hx0 : w1.cell? ⟨w.heap.size, 0, none⟩ = some (.int .i64 r) := (by simp [World.cell?, hheap]); have hx1 : w1.cell? ⟨w.heap.size, 1, none⟩ = some (.slice a n c) := (by simp [World.cell?, hheap]); have hxf0 : w1.frozen? ⟨w.heap.size, 0, none⟩ = false := (by simp [World.frozen?, hheap]); have hxf1 : w1.frozen? ⟨w.heap.size, 1, none⟩ = false := (by simp [World.frozen?, hheap]); have HTC := Lib.hid (two_cells (u := .int .i64 r) (v := .slice a m c) hx0 hx1); have HB0 := Lib.hid (show Below w.heap.size w w1 from ((Below.refl w.heap.size w).alloc (Nat.le_refl _) _).trans (hb.mono (by simp))); clear hb hheap)
    | ((go_at_call 22; refine (order_any r a m c F _ (HROW.out.since BlockQ.lasts ((HB0.out.setCell (p := ⟨w.heap.size, 0, none⟩) (Nat.le_refl _) _).setCell (p := ⟨w.heap.size, 1, none⟩) (Nat.le_refl _) _)) (by omega)).mono ?_); rintro e w2 ⟨va, vn, vc, rfl, ho, hb⟩; have hvc := own_cap ho; have HST := Lib.hid (law_st HB0.out hbl HTC.out hb ho.read); clear ho hb hbl hx0 hx1 hxf0 hxf1 HTC HB0))
  have hvn : (orderL F).length = vn := HST.out.lis.1
  have hvm : vn ≤ 60 := by have := order_len F; have := HLEN.out; omega
  have HVN := Lib.hid hvn
  clear hvn HFEW
  go_loopw [4] (fun v4 wr => ∃ i : Nat, i ≤ vn ∧ v4 = .int .i64 (i : Int) ∧ RowKit.Hid (LawSt w r a m c va vn (orderL F) wr)) (fun v4 _ => vn - (intOf v4).toNat)
  case atStart => exact ⟨0, Nat.zero_le _, rfl, HST⟩
  case round =>
    obtain ⟨i, hi, rfl, HI⟩ := hrel
    clear HST
    obtain ⟨wo, hwo⟩ : ∃ u, u = wr := ⟨_, rfl⟩
    rw [← hwo] at HI ⊢
    clear hwo
    by_cases hlt : i < vn
    · have hiL : i < (orderL F).length := by rw [HVN.out]; exact hlt
      have HIL := Lib.hid hiL
      obtain ⟨g, off, rfl, hg, hcs⟩ := HI.out.lis.2 (by omega)
      obtain ⟨zi, hzi⟩ : ∃ z, z = (orderL F)[i]'HIL.out := ⟨_, rfl⟩
      have hci : wo.cell? ⟨g, off + i, none⟩ = some (.int .i64 zi) := by rw [hzi]; exact hcs i hiL
      have HZI := Lib.hid hzi
      have HNB : RowKit.Hid (inL ((orderL F).take i) zi = false) := Lib.hid (by unfold inL; rw [hzi]; exact decide_eq_false (not_before (order_facts F).nodup hiL))
      have hz0 : ((i : Int) == 0) = (zi == 0) := by
        rw [hzi, Bool.eq_iff_iff]; simp only [beq_iff_eq]; have := first_zero hiL; omega
      have HZ0 : RowKit.Hid (i = 0 ↔ zi = 0) := Lib.hid (by rw [hzi]; exact first_zero hiL)
      have HMET : RowKit.Hid (metB F i vn zi = true) := Lib.hid (by unfold metB; rw [decide_eq_true_eq, ← HVN.out, List.take_length, hzi]; exact met_all hiL)
      have HTK : RowKit.Hid (NumsAt wo (some ⟨g, off, none⟩) i ((orderL F).take i)) := Lib.hid ⟨by simp; omega, fun h0 => ⟨g, off, rfl, hg, fun j hj => by have hj2 : j < i := (by simp at hj; omega); rw [List.getElem_take]; exact hcs j (by omega)⟩⟩
      have CH : RowKit.Hid (∀ u, Below wo.heap.size wo u → Calls Try.prog 25 #[.slice (some ⟨g, off, none⟩) i vc, .int .i64 zi] u fun e w' => e = .returned (.bool false) ∧ u = w') := Lib.hid fun u hb => by have := has_any (some ⟨g, off, none⟩) i vc _ zi u (HTK.out.since hb) (by omega); rw [HNB.out] at this; exact this
      have HKT : RowKit.Hid (∀ u, Below wo.heap.size wo u → (fun u : World => u.cell? ⟨g, off + i, none⟩ = some (.int .i64 zi)) u) := Lib.hid fun u hb => (hb.cell (p := ⟨g, off + i, none⟩) hg).trans hci
      have HGW := Lib.hid hg
      have HCS := Lib.hid hcs
      clear hcs hzi hiL hg hci
      have hic : i ≤ vc := by omega
      have hk0 : Below wo.heap.size wo wo.drew := (Below.refl _ _).drew
      go_upto_region 6 with fail
      refine wp_region_held_drew (S := (fun u : World => u.cell? ⟨g, off + i, none⟩ = some (.int .i64 zi))) (by kernel_rfl) (HKT.out _ hk0) (fun hHeld => ?_)
      refine wpAnyH_take (i := 0) (oi := ⟨some 17, _, _, _, _, _⟩) (v := ?_) rfl (by kernel_rfl) (by kernel_rfl) (by kernel_rfl) (fun _ _ _ h => h) (Or.inl ⟨by rfl, ?_⟩) (by assumption) ?_
      rotate_left
      · ((intro w hSw; (try dsimp only at hSw); go_simp); try with_reducible rfl)
      (try simp only [Act.put, List.setIfInBounds_toArray, List.set_cons_zero, List.set_cons_succ])
      refine wpAnyH_take (i := 1) (oi := ⟨some 18, _, _, _, _, _⟩) (v := ?_) rfl (by kernel_rfl) (by kernel_rfl) (by kernel_rfl) (fun _ _ _ h => h) (Or.inl ⟨by rfl, ?_⟩) (by assumption) ?_
      rotate_left
      · ((intro w hSw; (try dsimp only at hSw); go_simp); try with_reducible rfl)
      (try simp only [Act.put, List.setIfInBounds_toArray, List.set_cons_zero, List.set_cons_succ])
      refine wpAnyH_take (i := 2) (oi := ⟨some 19, _, _, _, _, _⟩) (v := ?_) rfl (by kernel_rfl) (by kernel_rfl) (by kernel_rfl) (fun _ _ _ h => h) (Or.inl ⟨by rfl, ?_⟩) (by assumption) ?_
      rotate_left
      · ((intro w hSw; (try dsimp only at hSw); go_simp); try with_reducible rfl)
      (try simp only [Act.put, List.setIfInBounds_toArray, List.set_cons_zero, List.set_cons_succ])
      refine wpAnyH_take (i := 3) (oi := ⟨some 20, _, _, _, _, _⟩) (v := ?_) rfl (by kernel_rfl) (by kernel_rfl) (by kernel_rfl) (fun _ _ _ h => h) (Or.inl ⟨by rfl, ?_⟩) (by assumption) ?_
      rotate_left
      · ((intro w hSw; (try dsimp only at hSw); go_simp); try with_reducible rfl)
      (try simp only [Act.put, List.setIfInBounds_toArray, List.set_cons_zero, List.set_cons_succ])
      refine wpAnyH_take (i := 4) (oi := ⟨some 21, _, _, _, _, _⟩) (v := ?_) rfl (by kernel_rfl) (by kernel_rfl) (by kernel_rfl) (fun _ _ _ h => h) (Or.inl ⟨by rfl, ?_⟩) (by assumption) ?_
      rotate_left
      · ((intro w hSw; (try dsimp only at hSw); go_simp); try with_reducible rfl)
      (try simp only [Act.put, List.setIfInBounds_toArray, List.set_cons_zero, List.set_cons_succ])
      refine wpAnyH_take (i := 5) (oi := ⟨some 22, _, _, _, _, _⟩) (v := ?_) rfl (by kernel_rfl) (by kernel_rfl) (by kernel_rfl) (fun _ _ _ h => h) (Or.inl ⟨by rfl, ?_⟩) (by assumption) ?_
      rotate_left
      · ((intro w hSw; (try dsimp only at hSw); go_simp); try with_reducible rfl)
      (try simp only [Act.put, List.setIfInBounds_toArray, List.set_cons_zero, List.set_cons_succ])
      refine wpAnyH_take (i := 6) (oi := ⟨some 23, _, _, _, _, _⟩) (v := ?_) rfl (by kernel_rfl) (by kernel_rfl) (by kernel_rfl) (fun _ _ _ h => h) (Or.inl ⟨by rfl, ?_⟩) (by assumption) ?_
      rotate_left
      · ((intro w hSw; (try dsimp only at hSw); go_simp); try with_reducible rfl)
      (try simp only [Act.put, List.setIfInBounds_toArray, List.set_cons_zero, List.set_cons_succ])
      refine wpAnyH_ready (rs := [7]) (by kernel_rfl) (by simp) (AllReadyH.cons rfl (fun K hK => ?_) AllReadyH.nil)
      rw [if_pos (by rfl)]
      go_simp
      go_at_call 25
      (with_reducible refine (CH.out _ hk0).mono ?_)
      rintro e v1 ⟨rfl, rfl⟩
      refine hK.out _ _ (HKT.out _ hk0) (fun hHeld => ?_)
      clear hK K
      (try simp only [Act.put, List.setIfInBounds_toArray, List.set_cons_zero, List.set_cons_succ])
      refine wpAnyH_take (i := 8) (oi := ⟨some 25, _, _, _, _, _⟩) (v := ?_) rfl (by kernel_rfl) (by kernel_rfl) (by kernel_rfl) (fun _ _ _ h => h) (Or.inl ⟨by rfl, ?_⟩) (by assumption) ?_
      rotate_left
      · ((intro w hSw; (try dsimp only at hSw); go_simp); try with_reducible rfl)
      (try simp only [Act.put, List.setIfInBounds_toArray, List.set_cons_zero, List.set_cons_succ])
      refine wpAnyH_take (i := 9) (oi := ⟨some 26, _, _, _, _, _⟩) (v := ?_) rfl (by kernel_rfl) (by kernel_rfl) (by kernel_rfl) (fun _ _ _ h => h) (Or.inl ⟨by rfl, ?_⟩) (by assumption) ?_
      rotate_left
      · ((intro w hSw; (try dsimp only at hSw); go_simp); try with_reducible rfl)
      (try simp only [Act.put, List.setIfInBounds_toArray, List.set_cons_zero, List.set_cons_succ])
      refine wpAnyH_take (i := 10) (oi := ⟨some 27, _, _, _, _, _⟩) (v := ?_) rfl (by kernel_rfl) (by kernel_rfl) (by kernel_rfl) (fun _ _ _ h => h) (Or.inl ⟨by rfl, ?_⟩) (by assumption) ?_
      rotate_left
      · ((intro w hSw; (try dsimp only at hSw); go_simp); try with_reducible rfl)
      (try simp only [Act.put, List.setIfInBounds_toArray, List.set_cons_zero, List.set_cons_succ])
      refine wpAnyH_take (i := 11) (oi := ⟨some 28, _, _, _, _, _⟩) (v := ?_) rfl (by kernel_rfl) (by kernel_rfl) (by kernel_rfl) (fun _ _ _ h => h) (Or.inl ⟨by rfl, ?_⟩) (by assumption) ?_
      rotate_left
      · ((intro w hSw; (try dsimp only at hSw); go_simp); try with_reducible rfl)
      (try simp only [Act.put, List.setIfInBounds_toArray, List.set_cons_zero, List.set_cons_succ])
      refine wpAnyH_take (i := 12) (oi := ⟨some 29, _, _, _, _, _⟩) (v := ?_) rfl (by kernel_rfl) (by kernel_rfl) (by kernel_rfl) (fun _ _ _ h => h) (Or.inl ⟨by rfl, ?_⟩) (by assumption) ?_
      rotate_left
      · ((intro w hSw; (try dsimp only at hSw); go_simp); try with_reducible rfl)
      (try simp only [Act.put, List.setIfInBounds_toArray, List.set_cons_zero, List.set_cons_succ])
      refine wpAnyH_take (i := 13) (oi := ⟨some 30, _, _, _, _, _⟩) (v := ?_) rfl (by kernel_rfl) (by kernel_rfl) (by kernel_rfl) (fun _ _ _ h => h) (Or.inl ⟨by rfl, ?_⟩) (by assumption) ?_
      rotate_left
      · ((intro w hSw; (try dsimp only at hSw); go_simp); try with_reducible rfl)
      (try simp only [Act.put, List.setIfInBounds_toArray, List.set_cons_zero, List.set_cons_succ])
      refine wpAnyH_take (i := 14) (oi := ⟨some 31, _, _, _, _, _⟩) (v := ?_) rfl (by kernel_rfl) (by kernel_rfl) (by kernel_rfl) (fun _ _ _ h => h) (Or.inl ⟨by rfl, ?_⟩) (by assumption) ?_
      rotate_left
      · ((intro w hSw; (try dsimp only at hSw); go_simp); try with_reducible rfl)
      (try simp only [Act.put, List.setIfInBounds_toArray, List.set_cons_zero, List.set_cons_succ])
      refine wpAnyH_take (i := 15) (oi := ⟨some 32, _, _, _, _, _⟩) (v := ?_) rfl (by kernel_rfl) (by kernel_rfl) (by kernel_rfl) (fun _ _ _ h => h) (Or.inl ⟨by rfl, ?_⟩) (by assumption) ?_
      rotate_left
      · ((intro w hSw; (try dsimp only at hSw); go_simp); try with_reducible rfl)
      (try simp only [Act.put, List.setIfInBounds_toArray, List.set_cons_zero, List.set_cons_succ])
      refine wpAnyH_take (i := 16) (oi := ⟨some 33, _, _, _, _, _⟩) (v := ?_) rfl (by kernel_rfl) (by kernel_rfl) (by kernel_rfl) (fun _ _ _ h => h) (Or.inl ⟨by rfl, ?_⟩) (by assumption) ?_
      rotate_left
      · ((intro w hSw; (try dsimp only at hSw); go_simp); try with_reducible rfl)
      (try simp only [Act.put, List.setIfInBounds_toArray, List.set_cons_zero, List.set_cons_succ])
      refine wpAnyH_take (i := 17) (oi := ⟨some 34, _, _, _, _, _⟩) (v := ?_) rfl (by kernel_rfl) (by kernel_rfl) (by kernel_rfl) (fun _ _ _ h => h) (Or.inl ⟨by rfl, ?_⟩) (by assumption) ?_
      rotate_left
      · ((intro w hSw; (try dsimp only at hSw); go_simp); try with_reducible rfl)
      (try simp only [Act.put, List.setIfInBounds_toArray, List.set_cons_zero, List.set_cons_succ])
      refine wpAnyH_done (by kernel_rfl) ?_ _
      go_wp2_with fail
      clear hk0 CH HKT hz0
      go_loopw [5, 6] (fun v5 v6 wq => ∃ k : Nat, k ≤ vn ∧ v6 = .int .i64 (k : Int) ∧ v5 = .bool (metB F i k zi) ∧ RowKit.Hid (Below wo.heap.size wo wq)) (fun _ v6 _ => vn - (intOf v6).toNat)
      case atStart => exact ⟨0, Nat.zero_le _, rfl, congrArg Value.bool (by unfold metB; rw [Bool.eq_iff_iff]; simp; exact HZ0.out.symm), Lib.hid (Below.refl _ _).drew⟩
      case round =>
        obtain ⟨k, hk, rfl, rfl, HQ⟩ := hrel
        obtain ⟨wq, hwq⟩ : ∃ u, u = wr := ⟨_, rfl⟩
        rw [← hwq] at HQ ⊢
        clear hwq
        by_cases hkl : k < vn
        · have hkL : k < (orderL F).length := by rw [HVN.out]; exact hkl
          have HKL := Lib.hid hkL
          obtain ⟨p, hp, hpm⟩ := order_at hkL
          have hpm2 : p < m := by rw [HLEN.out]; exact hpm
          obtain ⟨g2, off2, pa, pn, pc, oa, on, oc, la, ln, lc, ma, mn, mc, rfl, hg2, hblk⟩ := block_at (HROW.out.since BlockQ.lasts HI.out.bel) hpm2
          have HMB : RowKit.Hid (metB F i (k + 1) zi = (metB F i k zi || inL (nextL (theEnd F p)) zi)) := Lib.hid (by have := metB_more (i := i) (z := zi) hkL; rw [hp] at this; exact this)
          obtain ⟨bb, hbb⟩ : ∃ b, b = inL (nextL (theEnd F p)) zi := ⟨_, rfl⟩
          rw [← hbb] at HMB
          have HBB := Lib.hid hbb
          clear hbb
          have CN : RowKit.Hid (∀ u, Calls Try.prog 19 #[.agg #[.slice pa pn pc, .slice oa on oc, .int .i64 (theEnd F p).K, .int .i64 (theEnd F p).A, .int .i64 (theEnd F p).To, .int .i64 (theEnd F p).Else, .slice la ln lc, .slice ma mn mc]] u fun e' w' => ∃ va vn vc, e' = .returned (.slice va vn vc) ∧ OwnsI w' u.heap.size 3 (.slice va vn vc) (nextL (theEnd F p)) ∧ Below u.heap.size u w') := Lib.hid fun u => refnext_any pa pn pc oa on oc (theEnd F p).A la ln lc ma mn mc (theEnd F p) u
          have HNL : RowKit.Hid ((nextL (theEnd F p)).length ≤ 2) := Lib.hid (next_len _)
          have hcp : wo.cell? ⟨g, off + k, none⟩ = some (.int .i64 (p : Int)) := by have := HCS.out k hkL; rw [hp] at this; exact this
          have hcz : wo.cell? ⟨g, off + i, none⟩ = some (.int .i64 zi) := by have := HCS.out i HIL.out; rw [← HZI.out] at this; exact this
          have HKT : RowKit.Hid (∀ u, Below wo.heap.size wo u → (fun u : World => u.cell? ⟨g, off + k, none⟩ = some (.int .i64 (p : Int)) ∧ u.cell? ⟨g, off + i, none⟩ = some (.int .i64 zi) ∧ u.cell? ⟨w.heap.size, 1, none⟩ = some (.slice (some ⟨g2, off2, none⟩) m c) ∧ u.cell? ⟨g2, off2 + p * 8, none⟩ = some (.slice pa pn pc) ∧ u.cell? ⟨g2, off2 + p * 8 + 1, none⟩ = some (.slice oa on oc) ∧ u.cell? ⟨g2, off2 + p * 8 + 2, none⟩ = some (.int .i64 (theEnd F p).K) ∧ u.cell? ⟨g2, off2 + p * 8 + 3, none⟩ = some (.int .i64 (theEnd F p).A) ∧ u.cell? ⟨g2, off2 + p * 8 + 4, none⟩ = some (.int .i64 (theEnd F p).To) ∧ u.cell? ⟨g2, off2 + p * 8 + 5, none⟩ = some (.int .i64 (theEnd F p).Else) ∧ u.cell? ⟨g2, off2 + p * 8 + 6, none⟩ = some (.slice la ln lc) ∧ u.cell? ⟨g2, off2 + p * 8 + 7, none⟩ = some (.slice ma mn mc)) u) := Lib.hid fun u hb => ⟨(hb.cell (p := ⟨g, off + k, none⟩) HGW.out).trans hcp, (hb.cell (p := ⟨g, off + i, none⟩) HGW.out).trans hcz, (hb.cell (p := ⟨w.heap.size, 1, none⟩) HI.out.siz).trans HI.out.c1, hblk u hb⟩
          generalize (theEnd F p).K = EK at *
          generalize (theEnd F p).A = EA at *
          generalize (theEnd F p).To = ET at *
          generalize (theEnd F p).Else = EE at *
          clear hcp hcz hblk hkL hp hpm hg2
          have hpm3 : (p : Int) < (m : Int) := by omega
          have hp0 : (0 : Int) ≤ (p : Int) := by omega
          have hk0 : Below wo.heap.size wo wq.drew := HQ.out.drew
          go_upto_region 12 with fail
          refine wp_region_held_drew (S := (fun u : World => u.cell? ⟨g, off + k, none⟩ = some (.int .i64 (p : Int)) ∧ u.cell? ⟨g, off + i, none⟩ = some (.int .i64 zi) ∧ u.cell? ⟨w.heap.size, 1, none⟩ = some (.slice (some ⟨g2, off2, none⟩) m c) ∧ u.cell? ⟨g2, off2 + p * 8, none⟩ = some (.slice pa pn pc) ∧ u.cell? ⟨g2, off2 + p * 8 + 1, none⟩ = some (.slice oa on oc) ∧ u.cell? ⟨g2, off2 + p * 8 + 2, none⟩ = some (.int .i64 EK) ∧ u.cell? ⟨g2, off2 + p * 8 + 3, none⟩ = some (.int .i64 EA) ∧ u.cell? ⟨g2, off2 + p * 8 + 4, none⟩ = some (.int .i64 ET) ∧ u.cell? ⟨g2, off2 + p * 8 + 5, none⟩ = some (.int .i64 EE) ∧ u.cell? ⟨g2, off2 + p * 8 + 6, none⟩ = some (.slice la ln lc) ∧ u.cell? ⟨g2, off2 + p * 8 + 7, none⟩ = some (.slice ma mn mc))) (by kernel_rfl) (HKT.out _ hk0) (fun hHeld => ?_)
          refine wpAnyH_take (i := 0) (oi := ⟨some 43, _, _, _, _, _⟩) (v := ?_) rfl (by kernel_rfl) (by kernel_rfl) (by kernel_rfl) (fun _ _ _ h => h) (Or.inl ⟨by rfl, ?_⟩) (by assumption) ?_
          rotate_left
          · ((intro w hSw; (try dsimp only at hSw); go_simp); try with_reducible rfl)
          (try simp only [Act.put, List.setIfInBounds_toArray, List.set_cons_zero, List.set_cons_succ])
          refine wpAnyH_take (i := 1) (oi := ⟨some 44, _, _, _, _, _⟩) (v := ?_) rfl (by kernel_rfl) (by kernel_rfl) (by kernel_rfl) (fun _ _ _ h => h) (Or.inl ⟨by rfl, ?_⟩) (by assumption) ?_
          rotate_left
          · ((intro w hSw; (try dsimp only at hSw); go_simp); try with_reducible rfl)
          (try simp only [Act.put, List.setIfInBounds_toArray, List.set_cons_zero, List.set_cons_succ])
          refine wpAnyH_take (i := 2) (oi := ⟨some 45, _, _, _, _, _⟩) (v := ?_) rfl (by kernel_rfl) (by kernel_rfl) (by kernel_rfl) (fun _ _ _ h => h) (Or.inl ⟨by rfl, ?_⟩) (by assumption) ?_
          rotate_left
          · ((intro w hSw; (try dsimp only at hSw); go_simp); try with_reducible rfl)
          (try simp only [Act.put, List.setIfInBounds_toArray, List.set_cons_zero, List.set_cons_succ])
          refine wpAnyH_take (i := 3) (oi := ⟨some 46, _, _, _, _, _⟩) (v := ?_) rfl (by kernel_rfl) (by kernel_rfl) (by kernel_rfl) (fun _ _ _ h => h) (Or.inl ⟨by rfl, ?_⟩) (by assumption) ?_
          rotate_left
          · ((intro w hSw; (try dsimp only at hSw); go_simp); try with_reducible rfl)
          (try simp only [Act.put, List.setIfInBounds_toArray, List.set_cons_zero, List.set_cons_succ])
          refine wpAnyH_take (i := 4) (oi := ⟨some 47, _, _, _, _, _⟩) (v := ?_) rfl (by kernel_rfl) (by kernel_rfl) (by kernel_rfl) (fun _ _ _ h => h) (Or.inl ⟨by rfl, ?_⟩) (by assumption) ?_
          rotate_left
          · ((intro w hSw; (try dsimp only at hSw); go_simp); try with_reducible rfl)
          (try simp only [Act.put, List.setIfInBounds_toArray, List.set_cons_zero, List.set_cons_succ])
          refine wpAnyH_take (i := 5) (oi := ⟨some 48, _, _, _, _, _⟩) (v := ?_) rfl (by kernel_rfl) (by kernel_rfl) (by kernel_rfl) (fun _ _ _ h => h) (Or.inl ⟨by rfl, ?_⟩) (by assumption) ?_
          rotate_left
          · ((intro w hSw; (try dsimp only at hSw); go_simp); try with_reducible rfl)
          (try simp only [Act.put, List.setIfInBounds_toArray, List.set_cons_zero, List.set_cons_succ])
          refine wpAnyH_take (i := 6) (oi := ⟨some 49, _, _, _, _, _⟩) (v := ?_) rfl (by kernel_rfl) (by kernel_rfl) (by kernel_rfl) (fun _ _ _ h => h) (Or.inl ⟨by rfl, ?_⟩) (by assumption) ?_
          rotate_left
          · ((intro w hSw; (try dsimp only at hSw); go_simp); try with_reducible rfl)
          (try simp only [Act.put, List.setIfInBounds_toArray, List.set_cons_zero, List.set_cons_succ])
          refine wpAnyH_take (i := 7) (oi := ⟨some 50, _, _, _, _, _⟩) (v := ?_) rfl (by kernel_rfl) (by kernel_rfl) (by kernel_rfl) (fun _ _ _ h => h) (Or.inl ⟨by rfl, ?_⟩) (by assumption) ?_
          rotate_left
          · ((intro w hSw; (try dsimp only at hSw); go_simp); try with_reducible rfl)
          (try simp only [Act.put, List.setIfInBounds_toArray, List.set_cons_zero, List.set_cons_succ])
          refine wpAnyH_take (i := 8) (oi := ⟨some 51, _, _, _, _, _⟩) (v := ?_) rfl (by kernel_rfl) (by kernel_rfl) (by kernel_rfl) (fun _ _ _ h => h) (Or.inl ⟨by rfl, ?_⟩) (by assumption) ?_
          rotate_left
          · ((intro w hSw; (try dsimp only at hSw); go_simp); try with_reducible rfl)
          (try simp only [Act.put, List.setIfInBounds_toArray, List.set_cons_zero, List.set_cons_succ])
          refine wpAnyH_take (i := 9) (oi := ⟨some 52, _, _, _, _, _⟩) (v := ?_) rfl (by kernel_rfl) (by kernel_rfl) (by kernel_rfl) (fun _ _ _ h => h) (Or.inl ⟨by rfl, ?_⟩) (by assumption) ?_
          rotate_left
          · ((intro w hSw; (try dsimp only at hSw); go_simp); try with_reducible rfl)
          (try simp only [Act.put, List.setIfInBounds_toArray, List.set_cons_zero, List.set_cons_succ])
          refine wpAnyH_take (i := 10) (oi := ⟨some 53, _, _, _, _, _⟩) (v := ?_) rfl (by kernel_rfl) (by kernel_rfl) (by kernel_rfl) (fun _ _ _ h => h) (Or.inl ⟨by rfl, ?_⟩) (by assumption) ?_
          rotate_left
          · ((intro w hSw; (try dsimp only at hSw); go_simp); try with_reducible rfl)
          (try simp only [Act.put, List.setIfInBounds_toArray, List.set_cons_zero, List.set_cons_succ])
          refine wpAnyH_take (i := 11) (oi := ⟨some 54, _, _, _, _, _⟩) (v := ?_) rfl (by kernel_rfl) (by kernel_rfl) (by kernel_rfl) (fun _ _ _ h => h) (Or.inl ⟨by rfl, ?_⟩) (by assumption) ?_
          rotate_left
          · ((intro w hSw; (try dsimp only at hSw); go_simp); try with_reducible rfl)
          (try simp only [Act.put, List.setIfInBounds_toArray, List.set_cons_zero, List.set_cons_succ])
          refine wpAnyH_take (i := 12) (oi := ⟨some 55, _, _, _, _, _⟩) (v := ?_) rfl (by kernel_rfl) (by kernel_rfl) (by kernel_rfl) (fun _ _ _ h => h) (Or.inl ⟨by rfl, ?_⟩) (by assumption) ?_
          rotate_left
          · ((intro w hSw; (try dsimp only at hSw); go_simp); try with_reducible rfl)
          (try simp only [Act.put, List.setIfInBounds_toArray, List.set_cons_zero, List.set_cons_succ])
          refine wpAnyH_take (i := 13) (oi := ⟨some 56, _, _, _, _, _⟩) (v := ?_) rfl (by kernel_rfl) (by kernel_rfl) (by kernel_rfl) (fun _ _ _ h => h) (Or.inl ⟨by rfl, ?_⟩) (by assumption) ?_
          rotate_left
          · ((intro w hSw; (try dsimp only at hSw); go_simp); try with_reducible rfl)
          (try simp only [Act.put, List.setIfInBounds_toArray, List.set_cons_zero, List.set_cons_succ])
          refine wpAnyH_take (i := 14) (oi := ⟨some 57, _, _, _, _, _⟩) (v := ?_) rfl (by kernel_rfl) (by kernel_rfl) (by kernel_rfl) (fun _ _ _ h => h) (Or.inl ⟨by rfl, ?_⟩) (by assumption) ?_
          rotate_left
          · ((intro w hSw; (try dsimp only at hSw); go_simp); try with_reducible rfl)
          (try simp only [Act.put, List.setIfInBounds_toArray, List.set_cons_zero, List.set_cons_succ])
          refine wpAnyH_take (i := 15) (oi := ⟨some 58, _, _, _, _, _⟩) (v := ?_) rfl (by kernel_rfl) (by kernel_rfl) (by kernel_rfl) (fun _ _ _ h => h) (Or.inl ⟨by rfl, ?_⟩) (by assumption) ?_
          rotate_left
          · ((intro w hSw; (try dsimp only at hSw); go_simp); try with_reducible rfl)
          (try simp only [Act.put, List.setIfInBounds_toArray, List.set_cons_zero, List.set_cons_succ])
          refine wpAnyH_take (i := 16) (oi := ⟨some 59, _, _, _, _, _⟩) (v := ?_) rfl (by kernel_rfl) (by kernel_rfl) (by kernel_rfl) (fun _ _ _ h => h) (Or.inl ⟨by rfl, ?_⟩) (by assumption) ?_
          rotate_left
          · ((intro w hSw; (try dsimp only at hSw); go_simp); try with_reducible rfl)
          (try simp only [Act.put, List.setIfInBounds_toArray, List.set_cons_zero, List.set_cons_succ])
          refine wpAnyH_take (i := 17) (oi := ⟨some 60, _, _, _, _, _⟩) (v := ?_) rfl (by kernel_rfl) (by kernel_rfl) (by kernel_rfl) (fun _ _ _ h => h) (Or.inl ⟨by rfl, ?_⟩) (by assumption) ?_
          rotate_left
          · ((intro w hSw; (try dsimp only at hSw); go_simp); try with_reducible rfl)
          (try simp only [Act.put, List.setIfInBounds_toArray, List.set_cons_zero, List.set_cons_succ])
          refine wpAnyH_take (i := 18) (oi := ⟨some 61, _, _, _, _, _⟩) (v := ?_) rfl (by kernel_rfl) (by kernel_rfl) (by kernel_rfl) (fun _ _ _ h => h) (Or.inl ⟨by rfl, ?_⟩) (by assumption) ?_
          rotate_left
          · ((intro w hSw; (try dsimp only at hSw); go_simp); try with_reducible rfl)
          (try simp only [Act.put, List.setIfInBounds_toArray, List.set_cons_zero, List.set_cons_succ])
          refine wpAnyH_take (i := 19) (oi := ⟨some 62, _, _, _, _, _⟩) (v := ?_) rfl (by kernel_rfl) (by kernel_rfl) (by kernel_rfl) (fun _ _ _ h => h) (Or.inl ⟨by rfl, ?_⟩) (by assumption) ?_
          rotate_left
          · ((intro w hSw; (try dsimp only at hSw); go_simp); try with_reducible rfl)
          (try simp only [Act.put, List.setIfInBounds_toArray, List.set_cons_zero, List.set_cons_succ])
          refine wpAnyH_take (i := 20) (oi := ⟨some 63, _, _, _, _, _⟩) (v := ?_) rfl (by kernel_rfl) (by kernel_rfl) (by kernel_rfl) (fun _ _ _ h => h) (Or.inl ⟨by rfl, ?_⟩) (by assumption) ?_
          rotate_left
          · ((intro w hSw; (try dsimp only at hSw); go_simp); try with_reducible rfl)
          (try simp only [Act.put, List.setIfInBounds_toArray, List.set_cons_zero, List.set_cons_succ])
          refine wpAnyH_take (i := 21) (oi := ⟨some 64, _, _, _, _, _⟩) (v := ?_) rfl (by kernel_rfl) (by kernel_rfl) (by kernel_rfl) (fun _ _ _ h => h) (Or.inl ⟨by rfl, ?_⟩) (by assumption) ?_
          rotate_left
          · ((intro w hSw; (try dsimp only at hSw); go_simp); try with_reducible rfl)
          (try simp only [Act.put, List.setIfInBounds_toArray, List.set_cons_zero, List.set_cons_succ])
          refine wpAnyH_take (i := 22) (oi := ⟨some 65, _, _, _, _, _⟩) (v := ?_) rfl (by kernel_rfl) (by kernel_rfl) (by kernel_rfl) (fun _ _ _ h => h) (Or.inl ⟨by rfl, ?_⟩) (by assumption) ?_
          rotate_left
          · ((intro w hSw; (try dsimp only at hSw); go_simp); try with_reducible rfl)
          (try simp only [Act.put, List.setIfInBounds_toArray, List.set_cons_zero, List.set_cons_succ])
          refine wpAnyH_take (i := 23) (oi := ⟨some 66, _, _, _, _, _⟩) (v := ?_) rfl (by kernel_rfl) (by kernel_rfl) (by kernel_rfl) (fun _ _ _ h => h) (Or.inl ⟨by rfl, ?_⟩) (by assumption) ?_
          rotate_left
          · ((intro w hSw; (try dsimp only at hSw); go_simp); try with_reducible rfl)
          (try simp only [Act.put, List.setIfInBounds_toArray, List.set_cons_zero, List.set_cons_succ])
          refine wpAnyH_take (i := 25) (oi := ⟨some 68, _, _, _, _, _⟩) (v := ?_) rfl (by kernel_rfl) (by kernel_rfl) (by kernel_rfl) (fun _ _ _ h => h) (Or.inl ⟨by rfl, ?_⟩) (by assumption) ?_
          rotate_left
          · ((intro w hSw; (try dsimp only at hSw); go_simp); try with_reducible rfl)
          (try simp only [Act.put, List.setIfInBounds_toArray, List.set_cons_zero, List.set_cons_succ])
          refine wpAnyH_take (i := 26) (oi := ⟨some 69, _, _, _, _, _⟩) (v := ?_) rfl (by kernel_rfl) (by kernel_rfl) (by kernel_rfl) (fun _ _ _ h => h) (Or.inl ⟨by rfl, ?_⟩) (by assumption) ?_
          rotate_left
          · ((intro w hSw; (try dsimp only at hSw); go_simp); try with_reducible rfl)
          (try simp only [Act.put, List.setIfInBounds_toArray, List.set_cons_zero, List.set_cons_succ])
          refine wpAnyH_take (i := 27) (oi := ⟨some 70, _, _, _, _, _⟩) (v := ?_) rfl (by kernel_rfl) (by kernel_rfl) (by kernel_rfl) (fun _ _ _ h => h) (Or.inl ⟨by rfl, ?_⟩) (by assumption) ?_
          rotate_left
          · ((intro w hSw; (try dsimp only at hSw); go_simp); try with_reducible rfl)
          (try simp only [Act.put, List.setIfInBounds_toArray, List.set_cons_zero, List.set_cons_succ])
          refine wpAnyH_take (i := 28) (oi := ⟨some 71, _, _, _, _, _⟩) (v := ?_) rfl (by kernel_rfl) (by kernel_rfl) (by kernel_rfl) (fun _ _ _ h => h) (Or.inl ⟨by rfl, ?_⟩) (by assumption) ?_
          rotate_left
          · ((intro w hSw; (try dsimp only at hSw); go_simp); try with_reducible rfl)
          (try simp only [Act.put, List.setIfInBounds_toArray, List.set_cons_zero, List.set_cons_succ])
          refine wpAnyH_ready (rs := [24]) (by kernel_rfl) (by simp) (AllReadyH.cons rfl (fun K hK => ?_) AllReadyH.nil)
          rw [if_pos (by rfl)]
          go_simp
          go_at_call 19
          (with_reducible refine (CN.out _).mono ?_)
          rintro e v1 ⟨ya, yn, yc, rfl, ho, hb1⟩
          have hk1 : Below wo.heap.size wo v1 := hk0.trans (hb1.mono hk0.size)
          have HO := Lib.hid ho
          have hyn : yn ≤ 2 := by have := ho.read.1; have := HNL.out; omega
          clear ho hb1
          have CH : RowKit.Hid (∀ u, Below v1.heap.size v1 u → Calls Try.prog 25 #[.slice ya yn yc, .int .i64 zi] u fun e w' => e = .returned (.bool bb) ∧ u = w') := Lib.hid fun u hb => by rw [HBB.out]; exact has_any ya yn yc _ zi u (HO.out.read.since hb) (by omega)
          refine hK.out _ _ (HKT.out _ hk1) (fun hHeld => ?_)
          clear hK K
          (try simp only [Act.put, List.setIfInBounds_toArray, List.set_cons_zero, List.set_cons_succ])
          refine wpAnyH_ready (rs := [29]) (by kernel_rfl) (by simp) (AllReadyH.cons rfl (fun K hK => ?_) AllReadyH.nil)
          rw [if_pos (by rfl)]
          go_simp
          go_at_call 25
          (with_reducible refine (CH.out _ (Below.refl _ _)).mono ?_)
          rintro e v2 ⟨rfl, rfl⟩
          refine hK.out _ _ (HKT.out _ hk1) (fun hHeld => ?_)
          clear hK K
          (try simp only [Act.put, List.setIfInBounds_toArray, List.set_cons_zero, List.set_cons_succ])
          refine wpAnyH_take (i := 30) (oi := ⟨some 73, _, _, _, _, _⟩) (v := ?_) rfl (by kernel_rfl) (by kernel_rfl) (by kernel_rfl) (fun _ _ _ h => h) (Or.inl ⟨by rfl, ?_⟩) (by assumption) ?_
          rotate_left
          · ((intro w hSw; (try dsimp only at hSw); go_simp); try with_reducible rfl)
          (try simp only [Act.put, List.setIfInBounds_toArray, List.set_cons_zero, List.set_cons_succ])
          refine wpAnyH_done (by kernel_rfl) ?_ _
          have HK1 := Lib.hid hk1
          clear hk0 hk1 CH
          have hw : wrap64 ((k : Int) + 1) = (k : Int) + 1 := by unfold wrap64; omega
          cases bb with
          | true =>
            go_wp2_with fail
            go_roundw
            case rel => exact ⟨k + 1, by omega, by go_num, congrArg Value.bool (by rw [HMB.out]; simp), HK1⟩
            case measure => simp [intOf, hw]; omega
          | false =>
            go_wp2_with fail
            go_roundw
            case rel => exact ⟨k + 1, by omega, by go_num, congrArg Value.bool (by rw [HMB.out]; simp), HK1⟩
            case measure => simp [intOf, hw]; omega
        · obtain rfl : k = vn := by omega
          rw [HMET.out]
          have hw : wrap64 ((i : Int) + 1) = (i : Int) + 1 := by unfold wrap64; omega
          go_wp2_with fail
          go_roundw
          case rel => exact ⟨i + 1, by omega, by go_num, Lib.hid (HI.out.since HQ.out)⟩
          case measure => simp [intOf, hw]; omega
    · obtain rfl : i = vn := by omega
      have hc1 := HI.out.c1
      have HEQ : RowKit.Hid (0 < i ↔ 0 < m) := Lib.hid (by rw [← HVN.out, HLEN.out]; exact order_some F)
      by_cases h0 : i = 0
      · have hm0 : m = 0 := by have := HEQ.out; omega
        subst h0 hm0
        go_wp2_with (go_at_call 21; refine (lives_any wo).mono ?_; rintro e w9 ⟨rfl, hb9⟩; have HB9 := Lib.hid hb9; clear hb9)
        go_ret
        exact ⟨rfl, HI.out.bel.trans (HB9.out.mono HI.out.bel.size)⟩
      · have hi1 : (0 : Int) < (i : Int) := by omega
        have hm1 : (0 : Int) < (m : Int) := by have := HEQ.out; omega
        go_wp2_with (go_at_call 21; refine (lives_any wo).mono ?_; rintro e w9 ⟨rfl, hb9⟩; have HB9 := Lib.hid hb9; clear hb9)
        go_ret
        exact ⟨rfl, HI.out.bel.trans (HB9.out.mono HI.out.bel.size)⟩
end Go.Proofs.Ytccajbgdlicbnaa
