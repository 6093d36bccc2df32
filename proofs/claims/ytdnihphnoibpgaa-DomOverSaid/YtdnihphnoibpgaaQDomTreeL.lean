/- Layer 8: the law DomTree (mk_tree.py), walked. -/
import Derived.Test.YtdnihphnoibpgaaQDomFirstL

namespace Go.Proofs.Ytdnihphnoibpgaa
open Go.RowKit (wrap64 intOf Below)
set_option linter.unusedVariables false
set_option linter.unusedSimpArgs false

/-- The blocks from b up, as far as they were gone. -/
structure ChainTo (up : Nat → Int) (pl : Nat → Nat) (b : Nat) (Z : List Int) (v : Int) (z : Nat) : Prop where
  last : Z.getLast? = some (z : Int)
  eup : up z = v
  on : On up b z
  nat : ∀ x ∈ Z, ∃ a : Nat, x = (a : Int)
  mem : ∀ a : Nat, On up b a ↔ ((a : Int) ∈ Z ∨ ∃ c : Nat, v = (c : Int) ∧ On up c a)
  len : Z.length + pl z ≤ pl b + 1
theorem on_split {up : Nat → Int} {b a : Nat} : On up b a ↔ (a = b ∨ ∃ c : Nat, up b = (c : Int) ∧ On up c a) := by
  constructor
  · intro h
    cases h with
    | refl _ => exact .inl rfl
    | step e h => exact .inr ⟨_, e, h⟩
  · rintro (rfl | ⟨c, e, h⟩)
    · exact .refl _
    · exact .step e h
theorem ChainTo.zero (up : Nat → Int) (pl : Nat → Nat) (b : Nat) : ChainTo up pl b [(b : Int)] (up b) b :=
  ⟨rfl, rfl, .refl _, fun x hx => ⟨b, List.mem_singleton.1 hx⟩, fun a => by
    rw [on_split, List.mem_singleton]
    constructor
    · rintro (rfl | h)
      · exact .inl rfl
      · exact .inr h
    · rintro (h | h)
      · exact .inl (Int.ofNat.inj h)
      · exact .inr h, by simp; omega⟩
theorem ChainTo.more {up : Nat → Int} {pl : Nat → Nat} {b : Nat} {Z : List Int} {c z : Nat} (h : ChainTo up pl b Z (c : Int) z) (hlt : pl c < pl z) : ChainTo up pl b (Z ++ [(c : Int)]) (up c) c :=
  ⟨by simp, rfl, h.on.trans (.step h.eup (.refl _)), fun x hx => by
    rcases List.mem_append.1 hx with hx | hx
    · exact h.nat x hx
    · exact ⟨c, List.mem_singleton.1 hx⟩, fun a => by
    rw [h.mem, List.mem_append, List.mem_singleton]
    constructor
    · rintro (h1 | ⟨d, e, h1⟩)
      · exact .inl (.inl h1)
      · obtain rfl : c = d := Int.ofNat.inj e
        rcases on_split.1 h1 with rfl | h2
        · exact .inl (.inr rfl)
        · exact .inr h2
    · rintro ((h1 | h1) | h1)
      · exact .inl h1
      · obtain rfl : a = c := Int.ofNat.inj h1
        exact .inr ⟨a, rfl, .refl _⟩
      · exact .inr ⟨c, rfl, on_split.2 (.inr h1)⟩, by have := h.len; simp; omega⟩
section
variable {F : FuncD} {UP : List Int} {m mm : Nat}
theorem chain_step (hl : m = F.blocks.length) (hs : Settled (EdgeF F) (MetF F) (plF F) m UP mm) {b : Nat} (hb : MetF F b) {Z : List Int} {v : Int} {z : Nat} (h : ChainTo (upOf m UP) (plF F) b Z v z) :
    (-1 ≤ v) ∧ (0 ≤ v → ∃ c : Nat, v = (c : Int) ∧ c < m ∧ Z.length ≤ m ∧ ChainTo (upOf m UP) (plF F) b (Z ++ [(c : Int)]) (nth UP c) c) ∧ (v < 0 → z = 0 ∧ ∀ c : Nat, inL Z c = overB F c b) := by
  have hlow := hs.tree.low z
  rw [h.eup] at hlow
  refine ⟨hlow, fun h0 => ?_, fun h0 => ?_⟩
  · obtain ⟨c, rfl⟩ := Int.eq_ofNat_of_zero_le h0
    obtain ⟨hc, h1, _⟩ := hs.tree.lt z c h.eup
    have hcm : c < m := by rw [hl]; exact met_lt hc
    have hpb := pl_lt hb
    have hol := order_len F
    have hln := h.len
    have hm := h.more h1
    rw [upOf_lt hcm] at hm
    exact ⟨c, rfl, hcm, by omega, hm⟩
  · have hz : MetF F z := on_met hs.tree.lt hb h.on
    have hup : upOf m UP z = -1 := by rw [h.eup]; omega
    have hz0 : z = 0 := Classical.byContradiction fun hne => by
      have := (hs.tree.known z hz hne).2 (hs.all z hz)
      omega
    refine ⟨hz0, fun c => ?_⟩
    unfold inL
    rw [Bool.eq_iff_iff, decide_eq_true_eq, overB_iff, over_nat hs]
    constructor
    · intro hc
      have ho := (h.mem c).2 (.inl hc)
      exact ⟨on_met hs.tree.lt hb ho, hb, ho⟩
    · rintro ⟨_, _, ho⟩
      rcases (h.mem c).1 ho with hc | ⟨d, e, _⟩
      · exact hc
      · omega
end
def lenOf : Value → Nat | .slice _ n _ => n | _ => 0
/-- Where the law stands: the function, the order, what is above, the blocks from b up. -/
structure ChSt (w wo : World) (r : Int) (a : Option Addr) (m c : Nat) (va : Option Addr) (vn : Nat) (F : FuncD) (gu : Nat) (UP : List Int) (b : Nat) (ca : Option Addr) (cn cc : Nat) (v : Int) (Z : List Int) (W : World) : Prop where
  law : LawSt w r a m c va vn (orderL F) W
  ups : NumsAt W (some ⟨gu, 0, none⟩) m UP
  own : OwnsI W wo.heap.size 3 (.slice ca cn cc) Z
  tto : ∃ z, ChainTo (upOf m UP) (plF F) b Z v z
  bel : Below wo.heap.size wo W
theorem nums_cell {W : World} {g n : Nat} {Z : List Int} (h : NumsAt W (some ⟨g, 0, none⟩) n Z) {j : Nat} (hj : j < n) : W.cell? ⟨g, j, none⟩ = some (.int .i64 (nth Z j)) := by
  obtain ⟨g2, off2, e, _, hcs⟩ := h.2 (by omega)
  cases e
  have hl : j < Z.length := by have := h.1; omega
  have h := hcs j hl
  have e2 : Z[j] = nth Z j := by unfold nth; rw [List.getD_eq_getElem?_getD, List.getElem?_eq_getElem hl]; rfl
  rw [Nat.zero_add, e2] at h
  exact h

theorem chain_grown {w wo : World} {r : Int} {a : Option Addr} {m c : Nat} {go off vn : Nat} {F : FuncD} {gu : Nat} {UP : List Int} {b : Nat} {ca : Option Addr} {cn cc : Nat} {v : Int} {Z : List Int} {W W' : World} {ya : Option Addr} {yn yc : Nat} {v' : Int} {Z' : List Int}
    (h : ChSt w wo r a m c (some ⟨go, off, none⟩) vn F gu UP b ca cn cc v Z W) (ho : OwnsI W' wo.heap.size 3 (.slice ya yn yc) Z') (hb : Below wo.heap.size W W') (ht : ∃ z, ChainTo (upOf m UP) (plF F) b Z' v' z) (hgo : go < wo.heap.size) (hgu : gu < wo.heap.size) (hw : w.heap.size < wo.heap.size) :
    ChSt w wo r a m c (some ⟨go, off, none⟩) vn F gu UP b ya yn yc v' Z' W' := by
  refine ⟨⟨h.law.bel.trans (hb.mono (by omega)), Nat.lt_of_lt_of_le h.law.siz hb.size, (hb.cell (p := ⟨w.heap.size, 0, none⟩) hw).trans h.law.c0, (hb.cell (p := ⟨w.heap.size, 1, none⟩) hw).trans h.law.c1, ?_⟩, ?_, ho, ht, h.bel.trans hb⟩
  · refine ⟨h.law.lis.1, fun h0 => ?_⟩
    obtain ⟨g2, o2, e, hg, hcs⟩ := h.law.lis.2 h0
    cases e
    exact ⟨go, off, rfl, Nat.lt_of_lt_of_le hg hb.size, fun j hj => (hb.cell (p := ⟨go, off + j, none⟩) hgo).trans (hcs j hj)⟩
  · refine ⟨h.ups.1, fun h0 => ?_⟩
    obtain ⟨g2, o2, e, hg, hcs⟩ := h.ups.2 h0
    cases e
    exact ⟨gu, 0, rfl, Nat.lt_of_lt_of_le hg hb.size, fun j hj => (hb.cell (p := ⟨gu, 0 + j, none⟩) hgu).trans (hcs j hj)⟩
set_option maxRecDepth 100000 in
set_option maxHeartbeats 8000000 in
theorem domtree_walk (r : Int) (a : Option Addr) (n c : Nat) (f : FuncD) (w : World) (hrow : RowV BlockQ 8 w (.slice a n c) f.blocks) (hnc : n ≤ c) (hc : c ≤ 9223372036854775807) :
    Calls Try.prog 6 #[.agg #[.int .i64 r, .slice a n c]] w fun e w' => e = .returned (.bool true) ∧ Below w.heap.size w w' := by
  have hn : n ≤ 140737488351232 := by obtain ⟨_, _, _, e, _, _, h, _⟩ := hrow; cases e; exact h
  have hrow2 := hrow.few8
  have hlen : fewN8 n = (fewF8 f).blocks.length := by obtain ⟨_, _, _, e, h, _⟩ := hrow2; cases e; exact h.symm
  have hn60 := fewN8_le n
  have HFEW : RowKit.Hid (∀ u : World, Calls Try.prog 22 #[.agg #[.int .i64 r, .slice a n c]] u fun e w' => e = .returned (.agg #[.int .i64 r, .slice a (fewN8 n) c]) ∧ Below u.heap.size u w') := Lib.hid fun u => few8_any r a n c u (by omega) hnc hc
  generalize fewF8 f = F at *
  generalize fewN8 n = m at *
  have HROW0 := Lib.hid hrow2
  have HLEN := Lib.hid hlen
  clear hrow hrow2 hlen hnc hc hn
  go_enter Try.func6, Try.ntmps6
  go_upto_region 2 with ((go_at_call 22; refine (HFEW.out _).mono ?_); rintro e w1 ⟨rfl, hb⟩; have hbl : w.heap.size < w1.heap.size := (by have := hb.size; simp at this; omega); have hheap : w1.heap[w.heap.size]? = some (.cells #[.int .i64 r, .slice a n c] 24 (0, 0)) := ((hb.block w.heap.size (by simp)).trans (World.alloc_heap_new w _)); have hx0 : w1.cell? ⟨w.heap.size, 0, none⟩ = some (.int .i64 r) := (by simp [World.cell?, hheap]); have hx1 : w1.cell? ⟨w.heap.size, 1, none⟩ = some (.slice a n c) := (by simp [World.cell?, hheap]); have hxf0 : w1.frozen? ⟨w.heap.size, 0, none⟩ = false := (by simp [World.frozen?, hheap]); have hxf1 : w1.frozen? ⟨w.heap.size, 1, none⟩ = false := (by simp [World.frozen?, hheap]); have HTC := Lib.hid (two_cells (u := .int .i64 r) (v := .slice a m c) hx0 hx1); have HB0 := Lib.hid (show Below w.heap.size w w1 from ((Below.refl w.heap.size w).alloc (Nat.le_refl _) _).trans (hb.mono (by simp))); have HST := Lib.hid (law_st (va := none) (vn := 0) (L := []) HB0.out hbl HTC.out (Below.refl _ _) (NumsAt.nil _ none)); clear hb hheap)
  clear hbl hx0 hx1 hxf0 hxf1 HTC HB0 HFEW
  obtain ⟨U, hU⟩ : ∃ U, (w1.setCell ⟨w.heap.size, 0, none⟩ (.int .i64 r)).setCell ⟨w.heap.size, 1, none⟩ (.slice a m c) = U := ⟨_, rfl⟩
  rw [hU] at HST ⊢
  clear hU
  have HROW : RowKit.Hid (∀ u, Below U.heap.size U u → RowV BlockQ 8 u (.slice a m c) F.blocks) := Lib.hid fun u hb => HROW0.out.since BlockQ.lasts (HST.out.bel.trans (hb.mono HST.out.bel.size))
  have HKT : RowKit.Hid (∀ u, Below U.heap.size U u → u.cell? ⟨w.heap.size, 0, none⟩ = some (.int .i64 r) ∧ u.cell? ⟨w.heap.size, 1, none⟩ = some (.slice a m c)) := Lib.hid fun u hb => ⟨(hb.cell (p := ⟨w.heap.size, 0, none⟩) HST.out.siz).trans HST.out.c0, (hb.cell (p := ⟨w.heap.size, 1, none⟩) HST.out.siz).trans HST.out.c1⟩
  have CRF : RowKit.Hid (∀ u, Below U.heap.size U u → Calls Try.prog 28 #[.agg #[.int .i64 r, .slice a m c]] u fun e w' => ∃ va vn vc, e = .returned (.slice va vn vc) ∧ OwnsI w' u.heap.size 3 (.slice va vn vc) (orderL F) ∧ Below u.heap.size u w') := Lib.hid fun u hb => reforder_any r a m c F u (HROW.out u hb) (by omega)
  have CAB : RowKit.Hid (∀ u, Below U.heap.size U u → Calls Try.prog 23 #[.agg #[.int .i64 r, .slice a m c]] u fun e w' => ∃ g UP mm, e = .returned (.slice (some ⟨g, 0, none⟩) m m) ∧ OwnsI w' u.heap.size 3 (.slice (some ⟨g, 0, none⟩) m m) UP ∧ Settled (EdgeF F) (MetF F) (plF F) m UP mm ∧ Below u.heap.size u w') := Lib.hid fun u hb => above_any r a m c F u (HROW.out u hb) (by omega)
  have HVM : RowKit.Hid ((orderL F).length ≤ m) := Lib.hid (by rw [HLEN.out]; exact order_len F)
  have hk0 : Below U.heap.size U U.drew := (Below.refl _ _).drew
  refine wp_region_held_drew (S := (fun u : World => u.cell? ⟨w.heap.size, 0, none⟩ = some (.int .i64 r) ∧ u.cell? ⟨w.heap.size, 1, none⟩ = some (.slice a m c))) (by kernel_rfl) (HKT.out _ hk0) (fun hHeld => ?_)
  refine wpAnyH_take (i := 0) (oi := ⟨some 11, _, _, _, _, _⟩) (v := ?_) rfl (by kernel_rfl) (by kernel_rfl) (by kernel_rfl) (fun _ _ _ h => h) (Or.inl ⟨by rfl, ?_⟩) (by assumption) ?_
  rotate_left
  · ((intro w hSw; (try dsimp only at hSw); go_simp); try with_reducible rfl)
  (try simp only [Act.put, List.setIfInBounds_toArray, List.set_cons_zero, List.set_cons_succ])
  refine wpAnyH_take (i := 2) (oi := ⟨some 13, _, _, _, _, _⟩) (v := ?_) rfl (by kernel_rfl) (by kernel_rfl) (by kernel_rfl) (fun _ _ _ h => h) (Or.inl ⟨by rfl, ?_⟩) (by assumption) ?_
  rotate_left
  · ((intro w hSw; (try dsimp only at hSw); go_simp); try with_reducible rfl)
  (try simp only [Act.put, List.setIfInBounds_toArray, List.set_cons_zero, List.set_cons_succ])
  refine wpAnyH_ready (rs := [1]) (by kernel_rfl) (by simp) (AllReadyH.cons rfl (fun K hK => ?_) AllReadyH.nil)
  rw [if_pos (by rfl)]
  go_simp
  go_at_call 23
  (with_reducible refine (CAB.out _ hk0).mono ?_)
  rintro e v1 ⟨gu, UP, mm, rfl, hu, hs, hb1⟩
  have hk1 : Below U.heap.size U v1 := hk0.trans (hb1.mono hk0.size)
  have HU := Lib.hid hu.read
  have HSET := Lib.hid hs
  clear hu hs hb1
  refine hK.out _ _ (HKT.out _ hk1) (fun hHeld => ?_)
  clear hK K
  (try simp only [Act.put, List.setIfInBounds_toArray, List.set_cons_zero, List.set_cons_succ])
  refine wpAnyH_ready (rs := [3]) (by kernel_rfl) (by simp) (AllReadyH.cons rfl (fun K hK => ?_) AllReadyH.nil)
  rw [if_pos (by rfl)]
  go_simp
  go_at_call 28
  (with_reducible refine (CRF.out _ hk1).mono ?_)
  rintro e v2 ⟨va, vn, vc, rfl, ho, hb2⟩
  have HB2 := Lib.hid hb2
  have hk2 : Below U.heap.size U v2 := hk1.trans (hb2.mono hk1.size)
  have HO := Lib.hid ho
  clear ho hb2
  refine hK.out _ _ (HKT.out _ hk2) (fun hHeld => ?_)
  clear hK K
  (try simp only [Act.put, List.setIfInBounds_toArray, List.set_cons_zero, List.set_cons_succ])
  refine wpAnyH_take (i := 4) (oi := ⟨some 3, _, _, _, _, _⟩) (v := ?_) rfl (by kernel_rfl) (by kernel_rfl) (by kernel_rfl) (fun _ _ _ h => h) (Or.inl ⟨by rfl, ?_⟩) (by assumption) ?_
  rotate_left
  · ((intro w hSw; (try dsimp only at hSw); go_simp); try with_reducible rfl)
  (try simp only [Act.put, List.setIfInBounds_toArray, List.set_cons_zero, List.set_cons_succ])
  refine wpAnyH_take (i := 5) (oi := ⟨some 4, _, _, _, _, _⟩) (v := ?_) rfl (by kernel_rfl) (by kernel_rfl) (by kernel_rfl) (fun _ _ _ h => h) (Or.inl ⟨by rfl, ?_⟩) (by assumption) ?_
  rotate_left
  · ((intro w hSw; (try dsimp only at hSw); go_simp); try with_reducible rfl)
  (try simp only [Act.put, List.setIfInBounds_toArray, List.set_cons_zero, List.set_cons_succ])
  refine wpAnyH_done (by kernel_rfl) ?_ _
  have hc0 := (HKT.out _ hk2).1
  have hc1 := (HKT.out _ hk2).2
  have HK2 := Lib.hid hk2
  have hvn : (orderL F).length = vn := HO.out.read.1
  have HVN := Lib.hid hvn
  have hvm : vn ≤ 14 := by have := HVM.out; omega
  have HBW : RowKit.Hid (Below w.heap.size w v2) := Lib.hid (HST.out.bel.trans (hk2.mono HST.out.bel.size))
  have HLS : RowKit.Hid (LawSt w r a m c va vn (orderL F) v2 ∧ NumsAt v2 (some ⟨gu, 0, none⟩) m UP) := Lib.hid ⟨⟨HBW.out, Nat.lt_of_lt_of_le HST.out.siz hk2.size, hc0, hc1, HO.out.read⟩, HU.out.since HB2.out⟩
  clear hk0 hk1 hk2 hvn HKT CRF CAB hHeld HROW
  have HROW : RowKit.Hid (∀ u, Below w.heap.size w u → RowV BlockQ 8 u (.slice a m c) F.blocks) := Lib.hid fun u hb => HROW0.out.since BlockQ.lasts hb
  go_wp2_with fail
  go_loopw [5] (fun v5 wr => ∃ i : Nat, i ≤ vn ∧ v5 = .int .i64 (i : Int) ∧ RowKit.Hid (LawSt w r a m c va vn (orderL F) wr ∧ NumsAt wr (some ⟨gu, 0, none⟩) m UP)) (fun v5 _ => vn - (intOf v5).toNat)
  case atStart => exact ⟨0, Nat.zero_le _, rfl, HLS⟩
  case round =>
    obtain ⟨i, hi, rfl, HI⟩ := hrel
    clear HLS hc0 hc1
    obtain ⟨wo, hwo⟩ : ∃ u, u = wr := ⟨_, rfl⟩
    rw [← hwo] at HI ⊢
    clear hwo
    have hw : wrap64 ((i : Int) + 1) = (i : Int) + 1 := by unfold wrap64; omega
    by_cases hlt : i < vn
    · have hiL : i < (orderL F).length := by rw [HVN.out]; exact hlt
      obtain ⟨b, hbE, hbm0⟩ := order_at hiL
      have hbm : b < m := by rw [HLEN.out]; exact hbm0
      have HMB : RowKit.Hid (MetF F b) := Lib.hid (by show (b : Int) ∈ orderL F; rw [← hbE]; exact List.getElem_mem hiL)
      obtain ⟨go, off, rfl, hgo, hcs⟩ := HI.out.1.lis.2 (by omega)
      have HGO := Lib.hid hgo
      have hci0 : wo.cell? ⟨go, off + i, none⟩ = some (.int .i64 (b : Int)) := by rw [hcs i hiL, hbE]; rfl
      have hcu0 : wo.cell? ⟨gu, b, none⟩ = some (.int .i64 (nth UP b)) := nums_cell HI.out.2 hbm
      have HGU : RowKit.Hid (gu < wo.heap.size) := Lib.hid (by obtain ⟨_, _, e, h, _⟩ := HI.out.2.2 (by omega); cases e; exact h)
      have HCI : RowKit.Hid (∀ u, Below wo.heap.size wo u → u.cell? ⟨go, off + i, none⟩ = some (.int .i64 (b : Int))) := Lib.hid fun u hb => (hb.cell (p := ⟨go, off + i, none⟩) hgo).trans hci0
      have hW1 : Below wo.heap.size wo (wo.alloc (.cells #[.int .i64 (b : Int)] 3)) := (Below.refl _ wo).alloc (Nat.le_refl _) _
      have hci1 : (wo.alloc (.cells #[.int .i64 (b : Int)] 3)).cell? ⟨go, off + i, none⟩ = some (.int .i64 (b : Int)) := HCI.out _ hW1
      have hcu1 : (wo.alloc (.cells #[.int .i64 (b : Int)] 3)).cell? ⟨gu, b, none⟩ = some (.int .i64 (nth UP b)) := (hW1.cell (p := ⟨gu, b, none⟩) HGU.out).trans hcu0
      have HS0 : RowKit.Hid (ChSt w wo r a m c (some ⟨go, off, none⟩) vn F gu UP b (some ⟨wo.heap.size, 0, none⟩) 1 1 (nth UP b) [(b : Int)] (wo.alloc (.cells #[.int .i64 (b : Int)] 3))) := Lib.hid ⟨HI.out.1.since hW1, HI.out.2.since hW1, one_own wo b, ⟨b, by have h := ChainTo.zero (upOf m UP) (plF F) b; rw [upOf_lt hbm] at h; exact h⟩, hW1⟩
      have hb0 : (0 : Int) ≤ (b : Int) := by omega
      have hbmi : (b : Int) < (m : Int) := by omega
      have HW := Lib.hid hw
      clear hcs hgo hiL hbE hbm0 hw hW1
      go_wp2_with fail
      go_loopw [6, 7] (fun v6 v7 wr => ∃ (ca : Option Addr) (cn cc : Nat) (v : Int) (Z : List Int), v6 = .slice ca cn cc ∧ v7 = .int .i64 v ∧ RowKit.Hid (ChSt w wo r a m c (some ⟨go, off, none⟩) vn F gu UP b ca cn cc v Z wr)) (fun v6 _ _ => m + 1 - lenOf v6)
      case atStart => exact ⟨_, _, _, _, _, rfl, rfl, HS0⟩
      case round =>
        obtain ⟨ca, cn, cc, v, Z, rfl, rfl, HX⟩ := hrel
        clear HS0 hci0 hcu0 hci1 hcu1
        obtain ⟨wx, hwx⟩ : ∃ u, u = wr := ⟨_, rfl⟩
        rw [← hwx] at HX ⊢
        clear hwx
        obtain ⟨z, hz⟩ := HX.out.tto
        obtain ⟨hv1, hstep, hend⟩ := chain_step HLEN.out HSET.out HMB.out hz
        have HZL : RowKit.Hid (Z.length = cn) := Lib.hid HX.out.own.read.1
        have HZ := Lib.hid hz
        clear hz
        by_cases hv0 : 0 ≤ v
        · obtain ⟨c2, rfl, hcm, hzm, hto⟩ := hstep hv0
          have HTO := Lib.hid hto
          clear hstep hend hto
          have hcni : (cn : Int) ≤ (m : Int) := by have := HZL.out; omega
          have hcmi : (c2 : Int) < (m : Int) := by omega
          have hcn : cn ≤ m := by have := HZL.out; omega
          have HLZ : RowKit.Hid ((Z.length + 1) * 8 ≤ 140737488355328) := Lib.hid (by omega)
          have HXS : RowKit.Hid (wo.heap.size ≤ wx.heap.size) := Lib.hid HX.out.bel.size
          have hcu : wx.cell? ⟨gu, c2, none⟩ = some (.int .i64 (nth UP c2)) := nums_cell HX.out.ups hcm
          have HCU : RowKit.Hid (∀ u, Below wo.heap.size wx u → u.cell? ⟨gu, c2, none⟩ = some (.int .i64 (nth UP c2))) := Lib.hid fun u hb => (hb.cell (p := ⟨gu, c2, none⟩) HGU.out).trans (nums_cell HX.out.ups hcm)
          clear hcu hzm
          go_wp2_with ((with_reducible refine wpList_append_num _ rfl _ _ 30 rfl 3 Try.underlying30 info_int wo.heap.size (.slice ca cn cc) Z ?_ ?_ ?_ _ 1 wx.heap.size (c2 : Int) ?_ ?_ ?_ ?_ ?_); (next => rfl); (next => exact HX.out.own); (next => exact HXS.out); (next => rfl); (next => rfl); (next => rfl); (next => exact HLZ.out); intro v3 w3 ho3 hb3; obtain ⟨ya, yn, yc, rfl, hyn⟩ := ho3.nums; have hcu3 : w3.cell? ⟨gu, c2, none⟩ = some (.int .i64 (nth UP c2)) := HCU.out w3 hb3; have HYN : RowKit.Hid (yn = cn + 1) := Lib.hid (by have h1 := hyn.1; have h2 := HZL.out; simp at h1; omega); have HS3 : RowKit.Hid (ChSt w wo r a m c (some ⟨go, off, none⟩) vn F gu UP b ya yn yc (nth UP c2) (Z ++ [(c2 : Int)]) w3) := Lib.hid (chain_grown HX.out ho3 hb3 ⟨c2, HTO.out⟩ HGO.out HGU.out HI.out.1.siz); clear ho3 hb3 hyn)
          go_roundw
          case rel => exact ⟨_, _, _, _, _, rfl, rfl, HS3⟩
          case measure => have := HYN.out; simp only [lenOf]; omega
        · obtain ⟨hz0, hmem⟩ := hend (by omega)
          have hvn1 : v = -1 := by omega
          subst hvn1 hz0
          have HMEM := Lib.hid hmem
          have hcp : 0 < cn := by have h1 := HZ.out.last; have h2 := HZL.out; cases Z with | nil => cases h1 | cons _ _ => simp at h2; omega
          obtain ⟨gc, oc, rfl, hgc, hcc⟩ := HX.out.own.read.2 (by have := HZL.out; omega)
          have hcl : wx.cell? ⟨gc, oc + (cn - 1), none⟩ = some (.int .i64 0) := by
            have hlt2 : cn - 1 < Z.length := by have := HZL.out; omega
            have h1 := HZ.out.last
            rw [List.getLast?_eq_getElem?, HZL.out, List.getElem?_eq_getElem hlt2] at h1
            rw [hcc _ hlt2, Option.some.inj h1]; rfl
          have hcn60 : cn ≤ 140737488355328 := by have h1 := HZ.out.len; have h2 := HZL.out; have h3 := pl_lt HMB.out; have h4 := HVM.out; omega
          have hlast : wrap64 ((cn : Int) - 1) = ((cn - 1 : Nat) : Int) := by unfold wrap64; omega
          have hl0 : (0 : Int) ≤ ((cn - 1 : Nat) : Int) := by omega
          have hl1 : ((cn - 1 : Nat) : Int) < (cn : Int) := by omega
          clear hend hstep hmem hcc hgc hv1 hv0
          go_wp2_with fail
          go_loopw [8] (fun v8 wr => ∃ x : Nat, x ≤ m ∧ v8 = .int .i64 (x : Int) ∧ RowKit.Hid (Below wx.heap.size wx wr)) (fun v8 _ => m - (intOf v8).toNat)
          case atStart => exact ⟨0, Nat.zero_le _, rfl, Lib.hid (Below.refl _ _)⟩
          case round =>
            obtain ⟨x, hx, rfl, HY⟩ := hrel
            clear hcl
            obtain ⟨wq, hwq⟩ : ∃ u, u = wr := ⟨_, rfl⟩
            rw [← hwq] at HY ⊢
            clear hwq
            have hwx : wrap64 ((x : Int) + 1) = (x : Int) + 1 := by unfold wrap64; omega
            have HLW := Lib.hid (HX.out.law.since HY.out)
            have hc0 := HLW.out.c0
            have hc1 := HLW.out.c1
            by_cases hxl : x < m
            · have CH : RowKit.Hid (∀ u, Below wq.heap.size wq u → Calls Try.prog 29 #[.slice (some ⟨gc, oc, none⟩) cn cc, .int .i64 x] u fun e w' => e = .returned (.bool (overB F x b)) ∧ u = w') := Lib.hid fun u hb => by have := has_any (some ⟨gc, oc, none⟩) cn cc _ x u ((HX.out.own.read.since HY.out).since hb) hcn60; rw [HMEM.out x] at this; exact this
              have CO : RowKit.Hid (∀ u, Below wq.heap.size wq u → Calls Try.prog 25 #[.agg #[.int .i64 r, .slice a m c], .int .i64 x, .int .i64 b] u fun e w' => e = .returned (.bool (overB F x b)) ∧ Below u.heap.size u w') := Lib.hid fun u hb => refover_any r a m c F x b u (HROW.out u (HLW.out.bel.trans (hb.mono HLW.out.bel.size))) (by omega)
              obtain ⟨bb, hbb⟩ : ∃ q, overB F (x : Int) (b : Int) = q := ⟨_, rfl⟩
              rw [hbb] at CH CO
              have HKT : RowKit.Hid (∀ u, Below wq.heap.size wq u → (fun u : World => u.cell? ⟨w.heap.size, 0, none⟩ = some (.int .i64 r) ∧ u.cell? ⟨w.heap.size, 1, none⟩ = some (.slice a m c) ∧ u.cell? ⟨go, off + i, none⟩ = some (.int .i64 (b : Int))) u) := Lib.hid fun u hb => ⟨(hb.cell (p := ⟨w.heap.size, 0, none⟩) HLW.out.siz).trans HLW.out.c0, (hb.cell (p := ⟨w.heap.size, 1, none⟩) HLW.out.siz).trans HLW.out.c1, HCI.out u (HX.out.bel.trans ((HY.out.trans (hb.mono HY.out.size)).mono HX.out.bel.size))⟩
              have hk0 : Below wq.heap.size wq wq.drew := (Below.refl _ _).drew
              have hii : (i : Int) < (vn : Int) := by omega
              have hi0 : (0 : Int) ≤ (i : Int) := by omega
              clear hbb
              go_upto_region 18 with fail
              clear hc0 hc1
              refine wp_region_held_drew (S := (fun u : World => u.cell? ⟨w.heap.size, 0, none⟩ = some (.int .i64 r) ∧ u.cell? ⟨w.heap.size, 1, none⟩ = some (.slice a m c) ∧ u.cell? ⟨go, off + i, none⟩ = some (.int .i64 (b : Int)))) (by kernel_rfl) (HKT.out _ hk0) (fun hHeld => ?_)
              refine wpAnyH_take (i := 0) (oi := ⟨some 76, _, _, _, _, _⟩) (v := ?_) rfl (by kernel_rfl) (by kernel_rfl) (by kernel_rfl) (fun _ _ _ h => h) (Or.inl ⟨by rfl, ?_⟩) (by assumption) ?_
              rotate_left
              · ((intro w hSw; (try dsimp only at hSw); go_simp); try with_reducible rfl)
              (try simp only [Act.put, List.setIfInBounds_toArray, List.set_cons_zero, List.set_cons_succ])
              refine wpAnyH_take (i := 1) (oi := ⟨some 77, _, _, _, _, _⟩) (v := ?_) rfl (by kernel_rfl) (by kernel_rfl) (by kernel_rfl) (fun _ _ _ h => h) (Or.inl ⟨by rfl, ?_⟩) (by assumption) ?_
              rotate_left
              · ((intro w hSw; (try dsimp only at hSw); go_simp); try with_reducible rfl)
              (try simp only [Act.put, List.setIfInBounds_toArray, List.set_cons_zero, List.set_cons_succ])
              refine wpAnyH_take (i := 3) (oi := ⟨some 79, _, _, _, _, _⟩) (v := ?_) rfl (by kernel_rfl) (by kernel_rfl) (by kernel_rfl) (fun _ _ _ h => h) (Or.inl ⟨by rfl, ?_⟩) (by assumption) ?_
              rotate_left
              · ((intro w hSw; (try dsimp only at hSw); go_simp); try with_reducible rfl)
              (try simp only [Act.put, List.setIfInBounds_toArray, List.set_cons_zero, List.set_cons_succ])
              refine wpAnyH_take (i := 4) (oi := ⟨some 80, _, _, _, _, _⟩) (v := ?_) rfl (by kernel_rfl) (by kernel_rfl) (by kernel_rfl) (fun _ _ _ h => h) (Or.inl ⟨by rfl, ?_⟩) (by assumption) ?_
              rotate_left
              · ((intro w hSw; (try dsimp only at hSw); go_simp); try with_reducible rfl)
              (try simp only [Act.put, List.setIfInBounds_toArray, List.set_cons_zero, List.set_cons_succ])
              refine wpAnyH_take (i := 5) (oi := ⟨some 81, _, _, _, _, _⟩) (v := ?_) rfl (by kernel_rfl) (by kernel_rfl) (by kernel_rfl) (fun _ _ _ h => h) (Or.inl ⟨by rfl, ?_⟩) (by assumption) ?_
              rotate_left
              · ((intro w hSw; (try dsimp only at hSw); go_simp); try with_reducible rfl)
              (try simp only [Act.put, List.setIfInBounds_toArray, List.set_cons_zero, List.set_cons_succ])
              refine wpAnyH_take (i := 6) (oi := ⟨some 82, _, _, _, _, _⟩) (v := ?_) rfl (by kernel_rfl) (by kernel_rfl) (by kernel_rfl) (fun _ _ _ h => h) (Or.inl ⟨by rfl, ?_⟩) (by assumption) ?_
              rotate_left
              · ((intro w hSw; (try dsimp only at hSw); go_simp); try with_reducible rfl)
              (try simp only [Act.put, List.setIfInBounds_toArray, List.set_cons_zero, List.set_cons_succ])
              refine wpAnyH_take (i := 7) (oi := ⟨some 83, _, _, _, _, _⟩) (v := ?_) rfl (by kernel_rfl) (by kernel_rfl) (by kernel_rfl) (fun _ _ _ h => h) (Or.inl ⟨by rfl, ?_⟩) (by assumption) ?_
              rotate_left
              · ((intro w hSw; (try dsimp only at hSw); go_simp); try with_reducible rfl)
              (try simp only [Act.put, List.setIfInBounds_toArray, List.set_cons_zero, List.set_cons_succ])
              refine wpAnyH_take (i := 8) (oi := ⟨some 84, _, _, _, _, _⟩) (v := ?_) rfl (by kernel_rfl) (by kernel_rfl) (by kernel_rfl) (fun _ _ _ h => h) (Or.inl ⟨by rfl, ?_⟩) (by assumption) ?_
              rotate_left
              · ((intro w hSw; (try dsimp only at hSw); go_simp); try with_reducible rfl)
              (try simp only [Act.put, List.setIfInBounds_toArray, List.set_cons_zero, List.set_cons_succ])
              refine wpAnyH_ready (rs := [2]) (by kernel_rfl) (by simp) (AllReadyH.cons rfl (fun K hK => ?_) AllReadyH.nil)
              rw [if_pos (by rfl)]
              go_simp
              go_at_call 29
              (with_reducible refine (CH.out _ hk0).mono ?_)
              rintro e v6 ⟨rfl, rfl⟩
              refine hK.out _ _ (HKT.out _ hk0) (fun hHeld => ?_)
              clear hK K
              (try simp only [Act.put, List.setIfInBounds_toArray, List.set_cons_zero, List.set_cons_succ])
              refine wpAnyH_ready (rs := [9]) (by kernel_rfl) (by simp) (AllReadyH.cons rfl (fun K hK => ?_) AllReadyH.nil)
              rw [if_pos (by rfl)]
              go_simp
              go_at_call 25
              (with_reducible refine (CO.out _ hk0).mono ?_)
              rintro e v7 ⟨rfl, hb7⟩
              have hk7 : Below wq.heap.size wq v7 := hk0.trans (hb7.mono hk0.size)
              clear hb7
              refine hK.out _ _ (HKT.out _ hk7) (fun hHeld => ?_)
              clear hK K
              (try simp only [Act.put, List.setIfInBounds_toArray, List.set_cons_zero, List.set_cons_succ])
              refine wpAnyH_take (i := 10) (oi := ⟨some 86, _, _, _, _, _⟩) (v := ?_) rfl (by kernel_rfl) (by kernel_rfl) (by kernel_rfl) (fun _ _ _ h => h) (Or.inl ⟨by rfl, ?_⟩) (by assumption) ?_
              rotate_left
              · ((intro w hSw; (try dsimp only at hSw); go_simp); try with_reducible rfl)
              (try simp only [Act.put, List.setIfInBounds_toArray, List.set_cons_zero, List.set_cons_succ])
              refine wpAnyH_done (by kernel_rfl) ?_ _
              have HY2 : RowKit.Hid (Below wx.heap.size wx v7) := Lib.hid (HY.out.trans (hk7.mono HY.out.size))
              clear hk0 hk7 HKT CH CO
              go_wp2_with fail
              go_roundw
              case rel => exact ⟨x + 1, hxl, by go_num, HY2⟩
              case measure => simp [intOf, hwx]; omega
            · obtain rfl : x = m := by omega
              have hw := HW.out
              have HI2 : RowKit.Hid (LawSt w r a x c (some ⟨go, off, none⟩) vn (orderL F) wq ∧ NumsAt wq (some ⟨gu, 0, none⟩) x UP) := Lib.hid ⟨HLW.out, HX.out.ups.since HY.out⟩
              go_wp2_with fail
              go_roundw
              case rel => exact ⟨i + 1, hlt, by go_num, HI2⟩
              case measure => simp [intOf, hw]; omega
    · obtain rfl : i = vn := by omega
      go_wp2_with (go_at_call 27; refine (lives8_any wo).mono ?_; rintro e w9 ⟨rfl, hb9⟩; have HB9 := Lib.hid hb9; clear hb9)
      go_ret
      exact ⟨rfl, HI.out.1.bel.trans (HB9.out.mono HI.out.1.bel.size)⟩
end Go.Proofs.Ytdnihphnoibpgaa
