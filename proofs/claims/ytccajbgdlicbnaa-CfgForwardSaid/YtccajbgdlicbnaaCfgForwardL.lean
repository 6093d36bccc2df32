/- Layer 7: the law CfgForward, walked (mk_fwd.py). -/
import Derived.Test.YtccajbgdlicbnaaCfgOnceL
namespace Go.Proofs.Ytccajbgdlicbnaa
open Go.RowKit (wrap64 intOf Below)
set_option linter.unusedVariables false
set_option linter.unusedSimpArgs false

/-- Where each block stands, when i of them were looked at. -/
def posF (L : List Int) : Nat → Nat → Int
  | 0, _ => 0
  | i + 1, j => if L[i]? = some (j : Int) then (i : Int) else posF L i j
theorem posF_at {L : List Int} (hn : L.Nodup) : ∀ (i : Nat), i ≤ L.length → ∀ (q : Nat), q < i → ∀ (p : Nat), L[q]? = some (p : Int) → posF L i p = q
  | 0, _, q, hq, _, _ => absurd hq (by omega)
  | i + 1, hi, q, hq, p, hp => by
    unfold posF
    by_cases h : L[i]? = some (p : Int)
    · rw [if_pos h]
      obtain ⟨h1, e1⟩ := List.getElem?_eq_some_iff.1 h
      obtain ⟨h2, e2⟩ := List.getElem?_eq_some_iff.1 hp
      by_cases hqi : q = i
      · rw [hqi]
      · exact absurd (e2.trans e1.symm) (List.pairwise_iff_getElem.1 hn q i h2 h1 (by omega))
    · rw [if_neg h]
      by_cases hqi : q = i
      · subst hqi; exact absurd hp h
      · exact posF_at hn i (by omega) q (by omega) p hp
def atVals (L : List Int) (i m1 : Nat) : List Value := (List.range m1).map fun (j : Nat) => Value.int .i64 (posF L i j)
theorem atVals_at {L : List Int} {i m1 j : Nat} (hj : j < m1) : (atVals L i m1)[j]? = some (.int .i64 (posF L i j)) := by simp [atVals, hj]
theorem atVals_more {L : List Int} {i m1 p : Nat} (h : L[i]? = some (p : Int)) (hp : p < m1) : (atVals L i m1).set p (.int .i64 (i : Int)) = atVals L (i + 1) m1 := by
  apply List.ext_getElem
  · simp [atVals]
  · intro j h1 h2
    simp only [atVals, List.getElem_set, List.getElem_map, List.getElem_range, posF]
    by_cases e : p = j
    · subst e; rw [if_pos rfl, if_pos h]
    · rw [if_neg e, if_neg (by rw [h]; simp; omega)]
theorem atVals_none (L : List Int) (m1 : Nat) : (madeCells #[Value.int .i64 0] m1).toList = atVals L 0 m1 := by
  apply List.ext_getElem
  · simp [atVals, madeCells]
  · intro i h1 h2
    simp [atVals, madeCells, Nat.mod_one, posF]
theorem make_ints (q : Int) (Q : Nat) (hq : q = Q) (hQ : Q ≤ 1099511627776) (u : World) : (Instr.makeSlice 30 (.int .i64 q) (.int .i64 q)).run Try.prog u = .ok (.slice (some ⟨u.heap.size, 0, none⟩) Q Q) (u.alloc (.cells (madeCells #[.int .i64 0] Q) 3)) := by
  obtain ⟨i0, hi, hz0, hz1, hz2⟩ := info_parts info_int
  subst hq
  have h := run_make (P := Try.prog) u 30 3 i0 (.int .i64 0) Try.underlying30 hi hz0 .i64 .i64 (Q : Int) (Q : Int) (by omega) (by omega) (by rw [hz2]; omega) (by omega)
  simpa [hz1, Value.cells] using h
/-- Where the law stands behind the order. -/
structure FwdSt (w : World) (r : Int) (a : Option Addr) (m c : Nat) (va : Option Addr) (vn : Nat) (L : List Int) (q i : Nat) (W : World) : Prop where
  law : LawSt w r a m c va vn L W
  row : W.ownsRow (w.heap.size + 1) 3 1 (.slice (some ⟨q, 0, none⟩) (m + 1) (m + 1)) (m + 1) (atVals L i (m + 1))
  far : ∀ g off, va = some ⟨g, off, none⟩ → g ≠ q
  ge : w.heap.size < q
theorem FwdSt.since {w : World} {r : Int} {a : Option Addr} {m c : Nat} {va : Option Addr} {vn : Nat} {L : List Int} {q i : Nat} {W W' : World} (h : FwdSt w r a m c va vn L q i W) (hb : Below W.heap.size W W') : FwdSt w r a m c va vn L q i W' :=
  ⟨h.law.since hb, ⟨h.row.1, by
    rcases h.row.2 with hn | ⟨g, cap, cur, e, hB, hg, rest⟩
    · exact .inl hn
    · exact .inr ⟨g, cap, cur, e, hB, (hb.block g (Array.getElem?_eq_some_iff.1 hg).1).trans hg, rest⟩⟩, h.far, h.ge⟩
theorem FwdSt.store {w : World} {r : Int} {a : Option Addr} {m c : Nat} {va : Option Addr} {vn : Nat} {L : List Int} {q i : Nat} {W : World} (h : FwdSt w r a m c va vn L q i W) {p : Nat} (hp : L[i]? = some (p : Int)) (hpm : p < m + 1) : FwdSt w r a m c va vn L q (i + 1) (W.setCell ⟨q, p, none⟩ (.int .i64 (i : Int))) := by
  obtain ⟨hr, hg⟩ := World.ownsRow.stored h.row p (.int .i64 (i : Int))
  rw [atVals_more hp hpm] at hr
  have hge := h.ge
  refine ⟨⟨h.law.bel.setCell (p := ⟨q, p, none⟩) (by show w.heap.size ≤ q; omega) _, Nat.lt_of_lt_of_le h.law.siz hg.size, ?_, ?_, h.law.lis.1, fun hv => ?_⟩, hr, h.far, h.ge⟩
  · exact (World.cell?_of_block (a := ⟨w.heap.size, 0, none⟩) (hg.block w.heap.size h.law.siz (fun e => by have := Option.some.inj e; omega))).trans h.law.c0
  · exact (World.cell?_of_block (a := ⟨w.heap.size, 1, none⟩) (hg.block w.heap.size h.law.siz (fun e => by have := Option.some.inj e; omega))).trans h.law.c1
  · obtain ⟨g, off, e, hgl, hc⟩ := h.law.lis.2 hv
    have hne := h.far g off e
    exact ⟨g, off, e, Nat.lt_of_lt_of_le hgl hg.size, fun j hj => (World.cell?_of_block (a := ⟨g, off + j, none⟩) (hg.block g hgl (fun e => hne (Option.some.inj e)))).trans (hc j hj)⟩
theorem FwdSt.at {w : World} {r : Int} {a : Option Addr} {m c : Nat} {va : Option Addr} {vn : Nat} {L : List Int} {q i : Nat} {W : World} (h : FwdSt w r a m c va vn L q i W) {j : Nat} (hj : j < m + 1) : W.cell? ⟨q, j, none⟩ = some (.int .i64 (posF L i j)) ∧ W.frozen? ⟨q, j, none⟩ = false := by
  have := World.ownsRow.cells h.row rfl j _ (atVals_at (L := L) (i := i) hj)
  rw [addr_plain, Nat.zero_add] at this
  exact ⟨this, World.ownsRow.frozenAt h.row j⟩
theorem fwd_start {w wo w2 : World} {r : Int} {a : Option Addr} {m c : Nat} {va : Option Addr} {vn vc : Nat} {L : List Int} (hl : LawSt w r a m c none 0 [] wo) (hm : m ≤ 60) (ho : OwnsI w2 (wo.alloc (.cells (madeCells #[.int .i64 0] (m + 1)) 3)).heap.size 3 (.slice va vn vc) L)
    (hb : Below (wo.alloc (.cells (madeCells #[.int .i64 0] (m + 1)) 3)).heap.size (wo.alloc (.cells (madeCells #[.int .i64 0] (m + 1)) 3)) w2) : FwdSt w r a m c va vn L wo.heap.size 0 w2 := by
  have hb0 : Below wo.heap.size wo w2 := ((Below.refl wo.heap.size wo).alloc (Nat.le_refl _) _).trans (hb.mono (by simp))
  have h1 := hl.since hb0
  have hr := World.ownsRow_lit (base := w.heap.size + 1) (e := 3) (size := 1) wo (madeCells #[Value.int .i64 0] (m + 1)) (m + 1) hl.siz (by unfold maxLen; omega) (by simp [size_madeCells])
  rw [atVals_none L] at hr
  refine ⟨⟨h1.bel, h1.siz, h1.c0, h1.c1, ho.read⟩, ⟨hr.1, ?_⟩, fun g off e => ?_, hl.siz⟩
  · rcases hr.2 with hn | ⟨g, cap, cur, e, hB, hg, rest⟩
    · exact .inl hn
    · exact .inr ⟨g, cap, cur, e, hB, (hb.block g (Array.getElem?_eq_some_iff.1 hg).1).trans hg, rest⟩
  · subst e
    have := (ho.lt g rfl).1
    simp at this
    omega
theorem at_ahead {F : FuncD} (hf : ∀ p : Int, There F.blocks.length p → ∀ n ∈ nxF F p.toNat, There F.blocks.length n → p < n) {i : Nat} (hi : i < (orderL F).length) {n : Int} (hn : n ∈ nxF F ((orderL F)[i]).toNat) (hT : There F.blocks.length n) : ∃ q, i < q ∧ (orderL F)[q]? = some n := by
  have ht := order_topo F hf ((orderL F).take i) (orderL F)[i] ((orderL F).drop (i + 1)) (by simp) n hn hT
  obtain ⟨q, hq, e⟩ := List.getElem_of_mem ht
  refine ⟨i + 1 + q, by omega, ?_⟩
  rw [List.getElem?_eq_some_iff]
  simp only [List.length_drop] at hq
  refine ⟨by omega, ?_⟩
  rw [← e, List.getElem_drop]

set_option maxRecDepth 100000 in
set_option maxHeartbeats 8000000 in
theorem fwd_walk (r : Int) (a : Option Addr) (n c : Nat) (f : FuncD) (w : World) (hrow : RowV BlockQ 8 w (.slice a n c) f.blocks) (hnc : n ≤ c) (hc : c ≤ 9223372036854775807) :
    Calls Try.prog 6 #[.agg #[.int .i64 r, .slice a n c]] w fun e w' => e = .returned (.bool true) ∧ Below w.heap.size w w' := by
  have hn : n ≤ 140737488351232 := by obtain ⟨_, _, _, e, _, _, h, _⟩ := hrow; cases e; exact h
  have hrow2 := hrow.few
  have hlen : fewN n = (fewF f).blocks.length := by obtain ⟨_, _, _, e, h, _⟩ := hrow2; cases e; exact h.symm
  have hn60 := fewN_le n
  have HFEW : RowKit.Hid (∀ u : World, Calls Try.prog 13 #[.agg #[.int .i64 r, .slice a n c]] u fun e w' => e = .returned (.agg #[.int .i64 r, .slice a (fewN n) c]) ∧ Below u.heap.size u w') := Lib.hid fun u => few_any r a n c u (by omega) hnc hc
  generalize fewF f = F at *
  generalize fewN n = m at *
  have HROW := Lib.hid hrow2
  have HLEN := Lib.hid hlen
  clear hrow hrow2 hlen hnc hc hn
  go_enter Try.func6, Try.ntmps6
  go_wp2_with ((go_at_call 13; refine (HFEW.out _).mono ?_); rintro e w1 ⟨rfl, hb⟩; have hbl : w.heap.size < w1.heap.size := (by have := hb.size; simp at this; omega); have hheap : w1.heap[w.heap.size]? = some (.cells #[.int .i64 r, .slice a n c] 24 (0, 0)) := ((hb.block w.heap.size (by simp)).trans (World.alloc_heap_new w _)); have hx0 : w1.cell? ⟨w.heap.size, 0, none⟩ = some (.int .i64 r) := (by simp [World.cell?, hheap]); have hx1 : w1.cell? ⟨w.heap.size, 1, none⟩ = some (.slice a n c) := (by simp [World.cell?, hheap]); have hxf0 : w1.frozen? ⟨w.heap.size, 0, none⟩ = false := (by simp [World.frozen?, hheap]); have hxf1 : w1.frozen? ⟨w.heap.size, 1, none⟩ = false := (by simp [World.frozen?, hheap]); have HTC := Lib.hid (two_cells (u := .int .i64 r) (v := .slice a m c) hx0 hx1); have HB0 := Lib.hid (show Below w.heap.size w w1 from ((Below.refl w.heap.size w).alloc (Nat.le_refl _) _).trans (hb.mono (by simp))); have HST := Lib.hid (law_st HB0.out hbl HTC.out (Below.refl _ _) (NumsAt.nil _ none)); clear hb hheap)
  clear hbl hx0 hx1 hxf0 hxf1 HTC HB0 HFEW
  go_loopw [3] (fun v3 wr => ∃ i : Nat, i ≤ m ∧ v3 = .int .i64 (i : Int) ∧ RowKit.Hid (LawSt w r a m c none 0 [] wr ∧ ∀ p, p < i → ∀ n ∈ nextL (theEnd F p), (p : Int) < n)) (fun v3 _ => m - (intOf v3).toNat)
  case atStart => exact ⟨0, Nat.zero_le _, rfl, Lib.hid ⟨HST.out, fun p hp => absurd hp (by omega)⟩⟩
  case round =>
    obtain ⟨i, hi, rfl, HI⟩ := hrel
    clear HST
    obtain ⟨wo, hwo⟩ : ∃ u, u = wr := ⟨_, rfl⟩
    rw [← hwo] at HI ⊢
    clear hwo
    have hwi : wrap64 ((i : Int) + 1) = (i : Int) + 1 := by unfold wrap64; omega
    have hc1 := HI.out.1.c1
    by_cases hlt : i < m
    · obtain ⟨g2, off2, pa, pn, pc, oa, on, oc, la, ln, lc, ma, mn, mc, rfl, hg2, hblk⟩ := block_at (HROW.out.since BlockQ.lasts HI.out.1.bel) hlt
      obtain ⟨d0, d1, d2, d3, d4, d5, d6, d7⟩ := hblk wo (Below.refl _ _)
      have CN : RowKit.Hid (∀ u, Calls Try.prog 19 #[.agg #[.slice pa pn pc, .slice oa on oc, .int .i64 (theEnd F i).K, .int .i64 (theEnd F i).A, .int .i64 (theEnd F i).To, .int .i64 (theEnd F i).Else, .slice la ln lc, .slice ma mn mc]] u fun e' w' => ∃ va vn vc, e' = .returned (.slice va vn vc) ∧ OwnsI w' u.heap.size 3 (.slice va vn vc) (nextL (theEnd F i)) ∧ Below u.heap.size u w') := Lib.hid fun u => refnext_any pa pn pc oa on oc (theEnd F i).A la ln lc ma mn mc (theEnd F i) u
      have HNL := Lib.hid (next_len (theEnd F i))
      generalize (theEnd F i).K = EK at *
      generalize (theEnd F i).A = EA at *
      generalize (theEnd F i).To = ET at *
      generalize (theEnd F i).Else = EE at *
      clear hblk hg2
      go_wp2_with ((go_at_call 19; refine (CN.out _).mono ?_); rintro e v1 ⟨ya, yn, yc, rfl, ho, hb1⟩; have HO := Lib.hid ho.read; have HB1 := Lib.hid hb1; have hyl : (nextL (theEnd F i)).length = yn := ho.read.1; clear ho hb1)
      have HYL := Lib.hid hyl
      have hyn : yn ≤ 2 := by have := HNL.out; omega
      clear hyl d0 d1 d2 d3 d4 d5 d6 d7 CN hc1
      go_loop [5] (fun v5 => ∃ k : Nat, k ≤ yn ∧ v5 = .int .i64 (k : Int) ∧ RowKit.Hid (∀ j (hj : j < (nextL (theEnd F i)).length), j < k → (i : Int) < (nextL (theEnd F i))[j])) (fun v5 => yn - (intOf v5).toNat)
      case atStart => exact ⟨0, Nat.zero_le _, rfl, Lib.hid fun j _ h => absurd h (by omega)⟩
      case round =>
        obtain ⟨k, hk, rfl, HK⟩ := hrel
        have hwk : wrap64 ((k : Int) + 1) = (k : Int) + 1 := by unfold wrap64; omega
        by_cases hkl : k < yn
        · obtain ⟨g3, off3, rfl, hg3, hcs⟩ := HO.out.2 (by omega)
          have hkn : k < (nextL (theEnd F i)).length := by rw [HYL.out]; exact hkl
          have HKN := Lib.hid hkn
          obtain ⟨z, hz⟩ : ∃ z, z = (nextL (theEnd F i))[k]'HKN.out := ⟨_, rfl⟩
          have hcz : v1.cell? ⟨g3, off3 + k, none⟩ = some (.int .i64 z) := by rw [hz]; exact hcs k hkn
          have HZ := Lib.hid hz
          clear hcs hz hkn hg3
          by_cases hle : z ≤ (i : Int)
          · go_wp2_with (go_at_call 21; refine (lives_any v1).mono ?_; rintro e w9 ⟨rfl, hb9⟩; have HB9 := Lib.hid hb9; clear hb9)
            go_ret
            exact ⟨rfl, HI.out.1.bel.trans ((HB1.out.trans (HB9.out.mono HB1.out.size)).mono HI.out.1.bel.size)⟩
          · go_wp2_with fail
            go_round
            case rel => exact ⟨k + 1, by omega, by go_num, Lib.hid fun j hj h => by
              by_cases e : j = k
              · subst e; have := HZ.out; omega
              · exact HK.out j hj (by omega)⟩
            case measure => simp [intOf, hwk]; omega
        · obtain rfl : k = yn := by omega
          go_wp2_with fail
          go_roundw
          case rel => exact ⟨i + 1, by omega, by go_num, Lib.hid ⟨HI.out.1.since HB1.out, fun p hp n hn => by
            by_cases e : p = i
            · subst e
              obtain ⟨j, hj, rfl⟩ := List.getElem_of_mem hn
              exact HK.out j hj (by rw [← HYL.out]; exact hj)
            · exact HI.out.2 p (by omega) n hn⟩⟩
          case measure => simp [intOf, hwi]; omega
    · obtain rfl : i = m := by omega
      have hf : ∀ p : Int, There F.blocks.length p → ∀ n ∈ nxF F p.toNat, There F.blocks.length n → p < n := fun p hp n hn _ => by
        obtain ⟨k, rfl⟩ := Int.eq_ofNat_of_zero_le hp.1
        exact HI.out.2 k (by have h1 := hp.2; rw [← HLEN.out] at h1; omega) n hn
      have HFW := Lib.hid hf
      have HFP := Lib.hid HI.out.2
      have hc0 := HI.out.1.c0
      have hsz := HI.out.1.siz
      have hmk := make_ints ((i : Int) + 1) (i + 1) (by omega) (by omega)
      clear hf
      go_wp2_with ((go_at_call 22; refine (order_any r a i c F _ (HROW.out.since BlockQ.lasts (HI.out.1.bel.alloc (Nat.le_of_lt HI.out.1.siz) _)) (by omega)).mono ?_); rintro e w2 ⟨va, vn, vc, rfl, ho, hb⟩; have HO := Lib.hid ho; have HB2 := Lib.hid hb; clear ho hb)
      have HFS := Lib.hid (fwd_start HI.out.1 (by omega) HO.out HB2.out)
      have hvn : (orderL F).length = vn := HO.out.read.1
      have HVN := Lib.hid hvn
      have hvm : vn ≤ 60 := by have := order_len F; have := HLEN.out; omega
      obtain ⟨q, hq⟩ : ∃ q, q = wo.heap.size := ⟨_, rfl⟩
      rw [← hq] at HFS ⊢
      clear hvn hq HO HB2 hmk hc1 hc0 hsz HI
      go_loopw [8] (fun v8 wr => ∃ t : Nat, t ≤ vn ∧ v8 = .int .i64 (t : Int) ∧ RowKit.Hid (FwdSt w r a i c va vn (orderL F) q t wr)) (fun v8 _ => vn - (intOf v8).toNat)
      case atStart => exact ⟨0, Nat.zero_le _, rfl, HFS⟩
      case round =>
        obtain ⟨t, ht, rfl, HT⟩ := hrel
        clear HFS
        obtain ⟨wq, hwq⟩ : ∃ u, u = wr := ⟨_, rfl⟩
        rw [← hwq] at HT ⊢
        clear hwq
        have hwt : wrap64 ((t : Int) + 1) = (t : Int) + 1 := by unfold wrap64; omega
        by_cases hlt2 : t < vn
        · have htL : t < (orderL F).length := by rw [HVN.out]; exact hlt2
          obtain ⟨p, hp, hpm⟩ := order_at htL
          have hpm2 : p < i := by rw [HLEN.out]; exact hpm
          have hpz : (orderL F)[t]? = some (p : Int) := by rw [List.getElem?_eq_getElem htL, hp]
          have HPZ := Lib.hid hpz
          obtain ⟨g, off, rfl, hg, hcs⟩ := HT.out.law.lis.2 (by omega)
          have hcp : wq.cell? ⟨g, off + t, none⟩ = some (.int .i64 (p : Int)) := by rw [hcs t htL, hp]; rfl
          have hc1 := HT.out.law.c1
          have HKT : RowKit.Hid ((fun u : World => u.cell? ⟨g, off + t, none⟩ = some (.int .i64 (p : Int)) ∧ u.cell? ⟨w.heap.size, 1, none⟩ = some (.slice a i c)) wq.drew) := Lib.hid ⟨hcp, hc1⟩
          have HGL := Lib.hid hg
          have hpm3 : (p : Int) < (i : Int) := by omega
          have hp0 : (0 : Int) ≤ (p : Int) := by omega
          obtain ⟨hq0, hqf⟩ := HT.out.at (j := p) (by omega)
          have HCP := Lib.hid hcp
          clear hcs htL hp hpm hpz hg hcp hc1
          go_upto_region 16 with fail
          refine wp_region_held_drew (S := (fun u : World => u.cell? ⟨g, off + t, none⟩ = some (.int .i64 (p : Int)) ∧ u.cell? ⟨w.heap.size, 1, none⟩ = some (.slice a i c))) (by kernel_rfl) HKT.out (fun hHeld => ?_)
          refine wpAnyH_take (i := 0) (oi := ⟨some 53, _, _, _, _, _⟩) (v := ?_) rfl (by kernel_rfl) (by kernel_rfl) (by kernel_rfl) (fun _ _ _ h => h) (Or.inl ⟨by rfl, ?_⟩) (by assumption) ?_
          rotate_left
          · ((intro w hSw; (try dsimp only at hSw); go_simp); try with_reducible rfl)
          (try simp only [Act.put, List.setIfInBounds_toArray, List.set_cons_zero, List.set_cons_succ])
          refine wpAnyH_take (i := 1) (oi := ⟨some 54, _, _, _, _, _⟩) (v := ?_) rfl (by kernel_rfl) (by kernel_rfl) (by kernel_rfl) (fun _ _ _ h => h) (Or.inl ⟨by rfl, ?_⟩) (by assumption) ?_
          rotate_left
          · ((intro w hSw; (try dsimp only at hSw); go_simp); try with_reducible rfl)
          (try simp only [Act.put, List.setIfInBounds_toArray, List.set_cons_zero, List.set_cons_succ])
          refine wpAnyH_take (i := 2) (oi := ⟨some 55, _, _, _, _, _⟩) (v := ?_) rfl (by kernel_rfl) (by kernel_rfl) (by kernel_rfl) (fun _ _ _ h => h) (Or.inl ⟨by rfl, ?_⟩) (by assumption) ?_
          rotate_left
          · ((intro w hSw; (try dsimp only at hSw); go_simp); try with_reducible rfl)
          (try simp only [Act.put, List.setIfInBounds_toArray, List.set_cons_zero, List.set_cons_succ])
          refine wpAnyH_take (i := 3) (oi := ⟨some 56, _, _, _, _, _⟩) (v := ?_) rfl (by kernel_rfl) (by kernel_rfl) (by kernel_rfl) (fun _ _ _ h => h) (Or.inl ⟨by rfl, ?_⟩) (by assumption) ?_
          rotate_left
          · ((intro w hSw; (try dsimp only at hSw); go_simp); try with_reducible rfl)
          (try simp only [Act.put, List.setIfInBounds_toArray, List.set_cons_zero, List.set_cons_succ])
          refine wpAnyH_take (i := 4) (oi := ⟨some 57, _, _, _, _, _⟩) (v := ?_) rfl (by kernel_rfl) (by kernel_rfl) (by kernel_rfl) (fun _ _ _ h => h) (Or.inl ⟨by rfl, ?_⟩) (by assumption) ?_
          rotate_left
          · ((intro w hSw; (try dsimp only at hSw); go_simp); try with_reducible rfl)
          (try simp only [Act.put, List.setIfInBounds_toArray, List.set_cons_zero, List.set_cons_succ])
          refine wpAnyH_take (i := 5) (oi := ⟨some 58, _, _, _, _, _⟩) (v := ?_) rfl (by kernel_rfl) (by kernel_rfl) (by kernel_rfl) (fun _ _ _ h => h) (Or.inl ⟨by rfl, ?_⟩) (by assumption) ?_
          rotate_left
          · ((intro w hSw; (try dsimp only at hSw); go_simp); try with_reducible rfl)
          (try simp only [Act.put, List.setIfInBounds_toArray, List.set_cons_zero, List.set_cons_succ])
          refine wpAnyH_take (i := 6) (oi := ⟨some 59, _, _, _, _, _⟩) (v := ?_) rfl (by kernel_rfl) (by kernel_rfl) (by kernel_rfl) (fun _ _ _ h => h) (Or.inl ⟨by rfl, ?_⟩) (by assumption) ?_
          rotate_left
          · ((intro w hSw; (try dsimp only at hSw); go_simp); try with_reducible rfl)
          (try simp only [Act.put, List.setIfInBounds_toArray, List.set_cons_zero, List.set_cons_succ])
          refine wpAnyH_take (i := 7) (oi := ⟨some 60, _, _, _, _, _⟩) (v := ?_) rfl (by kernel_rfl) (by kernel_rfl) (by kernel_rfl) (fun _ _ _ h => h) (Or.inl ⟨by rfl, ?_⟩) (by assumption) ?_
          rotate_left
          · ((intro w hSw; (try dsimp only at hSw); go_simp); try with_reducible rfl)
          (try simp only [Act.put, List.setIfInBounds_toArray, List.set_cons_zero, List.set_cons_succ])
          refine wpAnyH_take (i := 8) (oi := ⟨some 61, _, _, _, _, _⟩) (v := ?_) rfl (by kernel_rfl) (by kernel_rfl) (by kernel_rfl) (fun _ _ _ h => h) (Or.inl ⟨by rfl, ?_⟩) (by assumption) ?_
          rotate_left
          · ((intro w hSw; (try dsimp only at hSw); go_simp); try with_reducible rfl)
          (try simp only [Act.put, List.setIfInBounds_toArray, List.set_cons_zero, List.set_cons_succ])
          refine wpAnyH_take (i := 9) (oi := ⟨some 62, _, _, _, _, _⟩) (v := ?_) rfl (by kernel_rfl) (by kernel_rfl) (by kernel_rfl) (fun _ _ _ h => h) (Or.inl ⟨by rfl, ?_⟩) (by assumption) ?_
          rotate_left
          · ((intro w hSw; (try dsimp only at hSw); go_simp); try with_reducible rfl)
          (try simp only [Act.put, List.setIfInBounds_toArray, List.set_cons_zero, List.set_cons_succ])
          refine wpAnyH_take (i := 10) (oi := ⟨some 63, _, _, _, _, _⟩) (v := ?_) rfl (by kernel_rfl) (by kernel_rfl) (by kernel_rfl) (fun _ _ _ h => h) (Or.inl ⟨by rfl, ?_⟩) (by assumption) ?_
          rotate_left
          · ((intro w hSw; (try dsimp only at hSw); go_simp); try with_reducible rfl)
          (try simp only [Act.put, List.setIfInBounds_toArray, List.set_cons_zero, List.set_cons_succ])
          refine wpAnyH_take (i := 11) (oi := ⟨some 64, _, _, _, _, _⟩) (v := ?_) rfl (by kernel_rfl) (by kernel_rfl) (by kernel_rfl) (fun _ _ _ h => h) (Or.inl ⟨by rfl, ?_⟩) (by assumption) ?_
          rotate_left
          · ((intro w hSw; (try dsimp only at hSw); go_simp); try with_reducible rfl)
          (try simp only [Act.put, List.setIfInBounds_toArray, List.set_cons_zero, List.set_cons_succ])
          refine wpAnyH_take (i := 12) (oi := ⟨some 65, _, _, _, _, _⟩) (v := ?_) rfl (by kernel_rfl) (by kernel_rfl) (by kernel_rfl) (fun _ _ _ h => h) (Or.inl ⟨by rfl, ?_⟩) (by assumption) ?_
          rotate_left
          · ((intro w hSw; (try dsimp only at hSw); go_simp); try with_reducible rfl)
          (try simp only [Act.put, List.setIfInBounds_toArray, List.set_cons_zero, List.set_cons_succ])
          refine wpAnyH_take (i := 13) (oi := ⟨some 66, _, _, _, _, _⟩) (v := ?_) rfl (by kernel_rfl) (by kernel_rfl) (by kernel_rfl) (fun _ _ _ h => h) (Or.inl ⟨by rfl, ?_⟩) (by assumption) ?_
          rotate_left
          · ((intro w hSw; (try dsimp only at hSw); go_simp); try with_reducible rfl)
          (try simp only [Act.put, List.setIfInBounds_toArray, List.set_cons_zero, List.set_cons_succ])
          refine wpAnyH_take (i := 14) (oi := ⟨some 67, _, _, _, _, _⟩) (v := ?_) rfl (by kernel_rfl) (by kernel_rfl) (by kernel_rfl) (fun _ _ _ h => h) (Or.inl ⟨by rfl, ?_⟩) (by assumption) ?_
          rotate_left
          · ((intro w hSw; (try dsimp only at hSw); go_simp); try with_reducible rfl)
          (try simp only [Act.put, List.setIfInBounds_toArray, List.set_cons_zero, List.set_cons_succ])
          refine wpAnyH_done (by kernel_rfl) ?_ _
          have hcp2 : wq.drew.cell? ⟨g, off + t, none⟩ = some (.int .i64 (p : Int)) := HCP.out
          have hq2 : wq.drew.cell? ⟨q, p, none⟩ = some (.int .i64 (posF (orderL F) t p)) := hq0
          have hqf2 : wq.drew.frozen? ⟨q, p, none⟩ = false := hqf
          have HT2 : RowKit.Hid (FwdSt w r a i c (some ⟨g, off, none⟩) vn (orderL F) q (t + 1) (wq.drew.setCell ⟨q, p, none⟩ (.int .i64 (t : Int)))) := Lib.hid ((HT.out.since (Below.refl wq.heap.size wq).drew).store HPZ.out (by omega))
          clear hq0 hqf
          go_wp2_with fail
          go_roundw
          case rel => exact ⟨t + 1, by omega, by go_num, HT2⟩
          case measure => simp [intOf, hwt]; omega
        · obtain rfl : t = vn := by omega
          go_wp2_with fail
          go_loopw [9] (fun v9 wr => ∃ x : Nat, x ≤ t ∧ v9 = .int .i64 (x : Int) ∧ RowKit.Hid (FwdSt w r a i c va t (orderL F) q t wr)) (fun v9 _ => t - (intOf v9).toNat)
          case atStart => exact ⟨0, Nat.zero_le _, rfl, HT⟩
          case round =>
            obtain ⟨x, hx, rfl, HX⟩ := hrel
            clear HT hwt
            obtain ⟨wx, hwx⟩ : ∃ u, u = wr := ⟨_, rfl⟩
            rw [← hwx] at HX ⊢
            clear hwx
            have hwx : wrap64 ((x : Int) + 1) = (x : Int) + 1 := by unfold wrap64; omega
            by_cases hlt3 : x < t
            · have hxL : x < (orderL F).length := by rw [HVN.out]; exact hlt3
              have HXL := Lib.hid hxL
              obtain ⟨p, hp, hpm⟩ := order_at hxL
              have HP : RowKit.Hid ((orderL F)[x]'HXL.out = (p : Int)) := Lib.hid hp
              have hpm2 : p < i := by rw [HLEN.out]; exact hpm
              obtain ⟨g2, off2, pa, pn, pc, oa, on, oc, la, ln, lc, ma, mn, mc, rfl, hg2, hblk⟩ := block_at (HROW.out.since BlockQ.lasts HX.out.law.bel) hpm2
              obtain ⟨g, off, rfl, hg, hcs⟩ := HX.out.law.lis.2 (by omega)
              have CN : RowKit.Hid (∀ u, Calls Try.prog 19 #[.agg #[.slice pa pn pc, .slice oa on oc, .int .i64 (theEnd F p).K, .int .i64 (theEnd F p).A, .int .i64 (theEnd F p).To, .int .i64 (theEnd F p).Else, .slice la ln lc, .slice ma mn mc]] u fun e' w' => ∃ va vn vc, e' = .returned (.slice va vn vc) ∧ OwnsI w' u.heap.size 3 (.slice va vn vc) (nextL (theEnd F p)) ∧ Below u.heap.size u w') := Lib.hid fun u => refnext_any pa pn pc oa on oc (theEnd F p).A la ln lc ma mn mc (theEnd F p) u
              have HNL := Lib.hid (next_len (theEnd F p))
              have hcp : wx.cell? ⟨g, off + x, none⟩ = some (.int .i64 (p : Int)) := by rw [hcs x hxL, hp]; rfl
              have HKT : RowKit.Hid (∀ u, Below wx.heap.size wx u → (fun u : World => u.cell? ⟨g, off + x, none⟩ = some (.int .i64 (p : Int)) ∧ u.cell? ⟨w.heap.size, 1, none⟩ = some (.slice (some ⟨g2, off2, none⟩) i c) ∧ u.cell? ⟨g2, off2 + p * 8, none⟩ = some (.slice pa pn pc) ∧ u.cell? ⟨g2, off2 + p * 8 + 1, none⟩ = some (.slice oa on oc) ∧ u.cell? ⟨g2, off2 + p * 8 + 2, none⟩ = some (.int .i64 (theEnd F p).K) ∧ u.cell? ⟨g2, off2 + p * 8 + 3, none⟩ = some (.int .i64 (theEnd F p).A) ∧ u.cell? ⟨g2, off2 + p * 8 + 4, none⟩ = some (.int .i64 (theEnd F p).To) ∧ u.cell? ⟨g2, off2 + p * 8 + 5, none⟩ = some (.int .i64 (theEnd F p).Else) ∧ u.cell? ⟨g2, off2 + p * 8 + 6, none⟩ = some (.slice la ln lc) ∧ u.cell? ⟨g2, off2 + p * 8 + 7, none⟩ = some (.slice ma mn mc)) u) := Lib.hid fun u hb => ⟨(hb.cell (p := ⟨g, off + x, none⟩) hg).trans hcp, (hb.cell (p := ⟨w.heap.size, 1, none⟩) HX.out.law.siz).trans HX.out.law.c1, hblk u hb⟩
              generalize (theEnd F p).K = EK at *
              generalize (theEnd F p).A = EA at *
              generalize (theEnd F p).To = ET at *
              generalize (theEnd F p).Else = EE at *
              clear hcp hblk hxL hp hpm hg2 hg hcs
              have hpm3 : (p : Int) < (i : Int) := by omega
              have hp0 : (0 : Int) ≤ (p : Int) := by omega
              have hk0 : Below wx.heap.size wx wx.drew := (Below.refl _ _).drew
              go_upto_region 22 with fail
              refine wp_region_held_drew (S := (fun u : World => u.cell? ⟨g, off + x, none⟩ = some (.int .i64 (p : Int)) ∧ u.cell? ⟨w.heap.size, 1, none⟩ = some (.slice (some ⟨g2, off2, none⟩) i c) ∧ u.cell? ⟨g2, off2 + p * 8, none⟩ = some (.slice pa pn pc) ∧ u.cell? ⟨g2, off2 + p * 8 + 1, none⟩ = some (.slice oa on oc) ∧ u.cell? ⟨g2, off2 + p * 8 + 2, none⟩ = some (.int .i64 EK) ∧ u.cell? ⟨g2, off2 + p * 8 + 3, none⟩ = some (.int .i64 EA) ∧ u.cell? ⟨g2, off2 + p * 8 + 4, none⟩ = some (.int .i64 ET) ∧ u.cell? ⟨g2, off2 + p * 8 + 5, none⟩ = some (.int .i64 EE) ∧ u.cell? ⟨g2, off2 + p * 8 + 6, none⟩ = some (.slice la ln lc) ∧ u.cell? ⟨g2, off2 + p * 8 + 7, none⟩ = some (.slice ma mn mc))) (by kernel_rfl) (HKT.out _ hk0) (fun hHeld => ?_)
              refine wpAnyH_take (i := 0) (oi := ⟨some 81, _, _, _, _, _⟩) (v := ?_) rfl (by kernel_rfl) (by kernel_rfl) (by kernel_rfl) (fun _ _ _ h => h) (Or.inl ⟨by rfl, ?_⟩) (by assumption) ?_
              rotate_left
              · ((intro w hSw; (try dsimp only at hSw); go_simp); try with_reducible rfl)
              (try simp only [Act.put, List.setIfInBounds_toArray, List.set_cons_zero, List.set_cons_succ])
              refine wpAnyH_take (i := 1) (oi := ⟨some 82, _, _, _, _, _⟩) (v := ?_) rfl (by kernel_rfl) (by kernel_rfl) (by kernel_rfl) (fun _ _ _ h => h) (Or.inl ⟨by rfl, ?_⟩) (by assumption) ?_
              rotate_left
              · ((intro w hSw; (try dsimp only at hSw); go_simp); try with_reducible rfl)
              (try simp only [Act.put, List.setIfInBounds_toArray, List.set_cons_zero, List.set_cons_succ])
              refine wpAnyH_take (i := 2) (oi := ⟨some 83, _, _, _, _, _⟩) (v := ?_) rfl (by kernel_rfl) (by kernel_rfl) (by kernel_rfl) (fun _ _ _ h => h) (Or.inl ⟨by rfl, ?_⟩) (by assumption) ?_
              rotate_left
              · ((intro w hSw; (try dsimp only at hSw); go_simp); try with_reducible rfl)
              (try simp only [Act.put, List.setIfInBounds_toArray, List.set_cons_zero, List.set_cons_succ])
              refine wpAnyH_take (i := 3) (oi := ⟨some 84, _, _, _, _, _⟩) (v := ?_) rfl (by kernel_rfl) (by kernel_rfl) (by kernel_rfl) (fun _ _ _ h => h) (Or.inl ⟨by rfl, ?_⟩) (by assumption) ?_
              rotate_left
              · ((intro w hSw; (try dsimp only at hSw); go_simp); try with_reducible rfl)
              (try simp only [Act.put, List.setIfInBounds_toArray, List.set_cons_zero, List.set_cons_succ])
              refine wpAnyH_take (i := 4) (oi := ⟨some 85, _, _, _, _, _⟩) (v := ?_) rfl (by kernel_rfl) (by kernel_rfl) (by kernel_rfl) (fun _ _ _ h => h) (Or.inl ⟨by rfl, ?_⟩) (by assumption) ?_
              rotate_left
              · ((intro w hSw; (try dsimp only at hSw); go_simp); try with_reducible rfl)
              (try simp only [Act.put, List.setIfInBounds_toArray, List.set_cons_zero, List.set_cons_succ])
              refine wpAnyH_take (i := 5) (oi := ⟨some 86, _, _, _, _, _⟩) (v := ?_) rfl (by kernel_rfl) (by kernel_rfl) (by kernel_rfl) (fun _ _ _ h => h) (Or.inl ⟨by rfl, ?_⟩) (by assumption) ?_
              rotate_left
              · ((intro w hSw; (try dsimp only at hSw); go_simp); try with_reducible rfl)
              (try simp only [Act.put, List.setIfInBounds_toArray, List.set_cons_zero, List.set_cons_succ])
              refine wpAnyH_take (i := 6) (oi := ⟨some 87, _, _, _, _, _⟩) (v := ?_) rfl (by kernel_rfl) (by kernel_rfl) (by kernel_rfl) (fun _ _ _ h => h) (Or.inl ⟨by rfl, ?_⟩) (by assumption) ?_
              rotate_left
              · ((intro w hSw; (try dsimp only at hSw); go_simp); try with_reducible rfl)
              (try simp only [Act.put, List.setIfInBounds_toArray, List.set_cons_zero, List.set_cons_succ])
              refine wpAnyH_take (i := 7) (oi := ⟨some 88, _, _, _, _, _⟩) (v := ?_) rfl (by kernel_rfl) (by kernel_rfl) (by kernel_rfl) (fun _ _ _ h => h) (Or.inl ⟨by rfl, ?_⟩) (by assumption) ?_
              rotate_left
              · ((intro w hSw; (try dsimp only at hSw); go_simp); try with_reducible rfl)
              (try simp only [Act.put, List.setIfInBounds_toArray, List.set_cons_zero, List.set_cons_succ])
              refine wpAnyH_ready (rs := [8]) (by kernel_rfl) (by simp) (AllReadyH.cons rfl (fun K hK => ?_) AllReadyH.nil)
              rw [if_pos (by rfl)]
              go_simp
              go_at_call 19
              (with_reducible refine (CN.out _).mono ?_)
              rintro e v1 ⟨ya, yn, yc, rfl, ho, hb1⟩
              have hk1 : Below wx.heap.size wx v1 := hk0.trans (hb1.mono hk0.size)
              have HO := Lib.hid ho.read
              have hyl : (nextL (theEnd F p)).length = yn := ho.read.1
              have HYL := Lib.hid hyl
              have hyn : yn ≤ 2 := by have := HNL.out; omega
              clear ho hb1 hyl
              refine hK.out _ _ (HKT.out _ hk1) (fun hHeld => ?_)
              clear hK K
              (try simp only [Act.put, List.setIfInBounds_toArray, List.set_cons_zero, List.set_cons_succ])
              refine wpAnyH_take (i := 9) (oi := ⟨some 10, _, _, _, _, _⟩) (v := ?_) rfl (by kernel_rfl) (by kernel_rfl) (by kernel_rfl) (fun _ _ _ h => h) (Or.inl ⟨by rfl, ?_⟩) (by assumption) ?_
              rotate_left
              · ((intro w hSw; (try dsimp only at hSw); go_simp); try with_reducible rfl)
              (try simp only [Act.put, List.setIfInBounds_toArray, List.set_cons_zero, List.set_cons_succ])
              refine wpAnyH_done (by kernel_rfl) ?_ _
              have HK1 := Lib.hid hk1
              clear hk0 hk1 CN HKT
              go_wp2_with fail
              go_loopw [11] (fun v11 wz => ∃ k : Nat, k ≤ yn ∧ v11 = .int .i64 (k : Int) ∧ RowKit.Hid (Below v1.heap.size v1 wz)) (fun v11 _ => yn - (intOf v11).toNat)
              case atStart => exact ⟨0, Nat.zero_le _, rfl, Lib.hid (Below.refl _ _)⟩
              case round =>
                obtain ⟨k, hk, rfl, HZ⟩ := hrel
                obtain ⟨wz, hwz⟩ : ∃ u, u = wr := ⟨_, rfl⟩
                rw [← hwz] at HZ ⊢
                clear hwz
                have hwk : wrap64 ((k : Int) + 1) = (k : Int) + 1 := by unfold wrap64; omega
                by_cases hkl : k < yn
                · obtain ⟨g3, off3, rfl, hg3, hcs3⟩ := HO.out.2 (by omega)
                  have hkn : k < (nextL (theEnd F p)).length := by rw [HYL.out]; exact hkl
                  have HKN := Lib.hid hkn
                  obtain ⟨z, hz⟩ : ∃ z, z = (nextL (theEnd F p))[k]'HKN.out := ⟨_, rfl⟩
                  have hcz : v1.cell? ⟨g3, off3 + k, none⟩ = some (.int .i64 z) := by rw [hz]; exact hcs3 k hkn
                  have hzm : z ∈ nextL (theEnd F p) := by rw [hz]; exact List.getElem_mem _
                  have hpz : (p : Int) < z := HFP.out p hpm2 z hzm
                  have hc1 : v1.cell? ⟨w.heap.size, 1, none⟩ = some (.slice (some ⟨g2, off2, none⟩) i c) := (HK1.out.cell (p := ⟨w.heap.size, 1, none⟩) HX.out.law.siz).trans HX.out.law.c1
                  have hcz2 : wz.drew.cell? ⟨g3, off3 + k, none⟩ = some (.int .i64 z) := (HZ.out.cell (p := ⟨g3, off3 + k, none⟩) hg3).trans hcz
                  have hc12 : wz.drew.cell? ⟨w.heap.size, 1, none⟩ = some (.slice (some ⟨g2, off2, none⟩) i c) := (HZ.out.cell (p := ⟨w.heap.size, 1, none⟩) (Nat.lt_of_lt_of_le HX.out.law.siz HK1.out.size)).trans hc1
                  clear hcs3 hz hkn
                  by_cases hzi : z < (i : Int)
                  · obtain ⟨zn, rfl⟩ : ∃ k : Nat, z = k := Int.eq_ofNat_of_zero_le (by omega)
                    obtain ⟨q2, hq2, hq3⟩ := at_ahead HFW.out (i := x) HXL.out (n := (zn : Int)) (by rw [HP.out]; exact hzm) ⟨by omega, by rw [← HLEN.out]; exact hzi⟩
                    have hq2l : q2 < (orderL F).length := (List.getElem?_eq_some_iff.1 hq3).1
                    have hpos := posF_at (order_facts F).nodup t (Nat.le_of_eq HVN.out.symm) q2 (by rw [← HVN.out]; exact hq2l) zn hq3
                    have hfx := HX.out.at (j := zn) (by omega)
                    have hqlt : q < wx.heap.size := World.block_lt_of_cell? (a := ⟨q, zn, none⟩) _ hfx.1
                    have hcq : wz.drew.cell? ⟨q, zn, none⟩ = some (.int .i64 (q2 : Int)) := by
                      rw [← hpos]
                      exact ((HZ.out.cell (p := ⟨q, zn, none⟩) (Nat.lt_of_lt_of_le hqlt HK1.out.size)).trans (HK1.out.cell (p := ⟨q, zn, none⟩) hqlt)).trans hfx.1
                    have HKT : RowKit.Hid ((fun u : World => u.cell? ⟨g3, off3 + k, none⟩ = some (.int .i64 (zn : Int)) ∧ u.cell? ⟨w.heap.size, 1, none⟩ = some (.slice (some ⟨g2, off2, none⟩) i c) ∧ u.cell? ⟨q, zn, none⟩ = some (.int .i64 (q2 : Int))) wz.drew) := Lib.hid ⟨hcz2, hc12, hcq⟩
                    have hnle : ¬ ((q2 : Int) ≤ (x : Int)) := by omega
                    have hzn1 : (zn : Int) < (i : Int) + 1 := by omega
                    have hzn2 : zn < i + 1 := by omega
                    have hzn0 : (0 : Int) ≤ (zn : Int) := by omega
                    clear hcz hzm hc1 hcz2 hc12 hq3 hq2l hpos hfx hcq hg3
                    go_upto_region 26 with fail
                    refine wp_region_held_drew (S := (fun u : World => u.cell? ⟨g3, off3 + k, none⟩ = some (.int .i64 (zn : Int)) ∧ u.cell? ⟨w.heap.size, 1, none⟩ = some (.slice (some ⟨g2, off2, none⟩) i c) ∧ u.cell? ⟨q, zn, none⟩ = some (.int .i64 (q2 : Int)))) (by kernel_rfl) HKT.out (fun hHeld => ?_)
                    refine wpAnyH_take (i := 0) (oi := ⟨some 96, _, _, _, _, _⟩) (v := ?_) rfl (by kernel_rfl) (by kernel_rfl) (by kernel_rfl) (fun _ _ _ h => h) (Or.inl ⟨by rfl, ?_⟩) (by assumption) ?_
                    rotate_left
                    · ((intro w hSw; (try dsimp only at hSw); go_simp); try with_reducible rfl)
                    (try simp only [Act.put, List.setIfInBounds_toArray, List.set_cons_zero, List.set_cons_succ])
                    refine wpAnyH_take (i := 1) (oi := ⟨some 97, _, _, _, _, _⟩) (v := ?_) rfl (by kernel_rfl) (by kernel_rfl) (by kernel_rfl) (fun _ _ _ h => h) (Or.inl ⟨by rfl, ?_⟩) (by assumption) ?_
                    rotate_left
                    · ((intro w hSw; (try dsimp only at hSw); go_simp); try with_reducible rfl)
                    (try simp only [Act.put, List.setIfInBounds_toArray, List.set_cons_zero, List.set_cons_succ])
                    refine wpAnyH_take (i := 2) (oi := ⟨some 98, _, _, _, _, _⟩) (v := ?_) rfl (by kernel_rfl) (by kernel_rfl) (by kernel_rfl) (fun _ _ _ h => h) (Or.inl ⟨by rfl, ?_⟩) (by assumption) ?_
                    rotate_left
                    · ((intro w hSw; (try dsimp only at hSw); go_simp); try with_reducible rfl)
                    (try simp only [Act.put, List.setIfInBounds_toArray, List.set_cons_zero, List.set_cons_succ])
                    refine wpAnyH_take (i := 3) (oi := ⟨some 99, _, _, _, _, _⟩) (v := ?_) rfl (by kernel_rfl) (by kernel_rfl) (by kernel_rfl) (fun _ _ _ h => h) (Or.inl ⟨by rfl, ?_⟩) (by assumption) ?_
                    rotate_left
                    · ((intro w hSw; (try dsimp only at hSw); go_simp); try with_reducible rfl)
                    (try simp only [Act.put, List.setIfInBounds_toArray, List.set_cons_zero, List.set_cons_succ])
                    refine wpAnyH_take (i := 4) (oi := ⟨some 100, _, _, _, _, _⟩) (v := ?_) rfl (by kernel_rfl) (by kernel_rfl) (by kernel_rfl) (fun _ _ _ h => h) (Or.inl ⟨by rfl, ?_⟩) (by assumption) ?_
                    rotate_left
                    · ((intro w hSw; (try dsimp only at hSw); go_simp); try with_reducible rfl)
                    (try simp only [Act.put, List.setIfInBounds_toArray, List.set_cons_zero, List.set_cons_succ])
                    refine wpAnyH_take (i := 5) (oi := ⟨some 101, _, _, _, _, _⟩) (v := ?_) rfl (by kernel_rfl) (by kernel_rfl) (by kernel_rfl) (fun _ _ _ h => h) (Or.inl ⟨by rfl, ?_⟩) (by assumption) ?_
                    rotate_left
                    · ((intro w hSw; (try dsimp only at hSw); go_simp); try with_reducible rfl)
                    (try simp only [Act.put, List.setIfInBounds_toArray, List.set_cons_zero, List.set_cons_succ])
                    refine wpAnyH_take (i := 6) (oi := ⟨some 102, _, _, _, _, _⟩) (v := ?_) rfl (by kernel_rfl) (by kernel_rfl) (by kernel_rfl) (fun _ _ _ h => h) (Or.inl ⟨by rfl, ?_⟩) (by assumption) ?_
                    rotate_left
                    · ((intro w hSw; (try dsimp only at hSw); go_simp); try with_reducible rfl)
                    (try simp only [Act.put, List.setIfInBounds_toArray, List.set_cons_zero, List.set_cons_succ])
                    refine wpAnyH_take (i := 7) (oi := ⟨some 103, _, _, _, _, _⟩) (v := ?_) rfl (by kernel_rfl) (by kernel_rfl) (by kernel_rfl) (fun _ _ _ h => h) (Or.inl ⟨by rfl, ?_⟩) (by assumption) ?_
                    rotate_left
                    · ((intro w hSw; (try dsimp only at hSw); go_simp); try with_reducible rfl)
                    (try simp only [Act.put, List.setIfInBounds_toArray, List.set_cons_zero, List.set_cons_succ])
                    refine wpAnyH_take (i := 8) (oi := ⟨some 104, _, _, _, _, _⟩) (v := ?_) rfl (by kernel_rfl) (by kernel_rfl) (by kernel_rfl) (fun _ _ _ h => h) (Or.inl ⟨by rfl, ?_⟩) (by assumption) ?_
                    rotate_left
                    · ((intro w hSw; (try dsimp only at hSw); go_simp); try with_reducible rfl)
                    (try simp only [Act.put, List.setIfInBounds_toArray, List.set_cons_zero, List.set_cons_succ])
                    refine wpAnyH_take (i := 9) (oi := ⟨some 105, _, _, _, _, _⟩) (v := ?_) rfl (by kernel_rfl) (by kernel_rfl) (by kernel_rfl) (fun _ _ _ h => h) (Or.inl ⟨by rfl, ?_⟩) (by assumption) ?_
                    rotate_left
                    · ((intro w hSw; (try dsimp only at hSw); go_simp); try with_reducible rfl)
                    (try simp only [Act.put, List.setIfInBounds_toArray, List.set_cons_zero, List.set_cons_succ])
                    refine wpAnyH_take (i := 10) (oi := ⟨some 106, _, _, _, _, _⟩) (v := ?_) rfl (by kernel_rfl) (by kernel_rfl) (by kernel_rfl) (fun _ _ _ h => h) (Or.inl ⟨by rfl, ?_⟩) (by assumption) ?_
                    rotate_left
                    · ((intro w hSw; (try dsimp only at hSw); go_simp); try with_reducible rfl)
                    (try simp only [Act.put, List.setIfInBounds_toArray, List.set_cons_zero, List.set_cons_succ])
                    refine wpAnyH_take (i := 11) (oi := ⟨some 107, _, _, _, _, _⟩) (v := ?_) rfl (by kernel_rfl) (by kernel_rfl) (by kernel_rfl) (fun _ _ _ h => h) (Or.inl ⟨by rfl, ?_⟩) (by assumption) ?_
                    rotate_left
                    · ((intro w hSw; (try dsimp only at hSw); go_simp); try with_reducible rfl)
                    (try simp only [Act.put, List.setIfInBounds_toArray, List.set_cons_zero, List.set_cons_succ])
                    refine wpAnyH_take (i := 12) (oi := ⟨some 108, _, _, _, _, _⟩) (v := ?_) rfl (by kernel_rfl) (by kernel_rfl) (by kernel_rfl) (fun _ _ _ h => h) (Or.inl ⟨by rfl, ?_⟩) (by assumption) ?_
                    rotate_left
                    · ((intro w hSw; (try dsimp only at hSw); go_simp); try with_reducible rfl)
                    (try simp only [Act.put, List.setIfInBounds_toArray, List.set_cons_zero, List.set_cons_succ])
                    refine wpAnyH_take (i := 13) (oi := ⟨some 109, _, _, _, _, _⟩) (v := ?_) rfl (by kernel_rfl) (by kernel_rfl) (by kernel_rfl) (fun _ _ _ h => h) (Or.inl ⟨by rfl, ?_⟩) (by assumption) ?_
                    rotate_left
                    · ((intro w hSw; (try dsimp only at hSw); go_simp); try with_reducible rfl)
                    (try simp only [Act.put, List.setIfInBounds_toArray, List.set_cons_zero, List.set_cons_succ])
                    refine wpAnyH_take (i := 14) (oi := ⟨some 110, _, _, _, _, _⟩) (v := ?_) rfl (by kernel_rfl) (by kernel_rfl) (by kernel_rfl) (fun _ _ _ h => h) (Or.inl ⟨by rfl, ?_⟩) (by assumption) ?_
                    rotate_left
                    · ((intro w hSw; (try dsimp only at hSw); go_simp); try with_reducible rfl)
                    (try simp only [Act.put, List.setIfInBounds_toArray, List.set_cons_zero, List.set_cons_succ])
                    refine wpAnyH_take (i := 15) (oi := ⟨some 111, _, _, _, _, _⟩) (v := ?_) rfl (by kernel_rfl) (by kernel_rfl) (by kernel_rfl) (fun _ _ _ h => h) (Or.inl ⟨by rfl, ?_⟩) (by assumption) ?_
                    rotate_left
                    · ((intro w hSw; (try dsimp only at hSw); go_simp); try with_reducible rfl)
                    (try simp only [Act.put, List.setIfInBounds_toArray, List.set_cons_zero, List.set_cons_succ])
                    refine wpAnyH_take (i := 16) (oi := ⟨some 112, _, _, _, _, _⟩) (v := ?_) rfl (by kernel_rfl) (by kernel_rfl) (by kernel_rfl) (fun _ _ _ h => h) (Or.inl ⟨by rfl, ?_⟩) (by assumption) ?_
                    rotate_left
                    · ((intro w hSw; (try dsimp only at hSw); go_simp); try with_reducible rfl)
                    (try simp only [Act.put, List.setIfInBounds_toArray, List.set_cons_zero, List.set_cons_succ])
                    refine wpAnyH_take (i := 17) (oi := ⟨some 113, _, _, _, _, _⟩) (v := ?_) rfl (by kernel_rfl) (by kernel_rfl) (by kernel_rfl) (fun _ _ _ h => h) (Or.inl ⟨by rfl, ?_⟩) (by assumption) ?_
                    rotate_left
                    · ((intro w hSw; (try dsimp only at hSw); go_simp); try with_reducible rfl)
                    (try simp only [Act.put, List.setIfInBounds_toArray, List.set_cons_zero, List.set_cons_succ])
                    refine wpAnyH_take (i := 18) (oi := ⟨some 114, _, _, _, _, _⟩) (v := ?_) rfl (by kernel_rfl) (by kernel_rfl) (by kernel_rfl) (fun _ _ _ h => h) (Or.inl ⟨by rfl, ?_⟩) (by assumption) ?_
                    rotate_left
                    · ((intro w hSw; (try dsimp only at hSw); go_simp); try with_reducible rfl)
                    (try simp only [Act.put, List.setIfInBounds_toArray, List.set_cons_zero, List.set_cons_succ])
                    refine wpAnyH_done (by kernel_rfl) ?_ _
                    go_wp2_with fail
                    go_roundw
                    case rel => exact ⟨k + 1, by omega, by go_num, Lib.hid HZ.out.drew⟩
                    case measure => simp [intOf, hwk]; omega
                  · have HKT : RowKit.Hid ((fun u : World => u.cell? ⟨g3, off3 + k, none⟩ = some (.int .i64 z) ∧ u.cell? ⟨w.heap.size, 1, none⟩ = some (.slice (some ⟨g2, off2, none⟩) i c)) wz.drew) := Lib.hid ⟨hcz2, hc12⟩
                    clear hcz hzm hc1 hcz2 hc12 hg3
                    go_upto_region 26 with fail
                    refine wp_region_held_drew (S := (fun u : World => u.cell? ⟨g3, off3 + k, none⟩ = some (.int .i64 z) ∧ u.cell? ⟨w.heap.size, 1, none⟩ = some (.slice (some ⟨g2, off2, none⟩) i c))) (by kernel_rfl) HKT.out (fun hHeld => ?_)
                    refine wpAnyH_take (i := 0) (oi := ⟨some 96, _, _, _, _, _⟩) (v := ?_) rfl (by kernel_rfl) (by kernel_rfl) (by kernel_rfl) (fun _ _ _ h => h) (Or.inl ⟨by rfl, ?_⟩) (by assumption) ?_
                    rotate_left
                    · ((intro w hSw; (try dsimp only at hSw); go_simp); try with_reducible rfl)
                    (try simp only [Act.put, List.setIfInBounds_toArray, List.set_cons_zero, List.set_cons_succ])
                    refine wpAnyH_take (i := 1) (oi := ⟨some 97, _, _, _, _, _⟩) (v := ?_) rfl (by kernel_rfl) (by kernel_rfl) (by kernel_rfl) (fun _ _ _ h => h) (Or.inl ⟨by rfl, ?_⟩) (by assumption) ?_
                    rotate_left
                    · ((intro w hSw; (try dsimp only at hSw); go_simp); try with_reducible rfl)
                    (try simp only [Act.put, List.setIfInBounds_toArray, List.set_cons_zero, List.set_cons_succ])
                    refine wpAnyH_take (i := 2) (oi := ⟨some 98, _, _, _, _, _⟩) (v := ?_) rfl (by kernel_rfl) (by kernel_rfl) (by kernel_rfl) (fun _ _ _ h => h) (Or.inl ⟨by rfl, ?_⟩) (by assumption) ?_
                    rotate_left
                    · ((intro w hSw; (try dsimp only at hSw); go_simp); try with_reducible rfl)
                    (try simp only [Act.put, List.setIfInBounds_toArray, List.set_cons_zero, List.set_cons_succ])
                    refine wpAnyH_take (i := 3) (oi := ⟨some 99, _, _, _, _, _⟩) (v := ?_) rfl (by kernel_rfl) (by kernel_rfl) (by kernel_rfl) (fun _ _ _ h => h) (Or.inl ⟨by rfl, ?_⟩) (by assumption) ?_
                    rotate_left
                    · ((intro w hSw; (try dsimp only at hSw); go_simp); try with_reducible rfl)
                    (try simp only [Act.put, List.setIfInBounds_toArray, List.set_cons_zero, List.set_cons_succ])
                    refine wpAnyH_take (i := 4) (oi := ⟨some 100, _, _, _, _, _⟩) (v := ?_) rfl (by kernel_rfl) (by kernel_rfl) (by kernel_rfl) (fun _ _ _ h => h) (Or.inl ⟨by rfl, ?_⟩) (by assumption) ?_
                    rotate_left
                    · ((intro w hSw; (try dsimp only at hSw); go_simp); try with_reducible rfl)
                    (try simp only [Act.put, List.setIfInBounds_toArray, List.set_cons_zero, List.set_cons_succ])
                    refine wpAnyH_take (i := 5) (oi := ⟨some 101, _, _, _, _, _⟩) (v := ?_) rfl (by kernel_rfl) (by kernel_rfl) (by kernel_rfl) (fun _ _ _ h => h) (Or.inl ⟨by rfl, ?_⟩) (by assumption) ?_
                    rotate_left
                    · ((intro w hSw; (try dsimp only at hSw); go_simp); try with_reducible rfl)
                    (try simp only [Act.put, List.setIfInBounds_toArray, List.set_cons_zero, List.set_cons_succ])
                    refine wpAnyH_take (i := 6) (oi := ⟨some 102, _, _, _, _, _⟩) (v := ?_) rfl (by kernel_rfl) (by kernel_rfl) (by kernel_rfl) (fun _ _ _ h => h) (Or.inl ⟨by rfl, ?_⟩) (by assumption) ?_
                    rotate_left
                    · ((intro w hSw; (try dsimp only at hSw); go_simp); try with_reducible rfl)
                    (try simp only [Act.put, List.setIfInBounds_toArray, List.set_cons_zero, List.set_cons_succ])
                    refine wpAnyH_take (i := 7) (oi := ⟨some 103, _, _, _, _, _⟩) (v := ?_) rfl (by kernel_rfl) (by kernel_rfl) (by kernel_rfl) (fun _ _ _ h => h) (Or.inl ⟨by rfl, ?_⟩) (by assumption) ?_
                    rotate_left
                    · ((intro w hSw; (try dsimp only at hSw); go_simp); try with_reducible rfl)
                    (try simp only [Act.put, List.setIfInBounds_toArray, List.set_cons_zero, List.set_cons_succ])
                    refine wpAnyH_take (i := 8) (oi := ⟨some 104, _, _, _, _, _⟩) (v := ?_) rfl (by kernel_rfl) (by kernel_rfl) (by kernel_rfl) (fun _ _ _ h => h) (Or.inl ⟨by rfl, ?_⟩) (by assumption) ?_
                    rotate_left
                    · ((intro w hSw; (try dsimp only at hSw); go_simp); try with_reducible rfl)
                    (try simp only [Act.put, List.setIfInBounds_toArray, List.set_cons_zero, List.set_cons_succ])
                    refine wpAnyH_take (i := 9) (oi := ⟨some 105, _, _, _, _, _⟩) (v := undef) rfl (by kernel_rfl) (by kernel_rfl) (by kernel_rfl) (fun _ _ _ h => h) (Or.inr ⟨by rfl, rfl⟩) (by assumption) ?_
                    (try simp only [Act.put, List.setIfInBounds_toArray, List.set_cons_zero, List.set_cons_succ])
                    refine wpAnyH_take (i := 10) (oi := ⟨some 106, _, _, _, _, _⟩) (v := undef) rfl (by kernel_rfl) (by kernel_rfl) (by kernel_rfl) (fun _ _ _ h => h) (Or.inr ⟨by rfl, rfl⟩) (by assumption) ?_
                    (try simp only [Act.put, List.setIfInBounds_toArray, List.set_cons_zero, List.set_cons_succ])
                    refine wpAnyH_take (i := 11) (oi := ⟨some 107, _, _, _, _, _⟩) (v := undef) rfl (by kernel_rfl) (by kernel_rfl) (by kernel_rfl) (fun _ _ _ h => h) (Or.inr ⟨by rfl, rfl⟩) (by assumption) ?_
                    (try simp only [Act.put, List.setIfInBounds_toArray, List.set_cons_zero, List.set_cons_succ])
                    refine wpAnyH_take (i := 12) (oi := ⟨some 108, _, _, _, _, _⟩) (v := undef) rfl (by kernel_rfl) (by kernel_rfl) (by kernel_rfl) (fun _ _ _ h => h) (Or.inr ⟨by rfl, rfl⟩) (by assumption) ?_
                    (try simp only [Act.put, List.setIfInBounds_toArray, List.set_cons_zero, List.set_cons_succ])
                    refine wpAnyH_take (i := 13) (oi := ⟨some 109, _, _, _, _, _⟩) (v := undef) rfl (by kernel_rfl) (by kernel_rfl) (by kernel_rfl) (fun _ _ _ h => h) (Or.inr ⟨by rfl, rfl⟩) (by assumption) ?_
                    (try simp only [Act.put, List.setIfInBounds_toArray, List.set_cons_zero, List.set_cons_succ])
                    refine wpAnyH_take (i := 14) (oi := ⟨some 110, _, _, _, _, _⟩) (v := undef) rfl (by kernel_rfl) (by kernel_rfl) (by kernel_rfl) (fun _ _ _ h => h) (Or.inr ⟨by rfl, rfl⟩) (by assumption) ?_
                    (try simp only [Act.put, List.setIfInBounds_toArray, List.set_cons_zero, List.set_cons_succ])
                    refine wpAnyH_take (i := 15) (oi := ⟨some 111, _, _, _, _, _⟩) (v := undef) rfl (by kernel_rfl) (by kernel_rfl) (by kernel_rfl) (fun _ _ _ h => h) (Or.inr ⟨by rfl, rfl⟩) (by assumption) ?_
                    (try simp only [Act.put, List.setIfInBounds_toArray, List.set_cons_zero, List.set_cons_succ])
                    refine wpAnyH_take (i := 16) (oi := ⟨some 112, _, _, _, _, _⟩) (v := undef) rfl (by kernel_rfl) (by kernel_rfl) (by kernel_rfl) (fun _ _ _ h => h) (Or.inr ⟨by rfl, rfl⟩) (by assumption) ?_
                    (try simp only [Act.put, List.setIfInBounds_toArray, List.set_cons_zero, List.set_cons_succ])
                    refine wpAnyH_take (i := 17) (oi := ⟨some 113, _, _, _, _, _⟩) (v := undef) rfl (by kernel_rfl) (by kernel_rfl) (by kernel_rfl) (fun _ _ _ h => h) (Or.inr ⟨by rfl, rfl⟩) (by assumption) ?_
                    (try simp only [Act.put, List.setIfInBounds_toArray, List.set_cons_zero, List.set_cons_succ])
                    refine wpAnyH_take (i := 18) (oi := ⟨some 114, _, _, _, _, _⟩) (v := ?_) rfl (by kernel_rfl) (by kernel_rfl) (by kernel_rfl) (fun _ _ _ h => h) (Or.inl ⟨by rfl, ?_⟩) (by assumption) ?_
                    rotate_left
                    · ((intro w hSw; (try dsimp only at hSw); go_simp); try with_reducible rfl)
                    (try simp only [Act.put, List.setIfInBounds_toArray, List.set_cons_zero, List.set_cons_succ])
                    refine wpAnyH_done (by kernel_rfl) ?_ _
                    go_wp2_with fail
                    go_roundw
                    case rel => exact ⟨k + 1, by omega, by go_num, Lib.hid HZ.out.drew⟩
                    case measure => simp [intOf, hwk]; omega
                · obtain rfl : k = yn := by omega
                  go_wp2_with fail
                  go_roundw
                  case rel => exact ⟨x + 1, by omega, by go_num, Lib.hid (HX.out.since (HK1.out.trans (HZ.out.mono HK1.out.size)))⟩
                  case measure => simp [intOf, hwx]; omega
            · go_wp2_with (go_at_call 21; refine (lives_any wx).mono ?_; rintro e w9 ⟨rfl, hb9⟩; have HB9 := Lib.hid hb9; clear hb9)
              go_ret
              exact ⟨rfl, HX.out.law.bel.trans (HB9.out.mono HX.out.law.bel.size)⟩
end Go.Proofs.Ytccajbgdlicbnaa
