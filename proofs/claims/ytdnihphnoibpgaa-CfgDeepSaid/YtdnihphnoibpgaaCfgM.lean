/- Layer 7: the document's Deep: how far blocks are, by rounds. -/
import Derived.Test.YtdnihphnoibpgaaCfgK
namespace Go.Proofs.Ytdnihphnoibpgaa
open Go.RowKit (wrap64 intOf Below)
set_option linter.unusedVariables false
set_option linter.unusedSimpArgs false

theorem own_addr {W : World} {B : Nat} {e : TypeId} {va : Option Addr} {vn vc : Nat} {Z : List Int} (h : OwnsI W B e (.slice va vn vc) Z) (h0 : 0 < Z.length) : ∃ g, va = some ⟨g, 0, none⟩ ∧ B ≤ g ∧ g < W.heap.size := by
  rcases h.2 with ⟨e, h'⟩ | ⟨g, cap, cur, e, hB, hh, _⟩
  · omega
  · cases e; exact ⟨g, rfl, hB, (Array.getElem?_eq_some_iff.1 hh).1⟩
theorem own_cell {W : World} {B : Nat} {e : TypeId} {g vn vc : Nat} {Z : List Int} (h : OwnsI W B e (.slice (some ⟨g, 0, none⟩) vn vc) Z) {j : Nat} (hj : j < Z.length) : W.cell? ⟨g, j, none⟩ = some (.int .i64 (nth Z j)) := by
  have := World.ownsRow.cells h rfl j (numV Z[j]) (by rw [List.getElem?_map, List.getElem?_eq_getElem hj]; rfl)
  rw [addr_plain, Nat.zero_add] at this
  rw [nth_is hj]
  exact this
theorem own_free {W : World} {B : Nat} {e : TypeId} {g vn vc : Nat} {Z : List Int} (h : OwnsI W B e (.slice (some ⟨g, 0, none⟩) vn vc) Z) (j : Nat) : W.frozen? ⟨g, j, none⟩ = false := by
  have hn := h.read.1
  subst hn
  exact World.ownsRow.frozenAt h j
theorem own_store {W : World} {B : Nat} {e : TypeId} {g vn vc : Nat} {Z : List Int} (h : OwnsI W B e (.slice (some ⟨g, 0, none⟩) vn vc) Z) (j : Nat) (z : Int) : OwnsI (W.setCell ⟨g, j, none⟩ (.int .i64 z)) B e (.slice (some ⟨g, 0, none⟩) vn vc) (Z.set j z) := by
  have hn := h.read.1
  subst hn
  have := (World.ownsRow.stored h j (.int .i64 z)).1
  show World.ownsRow _ B e 1 _ (Z.set j z).length ((Z.set j z).map numV)
  rw [List.length_set, List.map_set]
  exact this
/-- How far, at first. -/
def initL (i : Nat) : List Int := (List.range i).map fun x => if x = 0 then 0 else -1
theorem initL_len (i : Nat) : (initL i).length = i := by simp [initL]
theorem initL_more (i : Nat) : initL (i + 1) = initL i ++ [if i = 0 then 0 else -1] := by simp [initL, List.range_succ]
theorem initL_at {i x : Nat} (h : x < i) : nth (initL i) x = if x = 0 then 0 else -1 := by
  rw [nth_is (by rw [initL_len]; exact h)]
  simp [initL]
/-- Where the document's Deep stands. -/
structure RdSt (w : World) (r : Int) (a : Option Addr) (n c : Nat) (va : Option Addr) (vn vc : Nat) (DL : List Int) (W : World) : Prop where
  law : LawSt w r a n c none 0 [] W
  own : OwnsI W (w.heap.size + 1) 3 (.slice va vn vc) DL
  len : DL.length = n
theorem RdSt.since {w : World} {r : Int} {a : Option Addr} {n c : Nat} {va : Option Addr} {vn vc : Nat} {DL : List Int} {W W' : World} (h : RdSt w r a n c va vn vc DL W) (hb : Below W.heap.size W W') : RdSt w r a n c va vn vc DL W' :=
  ⟨h.law.since hb, h.own.below hb, h.len⟩
theorem law_above {w : World} {r : Int} {a : Option Addr} {n c : Nat} {W W' : World} (h : LawSt w r a n c none 0 [] W) (hb : Below (w.heap.size + 1) W W') : LawSt w r a n c none 0 [] W' :=
  ⟨h.bel.trans (hb.mono (by omega)), Nat.lt_of_lt_of_le h.siz hb.size, (hb.cell (p := ⟨w.heap.size, 0, none⟩) (Nat.lt_succ_self _)).trans h.c0, (hb.cell (p := ⟨w.heap.size, 1, none⟩) (Nat.lt_succ_self _)).trans h.c1, NumsAt.nil _ _⟩
theorem RdSt.store {w : World} {r : Int} {a : Option Addr} {n c : Nat} {g vn vc : Nat} {DL : List Int} {W : World} (h : RdSt w r a n c (some ⟨g, 0, none⟩) vn vc DL W) (hg : w.heap.size + 1 ≤ g) (j : Nat) (z : Int) : RdSt w r a n c (some ⟨g, 0, none⟩) vn vc (DL.set j z) (W.setCell ⟨g, j, none⟩ (.int .i64 z)) :=
  ⟨law_above h.law ((Below.refl _ W).setCell (p := ⟨g, j, none⟩) hg _), own_store h.own j z, by simp [h.len]⟩
/-- A list that does not lie in block b. -/
def NotIn (ya : Option Addr) (yn b : Nat) : Prop := ∀ g' off, ya = some ⟨g', off, none⟩ → 0 < yn → g' ≠ b
theorem nums_store {W : World} {ya : Option Addr} {yn : Nat} {L : List Int} (h : NumsAt W ya yn L) {g j : Nat} {x : Value} (hne : NotIn ya yn g) : NumsAt (W.setCell ⟨g, j, none⟩ x) ya yn L :=
  h.off (X := fun k => k = g) (Off.setCell (X := fun k => k = g) (p := ⟨g, j, none⟩) (Off.refl (fun k => k = g) W) (.inl rfl) x) (fun g' off e h0 => hne g' off e h0)
set_option maxRecDepth 100000 in
set_option maxHeartbeats 8000000 in
theorem refdeep_any (r : Int) (a : Option Addr) (n c : Nat) (f : FuncD) (w : World) (hrow : RowV BlockQ 8 w (.slice a n c) f.blocks) (hn : n ≤ 1099511627776) :
    Calls Try.prog 21 #[.agg #[.int .i64 r, .slice a n c]] w fun e w' => ∃ va vn vc DL, e = .returned (.slice va vn vc) ∧ OwnsI w' w.heap.size 3 (.slice va vn vc) DL ∧ DL.length = n ∧ Far n (nxF f) (nth DL) ∧ Below w.heap.size w w' := by
  have HROW := Lib.hid hrow
  clear hrow
  go_enter Try.func21, Try.ntmps21
  go_wp2_with fail
  obtain ⟨W0, hW0⟩ : ∃ W0, ((w.alloc (.cells #[.int .i64 r, .slice a n c] 24)).alloc (.cells #[] 3)) = W0 := ⟨_, rfl⟩
  have HS0 : RowKit.Hid (LawSt w r a n c none 0 [] W0) := Lib.hid (by
    have hc : ∀ j, W0.cell? ⟨w.heap.size, j, none⟩ = (#[.int .i64 r, .slice a n c] : Array Value)[j]? := fun j => by
      rw [← hW0, World.cell?_of_block (a := ⟨w.heap.size, j, none⟩) ((World.grownBy_alloc (w.alloc (.cells #[.int .i64 r, .slice a n c] 24)) _ none).block w.heap.size (by simp) (fun e => by cases e))]
      exact World.cell?_alloc_mark _ _ _ _ _
    exact ⟨by rw [← hW0]; exact ((Below.refl w.heap.size w).alloc (Nat.le_refl _) _).alloc (by simp) _, by rw [← hW0]; simp <;> omega, hc 0, hc 1, NumsAt.nil _ _⟩)
  have HO0 : RowKit.Hid (OwnsI W0 (w.heap.size + 1) 3 (.slice (some ⟨w.heap.size + 1, 0, none⟩) 0 0) []) := Lib.hid (by rw [← hW0]; exact OwnsI.laid (by simp) (by omega))
  have HZ0 : RowKit.Hid (w.heap.size + 1 ≤ W0.heap.size) := Lib.hid (by rw [← hW0]; simp)
  rw [hW0]
  clear hW0
  go_loopw [3, 4] (fun v3 v4 wr => ∃ i : Nat, i ≤ n ∧ v4 = .int .i64 (i : Int) ∧ ∃ xa xn xc, v3 = .slice xa xn xc ∧ RowKit.Hid (LawSt w r a n c none 0 [] wr ∧ OwnsI wr (w.heap.size + 1) 3 (.slice xa xn xc) (initL i) ∧ w.heap.size + 1 ≤ wr.heap.size)) (fun _ v4 _ => n - (intOf v4).toNat)
  case atStart => exact ⟨0, Nat.zero_le _, rfl, _, _, _, rfl, Lib.hid ⟨HS0.out, HO0.out, HZ0.out⟩⟩
  case round =>
    obtain ⟨i, hi, rfl, xa, xn, xc, rfl, HI⟩ := hrel
    clear HS0 HO0 HZ0
    obtain ⟨wo, hwo⟩ : ∃ u, u = wr := ⟨_, rfl⟩
    rw [← hwo] at HI ⊢
    clear hwo
    have hc1 := HI.out.1.c1
    have HLZ : RowKit.Hid (((initL i).length + 1) * 8 ≤ 140737488355328) := Lib.hid (by rw [initL_len]; omega)
    have HMORE := Lib.hid (initL_more i)
    by_cases hlt : i < n
    · by_cases h0 : i = 0
      · subst h0
        go_wp2_with ((with_reducible refine wpList_append_num _ rfl _ _ 30 rfl 3 Try.underlying30 info_int (w.heap.size + 1) (.slice xa xn xc) (initL 0) ?_ ?_ ?_ _ 1 wo.heap.size 0 ?_ ?_ ?_ ?_ ?_); (next => rfl); (next => exact HI.out.2.1); (next => exact HI.out.2.2); (next => rfl); (next => rfl); (next => rfl); (next => exact HLZ.out); intro v3 w3 ho3 hb3; obtain ⟨va, vn, vc, rfl, _⟩ := ho3.nums; have HO3 := Lib.hid ho3; have HB3 := Lib.hid hb3; clear ho3 hb3)
        go_roundw
        case rel => exact ⟨1, by omega, by go_num, _, _, _, rfl, Lib.hid ⟨law_above HI.out.1 HB3.out, by have := HO3.out; rw [HMORE.out, if_pos rfl]; exact this, Nat.le_trans HI.out.2.2 HB3.out.size⟩⟩
        case measure => simp [intOf]; omega
      · have h0' : ((i : Int) == 0) = false := by simpa using h0
        go_wp2_with ((with_reducible refine wpList_append_num _ rfl _ _ 30 rfl 3 Try.underlying30 info_int (w.heap.size + 1) (.slice xa xn xc) (initL i) ?_ ?_ ?_ _ 1 wo.heap.size (-1) ?_ ?_ ?_ ?_ ?_); (next => rfl); (next => exact HI.out.2.1); (next => exact HI.out.2.2); (next => rfl); (next => rfl); (next => rfl); (next => exact HLZ.out); intro v3 w3 ho3 hb3; obtain ⟨va, vn, vc, rfl, _⟩ := ho3.nums; have HO3 := Lib.hid ho3; have HB3 := Lib.hid hb3; clear ho3 hb3)
        go_roundw
        case rel => exact ⟨i + 1, by omega, by go_num, _, _, _, rfl, Lib.hid ⟨law_above HI.out.1 HB3.out, by have := HO3.out; rw [HMORE.out, if_neg h0]; exact this, Nat.le_trans HI.out.2.2 HB3.out.size⟩⟩
        case measure => simp [intOf]; omega
    · obtain rfl : i = n := by omega
      have HR0 : RowKit.Hid (RdSt w r a i c xa xn xc (initL i) wo ∧ Rnd i (nxF f) (initL i) 0 (fun _ _ => False)) := Lib.hid ⟨⟨HI.out.1, HI.out.2.1, initL_len i⟩, Rnd.start (initL_len i) fun x hx => initL_at hx⟩
      clear HI HLZ HMORE hi hlt
      clear hc1
      obtain ⟨n, rfl⟩ : ∃ n, n = i := ⟨_, rfl⟩
      have hc1 := HR0.out.1.law.c1
      go_wp2_with fail
      go_loopw [5] (fun v5 wr => ∃ ρ : Nat, ρ ≤ n ∧ v5 = .int .i64 (ρ : Int) ∧ ∃ DL, RowKit.Hid (RdSt w r a n c xa xn xc DL wr ∧ Rnd n (nxF f) DL ρ (fun _ _ => False))) (fun v5 _ => n - (intOf v5).toNat)
      case atStart => exact ⟨0, Nat.zero_le _, rfl, _, HR0⟩
      case round =>
        obtain ⟨ρ, hρ, rfl, DL, HD⟩ := hrel
        clear HR0 hc1
        obtain ⟨wp, hwp⟩ : ∃ u, u = wr := ⟨_, rfl⟩
        rw [← hwp] at HD ⊢
        clear hwp
        have hc1 := HD.out.1.law.c1
        by_cases hρn : ρ < n
        · go_wp2_with fail
          go_loopw [6] (fun v6 wr => ∃ i : Nat, i ≤ n ∧ v6 = .int .i64 (i : Int) ∧ ∃ DM, RowKit.Hid (RdSt w r a n c xa xn xc DM wr ∧ Rnd n (nxF f) DM ρ (fun p _ => p < i))) (fun v6 _ => n - (intOf v6).toNat)
          case atStart => exact ⟨0, Nat.zero_le _, rfl, DL, Lib.hid ⟨HD.out.1, HD.out.2.weak (fun p x _ _ _ _ h => absurd h (by omega))⟩⟩
          case round =>
            obtain ⟨i, hi, rfl, DM, HM⟩ := hrel
            clear HD hc1
            obtain ⟨wq, hwq⟩ : ∃ u, u = wr := ⟨_, rfl⟩
            rw [← hwq] at HM ⊢
            clear hwq
            have hc1 := HM.out.1.law.c1
            by_cases hlt : i < n
            · obtain ⟨g, off, pa, pn, pc, oa, on, oc, la, ln, lc, ma, mn, mc, rfl, hg, hblk⟩ := block_at (HROW.out.since BlockQ.lasts HM.out.1.law.bel) hlt
              obtain ⟨b0, b1, b2, b3, b4, b5, b6, b7⟩ := hblk wq (Below.refl _ _)
              have HNXF : RowKit.Hid (nextL (theEnd f i) = nxF f i) := Lib.hid rfl
              have HNL : RowKit.Hid ((nxF f i).length ≤ 2) := Lib.hid (next_len _)
              have CN : RowKit.Hid (∀ u, Calls Try.prog 17 #[.agg #[.slice pa pn pc, .slice oa on oc, .int .i64 (theEnd f i).K, .int .i64 (theEnd f i).A, .int .i64 (theEnd f i).To, .int .i64 (theEnd f i).Else, .slice la ln lc, .slice ma mn mc]] u fun e' w' => ∃ va vn vc, e' = .returned (.slice va vn vc) ∧ OwnsI w' u.heap.size 3 (.slice va vn vc) (nxF f i) ∧ Below u.heap.size u w') := Lib.hid fun u => by rw [← HNXF.out]; exact refnext_any pa pn pc oa on oc (theEnd f i).A la ln lc ma mn mc (theEnd f i) u
              clear hblk hg
              generalize (theEnd f i).K = EK at *
              generalize (theEnd f i).A = EA at *
              generalize (theEnd f i).To = ET at *
              generalize (theEnd f i).Else = EE at *
              go_wp2_with (go_at_call 17; refine (CN.out _).mono ?_; rintro e w1 ⟨ya, yn, yc, rfl, ho, hb⟩; have HB1 := Lib.hid hb; have HY1 := Lib.hid ho; clear ho hb)
              obtain ⟨g0, hxa, hg0, hg0s⟩ := own_addr HM.out.1.own (by rw [HM.out.1.len]; omega)
              subst hxa
              have HST : RowKit.Hid (RdSt w r (some ⟨g, off, none⟩) n c (some ⟨g0, 0, none⟩) xn xc DM w1 ∧ NumsAt w1 ya yn (nxF f i) ∧ NotIn ya yn g0 ∧ Rnd n (nxF f) DM ρ (fun p x => p < i ∨ p = i ∧ x ∈ (nxF f i).take 0)) := Lib.hid ⟨HM.out.1.since HB1.out, HY1.out.read, fun g' off' e h0 => by
                have hbk : (Value.slice ya yn yc).ownBlock = some g' := by rw [e]; rfl
                obtain ⟨cur, hc, hB⟩ := ownsI_blk HY1.out hbk
                omega, HM.out.2.weak fun p x _ _ _ _ h => by
                  rcases h with h | ⟨_, h⟩
                  · exact .inl h
                  · simp at h⟩
              have hyn : yn = (nxF f i).length := HY1.out.read.1.symm
              have hyn2 : yn ≤ 2 := by have := HNL.out; omega
              have HYN := Lib.hid hyn
              have HG0 := Lib.hid hg0
              clear b0 b1 b2 b3 b4 b5 b6 b7 CN HM HY1 HB1 hc1 hyn hg0 hg0s
              go_loopw [8] (fun v8 wr => ∃ k : Nat, k ≤ yn ∧ v8 = .int .i64 (k : Int) ∧ ∃ DN, RowKit.Hid (RdSt w r (some ⟨g, off, none⟩) n c (some ⟨g0, 0, none⟩) xn xc DN wr ∧ NumsAt wr ya yn (nxF f i) ∧ NotIn ya yn g0 ∧ Rnd n (nxF f) DN ρ (fun p x => p < i ∨ p = i ∧ x ∈ (nxF f i).take k))) (fun v8 _ => yn - (intOf v8).toNat)
              case atStart => exact ⟨0, Nat.zero_le _, rfl, DM, HST⟩
              case round =>
                obtain ⟨k, hk, rfl, DN, HN⟩ := hrel
                clear HST
                obtain ⟨wz, hwz⟩ : ∃ u, u = wr := ⟨_, rfl⟩
                rw [← hwz] at HN ⊢
                clear hwz
                have HXN : RowKit.Hid (xn = n) := Lib.hid (HN.out.1.own.read.1.symm.trans HN.out.1.len)
                have hci := own_cell HN.out.1.own (j := i) (by rw [HN.out.1.len]; exact hlt)
                obtain ⟨d, hd⟩ : ∃ d, d = nth DN i := ⟨_, rfl⟩
                rw [← hd] at hci
                have HDI := Lib.hid hd
                have HNP := Lib.hid HN.out.2.2.2
                clear hd
                have hix : (i : Int) < (xn : Int) := by have := HXN.out; omega
                have hix0 : (0 : Int) ≤ (i : Int) := by omega
                by_cases hkl : k < yn
                · have hkln : (k : Int) < (yn : Int) := by omega
                  have HKL : RowKit.Hid (k < (nxF f i).length) := Lib.hid (by rw [← HYN.out]; exact hkl)
                  by_cases hdr : d = (ρ : Int)
                  · have hdb : (d == (ρ : Int)) = true := by rw [hdr]; simp
                    have HDR := Lib.hid hdr
                    obtain ⟨g2, off2, hya, hg2, hcs⟩ := HN.out.2.1.2 (by omega)
                    obtain ⟨z, hz⟩ : ∃ z, z = (nxF f i)[k]'HKL.out := ⟨_, rfl⟩
                    have hcz : wz.cell? ⟨g2, off2 + k, none⟩ = some (.int .i64 z) := by rw [hz]; exact hcs k HKL.out
                    have HZ : RowKit.Hid ((nxF f i).take (k + 1) = (nxF f i).take k ++ [z] ∧ z ∈ nxF f i) := Lib.hid ⟨by rw [hz, List.take_succ_eq_append_getElem HKL.out], by rw [hz]; exact List.getElem_mem _⟩
                    have HNE := Lib.hid HN.out.2.2.1
                    subst hya
                    clear hcs hz hg2 hdr
                    by_cases hth : There n z
                    · obtain ⟨b, rfl⟩ : ∃ b : Nat, z = b := ⟨z.toNat, by have := hth.1; omega⟩
                      have hb0 : ¬ (b : Int) < 0 := by omega
                      have hb1 : (b : Int) < (xn : Int) := by have := hth.2; have := HXN.out; omega
                      have HBT := Lib.hid hth
                      have hbn : b < n := by have := hth.2; omega
                      have hcb := own_cell HN.out.1.own (j := b) (by rw [HN.out.1.len]; exact hbn)
                      have hfb := own_free HN.out.1.own b
                      obtain ⟨y, hy⟩ : ∃ y, y = nth DN b := ⟨_, rfl⟩
                      rw [← hy] at hcb
                      have HY := Lib.hid hy
                      clear hy hth
                      by_cases hneg : y < 0
                      · have HNG := Lib.hid hneg
                        go_wp2_with fail
                        go_roundw
                        case rel =>
                          refine ⟨k + 1, by omega, by go_num, DN.set b ((ρ : Int) + 1), Lib.hid ⟨?_, nums_store HN.out.2.1 HNE.out, HNE.out, ?_⟩⟩
                          · have h1 := HN.out.1.store HG0.out b ((ρ : Int) + 1)
                            first | exact h1 | (have hw : wrap64 ((ρ : Int) + 1) = (ρ : Int) + 1 := by unfold wrap64; omega
                                                rw [hw]; exact h1)
                          · have h2 := HNP.out.put (i := i) (t := (b : Int)) hlt HBT.out HZ.out.2 (by rw [← HDI.out]; exact HDR.out) (by have := HNG.out; rw [HY.out] at this; simpa using this)
                            simp only [Int.toNat_natCast] at h2
                            refine h2.weak fun p x _ _ _ _ h => ?_
                            rcases h with h | ⟨h, h'⟩
                            · exact .inl (.inl (.inl h))
                            · rw [HZ.out.1, List.mem_append, List.mem_singleton] at h'
                              rcases h' with h' | h'
                              · exact .inl (.inl (.inr ⟨h, h'⟩))
                              · exact .inl (.inr ⟨h, h'⟩)
                        case measure => simp [intOf]; omega
                      · have HNG := Lib.hid hneg
                        go_wp2_with fail
                        go_roundw
                        case rel =>
                          refine ⟨k + 1, by omega, by go_num, DN, Lib.hid ⟨HN.out.1, HN.out.2.1, HNE.out, HNP.out.weak fun p x _ _ _ _ h => ?_⟩⟩
                          rcases h with h | ⟨h, h'⟩
                          · exact .inl (.inl h)
                          · rw [HZ.out.1, List.mem_append, List.mem_singleton] at h'
                            rcases h' with h' | h'
                            · exact .inl (.inr ⟨h, h'⟩)
                            · subst h'; exact .inr (by have := HNG.out; rw [HY.out] at this; simp only [Int.toNat_natCast]; omega)
                        case measure => simp [intOf]; omega
                    · have HSK : RowKit.Hid (Rnd n (nxF f) DN ρ (fun p x => p < i ∨ p = i ∧ x ∈ (nxF f i).take (k + 1))) := Lib.hid (HNP.out.weak fun p x _ _ hT _ h => by
                        rcases h with h | ⟨h, h'⟩
                        · exact .inl (.inl h)
                        · rw [HZ.out.1, List.mem_append, List.mem_singleton] at h'
                          rcases h' with h' | h'
                          · exact .inl (.inr ⟨h, h'⟩)
                          · subst h'; exact absurd hT hth)
                      by_cases hz0 : z < 0
                      · clear hth
                        go_wp2_with fail
                        go_roundw
                        case rel => exact ⟨k + 1, by omega, by go_num, DN, Lib.hid ⟨HN.out.1, HN.out.2.1, HNE.out, HSK.out⟩⟩
                        case measure => simp [intOf]; omega
                      · have hz1 : ¬ z < (xn : Int) := by intro h; exact hth ⟨by omega, by have := HXN.out; omega⟩
                        clear hth
                        go_wp2_with fail
                        go_roundw
                        case rel => exact ⟨k + 1, by omega, by go_num, DN, Lib.hid ⟨HN.out.1, HN.out.2.1, HNE.out, HSK.out⟩⟩
                        case measure => simp [intOf]; omega
                  · have hdb : (d == (ρ : Int)) = false := by simpa using hdr
                    have HDR := Lib.hid hdr
                    clear hdr
                    go_wp2_with fail
                    go_roundw
                    case rel => exact ⟨i + 1, by omega, by go_num, DN, Lib.hid ⟨HN.out.1, HNP.out.weak fun p x _ _ _ hp h => by
                      by_cases e : p = i
                      · subst e; exact absurd (HDI.out.trans hp) HDR.out
                      · exact .inl (.inl (by omega))⟩⟩
                    case measure => simp [intOf]; omega
                · have hkln : ¬ (k : Int) < (yn : Int) := by omega
                  have hky : k = yn := by omega
                  have HKY := Lib.hid hky
                  clear hky
                  go_wp2_with fail
                  go_roundw
                  case rel => exact ⟨i + 1, by omega, by go_num, DN, Lib.hid ⟨HN.out.1, HNP.out.weak fun p x _ hx _ _ h => by
                    by_cases e : p = i
                    · subst e; exact .inl (.inr ⟨rfl, by rw [HKY.out, HYN.out, List.take_length]; exact hx⟩)
                    · exact .inl (.inl (by omega))⟩⟩
                  case measure => simp [intOf]; omega
            · obtain rfl : i = n := by omega
              go_wp2_with fail
              go_roundw
              case rel => exact ⟨ρ + 1, by omega, by go_num, DM, Lib.hid ⟨HM.out.1, HM.out.2.turn fun p x hp _ _ => hp⟩⟩
              case measure => simp [intOf]; omega
        · obtain rfl : ρ = n := by omega
          go_wp2_with fail
          go_ret
          exact ⟨_, _, _, DL, rfl, HD.out.1.own.mono (by omega), HD.out.1.len, HD.out.2.far, HD.out.1.law.bel⟩
end Go.Proofs.Ytdnihphnoibpgaa
