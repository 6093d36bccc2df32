/- Layer 13: the document's Needed and Left (mk_uleft.py). -/
import Derived.Test.YtdchhfdmingnaaaDoorVT0
import Derived.Test.YtdchhfdmingnaaaDoorVUsesX

namespace Go.Proofs.YtdchhfdmingnaaaDoor
open Go.RowKit (wrap64 intOf Below)
set_option linter.unusedVariables false
set_option linter.unusedSimpArgs false
theorem NdSt.push {w : World} {r : Int} {a : Option Addr} {n c : Nat} {va va' : Option Addr} {vn vc vn' vc' : Nat} {Z Z' : List Int} {W W' : World} (h : NdSt w r a n c va vn vc Z W) (hb : Below (w.heap.size + 1) W W') (ho : OwnsI W' (w.heap.size + 1) 3 (.slice va' vn' vc') Z') : NdSt w r a n c va' vn' vc' Z' W' :=
  ⟨⟨h.law.bel.trans (hb.mono (by omega)), Nat.lt_of_lt_of_le h.law.siz hb.size, (hb.cell (p := ⟨w.heap.size, 0, none⟩) (Nat.lt_succ_self _)).trans h.law.c0, (hb.cell (p := ⟨w.heap.size, 1, none⟩) (Nat.lt_succ_self _)).trans h.law.c1, NumsAt.nil _ _⟩, Nat.le_trans h.siz hb.size, ho⟩
theorem nd_enter0 (w : World) (r : Int) (a : Option Addr) (n c : Nat) : NdSt w r a n c (some ⟨w.heap.size + 1, 0, none⟩) 0 0 [] ((w.alloc (.cells #[.int .i64 r, .slice a n c] 30)).alloc (.cells #[] 3)) :=
  ⟨(law_enter13 w r a n c).since ((Below.refl _ _).alloc (Nat.le_refl _) _), by simp, OwnsI.laid (by simp) (by simp)⟩
set_option maxRecDepth 100000 in
set_option maxHeartbeats 4000000 in
theorem refneeded_any (r : Int) (a : Option Addr) (n c : Nat) (f : FuncD) (b0 : Nat) (w : World) (hq : FuncQ w [.int .i64 r, .slice a n c] f) (hsm : SmU f) (hb : b0 < n) :
    Calls Tryd.prog 17 #[.agg #[.int .i64 r, .slice a n c], .int .i64 (b0 : Int)] w (ListPostU (neededU f b0) w) := by
  have hvb : valU f ≤ 100000 := hsm.vals
  obtain ⟨V, hV⟩ : ∃ V, V = valU f := ⟨_, rfl⟩
  have CV : RowKit.Hid (∀ u, Below w.heap.size w u → Calls Tryd.prog 10 #[.agg #[.int .i64 r, .slice a n c]] u fun e w' => e = .returned (.int .i64 (V : Int)) ∧ Below u.heap.size u w') := Lib.hid fun u hu => by
    refine (ref_values r a n c f u (FuncQ.lasts _ _ _ _ hu hq)).mono ?_
    rintro e w' ⟨rfl, hb⟩
    rw [valuesOf_small (by omega), ← hV]
    exact ⟨rfl, hb⟩
  have CN : RowKit.Hid (∀ u (v : Nat), Below w.heap.size w u → Calls Tryd.prog 28 #[.agg #[.int .i64 r, .slice a n c], .int .i64 (b0 : Int), .int .i64 (v : Int)] u fun e w' => e = .returned (.bool (needB f (v : Int) b0)) ∧ Below u.heap.size u w') := Lib.hid fun u v hu => refneeds_any r a n c f b0 v u (FuncQ.lasts _ _ _ _ hu hq) hsm hb
  have HR : RowKit.Hid (neededU f b0 = risingU (fun v => needB f v b0) V) := Lib.hid (by rw [hV]; rfl)
  rw [← hV] at hvb
  obtain ⟨W0, hW0⟩ : ∃ u, u = (w.alloc (.cells #[.int .i64 r, .slice a n c] 30)).alloc (.cells #[] 3) := ⟨_, rfl⟩
  have HS0 : RowKit.Hid (NdSt w r a n c (some ⟨w.heap.size + 1, 0, none⟩) 0 0 [] W0) := Lib.hid (by rw [hW0]; exact nd_enter0 w r a n c)
  clear hq hsm hb hV
  go_enter Tryd.func17, Tryd.ntmps17
  go_upto_region 2 with fail
  rw [← hW0]
  clear hW0
  go_wp2_with fail
  go_loopw [5, 6] (fun v5 v6 wr => ∃ i : Nat, i ≤ V ∧ v6 = .int .i64 (i : Int) ∧ ∃ xa xn xc, v5 = .slice xa xn xc ∧ RowKit.Hid (NdSt w r a n c xa xn xc (risingU (fun v => needB f v b0) i) wr)) (fun _ v6 _ => V - (intOf v6).toNat)
  case atStart => exact ⟨0, Nat.zero_le _, rfl, _, _, _, rfl, Lib.hid (by simpa [risingU] using HS0.out)⟩
  case round =>
    obtain ⟨i, hi, rfl, xa, xn, xc, rfl, HI⟩ := hrel
    clear HS0
    obtain ⟨wp, hwp⟩ : ∃ u, u = wr := ⟨_, rfl⟩
    rw [← hwp] at HI ⊢
    clear hwp
    have f0 := HI.out.law.c0
    have f1 := HI.out.law.c1
    by_cases hlt : i < V
    · have hltz : (i : Int) < (V : Int) := by omega
      have HMORE := Lib.hid (risingU_more (fun v => needB f v b0) i)
      have HBD : RowKit.Hid (((risingU (fun v => needB f v b0) i).length + 1) * 8 ≤ 140737488355328) := Lib.hid (by have := risingU_len (fun v => needB f v b0) i; omega)
      go_upto_region 5 with (go_at_call 10; (with_reducible refine (CV.out _ HI.out.law.bel).mono ?_); rintro e w1 ⟨rfl, hb⟩; have HI1 := Lib.hid (HI.out.since hb); clear hb f0 f1; have f0 := HI1.out.law.c0; have f1 := HI1.out.law.c1)
      have CN1 := CN.out w1 i HI1.out.law.bel
      cases hin : needB f (i : Int) b0 with
      | true =>
        have HIN : RowKit.Hid (risingU (fun v => needB f v b0) (i + 1) = risingU (fun v => needB f v b0) i ++ [(i : Int)]) := Lib.hid (by rw [HMORE.out, if_pos hin])
        rw [hin] at CN1
        have CN2 := Lib.hid CN1
        clear hin CN1
        go_wp2_with (first
          | (go_at_call 28; (with_reducible refine CN2.out.mono ?_); rintro e w2 ⟨rfl, hb⟩; have HI2 := Lib.hid (HI1.out.since hb); clear hb f0 f1)
          | (at_builtin; (with_reducible refine wpList_append_num _ rfl _ _ 34 rfl 3 Tryd.underlying34 info_int (w.heap.size + 1) (.slice xa xn xc) (risingU (fun v => needB f v b0) i) ?_ ?_ ?_ _ 1 w2.heap.size (i : Int) ?_ ?_ ?_ ?_ ?_); (next => rfl); (next => exact HI2.out.own); (next => exact HI2.out.siz); (next => rfl); (next => rfl); (next => rfl); (next => exact HBD.out); intro v3 w3 ho3 hb3; obtain ⟨va, vn, vc, rfl, _⟩ := ho3.nums; have HI3 := Lib.hid (HI2.out.push hb3 ho3); clear ho3 hb3))
        go_roundw
        case rel => exact ⟨i + 1, by omega, by go_num, _, _, _, rfl, Lib.hid (by rw [HIN.out]; exact HI3.out)⟩
        case measure => simp [intOf]; omega
      | false =>
        have HIN : RowKit.Hid (risingU (fun v => needB f v b0) (i + 1) = risingU (fun v => needB f v b0) i) := Lib.hid (by rw [HMORE.out, if_neg (by rw [hin]; simp), List.append_nil])
        rw [hin] at CN1
        have CN2 := Lib.hid CN1
        clear hin CN1
        go_wp2_with (go_at_call 28; (with_reducible refine CN2.out.mono ?_); rintro e w2 ⟨rfl, hb⟩; have HI2 := Lib.hid (HI1.out.since hb); clear hb f0 f1)
        go_roundw
        case rel => exact ⟨i + 1, by omega, by go_num, _, _, _, rfl, Lib.hid (by rw [HIN.out]; exact HI2.out)⟩
        case measure => simp [intOf]; omega
    · obtain rfl : i = V := by omega
      have hge : ¬ ((i : Int) < (i : Int)) := by omega
      go_wp2_with (go_at_call 10; (with_reducible refine (CV.out _ HI.out.law.bel).mono ?_); rintro e w1 ⟨rfl, hb⟩; have HI1 := Lib.hid (HI.out.since hb); clear hb f0 f1)
      go_ret
      exact ⟨_, _, _, rfl, by rw [HR.out]; exact HI1.out.own.mono (by omega), HI1.out.law.bel⟩
noncomputable def anyU (f : FuncD) (v : Int) (L : List Int) : Bool := L.any fun z => decide (There f.blocks.length z) && needB f v z.toNat
theorem anyU_more {f : FuncD} {v : Int} {L : List Int} {k : Nat} (h : k < L.length) : anyU f v (L.take (k + 1)) = (anyU f v (L.take k) || (decide (There f.blocks.length L[k]) && needB f v L[k].toNat)) := by
  unfold anyU
  rw [List.take_succ_eq_append_getElem h, List.any_append]
  simp
theorem anyU_left (f : FuncD) (v : Int) (b : Nat) : leftB f v b = anyU f v (nxF f b) := by
  have h : leftB f v b = true ↔ anyU f v (nxF f b) = true := by
    rw [left_iff]
    unfold anyU
    rw [List.any_eq_true]
    constructor
    · rintro ⟨c, hc, hn⟩
      have hl := hn.lt
      exact ⟨c, hc, by rw [Bool.and_eq_true, decide_eq_true_eq]; exact ⟨⟨by omega, by omega⟩, need_iff.2 (by simpa using hn)⟩⟩
    · rintro ⟨z, hz, h⟩
      rw [Bool.and_eq_true, decide_eq_true_eq] at h
      obtain ⟨c, rfl, hc⟩ := natU_of h.1
      exact ⟨c, hz, by simpa using need_iff.1 h.2⟩
  cases h1 : leftB f v b <;> cases h2 : anyU f v (nxF f b) <;> simp_all
structure LfSt (w : World) (r : Int) (a : Option Addr) (n c : Nat) (xa : Option Addr) (xn xc : Nat) (Z : List Int) (ya : Option Addr) (yn : Nat) (L : List Int) (W : World) : Prop where
  st : NdSt w r a n c xa xn xc Z W
  lst : NumsAt W ya yn L
  apart : ∀ g off, ya = some ⟨g, off, none⟩ → 0 < yn → g < W.heap.size ∧ (Value.slice xa xn xc).ownBlock ≠ some g
section
variable {w W W' : World} {r : Int} {a : Option Addr} {n c : Nat} {xa va : Option Addr} {xn xc vn vc : Nat} {Z Z' : List Int} {ya : Option Addr} {yn : Nat} {L : List Int}
theorem LfSt.since (h : LfSt w r a n c xa xn xc Z ya yn L W) (hb : Below W.heap.size W W') : LfSt w r a n c xa xn xc Z ya yn L W' :=
  ⟨h.st.since hb, h.lst.since hb, fun g off e h0 => ⟨Nat.lt_of_lt_of_le (h.apart g off e h0).1 hb.size, (h.apart g off e h0).2⟩⟩
theorem LfSt.add {C : Array Value} {e : TypeId} (h : LfSt w r a n c xa xn xc Z ya yn L W) (ho : OwnsI W' (w.heap.size + 1) 3 (.slice va vn vc) Z') (hg : (W.alloc (.cells C e)).grownBy W' (Value.slice xa xn xc).ownBlock)
    (hwh : ∀ i, (Value.slice va vn vc).ownBlock = some i → (Value.slice xa xn xc).ownBlock = some i ∨ W.heap.size ≤ i) : LfSt w r a n c va vn vc Z' ya yn L W' := by
  have hU : ∀ k, (Value.slice xa xn xc).ownBlock = some k → w.heap.size + 1 ≤ k := fun k hk => (h.st.own.lt k hk).1
  have hb : Below (w.heap.size + 1) W W' := Below.grown ((Below.refl (w.heap.size + 1) W).alloc h.st.siz _) hg (by simp; have := h.st.siz; omega) (fun k hk => hU k hk)
  have hoff : Off (fun k => (Value.slice xa xn xc).ownBlock = some k) W W' := ((Off.refl _ W).alloc _).grown hg (fun k hk => .inl hk)
  refine ⟨h.st.push hb ho, h.lst.off hoff (fun g off e h0 => (h.apart g off e h0).2), fun g off e h0 => ?_⟩
  obtain ⟨h1, h2⟩ := h.apart g off e h0
  refine ⟨Nat.lt_of_lt_of_le h1 hb.size, fun e' => ?_⟩
  rcases hwh g e' with h3 | h3
  · exact h2 h3
  · omega
end
set_option maxRecDepth 100000 in
set_option maxHeartbeats 8000000 in
theorem refleft_any (r : Int) (a : Option Addr) (n c : Nat) (f : FuncD) (b0 : Nat) (w : World) (hq : FuncQ w [.int .i64 r, .slice a n c] f) (hsm : SmU f) (hb : b0 < n) :
    Calls Tryd.prog 18 #[.agg #[.int .i64 r, .slice a n c], .int .i64 (b0 : Int)] w (ListPostU (leftU f b0) w) := by
  have hvb : valU f ≤ 100000 := hsm.vals
  have HRW : RowKit.Hid (RowV BlockQ 8 w (.slice a n c) f.blocks) := Lib.hid (by
    obtain ⟨bv, he, _, hr⟩ := hq
    simp only [List.cons.injEq, and_true] at he
    obtain ⟨_, rfl⟩ := he
    exact hr)
  have HN : RowKit.Hid (n = f.blocks.length) := Lib.hid (by obtain ⟨_, _, _, e, h, _⟩ := HRW.out; cases e; exact h.symm)
  have hnb : n ≤ 100000 := by rw [HN.out]; exact hsm.blocks
  obtain ⟨V, hV⟩ : ∃ V, V = valU f := ⟨_, rfl⟩
  have CV : RowKit.Hid (∀ u, Below w.heap.size w u → Calls Tryd.prog 10 #[.agg #[.int .i64 r, .slice a n c]] u fun e w' => e = .returned (.int .i64 (V : Int)) ∧ Below u.heap.size u w') := Lib.hid fun u hu => by
    refine (ref_values r a n c f u (FuncQ.lasts _ _ _ _ hu hq)).mono ?_
    rintro e w' ⟨rfl, hb⟩
    rw [valuesOf_small (by omega), ← hV]
    exact ⟨rfl, hb⟩
  have CD : RowKit.Hid (∀ u (b v : Nat), Below w.heap.size w u → b < n → Calls Tryd.prog 28 #[.agg #[.int .i64 r, .slice a n c], .int .i64 (b : Int), .int .i64 (v : Int)] u fun e w' => e = .returned (.bool (needB f (v : Int) b)) ∧ Below u.heap.size u w') := Lib.hid fun u b v hu hb => refneeds_any r a n c f b v u (FuncQ.lasts _ _ _ _ hu hq) hsm hb
  have HR : RowKit.Hid (leftU f b0 = risingU (fun v => leftB f v b0) V) := Lib.hid (by rw [hV]; rfl)
  have HNXF : RowKit.Hid (nextL (theEnd f b0) = nxF f b0) := Lib.hid rfl
  obtain ⟨g, off, pa, pn, pc, oa, on, oc, la, ln, lc, ma, mn, mc, rfl, hg, hblk, hops, hla, hma⟩ := block_atO HRW.out hb
  have CN : RowKit.Hid (∀ u, Calls Tryd.prog 29 #[.agg #[.slice pa pn pc, .slice oa on oc, .int .i64 (theEnd f b0).K, .int .i64 (theEnd f b0).A, .int .i64 (theEnd f b0).To, .int .i64 (theEnd f b0).Else, .slice la ln lc, .slice ma mn mc]] u fun e' w' => ∃ va vn vc, e' = .returned (.slice va vn vc) ∧ OwnsI w' u.heap.size 3 (.slice va vn vc) (nxF f b0) ∧ Below u.heap.size u w') := Lib.hid fun u => by rw [← HNXF.out]; exact refnext_any pa pn pc oa on oc (theEnd f b0).A la ln lc ma mn mc (theEnd f b0) u
  have HNL : RowKit.Hid ((nxF f b0).length ≤ 2) := Lib.hid (next_len _)
  have HLB : RowKit.Hid (∀ v : Int, leftB f v b0 = anyU f v (nxF f b0)) := Lib.hid fun v => anyU_left f v b0
  rw [← hV] at hvb
  obtain ⟨W0, hW0⟩ : ∃ u, u = (w.alloc (.cells #[.int .i64 r, .slice (some ⟨g, off, none⟩) n c] 30)).alloc (.cells #[] 3) := ⟨_, rfl⟩
  have HS0 : RowKit.Hid (NdSt w r (some ⟨g, off, none⟩) n c (some ⟨w.heap.size + 1, 0, none⟩) 0 0 [] W0) := Lib.hid (by rw [hW0]; exact nd_enter0 w r _ n c)
  have hbz : (b0 : Int) < (n : Int) := by omega
  have hb00 : (0 : Int) ≤ (b0 : Int) := by omega
  obtain ⟨b0c, b1, b2, b3, b4, b5, b6, b7⟩ := hblk W0 HS0.out.law.bel
  have f0 := HS0.out.law.c0
  have f1 := HS0.out.law.c1
  clear hq hsm hb hV hblk hops hla hma hg
  subst hW0
  generalize (theEnd f b0).K = EK at *
  generalize (theEnd f b0).A = EA at *
  generalize (theEnd f b0).To = ET at *
  generalize (theEnd f b0).Else = EE at *
  go_enter Tryd.func18, Tryd.ntmps18
  go_upto_region 2 with (go_at_call 29; (with_reducible refine (CN.out _).mono ?_); rintro e w2 ⟨ya, yn, yc, rfl, ho, hb⟩; have HY := Lib.hid ho; have HB2 := Lib.hid hb; clear ho hb)
  clear f0 f1 b0c b1 b2 b3 b4 b5 b6 b7 CN
  have hyl : (nxF f b0).length = yn := HY.out.read.1
  have HYL := Lib.hid hyl
  have hyn2 : yn ≤ 2 := by have := HNL.out; omega
  have HL0 : RowKit.Hid (LfSt w r (some ⟨g, off, none⟩) n c (some ⟨w.heap.size + 1, 0, none⟩) 0 0 [] ya yn (nxF f b0) w2) := Lib.hid ⟨HS0.out.since HB2.out, HY.out.read, fun g' off' e h0 => by
    have hbk : (Value.slice ya yn yc).ownBlock = some g' := by rw [e]; rfl
    obtain ⟨h1, h2⟩ := HY.out.lt g' hbk
    refine ⟨h2, fun e2 => ?_⟩
    have e3 : w.heap.size + 1 = g' := by simpa [Value.ownBlock] using e2
    have h3 := (HS0.out.own.lt (w.heap.size + 1) rfl).2
    omega⟩
  clear hyl HS0 HY HB2
  go_wp2_with fail
  go_loopw [5, 7] (fun v5 v7 wr => ∃ i : Nat, i ≤ V ∧ v7 = .int .i64 (i : Int) ∧ ∃ xa xn xc, v5 = .slice xa xn xc ∧ RowKit.Hid (LfSt w r (some ⟨g, off, none⟩) n c xa xn xc (risingU (fun v => leftB f v b0) i) ya yn (nxF f b0) wr)) (fun _ v7 _ => V - (intOf v7).toNat)
  case atStart => exact ⟨0, Nat.zero_le _, rfl, _, _, _, rfl, Lib.hid (by simpa [risingU] using HL0.out)⟩
  case round =>
    obtain ⟨i, hi, rfl, xa, xn, xc, rfl, HI⟩ := hrel
    clear HL0
    obtain ⟨wp, hwp⟩ : ∃ u, u = wr := ⟨_, rfl⟩
    rw [← hwp] at HI ⊢
    clear hwp
    have f0 := HI.out.st.law.c0
    have f1 := HI.out.st.law.c1
    by_cases hlt : i < V
    · have hltz : (i : Int) < (V : Int) := by omega
      have HMORE := Lib.hid (risingU_more (fun v => leftB f v b0) i)
      have HBD : RowKit.Hid (((risingU (fun v => leftB f v b0) i).length + 1) * 8 ≤ 140737488355328) := Lib.hid (by have := risingU_len (fun v => leftB f v b0) i; omega)
      go_upto_region 5 with (go_at_call 10; (with_reducible refine (CV.out _ HI.out.st.law.bel).mono ?_); rintro e w1 ⟨rfl, hb⟩; have HI1 := Lib.hid (HI.out.since hb); clear hb f0 f1)
      go_wp2_with fail
      go_loopw [8, 9] (fun v8 v9 wr => ∃ k : Nat, k ≤ yn ∧ v9 = .int .i64 (k : Int) ∧ ∃ t : Bool, v8 = .bool t ∧ RowKit.Hid (t = anyU f i ((nxF f b0).take k) ∧ LfSt w r (some ⟨g, off, none⟩) n c xa xn xc (risingU (fun v => leftB f v b0) i) ya yn (nxF f b0) wr)) (fun _ v9 _ => yn - (intOf v9).toNat)
      case atStart => exact ⟨0, Nat.zero_le _, rfl, _, rfl, Lib.hid ⟨by simp [anyU], HI1.out⟩⟩
      case round =>
        obtain ⟨k, hk, rfl, t, rfl, HK⟩ := hrel
        clear HI HI1
        obtain ⟨wz, hwz⟩ : ∃ u, u = wr := ⟨_, rfl⟩
        rw [← hwz] at HK ⊢
        clear hwz
        have f0 := HK.out.2.st.law.c0
        have f1 := HK.out.2.st.law.c1
        by_cases hkl : k < yn
        · have hkli : (k : Int) < (yn : Int) := by omega
          have hk0 : (0 : Int) ≤ (k : Int) := by omega
          have HKL : RowKit.Hid (k < (nxF f b0).length) := Lib.hid (by rw [HYL.out]; exact hkl)
          obtain ⟨g2, off2, hya, hg2, hcs⟩ := HK.out.2.lst.2 (by omega)
          obtain ⟨z, hz⟩ : ∃ z, z = (nxF f b0)[k]'HKL.out := ⟨_, rfl⟩
          have hcz : wz.cell? ⟨g2, off2 + k, none⟩ = some (.int .i64 z) := by rw [hz]; exact hcs k HKL.out
          have HAM : RowKit.Hid (anyU f i ((nxF f b0).take (k + 1)) = (t || (decide (There f.blocks.length z) && needB f i z.toNat))) := Lib.hid (by rw [anyU_more HKL.out, ← HK.out.1, hz])
          have HKS : RowKit.Hid (∀ d, LfSt w r (some ⟨g, off, none⟩) n c xa xn xc (risingU (fun v => leftB f v b0) i) ya yn (nxF f b0) (wz.drewN d)) := Lib.hid fun d => HK.out.2.since (belowU_drewN d (Below.refl _ _))
          have HGC : RowKit.Hid (g2 < wz.heap.size) := Lib.hid hg2
          have HYA := Lib.hid hya
          have HCZ := Lib.hid hcz
          subst hya
          clear hcs hz hg2
          cases t with
          | true =>
            have HM : RowKit.Hid (true = anyU f i ((nxF f b0).take (k + 1))) := Lib.hid (by rw [HAM.out]; rfl)
            go_upto_region 9 with fail
            go_quiet (fail)
            go_wp2_with fail
            go_roundw
            case rel => exact ⟨k + 1, by omega, by go_num, _, rfl, Lib.hid ⟨HM.out, HKS.out _⟩⟩
            case measure => simp [intOf]; omega
          | false =>
            by_cases h0 : 0 ≤ z
            · by_cases h1 : z < (n : Int)
              · obtain ⟨q, hq, hqn⟩ := natU_of (show There n z from ⟨h0, h1⟩)
                subst hq
                have HM : RowKit.Hid (needB f i q = anyU f i ((nxF f b0).take (k + 1))) := Lib.hid (by rw [HAM.out, decide_eq_true (show There f.blocks.length (q : Int) from ⟨h0, by rw [← HN.out]; exact h1⟩)]; simp)
                have CD2 : RowKit.Hid (∀ u, Below w.heap.size w u → Calls Tryd.prog 28 #[.agg #[.int .i64 r, .slice (some ⟨g, off, none⟩) n c], .int .i64 (q : Int), .int .i64 (i : Int)] u fun e w' => e = .returned (.bool (needB f i q)) ∧ Below u.heap.size u w') := Lib.hid fun u hu => CD.out u q i hu hqn
                have HSS : RowKit.Hid (∀ u, Below wz.heap.size wz u → u.cell? ⟨w.heap.size, 0, none⟩ = some (.int .i64 r) ∧ u.cell? ⟨w.heap.size, 1, none⟩ = some (.slice (some ⟨g, off, none⟩) n c) ∧ u.cell? ⟨g2, off2 + k, none⟩ = some (.int .i64 (q : Int))) := Lib.hid fun u hu => ⟨(HK.out.2.st.since hu).law.c0, (HK.out.2.st.since hu).law.c1, (hu.cell (p := ⟨g2, off2 + k, none⟩) HGC.out).trans HCZ.out⟩
                generalize needB f (i : Int) q = bn at *
                clear f0 f1 hcz
                go_upto_region 9 with fail
                refine wp_region_T (S := (fun u : World => u.cell? ⟨w.heap.size, 0, none⟩ = some (.int .i64 r) ∧ u.cell? ⟨w.heap.size, 1, none⟩ = some (.slice (some ⟨g, off, none⟩) n c) ∧ u.cell? ⟨g2, off2 + k, none⟩ = some (.int .i64 (q : Int)))) 28 (by kernel_rfl) (HSS.out _ (Below.refl _ wz).drew) (fun hHeld => ?_)
                refine wpAnyT_takeW (i := 0) (oi := ⟨some 29, _, _, _, _, _⟩) (v := ?_) rfl (by kernel_rfl) (by kernel_rfl) (by kernel_rfl) (fun _ _ _ h => h) (Or.inl ⟨by rfl, ?_⟩) ?_
                rotate_left
                · ((intro w _; go_simp); try with_reducible rfl)
                (try simp only [Act.put, List.setIfInBounds_toArray, List.set_cons_zero, List.set_cons_succ])
                refine wpAnyT_takeW (i := 1) (oi := ⟨some 30, _, _, _, _, _⟩) (v := ?_) rfl (by kernel_rfl) (by kernel_rfl) (by kernel_rfl) (fun _ _ _ h => h) (Or.inl ⟨by rfl, ?_⟩) ?_
                rotate_left
                · ((intro w _; go_simp); try with_reducible rfl)
                (try simp only [Act.put, List.setIfInBounds_toArray, List.set_cons_zero, List.set_cons_succ])
                refine wpAnyT_takeW (i := 2) (oi := ⟨some 31, _, _, _, _, _⟩) (v := ?_) rfl (by kernel_rfl) (by kernel_rfl) (by kernel_rfl) (fun _ _ _ h => h) (Or.inl ⟨by rfl, ?_⟩) ?_
                rotate_left
                · ((intro w _; go_simp); try with_reducible rfl)
                (try simp only [Act.put, List.setIfInBounds_toArray, List.set_cons_zero, List.set_cons_succ])
                refine wpAnyT_takeW (i := 3) (oi := ⟨some 32, _, _, _, _, _⟩) (v := ?_) rfl (by kernel_rfl) (by kernel_rfl) (by kernel_rfl) (fun _ _ _ h => h) (Or.inl ⟨by rfl, ?_⟩) ?_
                rotate_left
                · ((intro w _; go_simp); try with_reducible rfl)
                (try simp only [Act.put, List.setIfInBounds_toArray, List.set_cons_zero, List.set_cons_succ])
                refine wpAnyT_takeW (i := 4) (oi := ⟨some 33, _, _, _, _, _⟩) (v := ?_) rfl (by kernel_rfl) (by kernel_rfl) (by kernel_rfl) (fun _ _ _ h => h) (Or.inl ⟨by rfl, ?_⟩) ?_
                rotate_left
                · ((intro w _; go_simp); try with_reducible rfl)
                (try simp only [Act.put, List.setIfInBounds_toArray, List.set_cons_zero, List.set_cons_succ])
                refine wpAnyT_take (i := 5) (oi := ⟨some 34, _, _, _, _, _⟩) (v := ?_) 8 rfl (by kernel_rfl) (by kernel_rfl) (by kernel_rfl) (by kernel_rfl) (by kernel_rfl) (fun _ _ _ h => h) (Or.inl ⟨by rfl, ?_⟩) (by assumption) ?_
                rotate_left
                · ((intro w hSw; (try dsimp only at hSw); go_simp); try with_reducible rfl)
                (try simp only [Act.put, List.setIfInBounds_toArray, List.set_cons_zero, List.set_cons_succ])
                refine wpAnyT_takeW (i := 6) (oi := ⟨some 35, _, _, _, _, _⟩) (v := ?_) rfl (by kernel_rfl) (by kernel_rfl) (by kernel_rfl) (fun _ _ _ h => h) (Or.inl ⟨by rfl, ?_⟩) ?_
                rotate_left
                · ((intro w _; go_simp); try with_reducible rfl)
                (try simp only [Act.put, List.setIfInBounds_toArray, List.set_cons_zero, List.set_cons_succ])
                refine wpAnyT_takeW (i := 7) (oi := ⟨some 36, _, _, _, _, _⟩) (v := ?_) rfl (by kernel_rfl) (by kernel_rfl) (by kernel_rfl) (fun _ _ _ h => h) (Or.inl ⟨by rfl, ?_⟩) ?_
                rotate_left
                · ((intro w _; go_simp); try with_reducible rfl)
                (try simp only [Act.put, List.setIfInBounds_toArray, List.set_cons_zero, List.set_cons_succ])
                refine wpAnyT_takeW (i := 8) (oi := ⟨some 37, _, _, _, _, _⟩) (v := ?_) rfl (by kernel_rfl) (by kernel_rfl) (by kernel_rfl) (fun _ _ _ h => h) (Or.inl ⟨by rfl, ?_⟩) ?_
                rotate_left
                · ((intro w _; go_simp); try with_reducible rfl)
                (try simp only [Act.put, List.setIfInBounds_toArray, List.set_cons_zero, List.set_cons_succ])
                refine wpAnyT_takeW (i := 9) (oi := ⟨some 38, _, _, _, _, _⟩) (v := ?_) rfl (by kernel_rfl) (by kernel_rfl) (by kernel_rfl) (fun _ _ _ h => h) (Or.inl ⟨by rfl, ?_⟩) ?_
                rotate_left
                · ((intro w _; go_simp); try with_reducible rfl)
                (try simp only [Act.put, List.setIfInBounds_toArray, List.set_cons_zero, List.set_cons_succ])
                refine wpAnyT_takeW (i := 10) (oi := ⟨some 39, _, _, _, _, _⟩) (v := ?_) rfl (by kernel_rfl) (by kernel_rfl) (by kernel_rfl) (fun _ _ _ h => h) (Or.inl ⟨by rfl, ?_⟩) ?_
                rotate_left
                · ((intro w _; go_simp); try with_reducible rfl)
                (try simp only [Act.put, List.setIfInBounds_toArray, List.set_cons_zero, List.set_cons_succ])
                refine wpAnyT_take (i := 11) (oi := ⟨some 40, _, _, _, _, _⟩) (v := ?_) 8 rfl (by kernel_rfl) (by kernel_rfl) (by kernel_rfl) (by kernel_rfl) (by kernel_rfl) (fun _ _ _ h => h) (Or.inl ⟨by rfl, ?_⟩) (by assumption) ?_
                rotate_left
                · ((intro w hSw; (try dsimp only at hSw); go_simp); try with_reducible rfl)
                (try simp only [Act.put, List.setIfInBounds_toArray, List.set_cons_zero, List.set_cons_succ])
                refine wpAnyT_takeW (i := 12) (oi := ⟨some 41, _, _, _, _, _⟩) (v := ?_) rfl (by kernel_rfl) (by kernel_rfl) (by kernel_rfl) (fun _ _ _ h => h) (Or.inl ⟨by rfl, ?_⟩) ?_
                rotate_left
                · ((intro w _; go_simp); try with_reducible rfl)
                (try simp only [Act.put, List.setIfInBounds_toArray, List.set_cons_zero, List.set_cons_succ])
                refine wpAnyT_take (i := 13) (oi := ⟨some 42, _, _, _, _, _⟩) (v := ?_) 8 rfl (by kernel_rfl) (by kernel_rfl) (by kernel_rfl) (by kernel_rfl) (by kernel_rfl) (fun _ _ _ h => h) (Or.inl ⟨by rfl, ?_⟩) (by assumption) ?_
                rotate_left
                · ((intro w hSw; (try dsimp only at hSw); go_simp); try with_reducible rfl)
                (try simp only [Act.put, List.setIfInBounds_toArray, List.set_cons_zero, List.set_cons_succ])
                refine wpAnyT_takeW (i := 14) (oi := ⟨some 43, _, _, _, _, _⟩) (v := ?_) rfl (by kernel_rfl) (by kernel_rfl) (by kernel_rfl) (fun _ _ _ h => h) (Or.inl ⟨by rfl, ?_⟩) ?_
                rotate_left
                · ((intro w _; go_simp); try with_reducible rfl)
                (try simp only [Act.put, List.setIfInBounds_toArray, List.set_cons_zero, List.set_cons_succ])
                refine wpAnyT_takeW (i := 15) (oi := ⟨some 44, _, _, _, _, _⟩) (v := ?_) rfl (by kernel_rfl) (by kernel_rfl) (by kernel_rfl) (fun _ _ _ h => h) (Or.inl ⟨by rfl, ?_⟩) ?_
                rotate_left
                · ((intro w _; go_simp); try with_reducible rfl)
                (try simp only [Act.put, List.setIfInBounds_toArray, List.set_cons_zero, List.set_cons_succ])
                refine wpAnyT_takeW (i := 16) (oi := ⟨some 45, _, _, _, _, _⟩) (v := ?_) rfl (by kernel_rfl) (by kernel_rfl) (by kernel_rfl) (fun _ _ _ h => h) (Or.inl ⟨by rfl, ?_⟩) ?_
                rotate_left
                · ((intro w _; go_simp); try with_reducible rfl)
                (try simp only [Act.put, List.setIfInBounds_toArray, List.set_cons_zero, List.set_cons_succ])
                refine wpAnyT_takeW (i := 17) (oi := ⟨some 46, _, _, _, _, _⟩) (v := ?_) rfl (by kernel_rfl) (by kernel_rfl) (by kernel_rfl) (fun _ _ _ h => h) (Or.inl ⟨by rfl, ?_⟩) ?_
                rotate_left
                · ((intro w _; go_simp); try with_reducible rfl)
                (try simp only [Act.put, List.setIfInBounds_toArray, List.set_cons_zero, List.set_cons_succ])
                refine wpAnyT_take (i := 18) (oi := ⟨some 47, _, _, _, _, _⟩) (v := ?_) 8 rfl (by kernel_rfl) (by kernel_rfl) (by kernel_rfl) (by kernel_rfl) (by kernel_rfl) (fun _ _ _ h => h) (Or.inl ⟨by rfl, ?_⟩) (by assumption) ?_
                rotate_left
                · ((intro w hSw; (try dsimp only at hSw); go_simp); try with_reducible rfl)
                (try simp only [Act.put, List.setIfInBounds_toArray, List.set_cons_zero, List.set_cons_succ])
                refine wpAnyT_takeW (i := 19) (oi := ⟨some 48, _, _, _, _, _⟩) (v := ?_) rfl (by kernel_rfl) (by kernel_rfl) (by kernel_rfl) (fun _ _ _ h => h) (Or.inl ⟨by rfl, ?_⟩) ?_
                rotate_left
                · ((intro w _; go_simp); try with_reducible rfl)
                (try simp only [Act.put, List.setIfInBounds_toArray, List.set_cons_zero, List.set_cons_succ])
                refine wpAnyT_takeW (i := 20) (oi := ⟨some 49, _, _, _, _, _⟩) (v := ?_) rfl (by kernel_rfl) (by kernel_rfl) (by kernel_rfl) (fun _ _ _ h => h) (Or.inl ⟨by rfl, ?_⟩) ?_
                rotate_left
                · ((intro w _; go_simp); try with_reducible rfl)
                (try simp only [Act.put, List.setIfInBounds_toArray, List.set_cons_zero, List.set_cons_succ])
                refine wpAnyT_takeW (i := 21) (oi := ⟨some 50, _, _, _, _, _⟩) (v := ?_) rfl (by kernel_rfl) (by kernel_rfl) (by kernel_rfl) (fun _ _ _ h => h) (Or.inl ⟨by rfl, ?_⟩) ?_
                rotate_left
                · ((intro w _; go_simp); try with_reducible rfl)
                (try simp only [Act.put, List.setIfInBounds_toArray, List.set_cons_zero, List.set_cons_succ])
                refine wpAnyT_take (i := 22) (oi := ⟨some 51, _, _, _, _, _⟩) (v := ?_) 8 rfl (by kernel_rfl) (by kernel_rfl) (by kernel_rfl) (by kernel_rfl) (by kernel_rfl) (fun _ _ _ h => h) (Or.inl ⟨by rfl, ?_⟩) (by assumption) ?_
                rotate_left
                · ((intro w hSw; (try dsimp only at hSw); go_simp); try with_reducible rfl)
                (try simp only [Act.put, List.setIfInBounds_toArray, List.set_cons_zero, List.set_cons_succ])
                refine wpAnyT_takeW (i := 23) (oi := ⟨some 52, _, _, _, _, _⟩) (v := ?_) rfl (by kernel_rfl) (by kernel_rfl) (by kernel_rfl) (fun _ _ _ h => h) (Or.inl ⟨by rfl, ?_⟩) ?_
                rotate_left
                · ((intro w _; go_simp); try with_reducible rfl)
                (try simp only [Act.put, List.setIfInBounds_toArray, List.set_cons_zero, List.set_cons_succ])
                refine wpAnyT_one (i := 24) (by kernel_rfl) rfl (fun K hK => ?_)
                rw [if_pos (by rfl)]
                go_simp
                (with_reducible refine (CD2.out _ (HK.out.2.st.law.bel.trans ((Below.refl _ _).drew))).mono ?_)
                rintro e w4 ⟨rfl, hb⟩
                have HB4 : RowKit.Hid (Below wz.heap.size wz w4) := Lib.hid (((Below.refl _ wz).drew).trans hb)
                have HK4 := Lib.hid (HK.out.2.since HB4.out)
                clear hb
                refine hK.out _ _ (HSS.out _ HB4.out) (fun hHeld => ?_)
                clear hK K
                (try simp only [Act.put, List.setIfInBounds_toArray, List.set_cons_zero, List.set_cons_succ])
                refine wpAnyT_takeW (i := 25) (oi := ⟨some 54, _, _, _, _, _⟩) (v := ?_) rfl (by kernel_rfl) (by kernel_rfl) (by kernel_rfl) (fun _ _ _ h => h) (Or.inl ⟨by rfl, ?_⟩) ?_
                rotate_left
                · ((intro w _; go_simp); try with_reducible rfl)
                (try simp only [Act.put, List.setIfInBounds_toArray, List.set_cons_zero, List.set_cons_succ])
                refine wpAnyT_takeW (i := 26) (oi := ⟨some 55, _, _, _, _, _⟩) (v := ?_) rfl (by kernel_rfl) (by kernel_rfl) (by kernel_rfl) (fun _ _ _ h => h) (Or.inl ⟨by rfl, ?_⟩) ?_
                rotate_left
                · ((intro w _; go_simp); try with_reducible rfl)
                (try simp only [Act.put, List.setIfInBounds_toArray, List.set_cons_zero, List.set_cons_succ])
                refine wpAnyT_takeW (i := 27) (oi := ⟨some 8, _, _, _, _, _⟩) (v := ?_) rfl (by kernel_rfl) (by kernel_rfl) (by kernel_rfl) (fun _ _ _ h => h) (Or.inl ⟨by rfl, ?_⟩) ?_
                rotate_left
                · ((intro w _; go_simp); try with_reducible rfl)
                (try simp only [Act.put, List.setIfInBounds_toArray, List.set_cons_zero, List.set_cons_succ])
                refine wpAnyT_done (by kernel_rfl) ?_
                go_wp2_with fail
                go_roundw
                case rel => exact ⟨k + 1, by omega, by go_num, _, rfl, Lib.hid ⟨HM.out, HK4.out⟩⟩
                case measure => simp [intOf]; omega
              · have HM : RowKit.Hid (false = anyU f i ((nxF f b0).take (k + 1))) := Lib.hid (by rw [HAM.out, decide_eq_false (show ¬ There f.blocks.length z from fun h => h1 (by rw [HN.out]; exact h.2))]; rfl)
                go_upto_region 9 with fail
                go_quiet (fail)
                go_wp2_with fail
                go_roundw
                case rel => exact ⟨k + 1, by omega, by go_num, _, rfl, Lib.hid ⟨HM.out, HKS.out _⟩⟩
                case measure => simp [intOf]; omega
            · have HM : RowKit.Hid (false = anyU f i ((nxF f b0).take (k + 1))) := Lib.hid (by rw [HAM.out, decide_eq_false (show ¬ There f.blocks.length z from fun h => h0 h.1)]; rfl)
              go_upto_region 9 with fail
              go_quiet (fail)
              go_wp2_with fail
              go_roundw
              case rel => exact ⟨k + 1, by omega, by go_num, _, rfl, Lib.hid ⟨HM.out, HKS.out _⟩⟩
              case measure => simp [intOf]; omega
        · have hkz2 : ¬ ((k : Int) < (yn : Int)) := by omega
          have HT : RowKit.Hid (t = leftB f i b0) := Lib.hid (by rw [HLB.out, HK.out.1, List.take_of_length_le (by rw [HYL.out]; omega)])
          cases t with
          | true =>
            have HIN : RowKit.Hid (risingU (fun v => leftB f v b0) (i + 1) = risingU (fun v => leftB f v b0) i ++ [(i : Int)]) := Lib.hid (by rw [HMORE.out, if_pos HT.out.symm])
            go_wp2_with (at_builtin; (with_reducible refine wpList_append_numU _ rfl _ _ 34 rfl 3 Tryd.underlying34 info_int (w.heap.size + 1) (.slice xa xn xc) (risingU (fun v => leftB f v b0) i) ?_ ?_ ?_ _ 1 wz.heap.size (i : Int) ?_ ?_ ?_ ?_ ?_); (next => rfl); (next => exact HK.out.2.st.own); (next => exact HK.out.2.st.siz); (next => rfl); (next => rfl); (next => rfl); (next => exact HBD.out); intro va vn vc w3 ho3 hg3 hwh3; have HI3 := Lib.hid (HK.out.2.add ho3 hg3 hwh3); clear ho3 hg3 hwh3)
            go_roundw
            case rel => exact ⟨i + 1, by omega, by go_num, _, _, _, rfl, Lib.hid (by rw [HIN.out]; exact HI3.out)⟩
            case measure => simp [intOf]; omega
          | false =>
            have HIN : RowKit.Hid (risingU (fun v => leftB f v b0) (i + 1) = risingU (fun v => leftB f v b0) i) := Lib.hid (by rw [HMORE.out, if_neg (by rw [← HT.out]; simp), List.append_nil])
            go_wp2_with fail
            go_roundw
            case rel => exact ⟨i + 1, by omega, by go_num, _, _, _, rfl, Lib.hid (by rw [HIN.out]; exact HK.out.2)⟩
            case measure => simp [intOf]; omega
    · obtain rfl : i = V := by omega
      have hge : ¬ ((i : Int) < (i : Int)) := by omega
      go_wp2_with (go_at_call 10; (with_reducible refine (CV.out _ HI.out.st.law.bel).mono ?_); rintro e w1 ⟨rfl, hb⟩; have HI1 := Lib.hid (HI.out.since hb); clear hb f0 f1)
      go_ret
      exact ⟨_, _, _, rfl, by rw [HR.out]; exact HI1.out.st.own.mono (by omega), HI1.out.st.law.bel⟩
end Go.Proofs.YtdchhfdmingnaaaDoor
