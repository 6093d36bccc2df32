/- Layer 5: the document's writer (W): a step (mk_vc.py). -/
import Derived.Test.YtdchhfdmingnaaaDoorFCodeVb
import Derived.Test.YtdchhfdmingnaaaDoorFT5
import Derived.Deep.RegionLaw
namespace Go.Proofs.YtdchhfdmingnaaaDoor
open Go.RowKit (wrap64 intOf Below)
set_option linter.unusedVariables false
set_option linter.unusedSimpArgs false
attribute [local go_sem ↓] Go.wp_at_zero Go.wp_at_succ
theorem fields_take (K : Int) (j : Nat) : ((fieldsL K).take j).length ≤ 3 := by
  rw [List.length_take]; have := fields_le K; omega
theorem Upto.field (o : OpD) (f : UInt8) : Upto (encField o f) 90 := by
  unfold encField
  repeat' split
  · exact (Upto.num _).mono (by omega)
  · by_cases hs : o.S.size ≤ 64
    · refine ((Upto.check _ _).and (b := .ok (putS o.S)) (m := 90) ?_).mono (by omega)
      intro l h
      simp only [Out.ok.injEq] at h
      subst h
      have := putL_len (o.S.size : Int)
      have hl : o.S.data.toList.length = o.S.size := by rw [Array.length_toList]; rfl
      simp only [putS, List.length_append, hl]
      omega
    · intro l h
      simp only [chk, hs, decide_false, Bool.false_eq_true, if_false, Out.no_and] at h
      cases h
  · exact (Upto.num _).mono (by omega)
  · exact (Upto.num _).mono (by omega)
  · exact (Upto.num _).mono (by omega)
  · exact (Upto.nums _ _).mono (by omega)
  all_goals exact (Upto.num _).mono (by omega)
theorem VB.put {w : World} {d T X : Nat} {C : Array Value} {u : World} {va ub : Option Addr} {vn vc um ud : Nat} {l m : List UInt8} {y : Int} (h : VB w d T X C u va vn vc l y) (ho : OwnsB u (d + 1) 5 (.slice ub um ud) m) : VB w d T X C (u.setCell ⟨d, 0, none⟩ (.slice ub um ud)) ub um ud m y :=
  ⟨h.vs.put ho, Off.setCell (p := ⟨d, 0, none⟩) h.off (.inl rfl) _, (Below.heap_setCell _ _ _ _ h.ne).trans h.e, h.ne⟩
theorem Wrote.okay (l m : List UInt8) : Wrote (.ok m) l 0 (l ++ m) 0 := ⟨fun hh => absurd rfl hh, fun _ => ⟨fun m' hm => (by cases hm; exact ⟨rfl, rfl⟩), fun e he => (by cases he)⟩⟩
section
variable {α : Type} {o : Out} {f : α → Out} {xs : List α} {j : Nat} {l l1 l2 : List UInt8} {y y1 y2 : Int}
theorem Wrote.next (h : Wrote (o.and (encAll f (xs.take j))) l y l1 y1) (hj : j < xs.length) (k : Wrote (f xs[j]) l1 y1 l2 y2) : Wrote (o.and (encAll f (xs.take (j + 1)))) l y l2 y2 :=
  (h.and k).of (by rw [Out.and_assoc, encAll_take f xs j hj])
theorem Wrote.rest (h : Wrote (o.and (encAll f (xs.take j))) l y l1 y1) (hn : xs.length ≤ j ∨ y1 ≠ 0) : Wrote (o.and (encAll f xs)) l y l1 y1 := by
  rcases hn with hn | hn
  · rwa [List.take_of_length_le hn] at h
  · refine (h.dead hn (b := encAll f (xs.drop j))).of ?_
    rw [Out.and_assoc, ← encAll_append, List.take_append_drop]
end
theorem OpQ.vals {w : World} {K A B C N : Int} {S : ByteArray} {p : Value} {T : Bool} {y : OpD} (h : OpQ w [.int .i64 K, .int .i64 A, .int .i64 B, .int .i64 C, .int .i64 N, .string S, p, .bool T] y) : (y.K = K ∧ y.A = A ∧ y.B = B ∧ y.C = C ∧ y.N = N ∧ y.S = S ∧ y.T = T) ∧ (InR K ∧ InR A ∧ InR B ∧ InR C ∧ InR N) ∧ S.size ≤ 140737488351232 ∧ (∀ z ∈ y.L, InR z) := by
  obtain ⟨_, he, r1, r2, r3, r4, r5, r6, ⟨_, _, _, _, _, _, _, rL⟩⟩ := h
  simp only [List.cons.injEq, Value.int.injEq, Value.string.injEq, Value.bool.injEq, true_and, and_true] at he
  obtain ⟨e1, e2, e3, e4, e5, e6, _, e7⟩ := he
  rw [e1, e2, e3, e4, e5, e6, e7]
  exact ⟨⟨rfl, rfl, rfl, rfl, rfl, rfl, rfl⟩, ⟨r1, r2, r3, r4, r5⟩, r6, rL⟩
set_option maxRecDepth 100000 in
set_option maxHeartbeats 16000000 in
theorem w_op (d : Nat) (va : Option Addr) (vn vc : Nat) (bs : List UInt8) (z : Int) (K A B C N : Int) (S : ByteArray) (la : Option Addr) (ln lc : Nat) (T : Bool) (y : OpD) (w : World) (h : VSt d va vn vc bs w z) (hq : OpQ w [.int .i64 K, .int .i64 A, .int .i64 B, .int .i64 C, .int .i64 N, .string S, .slice la ln lc, .bool T] y) (ha : Ahead d la ln) (hl : z = 0 → bs.length ≤ 80000000000000) :
    Calls Tryd.prog 65 #[.pointer (some ⟨d, 0, none⟩), .agg #[.int .i64 K, .int .i64 A, .int .i64 B, .int .i64 C, .int .i64 N, .string S, .slice la ln lc, .bool T]] w (VPost d bs z (encOp y) w) := by
  have hbl : Below w.heap.size w (w.alloc (.cells #[.int .i64 K, .int .i64 A, .int .i64 B, .int .i64 C, .int .i64 N, .string S, .slice la ln lc, .bool T] 52)) := (Below.refl _ _).alloc (Nat.le_refl _) _
  have HB0 : RowKit.Hid (VB w d 52 w.heap.size #[.int .i64 K, .int .i64 A, .int .i64 B, .int .i64 C, .int .i64 N, .string S, .slice la ln lc, .bool T] (w.alloc (.cells #[.int .i64 K, .int .i64 A, .int .i64 B, .int .i64 C, .int .i64 N, .string S, .slice la ln lc, .bool T] 52)) va vn vc bs z) := Lib.hid ⟨h.since hbl, Off.since hbl, heap_alloc_new w _, by have := h.lt; omega⟩
  have HQL := Lib.hid hq.numL
  have HA := Lib.hid ha
  have HL := Lib.hid hl
  have hv := hq.vals
  have HV := Lib.hid hv.1
  have HR := Lib.hid hv.2.1
  have hss := hv.2.2.1
  have HRL := Lib.hid hv.2.2.2
  clear h hq hv hbl ha hl
  obtain ⟨X, hX⟩ : ∃ X, X = w.heap.size := ⟨_, rfl⟩
  have CF := Lib.hid (fun u => fields_any K u)
  have HFL : RowKit.Hid ((mk (fieldsL K)).size = (fieldsL K).length) := Lib.hid (mk_size _)
  have hfl3 : (mk (fieldsL K)).size ≤ 3 := by rw [HFL.out]; exact fields_le K
  obtain ⟨s, hs⟩ : ∃ s, s = mk (fieldsL K) := ⟨_, rfl⟩
  have HFA : RowKit.Hid (∀ j (h : j < s.size) (h' : j < (fieldsL K).length), s[j] = (fieldsL K)[j]) := Lib.hid (by subst hs; exact fun j h h' => fstr_at h' h)
  rw [← hs] at HFL CF hfl3
  clear hs
  rcases (show (0 ≤ K ∧ K < 26) ∨ K < 0 ∨ 26 ≤ K by omega) with hk | hk | hk
  all_goals
    have HKC := Lib.hid hk
    go_enter Tryd.func65, Tryd.ntmps65
    go_upto_region 1 with fail
    rw [← hX] at HB0 ⊢
    generalize hW0 : w.alloc (.cells #[.int .i64 K, .int .i64 A, .int .i64 B, .int .i64 C, .int .i64 N, .string S, .slice la ln lc, .bool T] 52) = W0 at HB0 ⊢
    clear hW0 hX
    have c0 := HB0.out.ec 0
    go_wp2_with fail
    refine (w_bad d va vn vc bs z _ 4 (by decide) W0 HB0.out.vs).mono ?_
    rintro e1 w1 ⟨ua1, un1, uc1, l1, y1, rfl, hv, ho, hw⟩
    have HB1 := Lib.hid (HB0.out.go hv ho)
    have HW1 : RowKit.Hid (Wrote (chk (inB y.K 26) 4) bs z l1 y1) := Lib.hid (hw.of (by congr 1; unfold inB; rw [HV.out.1]; have := HKC.out; first | (rw [decide_eq_true (by omega)]; rfl) | (rw [decide_eq_false (by omega)]; rfl) | (rw [Bool.eq_iff_iff]; simp <;> omega)))
    clear hv ho hw c0
    have c0 := HB1.out.ec 0
    go_wp2_with fail
    refine (w_num d ua1 un1 uc1 l1 y1 K HR.out.1 w1 HB1.out.vs (fun h0 => by have := HW1.out.len h0 (Upto.check _ _); have := HL.out (HW1.out.went h0).1; omega)).mono ?_
    rintro e2 w2 ⟨ua2, un2, uc2, l2, y2, rfl, hv, ho, hw⟩
    have HB2 := Lib.hid (HB1.out.go hv ho)
    have HW2 : RowKit.Hid (Wrote (outBelow y.K 26) bs z l2 y2) := Lib.hid ((HW1.out.and hw).of (by unfold outBelow encN; rw [chk_num, HV.out.1]))
    clear hv ho hw c0
    have c0 := HB2.out.ec 0
    go_wp2_with fail
    refine (CF.out _).mono ?_
    rintro e3 w3 ⟨rfl, rfl⟩
    clear c0 hk
    go_wp2_with fail
    go_loopw [5] (fun iv wr => ∃ (j : Nat) (ua : Option Addr) (un uc : Nat) (l3 : List UInt8) (y3 : Int), j ≤ s.size ∧ iv = .int .i64 (j : Int) ∧ wr.cell? ⟨d, 1, none⟩ = some (.int .i64 y3) ∧ RowKit.Hid (VB w d 52 X #[.int .i64 K, .int .i64 A, .int .i64 B, .int .i64 C, .int .i64 N, .string S, .slice la ln lc, .bool T] wr ua un uc l3 y3 ∧ Wrote ((outBelow y.K 26).and (encAll (encField y) ((fieldsL K).take j))) bs z l3 y3)) (fun iv _ => s.size - (intOf iv).toNat)
    case atStart => exact ⟨0, _, _, _, _, _, Nat.zero_le _, rfl, HB2.out.vs.c1, Lib.hid ⟨HB2.out, HW2.out.of (by simp [encAll])⟩⟩
    case round =>
      obtain ⟨j, ua, un, uc, l3, y3, hj, rfl, hc1, HJ⟩ := hrel
      have HFIN : RowKit.Hid (s.size ≤ j ∨ y3 ≠ 0 → Wrote (encOp y) bs z l3 y3) := Lib.hid fun hn => (HJ.out.2.rest (by have := HFL.out; rw [← this]; exact hn)).of (by unfold encOp; rw [HV.out.1])
      by_cases hgo : j < s.size ∧ y3 = 0
      rotate_left
      · by_cases hlt : j < s.size
        · have h1 : (y3 == 0) = false := by rw [beq_eq_false_iff_ne]; exact fun h => hgo ⟨hlt, h⟩
          have HN : RowKit.Hid (y3 ≠ 0) := Lib.hid fun h => hgo ⟨hlt, h⟩
          clear hgo
          go_wp2_with fail
          go_end0
          exact ⟨_, _, _, l3, y3, rfl, HJ.out.1.vs, HJ.out.1.off, HFIN.out (.inr HN.out)⟩
        · obtain rfl : j = s.size := by omega
          clear hgo
          go_wp2_with fail
          go_end0
          exact ⟨_, _, _, l3, y3, rfl, HJ.out.1.vs, HJ.out.1.off, HFIN.out (.inl (Nat.le_refl _))⟩
      obtain ⟨hlt, rfl⟩ := hgo
      have hlt' : j < (fieldsL K).length := by rw [← HFL.out]; exact hlt
      have HFJ : RowKit.Hid (s[j] = (fieldsL K)[j]) := Lib.hid (HFA.out j hlt hlt')
      have HLT := Lib.hid hlt'
      have hlet := letters K _ (List.getElem_mem hlt')
      have HU : RowKit.Hid (Upto ((outBelow y.K 26).and (encAll (encField y) ((fieldsL K).take j))) 1000) := Lib.hid ((((Upto.num _).and (Upto.check _ _)).and (Upto.all (n := 90) _ fun f _ => Upto.field y f)).mono (by have := fields_take K j; omega))
      have cc := HJ.out.1.ec
      rcases hlet with hl | hl | hl | hl | hl | hl | hl
      · have hf : s[j] = 78 := by rw [HFJ.out, hl]
        have tN : ((s[j].toNat : Int) == 78) = true := by rw [hf]; rfl
        have HGF : RowKit.Hid ((fieldsL K)[j] = 78) := Lib.hid hl
        clear hf hl HFJ
        go_wp2_with fail
        refine (w_num d ua un uc l3 0 N HR.out.2.2.2.2 wr HJ.out.1.vs (fun h0 => by have := HJ.out.2.len h0 HU.out; have := HL.out (HJ.out.2.went h0).1; omega)).mono ?_
        rintro e5 w5 ⟨ua5, un5, uc5, l5, y5, rfl, hv, ho, hw⟩
        have HBN := Lib.hid (HJ.out.1.go hv ho)
        have HWN : RowKit.Hid (Wrote ((outBelow y.K 26).and (encAll (encField y) ((fieldsL K).take (j + 1)))) bs z l5 y5) := Lib.hid (HJ.out.2.next HLT.out (by have e : (fieldsL K)[j]'HLT.out = 78 := HGF.out; rw [e]; exact hw.of (by rw [← HV.out.2.2.2.2.1]; simp [encField])))
        clear hv ho hw cc
        go_wp2_with fail
        go_roundw
        case rel => exact ⟨j + 1, _, _, _, l5, y5, by omega, by go_num, HBN.out.vs.c1, Lib.hid ⟨HBN.out, HWN.out⟩⟩
        case measure => simp [intOf]; omega
      · have hf : s[j] = 83 := by rw [HFJ.out, hl]
        have tN : ((s[j].toNat : Int) == 78) = false := by rw [hf]; rfl
        have tA : ((s[j].toNat : Int) == 65) = false := by rw [hf]; rfl
        have tB : ((s[j].toNat : Int) == 66) = false := by rw [hf]; rfl
        have tC : ((s[j].toNat : Int) == 67) = false := by rw [hf]; rfl
        have tL : ((s[j].toNat : Int) == 76) = false := by rw [hf]; rfl
        have tS : ((s[j].toNat : Int) == 83) = true := by rw [hf]; rfl
        have HGF : RowKit.Hid ((fieldsL K)[j] = 83) := Lib.hid hl
        clear hf hl HFJ
        go_wp2_with fail
        refine (w_bad d ua un uc l3 0 _ 2 (by decide) wr HJ.out.1.vs).mono ?_
        rintro e5 w5 ⟨ua5, un5, uc5, l5, y5, rfl, hv, ho, hw⟩
        have HW5 : RowKit.Hid (Wrote (chk (decide (S.size ≤ 64)) 2) l3 0 l5 y5) := Lib.hid (hw.of (by congr 1; rw [Bool.eq_iff_iff]; simp <;> omega))
        have HB5 := Lib.hid (HJ.out.1.go hv ho)
        have hc5 := HB5.out.vs.c1
        have x0 := HB5.out.vs.c0
        have x5 := HB5.out.ec 5
        have f0 := HB5.out.vs.free 0
        clear hv ho hw cc hc1
        by_cases hy : y5 = 0
        rotate_left
        · have hyb : (y5 == 0) = false := by rw [beq_eq_false_iff_ne]; exact hy
          have HWN : RowKit.Hid (Wrote ((outBelow y.K 26).and (encAll (encField y) ((fieldsL K).take (j + 1)))) bs z l5 y5) := Lib.hid (HJ.out.2.next HLT.out (by have e : (fieldsL K)[j]'HLT.out = 83 := HGF.out; rw [e]; exact (HW5.out.dead hy (b := .ok (putS S))).of (by simp [encField, HV.out.2.2.2.2.2.1])))
          clear hy
          go_wp2_with fail
          go_roundw
          case rel => exact ⟨j + 1, _, _, _, l5, y5, by omega, by go_num, HB5.out.vs.c1, Lib.hid ⟨HB5.out, HWN.out⟩⟩
          case measure => simp [intOf]; omega
        subst hy
        have hs64 : S.size ≤ 64 := by obtain ⟨_, m, hm, _⟩ := HW5.out.went rfl; exact Classical.byContradiction fun hh => by simp [chk, hh] at hm
        have HLB : RowKit.Hid (l5.length ≤ 90000000000000) := Lib.hid (by have h1 := HW5.out.len rfl (Upto.check _ _); have := HJ.out.2.len rfl HU.out; have := HL.out (HJ.out.2.went rfl).1; omega)
        have CP : RowKit.Hid (∀ u, Below w5.heap.size w5 u → Calls Tryd.prog 76 #[.slice ua5 un5 uc5, .string S] u (BytesPost u.heap.size (l5 ++ putT S) u)) := Lib.hid fun u hb => ref_put_text ua5 un5 uc5 l5 S u (HB5.out.vs.own.read.since hb) (by have := HB5.out.vs.own.len; have := HLB.out; omega)
        have HWN : RowKit.Hid (Wrote ((outBelow y.K 26).and (encAll (encField y) ((fieldsL K).take (j + 1)))) bs z (l5 ++ putT S) 0) := Lib.hid (HJ.out.2.next HLT.out (by have e : (fieldsL K)[j]'HLT.out = 83 := HGF.out; rw [e]; exact (HW5.out.and (Wrote.okay l5 (putS S))).of (by simp [encField, HV.out.2.2.2.2.2.1])))
        clear hs64
        go_wp2_with fail
        go_region_law ((rw [if_pos (by rfl)]; go_simp; go_at_call 76; (with_reducible refine (CP.out _ ((Below.refl _ _).drew)).mono ?_); rintro e6 w6 ⟨ub, um, ud, rfl, hown, hb⟩; have hb6 := ((Below.refl w5.heap.size w5).drew).trans hb; have HB6 := Lib.hid (HB5.out.go (HB5.out.vs.since hb6) (Off.since hb6)); have HO6 := Lib.hid (OwnsB.mono hown (B' := d + 1) HB5.out.vs.lt); have f6 := HB6.out.vs.free 0; have x6 := HB6.out.vs.c0; clear hown hb hb6))
        all_goals
          go_wp2_with fail
          go_roundw
          case rel => exact ⟨j + 1, _, _, _, l5 ++ putT S, 0, by omega, by go_num, (HB6.out.put HO6.out).vs.c1, Lib.hid ⟨HB6.out.put HO6.out, HWN.out⟩⟩
          case measure => simp [intOf]; omega
      · have hf : s[j] = 65 := by rw [HFJ.out, hl]
        have tN : ((s[j].toNat : Int) == 78) = false := by rw [hf]; rfl
        have tA : ((s[j].toNat : Int) == 65) = true := by rw [hf]; rfl
        have HGF : RowKit.Hid ((fieldsL K)[j] = 65) := Lib.hid hl
        clear hf hl HFJ
        go_wp2_with fail
        refine (w_num d ua un uc l3 0 A HR.out.2.1 wr HJ.out.1.vs (fun h0 => by have := HJ.out.2.len h0 HU.out; have := HL.out (HJ.out.2.went h0).1; omega)).mono ?_
        rintro e5 w5 ⟨ua5, un5, uc5, l5, y5, rfl, hv, ho, hw⟩
        have HBN := Lib.hid (HJ.out.1.go hv ho)
        have HWN : RowKit.Hid (Wrote ((outBelow y.K 26).and (encAll (encField y) ((fieldsL K).take (j + 1)))) bs z l5 y5) := Lib.hid (HJ.out.2.next HLT.out (by have e : (fieldsL K)[j]'HLT.out = 65 := HGF.out; rw [e]; exact hw.of (by rw [← HV.out.2.1]; simp [encField])))
        clear hv ho hw cc
        go_wp2_with fail
        go_roundw
        case rel => exact ⟨j + 1, _, _, _, l5, y5, by omega, by go_num, HBN.out.vs.c1, Lib.hid ⟨HBN.out, HWN.out⟩⟩
        case measure => simp [intOf]; omega
      · have hf : s[j] = 66 := by rw [HFJ.out, hl]
        have tN : ((s[j].toNat : Int) == 78) = false := by rw [hf]; rfl
        have tA : ((s[j].toNat : Int) == 65) = false := by rw [hf]; rfl
        have tB : ((s[j].toNat : Int) == 66) = true := by rw [hf]; rfl
        have HGF : RowKit.Hid ((fieldsL K)[j] = 66) := Lib.hid hl
        clear hf hl HFJ
        go_wp2_with fail
        refine (w_num d ua un uc l3 0 B HR.out.2.2.1 wr HJ.out.1.vs (fun h0 => by have := HJ.out.2.len h0 HU.out; have := HL.out (HJ.out.2.went h0).1; omega)).mono ?_
        rintro e5 w5 ⟨ua5, un5, uc5, l5, y5, rfl, hv, ho, hw⟩
        have HBN := Lib.hid (HJ.out.1.go hv ho)
        have HWN : RowKit.Hid (Wrote ((outBelow y.K 26).and (encAll (encField y) ((fieldsL K).take (j + 1)))) bs z l5 y5) := Lib.hid (HJ.out.2.next HLT.out (by have e : (fieldsL K)[j]'HLT.out = 66 := HGF.out; rw [e]; exact hw.of (by rw [← HV.out.2.2.1]; simp [encField])))
        clear hv ho hw cc
        go_wp2_with fail
        go_roundw
        case rel => exact ⟨j + 1, _, _, _, l5, y5, by omega, by go_num, HBN.out.vs.c1, Lib.hid ⟨HBN.out, HWN.out⟩⟩
        case measure => simp [intOf]; omega
      · have hf : s[j] = 67 := by rw [HFJ.out, hl]
        have tN : ((s[j].toNat : Int) == 78) = false := by rw [hf]; rfl
        have tA : ((s[j].toNat : Int) == 65) = false := by rw [hf]; rfl
        have tB : ((s[j].toNat : Int) == 66) = false := by rw [hf]; rfl
        have tC : ((s[j].toNat : Int) == 67) = true := by rw [hf]; rfl
        have HGF : RowKit.Hid ((fieldsL K)[j] = 67) := Lib.hid hl
        clear hf hl HFJ
        go_wp2_with fail
        refine (w_num d ua un uc l3 0 C HR.out.2.2.2.1 wr HJ.out.1.vs (fun h0 => by have := HJ.out.2.len h0 HU.out; have := HL.out (HJ.out.2.went h0).1; omega)).mono ?_
        rintro e5 w5 ⟨ua5, un5, uc5, l5, y5, rfl, hv, ho, hw⟩
        have HBN := Lib.hid (HJ.out.1.go hv ho)
        have HWN : RowKit.Hid (Wrote ((outBelow y.K 26).and (encAll (encField y) ((fieldsL K).take (j + 1)))) bs z l5 y5) := Lib.hid (HJ.out.2.next HLT.out (by have e : (fieldsL K)[j]'HLT.out = 67 := HGF.out; rw [e]; exact hw.of (by rw [← HV.out.2.2.2.1]; simp [encField])))
        clear hv ho hw cc
        go_wp2_with fail
        go_roundw
        case rel => exact ⟨j + 1, _, _, _, l5, y5, by omega, by go_num, HBN.out.vs.c1, Lib.hid ⟨HBN.out, HWN.out⟩⟩
        case measure => simp [intOf]; omega
      · have hf : s[j] = 76 := by rw [HFJ.out, hl]
        have tN : ((s[j].toNat : Int) == 78) = false := by rw [hf]; rfl
        have tA : ((s[j].toNat : Int) == 65) = false := by rw [hf]; rfl
        have tB : ((s[j].toNat : Int) == 66) = false := by rw [hf]; rfl
        have tC : ((s[j].toNat : Int) == 67) = false := by rw [hf]; rfl
        have tL : ((s[j].toNat : Int) == 76) = true := by rw [hf]; rfl
        have HGF : RowKit.Hid ((fieldsL K)[j] = 76) := Lib.hid hl
        clear hf hl HFJ
        go_wp2_with fail
        refine (w_list d ua un uc l3 0 la ln lc y.L 8 (by decide) wr HJ.out.1.vs (HQL.out.1.offd HJ.out.1.off HA.out) HQL.out.2 HRL.out HA.out (fun h0 => by have := HJ.out.2.len h0 HU.out; have := HL.out (HJ.out.2.went h0).1; omega)).mono ?_
        rintro e5 w5 ⟨ua5, un5, uc5, l5, y5, rfl, hv, ho, hw⟩
        have HBN := Lib.hid (HJ.out.1.go hv ho)
        have HWN : RowKit.Hid (Wrote ((outBelow y.K 26).and (encAll (encField y) ((fieldsL K).take (j + 1)))) bs z l5 y5) := Lib.hid (HJ.out.2.next HLT.out (by have e : (fieldsL K)[j]'HLT.out = 76 := HGF.out; rw [e]; exact hw.of (by simp [encField])))
        clear hv ho hw cc
        go_wp2_with fail
        go_roundw
        case rel => exact ⟨j + 1, _, _, _, l5, y5, by omega, by go_num, HBN.out.vs.c1, Lib.hid ⟨HBN.out, HWN.out⟩⟩
        case measure => simp [intOf]; omega
      · have hf : s[j] = 75 := by rw [HFJ.out, hl]
        have tN : ((s[j].toNat : Int) == 78) = false := by rw [hf]; rfl
        have tA : ((s[j].toNat : Int) == 65) = false := by rw [hf]; rfl
        have tB : ((s[j].toNat : Int) == 66) = false := by rw [hf]; rfl
        have tC : ((s[j].toNat : Int) == 67) = false := by rw [hf]; rfl
        have tL : ((s[j].toNat : Int) == 76) = false := by rw [hf]; rfl
        have tS : ((s[j].toNat : Int) == 83) = false := by rw [hf]; rfl
        have HGF : RowKit.Hid ((fieldsL K)[j] = 75) := Lib.hid hl
        clear hf hl HFJ
        cases T
        · go_wp2_with fail
          refine (w_num d ua un uc l3 0 0 ⟨by decide, by decide⟩ wr HJ.out.1.vs (fun h0 => by have := HJ.out.2.len h0 HU.out; have := HL.out (HJ.out.2.went h0).1; omega)).mono ?_
          rintro e5 w5 ⟨ua5, un5, uc5, l5, y5, rfl, hv, ho, hw⟩
          have HBN := Lib.hid (HJ.out.1.go hv ho)
          have HWN : RowKit.Hid (Wrote ((outBelow y.K 26).and (encAll (encField y) ((fieldsL K).take (j + 1)))) bs z l5 y5) := Lib.hid (HJ.out.2.next HLT.out (by have e : (fieldsL K)[j]'HLT.out = 75 := HGF.out; rw [e]; exact hw.of (by simp [encField, HV.out.2.2.2.2.2.2])))
          clear hv ho hw cc
          go_wp2_with fail
          go_roundw
          case rel => exact ⟨j + 1, _, _, _, l5, y5, by omega, by go_num, HBN.out.vs.c1, Lib.hid ⟨HBN.out, HWN.out⟩⟩
          case measure => simp [intOf]; omega
        · go_wp2_with fail
          refine (w_num d ua un uc l3 0 1 ⟨by decide, by decide⟩ wr HJ.out.1.vs (fun h0 => by have := HJ.out.2.len h0 HU.out; have := HL.out (HJ.out.2.went h0).1; omega)).mono ?_
          rintro e5 w5 ⟨ua5, un5, uc5, l5, y5, rfl, hv, ho, hw⟩
          have HBN := Lib.hid (HJ.out.1.go hv ho)
          have HWN : RowKit.Hid (Wrote ((outBelow y.K 26).and (encAll (encField y) ((fieldsL K).take (j + 1)))) bs z l5 y5) := Lib.hid (HJ.out.2.next HLT.out (by have e : (fieldsL K)[j]'HLT.out = 75 := HGF.out; rw [e]; exact hw.of (by simp [encField, HV.out.2.2.2.2.2.2])))
          clear hv ho hw cc
          go_wp2_with fail
          go_roundw
          case rel => exact ⟨j + 1, _, _, _, l5, y5, by omega, by go_num, HBN.out.vs.c1, Lib.hid ⟨HBN.out, HWN.out⟩⟩
          case measure => simp [intOf]; omega
end Go.Proofs.YtdchhfdmingnaaaDoor
