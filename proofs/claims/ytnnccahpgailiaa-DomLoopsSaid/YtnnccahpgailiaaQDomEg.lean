/- Layer 8: the document's Edge (mk_red.py). -/
import Derived.Test.YtnnccahpgailiaaQCfgJ
import Derived.Test.YtnnccahpgailiaaQT4
import Derived.Deep.RegionHeld3
namespace Go.Proofs.Ytnnccahpgailiaa
open Go.RowKit (wrap64 intOf Below)
set_option linter.unusedVariables false
set_option linter.unusedSimpArgs false

theorem skip_putE {K : Act → World → Prop} {a : Act} {w : World} {d : Option Nat} {o : Oper} (h : o.dst = d) (hk : K (a.put d undef) w) : K (a.put o.dst undef) w := h ▸ hk
/-- Where it stands: the list of those that are met, and what comes. -/
structure ReSt (w : World) (r : Int) (a : Option Addr) (n c : Nat) (va : Option Addr) (vn : Nat) (AL : List Int) (xa : Option Addr) (xn xc : Nat) (OL : List Int) (W : World) : Prop where
  law : LawSt w r a n c va vn AL W
  own : OwnsI W (w.heap.size + 1) 3 (.slice xa xn xc) OL
  sz : w.heap.size + 1 ≤ W.heap.size
  ap : ∀ g off, va = some ⟨g, off, none⟩ → 0 < vn → (Value.slice xa xn xc).ownBlock ≠ some g
section
variable {w W W' : World} {r : Int} {a : Option Addr} {n c : Nat} {va : Option Addr} {vn : Nat} {AL : List Int} {xa : Option Addr} {xn xc : Nat} {OL : List Int}
theorem ReSt.since (h : ReSt w r a n c va vn AL xa xn xc OL W) (hb : Below W.heap.size W W') : ReSt w r a n c va vn AL xa xn xc OL W' :=
  ⟨h.law.since hb, h.own.below hb, Nat.le_trans h.sz hb.size, h.ap⟩
theorem ReSt.push {C : Array Value} {ya : Option Addr} {yn yc : Nat} {Z' : List Int} (h : ReSt w r a n c va vn AL xa xn xc OL W) (hg : (W.alloc (.cells C 3)).grownBy W' (Value.slice xa xn xc).ownBlock) (ho : OwnsI W' (w.heap.size + 1) 3 (.slice ya yn yc) Z')
    (hw : ∀ k, (Value.slice ya yn yc).ownBlock = some k → (Value.slice xa xn xc).ownBlock = some k ∨ W.heap.size ≤ k) : ReSt w r a n c va vn AL ya yn yc Z' W' := by
  have hoff : Off (fun k => (Value.slice xa xn xc).ownBlock = some k) W W' := ((Off.refl _ W).alloc _).grown hg (fun k hk => .inl hk)
  have hx : ∀ k, (Value.slice xa xn xc).ownBlock = some k → w.heap.size + 1 ≤ k := fun k hk => (h.own.lt k hk).1
  have hb : Below (w.heap.size + 1) W W' := hoff.below h.sz hx
  have hlt := h.law.siz
  refine ⟨⟨h.law.bel.trans (hb.mono (by omega)), Nat.lt_of_lt_of_le h.law.siz hb.size, (hb.cell (p := ⟨w.heap.size, 0, none⟩) (Nat.lt_succ_self _)).trans h.law.c0, (hb.cell (p := ⟨w.heap.size, 1, none⟩) (Nat.lt_succ_self _)).trans h.law.c1, h.law.lis.off hoff (fun g off e h0 => h.ap g off e h0)⟩, ho, Nat.le_trans h.sz hb.size, fun g off e h0 hk => ?_⟩
  rcases hw g hk with h1 | h1
  · exact h.ap g off e h0 h1
  · obtain ⟨g', off', e', hg', _⟩ := h.law.lis.2 h0
    rw [e] at e'
    cases e'
    omega
end
/-- Whether b is over one of the first j of L. -/
noncomputable def anyO (f : FuncD) (b : Nat) (L : List Int) (j : Nat) : Bool := (L.take j).any fun p => overB f b p
theorem anyO_zero (f : FuncD) (b : Nat) (L : List Int) : anyO f b L 0 = false := by simp [anyO]
theorem anyO_more {f : FuncD} {b : Nat} {L : List Int} {j : Nat} (h : j < L.length) : anyO f b L (j + 1) = (anyO f b L j || overB f b L[j]) := by
  unfold anyO
  rw [List.take_succ_eq_append_getElem h, List.any_append]
  simp
theorem anyO_all {f : FuncD} {b : Nat} {L : List Int} : anyO f b L L.length = true ↔ ∃ p ∈ L, OverF f b p := by
  unfold anyO
  rw [List.take_length, List.any_eq_true]
  simp only [overB_iff]
theorem edge_skip {f : FuncD} {n b i : Nat} (h : ¬ EdgeAt f n b i) : edgeL f n (i + 1) b = edgeL f n i b := by rw [edgeL_more, if_neg h, List.append_nil]
theorem edge_take {f : FuncD} {n b i : Nat} (h : EdgeAt f n b i) : edgeL f n (i + 1) b = edgeL f n i b ++ [(i : Int)] := by rw [edgeL_more, if_pos h]
theorem edgeL_lenE (f : FuncD) (n k a : Nat) : (edgeL f n k a).length ≤ k := by
  unfold edgeL
  rw [List.length_map]
  exact Nat.le_trans (List.length_filter_le _ _) (by simp)
set_option maxRecDepth 100000 in
set_option maxHeartbeats 8000000 in
theorem refedge_any (r : Int) (a : Option Addr) (n c : Nat) (f : FuncD) (b : Nat) (w : World) (hrow : RowV BlockQ 8 w (.slice a n c) f.blocks) (hn : n ≤ 100000) :
    Calls Try.prog 12 #[.agg #[.int .i64 r, .slice a n c], .int .i64 (b : Int)] w fun e w' => ∃ va vn vc, e = .returned (.slice va vn vc) ∧ OwnsI w' w.heap.size 3 (.slice va vn vc) (edgeL f n n b) ∧ Below w.heap.size w w' := by
  have HROW := Lib.hid hrow
  clear hrow
  have CO : RowKit.Hid (∀ (x y : Int) (u : World), Below w.heap.size w u → Calls Try.prog 16 #[.agg #[.int .i64 r, .slice a n c], .int .i64 x, .int .i64 y] u fun e w' => e = .returned (.bool (overB f x y)) ∧ Below u.heap.size u w') := Lib.hid fun x y u hu => refover_any r a n c f x y u (HROW.out.since BlockQ.lasts hu) (by omega)
  have CM : RowKit.Hid (∀ (fr wo : Int) (u : World), Below w.heap.size w u → Calls Try.prog 35 #[.agg #[.int .i64 r, .slice a n c], .int .i64 fr, .int .i64 wo] u fun e w' => ∃ va vn vc Z, e = .returned (.slice va vn vc) ∧ OwnsI w' u.heap.size 3 (.slice va vn vc) Z ∧ vn ≤ n ∧ (∀ z, z ∈ Z ↔ MI f fr wo z) ∧ Below u.heap.size u w') := Lib.hid fun fr wo u hu => (refmet_any r a n c f fr wo u (HROW.out.since BlockQ.lasts hu) (by omega)).mono (by
    rintro e w' ⟨va, vn, vc, Z, he, ho, hI, hZ, hb⟩
    exact ⟨va, vn, vc, Z, he, ho, by have := ho.read.1; have := hI.len; omega, mi_iff hI hZ, hb⟩)
  obtain ⟨W0, hW0⟩ : ∃ W0, (w.alloc (.cells #[.int .i64 r, .slice a n c] 24)).alloc (.cells #[] 3) = W0 := ⟨_, rfl⟩
  have hb0 : Below (w.heap.size + 1) (w.alloc (.cells #[.int .i64 r, .slice a n c] 24)) W0 := by rw [← hW0]; exact (Below.refl _ _).alloc (by simp) _
  have hz0 : W0.heap.size = w.heap.size + 2 := by rw [← hW0]; simp
  have HLW : RowKit.Hid (LawSt w r a n c none 0 [] W0) := Lib.hid ((law_enter w r a n c).since (by simpa using hb0))
  have HOW : RowKit.Hid (OwnsI W0 (w.heap.size + 1) 3 (.slice (some ⟨w.heap.size + 1, 0, none⟩) 0 0) []) := Lib.hid (by rw [← hW0]; exact OwnsI.laid (by simp) (by omega))
  have hc0 := HLW.out.c0
  have hc1 := HLW.out.c1
  clear hb0
  go_enter Try.func12, Try.ntmps12
  go_upto_region 2 with (go_at_call 35; (try rw [hW0]); refine (CM.out 0 (-1) W0 HLW.out.bel).mono ?_; rintro e w1 ⟨va, vn, vc, AL, rfl, ho, hvn, hZ, hb⟩; have HB1 := Lib.hid hb; have HO1 := Lib.hid ho; have HZ1 := Lib.hid hZ; clear ho hZ hb)
  clear hW0 hc0 hc1
  have HS0 : RowKit.Hid (ReSt w r a n c va vn AL (some ⟨w.heap.size + 1, 0, none⟩) 0 0 (edgeL f n 0 b) w1) := Lib.hid (by
    have h := HLW.out.since HB1.out
    refine ⟨⟨h.bel, h.siz, h.c0, h.c1, HO1.out.read⟩, HOW.out.below HB1.out, by have := HB1.out.size; omega, fun g off e h0 hk => ?_⟩
    have h1 := HO1.out.lt g (by rw [e]; rfl)
    have hk2 : w.heap.size + 1 = g := Option.some.inj hk
    omega)
  clear HOW HLW hz0 HO1 HB1
  have CH : RowKit.Hid (∀ (x : Int) (u : World), NumsAt u va vn AL → Calls Try.prog 36 #[.slice va vn vc, .int .i64 x] u fun e w' => e = .returned (.bool (inL AL x)) ∧ u = w') := Lib.hid fun x u hu => has_any va vn vc AL x u hu (by omega)
  have HMT : RowKit.Hid (∀ v : Nat, inL AL (v : Int) = true ↔ MetF f v) := Lib.hid fun v => by unfold inL; rw [decide_eq_true_eq, HZ1.out, mi_met]
  obtain ⟨q1, hq1⟩ : ∃ q, inL AL (b : Int) = q := ⟨_, rfl⟩
  have HQ1 := Lib.hid hq1
  clear hq1 HZ1
  go_wp2_with fail
  go_loopw [5, 7] (fun v5 v7 wr => ∃ (i : Nat) (xa : Option Addr) (xn xc : Nat), i ≤ n ∧ v5 = .slice xa xn xc ∧ v7 = .int .i64 (i : Int) ∧ RowKit.Hid (ReSt w r a n c va vn AL xa xn xc (edgeL f n i b) wr)) (fun _ v7 _ => n - (intOf v7).toNat)
  case atStart => exact ⟨0, _, _, _, Nat.zero_le _, rfl, rfl, HS0⟩
  case round =>
    obtain ⟨i, xa, xn, xc, hi, rfl, rfl, HI⟩ := hrel
    clear HS0
    obtain ⟨wo, hwo⟩ : ∃ u, u = wr := ⟨_, rfl⟩
    rw [← hwo] at HI ⊢
    clear hwo
    have hc0 := HI.out.law.c0
    have hc1 := HI.out.law.c1
    have hw : wrap64 ((i : Int) + 1) = (i : Int) + 1 := by unfold wrap64; omega
    by_cases hlt : i < n
    · obtain ⟨q2, hq2⟩ : ∃ q, inL AL (i : Int) = q := ⟨_, rfl⟩
      have HQ2 := Lib.hid hq2
      clear hq2
      cases q1 with
      | false =>
        have HE : RowKit.Hid (edgeL f n (i + 1) b = edgeL f n i b) := Lib.hid (edge_skip (fun h => by have h1 := (HMT.out b).2 h.1; rw [HQ1.out] at h1; cases h1))
        go_wp2_with (go_at_call 36; (with_reducible refine (CH.out (b : Int) wo HI.out.law.lis).mono ?_); rintro e u ⟨rfl, rfl⟩; rw [HQ1.out])
        go_roundw
        case rel => exact ⟨i + 1, xa, xn, xc, hlt, rfl, by go_num, Lib.hid (by rw [HE.out]; exact HI.out)⟩
        case measure => simp [intOf, hw]; omega
      | true =>
        cases q2 with
        | false =>
          have HE : RowKit.Hid (edgeL f n (i + 1) b = edgeL f n i b) := Lib.hid (edge_skip (fun h => by have h1 := (HMT.out i).2 h.2.1; rw [HQ2.out] at h1; cases h1))
          go_wp2_with (first | (go_at_call 36; (with_reducible refine (CH.out (b : Int) wo HI.out.law.lis).mono ?_); rintro e u ⟨rfl, rfl⟩; rw [HQ1.out]) | (go_at_call 36; (with_reducible refine (CH.out (i : Int) wo HI.out.law.lis).mono ?_); rintro e u ⟨rfl, rfl⟩; rw [HQ2.out]))
          go_roundw
          case rel => exact ⟨i + 1, xa, xn, xc, hlt, rfl, by go_num, Lib.hid (by rw [HE.out]; exact HI.out)⟩
          case measure => simp [intOf, hw]; omega
        | true =>
          have HMB := Lib.hid ((HMT.out b).1 HQ1.out)
          have HMI := Lib.hid ((HMT.out i).1 HQ2.out)
          by_cases hbi : b = i
          · have hbe : ((b : Int) != (i : Int)) = false := by rw [hbi]; simp
            have HI3 := HI
            have HBI := Lib.hid hbi
            clear hbi
            have HNO : RowKit.Hid (¬ (b ≠ i ∧ OverF f b i)) := Lib.hid (fun h => h.1 HBI.out)
            go_upto_region 7 with (first | (go_at_call 36; (with_reducible refine (CH.out (b : Int) wo HI.out.law.lis).mono ?_); rintro e u ⟨rfl, rfl⟩; rw [HQ1.out]) | (go_at_call 36; (with_reducible refine (CH.out (i : Int) wo HI.out.law.lis).mono ?_); rintro e u ⟨rfl, rfl⟩; rw [HQ2.out]) | (go_at_call 37; refine (refahead_any r a n c f (i : Int) _ (HROW.out.since BlockQ.lasts HI3.out.law.bel) (by omega)).mono ?_; rintro e w4 ⟨la, ln, lc, rfl, hl, hb⟩; have HI4 := Lib.hid (HI3.out.since hb); have HLN := Lib.hid hl.read; clear hl hb))
            have HLL : RowKit.Hid ((ahL f n i).length = ln) := Lib.hid HLN.out.1
            have hln : ln ≤ n := by have := ahL_len f n i; have := HLL.out; omega
            have HANY := Lib.hid (anyO_all (f := f) (b := b) (L := ahL f n i))
            have HMORE : RowKit.Hid (∀ j (h : j < (ahL f n i).length), anyO f b (ahL f n i) (j + 1) = (anyO f b (ahL f n i) j || overB f b (ahL f n i)[j])) := Lib.hid fun j h => anyO_more h
            have HA0 : RowKit.Hid (Value.bool false = Value.bool (anyO f b (ahL f n i) 0)) := Lib.hid (by rw [anyO_zero])
            have HEA : RowKit.Hid (EdgeAt f n b i ↔ ∃ p ∈ ahL f n i, OverF f b p) := Lib.hid ⟨fun h => h.2.2.2, fun h => ⟨HMB.out, HMI.out, HNO.out, h⟩⟩
            generalize ahL f n i = AH at *
            clear hc0 hc1
            go_wp2_with fail
            go_loopw [9, 10] (fun v9 v10 wr => ∃ j : Nat, j ≤ ln ∧ v9 = .bool (anyO f b AH j) ∧ v10 = .int .i64 (j : Int) ∧ RowKit.Hid (ReSt w r a n c va vn AL xa xn xc (edgeL f n i b) wr ∧ NumsAt wr la ln AH)) (fun _ v10 _ => ln - (intOf v10).toNat)
            case atStart => exact ⟨0, Nat.zero_le _, HA0.out, rfl, Lib.hid ⟨HI4.out, HLN.out⟩⟩
            case round =>
              obtain ⟨j, hj, rfl, rfl, HX⟩ := hrel
              clear HI4 HLN HI3
              obtain ⟨wx, hwx⟩ : ∃ u, u = wr := ⟨_, rfl⟩
              rw [← hwx] at HX ⊢
              clear hwx
              have hwj : wrap64 ((j : Int) + 1) = (j : Int) + 1 := by unfold wrap64; omega
              by_cases hjl : j < ln
              · have hjA : j < AH.length := by rw [HLL.out]; exact hjl
                obtain ⟨gl, offl, rfl, hgl, hcl⟩ := HX.out.2.2 (by omega)
                obtain ⟨z, hz⟩ : ∃ z, z = AH[j] := ⟨_, rfl⟩
                have hcz : wx.cell? ⟨gl, offl + j, none⟩ = some (.int .i64 z) := by rw [hz]; exact hcl j hjA
                have HM := Lib.hid (HMORE.out j hjA)
                rw [← hz] at HM
                have HKT : RowKit.Hid (∀ u, Below wx.heap.size wx u → u.cell? ⟨gl, offl + j, none⟩ = some (.int .i64 z) ∧ u.cell? ⟨w.heap.size, 0, none⟩ = some (.int .i64 r) ∧ u.cell? ⟨w.heap.size, 1, none⟩ = some (.slice a n c)) := Lib.hid fun u hb => ⟨(hb.cell (p := ⟨gl, offl + j, none⟩) hgl).trans hcz, (hb.cell (p := ⟨w.heap.size, 0, none⟩) HX.out.1.law.siz).trans HX.out.1.law.c0, (hb.cell (p := ⟨w.heap.size, 1, none⟩) HX.out.1.law.siz).trans HX.out.1.law.c1⟩
                obtain ⟨q4, hq4⟩ : ∃ q, anyO f b AH j = q := ⟨_, rfl⟩
                have HQ4 := Lib.hid hq4
                rw [hq4]
                clear hq4 hz hcz hcl hgl
                have hj0 : (0 : Int) ≤ (j : Int) := by omega
                have hji : (j : Int) < (ln : Int) := by omega
                have hk0 : Below wx.heap.size wx wx.drew := (Below.refl _ _).drew
                go_upto_region 10 with fail
                cases q4 with
                | true =>
                  have HV : RowKit.Hid (Value.bool true = Value.bool (anyO f b AH (j + 1))) := Lib.hid (by rw [HM.out, HQ4.out]; simp)
                  refine wp_region_held_drew (S := (fun u : World => u.cell? ⟨gl, offl + j, none⟩ = some (.int .i64 z) ∧ u.cell? ⟨w.heap.size, 0, none⟩ = some (.int .i64 r) ∧ u.cell? ⟨w.heap.size, 1, none⟩ = some (.slice a n c))) (by kernel_rfl) (HKT.out _ hk0) (fun hHeld => ?_)
                  refine wpAnyH_take (i := 0) (oi := ⟨some 51, _, _, _, _, _⟩) (v := ?_) rfl (by kernel_rfl) (by kernel_rfl) (by kernel_rfl) (fun _ _ _ h => h) (Or.inl ⟨by rfl, ?_⟩) (by assumption) ?_
                  rotate_left
                  · ((intro w hSw; (try dsimp only at hSw); go_simp); try with_reducible rfl)
                  (try simp only [Act.put, List.setIfInBounds_toArray, List.set_cons_zero, List.set_cons_succ])
                  refine wpAnyH_take (i := 1) (oi := ⟨some 52, _, _, _, _, _⟩) (v := ?_) rfl (by kernel_rfl) (by kernel_rfl) (by kernel_rfl) (fun _ _ _ h => h) (Or.inl ⟨by rfl, ?_⟩) (by assumption) ?_
                  rotate_left
                  · ((intro w hSw; (try dsimp only at hSw); go_simp); try with_reducible rfl)
                  (try simp only [Act.put, List.setIfInBounds_toArray, List.set_cons_zero, List.set_cons_succ])
                  refine wpAnyH_take (i := 2) (oi := ⟨some 53, _, _, _, _, _⟩) (v := undef) rfl (by kernel_rfl) (by kernel_rfl) (by kernel_rfl) (fun _ _ _ h => h) (Or.inr ⟨by rfl, rfl⟩) (by assumption) ?_
                  (try simp only [Act.put, List.setIfInBounds_toArray, List.set_cons_zero, List.set_cons_succ])
                  refine wpAnyH_take (i := 3) (oi := ⟨some 54, _, _, _, _, _⟩) (v := undef) rfl (by kernel_rfl) (by kernel_rfl) (by kernel_rfl) (fun _ _ _ h => h) (Or.inr ⟨by rfl, rfl⟩) (by assumption) ?_
                  (try simp only [Act.put, List.setIfInBounds_toArray, List.set_cons_zero, List.set_cons_succ])
                  refine wpAnyH_take (i := 4) (oi := ⟨some 55, _, _, _, _, _⟩) (v := undef) rfl (by kernel_rfl) (by kernel_rfl) (by kernel_rfl) (fun _ _ _ h => h) (Or.inr ⟨by rfl, rfl⟩) (by assumption) ?_
                  (try simp only [Act.put, List.setIfInBounds_toArray, List.set_cons_zero, List.set_cons_succ])
                  refine wpAnyH_take (i := 5) (oi := ⟨some 56, _, _, _, _, _⟩) (v := undef) rfl (by kernel_rfl) (by kernel_rfl) (by kernel_rfl) (fun _ _ _ h => h) (Or.inr ⟨by rfl, rfl⟩) (by assumption) ?_
                  (try simp only [Act.put, List.setIfInBounds_toArray, List.set_cons_zero, List.set_cons_succ])
                  refine wpAnyH_take (i := 6) (oi := ⟨some 57, _, _, _, _, _⟩) (v := undef) rfl (by kernel_rfl) (by kernel_rfl) (by kernel_rfl) (fun _ _ _ h => h) (Or.inr ⟨by rfl, rfl⟩) (by assumption) ?_
                  (try simp only [Act.put, List.setIfInBounds_toArray, List.set_cons_zero, List.set_cons_succ])
                  refine wpAnyH_take (i := 7) (oi := ⟨some 58, _, _, _, _, _⟩) (v := undef) rfl (by kernel_rfl) (by kernel_rfl) (by kernel_rfl) (fun _ _ _ h => h) (Or.inr ⟨by rfl, rfl⟩) (by assumption) ?_
                  (try simp only [Act.put, List.setIfInBounds_toArray, List.set_cons_zero, List.set_cons_succ])
                  refine wpAnyH_ready (rs := [8]) (by kernel_rfl) (by simp) (AllReadyH.cons rfl (fun K hK => ?_) AllReadyH.nil)
                  rw [if_neg (by intro h; cases h)]
                  refine skip_putE (K := K) (d := some 59) rfl ?_
                  refine hK.out _ _ (HKT.out _ hk0) (fun hHeld => ?_)
                  clear hK K
                  (try simp only [Act.put, List.setIfInBounds_toArray, List.set_cons_zero, List.set_cons_succ])
                  refine wpAnyH_take (i := 9) (oi := ⟨some 60, _, _, _, _, _⟩) (v := ?_) rfl (by kernel_rfl) (by kernel_rfl) (by kernel_rfl) (fun _ _ _ h => h) (Or.inl ⟨by rfl, ?_⟩) (by assumption) ?_
                  rotate_left
                  · ((intro w hSw; (try dsimp only at hSw); go_simp); try with_reducible rfl)
                  (try simp only [Act.put, List.setIfInBounds_toArray, List.set_cons_zero, List.set_cons_succ])
                  refine wpAnyH_take (i := 10) (oi := ⟨some 9, _, _, _, _, _⟩) (v := ?_) rfl (by kernel_rfl) (by kernel_rfl) (by kernel_rfl) (fun _ _ _ h => h) (Or.inl ⟨by rfl, ?_⟩) (by assumption) ?_
                  rotate_left
                  · ((intro w hSw; (try dsimp only at hSw); go_simp); try with_reducible rfl)
                  (try simp only [Act.put, List.setIfInBounds_toArray, List.set_cons_zero, List.set_cons_succ])
                  refine wpAnyH_done (by kernel_rfl) ?_ _
                  have HX2 : RowKit.Hid (ReSt w r a n c va vn AL xa xn xc (edgeL f n i b) wx.drew ∧ NumsAt wx.drew (some ⟨gl, offl, none⟩) ln AH) := Lib.hid ⟨HX.out.1.since hk0, HX.out.2.since hk0⟩
                  clear hk0 HKT
                  go_wp2_with fail
                  go_roundw
                  case rel => exact ⟨j + 1, hjl, HV.out, by go_num, HX2⟩
                  case measure => simp [intOf, hwj]; omega
                | false =>
                  obtain ⟨q5, hq5⟩ : ∃ q, overB f b z = q := ⟨_, rfl⟩
                  have HV : RowKit.Hid (Value.bool q5 = Value.bool (anyO f b AH (j + 1))) := Lib.hid (by rw [HM.out, HQ4.out, hq5]; simp)
                  have CV : RowKit.Hid (∀ u, Below w.heap.size w u → Calls Try.prog 16 #[.agg #[.int .i64 r, .slice a n c], .int .i64 (b : Int), .int .i64 z] u fun e w' => e = .returned (.bool q5) ∧ Below u.heap.size u w') := Lib.hid fun u hu => hq5 ▸ CO.out b z u hu
                  have HBX := Lib.hid HX.out.1.law.bel
                  clear hq5
                  refine wp_region_held_drew (S := (fun u : World => u.cell? ⟨gl, offl + j, none⟩ = some (.int .i64 z) ∧ u.cell? ⟨w.heap.size, 0, none⟩ = some (.int .i64 r) ∧ u.cell? ⟨w.heap.size, 1, none⟩ = some (.slice a n c))) (by kernel_rfl) (HKT.out _ hk0) (fun hHeld => ?_)
                  refine wpAnyH_take (i := 0) (oi := ⟨some 51, _, _, _, _, _⟩) (v := ?_) rfl (by kernel_rfl) (by kernel_rfl) (by kernel_rfl) (fun _ _ _ h => h) (Or.inl ⟨by rfl, ?_⟩) (by assumption) ?_
                  rotate_left
                  · ((intro w hSw; (try dsimp only at hSw); go_simp); try with_reducible rfl)
                  (try simp only [Act.put, List.setIfInBounds_toArray, List.set_cons_zero, List.set_cons_succ])
                  refine wpAnyH_take (i := 1) (oi := ⟨some 52, _, _, _, _, _⟩) (v := ?_) rfl (by kernel_rfl) (by kernel_rfl) (by kernel_rfl) (fun _ _ _ h => h) (Or.inl ⟨by rfl, ?_⟩) (by assumption) ?_
                  rotate_left
                  · ((intro w hSw; (try dsimp only at hSw); go_simp); try with_reducible rfl)
                  (try simp only [Act.put, List.setIfInBounds_toArray, List.set_cons_zero, List.set_cons_succ])
                  refine wpAnyH_take (i := 2) (oi := ⟨some 53, _, _, _, _, _⟩) (v := ?_) rfl (by kernel_rfl) (by kernel_rfl) (by kernel_rfl) (fun _ _ _ h => h) (Or.inl ⟨by rfl, ?_⟩) (by assumption) ?_
                  rotate_left
                  · ((intro w hSw; (try dsimp only at hSw); go_simp); try with_reducible rfl)
                  (try simp only [Act.put, List.setIfInBounds_toArray, List.set_cons_zero, List.set_cons_succ])
                  refine wpAnyH_take (i := 3) (oi := ⟨some 54, _, _, _, _, _⟩) (v := ?_) rfl (by kernel_rfl) (by kernel_rfl) (by kernel_rfl) (fun _ _ _ h => h) (Or.inl ⟨by rfl, ?_⟩) (by assumption) ?_
                  rotate_left
                  · ((intro w hSw; (try dsimp only at hSw); go_simp); try with_reducible rfl)
                  (try simp only [Act.put, List.setIfInBounds_toArray, List.set_cons_zero, List.set_cons_succ])
                  refine wpAnyH_take (i := 4) (oi := ⟨some 55, _, _, _, _, _⟩) (v := ?_) rfl (by kernel_rfl) (by kernel_rfl) (by kernel_rfl) (fun _ _ _ h => h) (Or.inl ⟨by rfl, ?_⟩) (by assumption) ?_
                  rotate_left
                  · ((intro w hSw; (try dsimp only at hSw); go_simp); try with_reducible rfl)
                  (try simp only [Act.put, List.setIfInBounds_toArray, List.set_cons_zero, List.set_cons_succ])
                  refine wpAnyH_take (i := 5) (oi := ⟨some 56, _, _, _, _, _⟩) (v := ?_) rfl (by kernel_rfl) (by kernel_rfl) (by kernel_rfl) (fun _ _ _ h => h) (Or.inl ⟨by rfl, ?_⟩) (by assumption) ?_
                  rotate_left
                  · ((intro w hSw; (try dsimp only at hSw); go_simp); try with_reducible rfl)
                  (try simp only [Act.put, List.setIfInBounds_toArray, List.set_cons_zero, List.set_cons_succ])
                  refine wpAnyH_take (i := 6) (oi := ⟨some 57, _, _, _, _, _⟩) (v := ?_) rfl (by kernel_rfl) (by kernel_rfl) (by kernel_rfl) (fun _ _ _ h => h) (Or.inl ⟨by rfl, ?_⟩) (by assumption) ?_
                  rotate_left
                  · ((intro w hSw; (try dsimp only at hSw); go_simp); try with_reducible rfl)
                  (try simp only [Act.put, List.setIfInBounds_toArray, List.set_cons_zero, List.set_cons_succ])
                  refine wpAnyH_take (i := 7) (oi := ⟨some 58, _, _, _, _, _⟩) (v := ?_) rfl (by kernel_rfl) (by kernel_rfl) (by kernel_rfl) (fun _ _ _ h => h) (Or.inl ⟨by rfl, ?_⟩) (by assumption) ?_
                  rotate_left
                  · ((intro w hSw; (try dsimp only at hSw); go_simp); try with_reducible rfl)
                  (try simp only [Act.put, List.setIfInBounds_toArray, List.set_cons_zero, List.set_cons_succ])
                  refine wpAnyH_ready (rs := [8]) (by kernel_rfl) (by simp) (AllReadyH.cons rfl (fun K hK => ?_) AllReadyH.nil)
                  rw [if_pos (by rfl)]
                  go_simp
                  go_at_call 16
                  (with_reducible refine (CV.out _ (HBX.out.trans (hk0.mono HBX.out.size))).mono ?_)
                  rintro e v3 ⟨rfl, hb3⟩
                  have hk3 : Below wx.heap.size wx v3 := hk0.trans (hb3.mono hk0.size)
                  clear hb3
                  refine hK.out _ _ (HKT.out _ hk3) (fun hHeld => ?_)
                  clear hK K
                  (try simp only [Act.put, List.setIfInBounds_toArray, List.set_cons_zero, List.set_cons_succ])
                  refine wpAnyH_take (i := 9) (oi := ⟨some 60, _, _, _, _, _⟩) (v := ?_) rfl (by kernel_rfl) (by kernel_rfl) (by kernel_rfl) (fun _ _ _ h => h) (Or.inl ⟨by rfl, ?_⟩) (by assumption) ?_
                  rotate_left
                  · ((intro w hSw; (try dsimp only at hSw); go_simp); try with_reducible rfl)
                  (try simp only [Act.put, List.setIfInBounds_toArray, List.set_cons_zero, List.set_cons_succ])
                  refine wpAnyH_take (i := 10) (oi := ⟨some 9, _, _, _, _, _⟩) (v := ?_) rfl (by kernel_rfl) (by kernel_rfl) (by kernel_rfl) (fun _ _ _ h => h) (Or.inl ⟨by rfl, ?_⟩) (by assumption) ?_
                  rotate_left
                  · ((intro w hSw; (try dsimp only at hSw); go_simp); try with_reducible rfl)
                  (try simp only [Act.put, List.setIfInBounds_toArray, List.set_cons_zero, List.set_cons_succ])
                  refine wpAnyH_done (by kernel_rfl) ?_ _
                  have HX2 : RowKit.Hid (ReSt w r a n c va vn AL xa xn xc (edgeL f n i b) v3 ∧ NumsAt v3 (some ⟨gl, offl, none⟩) ln AH) := Lib.hid ⟨HX.out.1.since hk3, HX.out.2.since hk3⟩
                  clear hk0 hk3 HKT CV
                  go_wp2_with fail
                  go_roundw
                  case rel => exact ⟨j + 1, hjl, HV.out, by go_num, HX2⟩
                  case measure => simp [intOf, hwj]; omega
              · obtain rfl : j = ln := by omega
                obtain ⟨q4, hq4⟩ : ∃ q, anyO f b AH j = q := ⟨_, rfl⟩
                have HQ4 : RowKit.Hid (anyO f b AH AH.length = q4) := Lib.hid (by rw [HLL.out]; exact hq4)
                rw [hq4]
                clear hq4
                cases q4 with
                | false =>
                  have HE : RowKit.Hid (edgeL f n (i + 1) b = edgeL f n i b) := Lib.hid (edge_skip (fun h => by have h1 := HANY.out.2 (HEA.out.1 h); rw [HQ4.out] at h1; cases h1))
                  go_wp2_with fail
                  go_roundw
                  case rel => exact ⟨i + 1, xa, xn, xc, hlt, rfl, by go_num, Lib.hid (by rw [HE.out]; exact HX.out.1)⟩
                  case measure => simp [intOf, hw]; omega
                | true =>
                  have HE : RowKit.Hid (edgeL f n (i + 1) b = edgeL f n i b ++ [(i : Int)]) := Lib.hid (edge_take (HEA.out.2 (HANY.out.1 HQ4.out)))
                  have HLZ : RowKit.Hid (((edgeL f n i b).length + 1) * 8 ≤ 140737488355328) := Lib.hid (by have := edgeL_lenE f n i b; omega)
                  go_wp2_with ((with_reducible refine wpList_append_numA _ rfl _ _ 29 rfl 3 Try.underlying29 info_int (w.heap.size + 1) (.slice xa xn xc) (edgeL f n i b) ?_ ?_ ?_ _ 1 wx.heap.size (i : Int) ?_ ?_ ?_ ?_ ?_); (next => rfl); (next => exact HX.out.1.own); (next => exact HX.out.1.sz); (next => rfl); (next => rfl); (next => rfl); (next => exact HLZ.out); intro ya yn yc w5 ho5 hg5 hw5; have HP := Lib.hid (HX.out.1.push hg5 ho5 hw5); clear ho5 hg5 hw5)
                  go_roundw
                  case rel => exact ⟨i + 1, ya, yn, yc, hlt, rfl, by go_num, Lib.hid (by rw [HE.out]; exact HP.out)⟩
                  case measure => simp [intOf, hw]; omega
          · have hbe : ((b : Int) != (i : Int)) = true := by rw [bne_iff_ne]; omega
            have HBI := Lib.hid hbi
            clear hbi
            obtain ⟨q3, hq3⟩ : ∃ q, overB f (b : Int) (i : Int) = q := ⟨_, rfl⟩
            have HQ3 := Lib.hid hq3
            clear hq3
            cases q3 with
            | true =>
              have HE : RowKit.Hid (edgeL f n (i + 1) b = edgeL f n i b) := Lib.hid (edge_skip (fun h => h.2.2.1 ⟨HBI.out, overB_iff.1 HQ3.out⟩))
              go_wp2_with (first | (go_at_call 36; (with_reducible refine (CH.out (b : Int) wo HI.out.law.lis).mono ?_); rintro e u ⟨rfl, rfl⟩; rw [HQ1.out]) | (go_at_call 36; (with_reducible refine (CH.out (i : Int) wo HI.out.law.lis).mono ?_); rintro e u ⟨rfl, rfl⟩; rw [HQ2.out]) | (go_at_call 16; (with_reducible refine (CO.out b i wo HI.out.law.bel).mono ?_); rintro e w3 ⟨rfl, hb⟩; rw [HQ3.out]; have HI3 := Lib.hid (HI.out.since hb); have hd0 := HI3.out.law.c0; have hd1 := HI3.out.law.c1; clear hb))
              go_roundw
              case rel => exact ⟨i + 1, xa, xn, xc, hlt, rfl, by go_num, Lib.hid (by rw [HE.out]; exact HI3.out)⟩
              case measure => simp [intOf, hw]; omega
            | false =>
              have HNO : RowKit.Hid (¬ (b ≠ i ∧ OverF f b i)) := Lib.hid (fun h => by have h1 := overB_iff.2 h.2; rw [HQ3.out] at h1; cases h1)
              go_upto_region 7 with (first | (go_at_call 36; (with_reducible refine (CH.out (b : Int) wo HI.out.law.lis).mono ?_); rintro e u ⟨rfl, rfl⟩; rw [HQ1.out]) | (go_at_call 36; (with_reducible refine (CH.out (i : Int) wo HI.out.law.lis).mono ?_); rintro e u ⟨rfl, rfl⟩; rw [HQ2.out]) | (go_at_call 16; (with_reducible refine (CO.out b i wo HI.out.law.bel).mono ?_); rintro e w3 ⟨rfl, hb⟩; rw [HQ3.out]; have HI3 := Lib.hid (HI.out.since hb); have hd0 := HI3.out.law.c0; have hd1 := HI3.out.law.c1; clear hb) | (go_at_call 37; refine (refahead_any r a n c f (i : Int) _ (HROW.out.since BlockQ.lasts HI3.out.law.bel) (by omega)).mono ?_; rintro e w4 ⟨la, ln, lc, rfl, hl, hb⟩; have HI4 := Lib.hid (HI3.out.since hb); have HLN := Lib.hid hl.read; clear hl hb))
              have HLL : RowKit.Hid ((ahL f n i).length = ln) := Lib.hid HLN.out.1
              have hln : ln ≤ n := by have := ahL_len f n i; have := HLL.out; omega
              have HANY := Lib.hid (anyO_all (f := f) (b := b) (L := ahL f n i))
              have HMORE : RowKit.Hid (∀ j (h : j < (ahL f n i).length), anyO f b (ahL f n i) (j + 1) = (anyO f b (ahL f n i) j || overB f b (ahL f n i)[j])) := Lib.hid fun j h => anyO_more h
              have HA0 : RowKit.Hid (Value.bool false = Value.bool (anyO f b (ahL f n i) 0)) := Lib.hid (by rw [anyO_zero])
              have HEA : RowKit.Hid (EdgeAt f n b i ↔ ∃ p ∈ ahL f n i, OverF f b p) := Lib.hid ⟨fun h => h.2.2.2, fun h => ⟨HMB.out, HMI.out, HNO.out, h⟩⟩
              generalize ahL f n i = AH at *
              clear hc0 hc1
              go_wp2_with fail
              go_loopw [9, 10] (fun v9 v10 wr => ∃ j : Nat, j ≤ ln ∧ v9 = .bool (anyO f b AH j) ∧ v10 = .int .i64 (j : Int) ∧ RowKit.Hid (ReSt w r a n c va vn AL xa xn xc (edgeL f n i b) wr ∧ NumsAt wr la ln AH)) (fun _ v10 _ => ln - (intOf v10).toNat)
              case atStart => exact ⟨0, Nat.zero_le _, HA0.out, rfl, Lib.hid ⟨HI4.out, HLN.out⟩⟩
              case round =>
                obtain ⟨j, hj, rfl, rfl, HX⟩ := hrel
                clear HI4 HLN HI3
                obtain ⟨wx, hwx⟩ : ∃ u, u = wr := ⟨_, rfl⟩
                rw [← hwx] at HX ⊢
                clear hwx
                have hwj : wrap64 ((j : Int) + 1) = (j : Int) + 1 := by unfold wrap64; omega
                by_cases hjl : j < ln
                · have hjA : j < AH.length := by rw [HLL.out]; exact hjl
                  obtain ⟨gl, offl, rfl, hgl, hcl⟩ := HX.out.2.2 (by omega)
                  obtain ⟨z, hz⟩ : ∃ z, z = AH[j] := ⟨_, rfl⟩
                  have hcz : wx.cell? ⟨gl, offl + j, none⟩ = some (.int .i64 z) := by rw [hz]; exact hcl j hjA
                  have HM := Lib.hid (HMORE.out j hjA)
                  rw [← hz] at HM
                  have HKT : RowKit.Hid (∀ u, Below wx.heap.size wx u → u.cell? ⟨gl, offl + j, none⟩ = some (.int .i64 z) ∧ u.cell? ⟨w.heap.size, 0, none⟩ = some (.int .i64 r) ∧ u.cell? ⟨w.heap.size, 1, none⟩ = some (.slice a n c)) := Lib.hid fun u hb => ⟨(hb.cell (p := ⟨gl, offl + j, none⟩) hgl).trans hcz, (hb.cell (p := ⟨w.heap.size, 0, none⟩) HX.out.1.law.siz).trans HX.out.1.law.c0, (hb.cell (p := ⟨w.heap.size, 1, none⟩) HX.out.1.law.siz).trans HX.out.1.law.c1⟩
                  obtain ⟨q4, hq4⟩ : ∃ q, anyO f b AH j = q := ⟨_, rfl⟩
                  have HQ4 := Lib.hid hq4
                  rw [hq4]
                  clear hq4 hz hcz hcl hgl
                  have hj0 : (0 : Int) ≤ (j : Int) := by omega
                  have hji : (j : Int) < (ln : Int) := by omega
                  have hk0 : Below wx.heap.size wx wx.drew := (Below.refl _ _).drew
                  go_upto_region 10 with fail
                  cases q4 with
                  | true =>
                    have HV : RowKit.Hid (Value.bool true = Value.bool (anyO f b AH (j + 1))) := Lib.hid (by rw [HM.out, HQ4.out]; simp)
                    refine wp_region_held_drew (S := (fun u : World => u.cell? ⟨gl, offl + j, none⟩ = some (.int .i64 z) ∧ u.cell? ⟨w.heap.size, 0, none⟩ = some (.int .i64 r) ∧ u.cell? ⟨w.heap.size, 1, none⟩ = some (.slice a n c))) (by kernel_rfl) (HKT.out _ hk0) (fun hHeld => ?_)
                    refine wpAnyH_take (i := 0) (oi := ⟨some 51, _, _, _, _, _⟩) (v := ?_) rfl (by kernel_rfl) (by kernel_rfl) (by kernel_rfl) (fun _ _ _ h => h) (Or.inl ⟨by rfl, ?_⟩) (by assumption) ?_
                    rotate_left
                    · ((intro w hSw; (try dsimp only at hSw); go_simp); try with_reducible rfl)
                    (try simp only [Act.put, List.setIfInBounds_toArray, List.set_cons_zero, List.set_cons_succ])
                    refine wpAnyH_take (i := 1) (oi := ⟨some 52, _, _, _, _, _⟩) (v := ?_) rfl (by kernel_rfl) (by kernel_rfl) (by kernel_rfl) (fun _ _ _ h => h) (Or.inl ⟨by rfl, ?_⟩) (by assumption) ?_
                    rotate_left
                    · ((intro w hSw; (try dsimp only at hSw); go_simp); try with_reducible rfl)
                    (try simp only [Act.put, List.setIfInBounds_toArray, List.set_cons_zero, List.set_cons_succ])
                    refine wpAnyH_take (i := 2) (oi := ⟨some 53, _, _, _, _, _⟩) (v := undef) rfl (by kernel_rfl) (by kernel_rfl) (by kernel_rfl) (fun _ _ _ h => h) (Or.inr ⟨by rfl, rfl⟩) (by assumption) ?_
                    (try simp only [Act.put, List.setIfInBounds_toArray, List.set_cons_zero, List.set_cons_succ])
                    refine wpAnyH_take (i := 3) (oi := ⟨some 54, _, _, _, _, _⟩) (v := undef) rfl (by kernel_rfl) (by kernel_rfl) (by kernel_rfl) (fun _ _ _ h => h) (Or.inr ⟨by rfl, rfl⟩) (by assumption) ?_
                    (try simp only [Act.put, List.setIfInBounds_toArray, List.set_cons_zero, List.set_cons_succ])
                    refine wpAnyH_take (i := 4) (oi := ⟨some 55, _, _, _, _, _⟩) (v := undef) rfl (by kernel_rfl) (by kernel_rfl) (by kernel_rfl) (fun _ _ _ h => h) (Or.inr ⟨by rfl, rfl⟩) (by assumption) ?_
                    (try simp only [Act.put, List.setIfInBounds_toArray, List.set_cons_zero, List.set_cons_succ])
                    refine wpAnyH_take (i := 5) (oi := ⟨some 56, _, _, _, _, _⟩) (v := undef) rfl (by kernel_rfl) (by kernel_rfl) (by kernel_rfl) (fun _ _ _ h => h) (Or.inr ⟨by rfl, rfl⟩) (by assumption) ?_
                    (try simp only [Act.put, List.setIfInBounds_toArray, List.set_cons_zero, List.set_cons_succ])
                    refine wpAnyH_take (i := 6) (oi := ⟨some 57, _, _, _, _, _⟩) (v := undef) rfl (by kernel_rfl) (by kernel_rfl) (by kernel_rfl) (fun _ _ _ h => h) (Or.inr ⟨by rfl, rfl⟩) (by assumption) ?_
                    (try simp only [Act.put, List.setIfInBounds_toArray, List.set_cons_zero, List.set_cons_succ])
                    refine wpAnyH_take (i := 7) (oi := ⟨some 58, _, _, _, _, _⟩) (v := undef) rfl (by kernel_rfl) (by kernel_rfl) (by kernel_rfl) (fun _ _ _ h => h) (Or.inr ⟨by rfl, rfl⟩) (by assumption) ?_
                    (try simp only [Act.put, List.setIfInBounds_toArray, List.set_cons_zero, List.set_cons_succ])
                    refine wpAnyH_ready (rs := [8]) (by kernel_rfl) (by simp) (AllReadyH.cons rfl (fun K hK => ?_) AllReadyH.nil)
                    rw [if_neg (by intro h; cases h)]
                    refine skip_putE (K := K) (d := some 59) rfl ?_
                    refine hK.out _ _ (HKT.out _ hk0) (fun hHeld => ?_)
                    clear hK K
                    (try simp only [Act.put, List.setIfInBounds_toArray, List.set_cons_zero, List.set_cons_succ])
                    refine wpAnyH_take (i := 9) (oi := ⟨some 60, _, _, _, _, _⟩) (v := ?_) rfl (by kernel_rfl) (by kernel_rfl) (by kernel_rfl) (fun _ _ _ h => h) (Or.inl ⟨by rfl, ?_⟩) (by assumption) ?_
                    rotate_left
                    · ((intro w hSw; (try dsimp only at hSw); go_simp); try with_reducible rfl)
                    (try simp only [Act.put, List.setIfInBounds_toArray, List.set_cons_zero, List.set_cons_succ])
                    refine wpAnyH_take (i := 10) (oi := ⟨some 9, _, _, _, _, _⟩) (v := ?_) rfl (by kernel_rfl) (by kernel_rfl) (by kernel_rfl) (fun _ _ _ h => h) (Or.inl ⟨by rfl, ?_⟩) (by assumption) ?_
                    rotate_left
                    · ((intro w hSw; (try dsimp only at hSw); go_simp); try with_reducible rfl)
                    (try simp only [Act.put, List.setIfInBounds_toArray, List.set_cons_zero, List.set_cons_succ])
                    refine wpAnyH_done (by kernel_rfl) ?_ _
                    have HX2 : RowKit.Hid (ReSt w r a n c va vn AL xa xn xc (edgeL f n i b) wx.drew ∧ NumsAt wx.drew (some ⟨gl, offl, none⟩) ln AH) := Lib.hid ⟨HX.out.1.since hk0, HX.out.2.since hk0⟩
                    clear hk0 HKT
                    go_wp2_with fail
                    go_roundw
                    case rel => exact ⟨j + 1, hjl, HV.out, by go_num, HX2⟩
                    case measure => simp [intOf, hwj]; omega
                  | false =>
                    obtain ⟨q5, hq5⟩ : ∃ q, overB f b z = q := ⟨_, rfl⟩
                    have HV : RowKit.Hid (Value.bool q5 = Value.bool (anyO f b AH (j + 1))) := Lib.hid (by rw [HM.out, HQ4.out, hq5]; simp)
                    have CV : RowKit.Hid (∀ u, Below w.heap.size w u → Calls Try.prog 16 #[.agg #[.int .i64 r, .slice a n c], .int .i64 (b : Int), .int .i64 z] u fun e w' => e = .returned (.bool q5) ∧ Below u.heap.size u w') := Lib.hid fun u hu => hq5 ▸ CO.out b z u hu
                    have HBX := Lib.hid HX.out.1.law.bel
                    clear hq5
                    refine wp_region_held_drew (S := (fun u : World => u.cell? ⟨gl, offl + j, none⟩ = some (.int .i64 z) ∧ u.cell? ⟨w.heap.size, 0, none⟩ = some (.int .i64 r) ∧ u.cell? ⟨w.heap.size, 1, none⟩ = some (.slice a n c))) (by kernel_rfl) (HKT.out _ hk0) (fun hHeld => ?_)
                    refine wpAnyH_take (i := 0) (oi := ⟨some 51, _, _, _, _, _⟩) (v := ?_) rfl (by kernel_rfl) (by kernel_rfl) (by kernel_rfl) (fun _ _ _ h => h) (Or.inl ⟨by rfl, ?_⟩) (by assumption) ?_
                    rotate_left
                    · ((intro w hSw; (try dsimp only at hSw); go_simp); try with_reducible rfl)
                    (try simp only [Act.put, List.setIfInBounds_toArray, List.set_cons_zero, List.set_cons_succ])
                    refine wpAnyH_take (i := 1) (oi := ⟨some 52, _, _, _, _, _⟩) (v := ?_) rfl (by kernel_rfl) (by kernel_rfl) (by kernel_rfl) (fun _ _ _ h => h) (Or.inl ⟨by rfl, ?_⟩) (by assumption) ?_
                    rotate_left
                    · ((intro w hSw; (try dsimp only at hSw); go_simp); try with_reducible rfl)
                    (try simp only [Act.put, List.setIfInBounds_toArray, List.set_cons_zero, List.set_cons_succ])
                    refine wpAnyH_take (i := 2) (oi := ⟨some 53, _, _, _, _, _⟩) (v := ?_) rfl (by kernel_rfl) (by kernel_rfl) (by kernel_rfl) (fun _ _ _ h => h) (Or.inl ⟨by rfl, ?_⟩) (by assumption) ?_
                    rotate_left
                    · ((intro w hSw; (try dsimp only at hSw); go_simp); try with_reducible rfl)
                    (try simp only [Act.put, List.setIfInBounds_toArray, List.set_cons_zero, List.set_cons_succ])
                    refine wpAnyH_take (i := 3) (oi := ⟨some 54, _, _, _, _, _⟩) (v := ?_) rfl (by kernel_rfl) (by kernel_rfl) (by kernel_rfl) (fun _ _ _ h => h) (Or.inl ⟨by rfl, ?_⟩) (by assumption) ?_
                    rotate_left
                    · ((intro w hSw; (try dsimp only at hSw); go_simp); try with_reducible rfl)
                    (try simp only [Act.put, List.setIfInBounds_toArray, List.set_cons_zero, List.set_cons_succ])
                    refine wpAnyH_take (i := 4) (oi := ⟨some 55, _, _, _, _, _⟩) (v := ?_) rfl (by kernel_rfl) (by kernel_rfl) (by kernel_rfl) (fun _ _ _ h => h) (Or.inl ⟨by rfl, ?_⟩) (by assumption) ?_
                    rotate_left
                    · ((intro w hSw; (try dsimp only at hSw); go_simp); try with_reducible rfl)
                    (try simp only [Act.put, List.setIfInBounds_toArray, List.set_cons_zero, List.set_cons_succ])
                    refine wpAnyH_take (i := 5) (oi := ⟨some 56, _, _, _, _, _⟩) (v := ?_) rfl (by kernel_rfl) (by kernel_rfl) (by kernel_rfl) (fun _ _ _ h => h) (Or.inl ⟨by rfl, ?_⟩) (by assumption) ?_
                    rotate_left
                    · ((intro w hSw; (try dsimp only at hSw); go_simp); try with_reducible rfl)
                    (try simp only [Act.put, List.setIfInBounds_toArray, List.set_cons_zero, List.set_cons_succ])
                    refine wpAnyH_take (i := 6) (oi := ⟨some 57, _, _, _, _, _⟩) (v := ?_) rfl (by kernel_rfl) (by kernel_rfl) (by kernel_rfl) (fun _ _ _ h => h) (Or.inl ⟨by rfl, ?_⟩) (by assumption) ?_
                    rotate_left
                    · ((intro w hSw; (try dsimp only at hSw); go_simp); try with_reducible rfl)
                    (try simp only [Act.put, List.setIfInBounds_toArray, List.set_cons_zero, List.set_cons_succ])
                    refine wpAnyH_take (i := 7) (oi := ⟨some 58, _, _, _, _, _⟩) (v := ?_) rfl (by kernel_rfl) (by kernel_rfl) (by kernel_rfl) (fun _ _ _ h => h) (Or.inl ⟨by rfl, ?_⟩) (by assumption) ?_
                    rotate_left
                    · ((intro w hSw; (try dsimp only at hSw); go_simp); try with_reducible rfl)
                    (try simp only [Act.put, List.setIfInBounds_toArray, List.set_cons_zero, List.set_cons_succ])
                    refine wpAnyH_ready (rs := [8]) (by kernel_rfl) (by simp) (AllReadyH.cons rfl (fun K hK => ?_) AllReadyH.nil)
                    rw [if_pos (by rfl)]
                    go_simp
                    go_at_call 16
                    (with_reducible refine (CV.out _ (HBX.out.trans (hk0.mono HBX.out.size))).mono ?_)
                    rintro e v3 ⟨rfl, hb3⟩
                    have hk3 : Below wx.heap.size wx v3 := hk0.trans (hb3.mono hk0.size)
                    clear hb3
                    refine hK.out _ _ (HKT.out _ hk3) (fun hHeld => ?_)
                    clear hK K
                    (try simp only [Act.put, List.setIfInBounds_toArray, List.set_cons_zero, List.set_cons_succ])
                    refine wpAnyH_take (i := 9) (oi := ⟨some 60, _, _, _, _, _⟩) (v := ?_) rfl (by kernel_rfl) (by kernel_rfl) (by kernel_rfl) (fun _ _ _ h => h) (Or.inl ⟨by rfl, ?_⟩) (by assumption) ?_
                    rotate_left
                    · ((intro w hSw; (try dsimp only at hSw); go_simp); try with_reducible rfl)
                    (try simp only [Act.put, List.setIfInBounds_toArray, List.set_cons_zero, List.set_cons_succ])
                    refine wpAnyH_take (i := 10) (oi := ⟨some 9, _, _, _, _, _⟩) (v := ?_) rfl (by kernel_rfl) (by kernel_rfl) (by kernel_rfl) (fun _ _ _ h => h) (Or.inl ⟨by rfl, ?_⟩) (by assumption) ?_
                    rotate_left
                    · ((intro w hSw; (try dsimp only at hSw); go_simp); try with_reducible rfl)
                    (try simp only [Act.put, List.setIfInBounds_toArray, List.set_cons_zero, List.set_cons_succ])
                    refine wpAnyH_done (by kernel_rfl) ?_ _
                    have HX2 : RowKit.Hid (ReSt w r a n c va vn AL xa xn xc (edgeL f n i b) v3 ∧ NumsAt v3 (some ⟨gl, offl, none⟩) ln AH) := Lib.hid ⟨HX.out.1.since hk3, HX.out.2.since hk3⟩
                    clear hk0 hk3 HKT CV
                    go_wp2_with fail
                    go_roundw
                    case rel => exact ⟨j + 1, hjl, HV.out, by go_num, HX2⟩
                    case measure => simp [intOf, hwj]; omega
                · obtain rfl : j = ln := by omega
                  obtain ⟨q4, hq4⟩ : ∃ q, anyO f b AH j = q := ⟨_, rfl⟩
                  have HQ4 : RowKit.Hid (anyO f b AH AH.length = q4) := Lib.hid (by rw [HLL.out]; exact hq4)
                  rw [hq4]
                  clear hq4
                  cases q4 with
                  | false =>
                    have HE : RowKit.Hid (edgeL f n (i + 1) b = edgeL f n i b) := Lib.hid (edge_skip (fun h => by have h1 := HANY.out.2 (HEA.out.1 h); rw [HQ4.out] at h1; cases h1))
                    go_wp2_with fail
                    go_roundw
                    case rel => exact ⟨i + 1, xa, xn, xc, hlt, rfl, by go_num, Lib.hid (by rw [HE.out]; exact HX.out.1)⟩
                    case measure => simp [intOf, hw]; omega
                  | true =>
                    have HE : RowKit.Hid (edgeL f n (i + 1) b = edgeL f n i b ++ [(i : Int)]) := Lib.hid (edge_take (HEA.out.2 (HANY.out.1 HQ4.out)))
                    have HLZ : RowKit.Hid (((edgeL f n i b).length + 1) * 8 ≤ 140737488355328) := Lib.hid (by have := edgeL_lenE f n i b; omega)
                    go_wp2_with ((with_reducible refine wpList_append_numA _ rfl _ _ 29 rfl 3 Try.underlying29 info_int (w.heap.size + 1) (.slice xa xn xc) (edgeL f n i b) ?_ ?_ ?_ _ 1 wx.heap.size (i : Int) ?_ ?_ ?_ ?_ ?_); (next => rfl); (next => exact HX.out.1.own); (next => exact HX.out.1.sz); (next => rfl); (next => rfl); (next => rfl); (next => exact HLZ.out); intro ya yn yc w5 ho5 hg5 hw5; have HP := Lib.hid (HX.out.1.push hg5 ho5 hw5); clear ho5 hg5 hw5)
                    go_roundw
                    case rel => exact ⟨i + 1, ya, yn, yc, hlt, rfl, by go_num, Lib.hid (by rw [HE.out]; exact HP.out)⟩
                    case measure => simp [intOf, hw]; omega
    · obtain rfl : i = n := by omega
      go_wp2_with fail
      go_ret
      exact ⟨xa, xn, xc, rfl, HI.out.own.mono (by omega), HI.out.law.bel⟩
end Go.Proofs.Ytnnccahpgailiaa
