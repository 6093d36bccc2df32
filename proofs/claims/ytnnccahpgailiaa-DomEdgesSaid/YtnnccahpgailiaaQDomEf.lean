/- Layer 8: package dom's Edge, walked. -/
import Derived.Test.YtnnccahpgailiaaQDomEe

namespace Go.Proofs.Ytnnccahpgailiaa
open Go.RowKit (wrap64 intOf Below)
set_option linter.unusedVariables false
set_option linter.unusedSimpArgs false

/-- How far a climb can still go. -/
def upM (f : FuncD) (z : Int) : Nat := if 0 ≤ z then plF f z.toNat + 1 else 0
theorem upM_lt {f : FuncD} {up : Nat → Int} {a : Nat} (hl : -1 ≤ up a) (h : ∀ c : Nat, up a = (c : Int) → plF f c < plF f a) : upM f (up a) < upM f (a : Int) := by
  unfold upM
  rw [if_pos (show (0 : Int) ≤ (a : Int) by omega), Int.toNat_natCast]
  by_cases h0 : 0 ≤ up a
  · obtain ⟨c, hc⟩ := Int.eq_ofNat_of_zero_le h0
    rw [hc] at h ⊢
    have := h c rfl
    rw [if_pos (show (0 : Int) ≤ (c : Int) by omega), Int.toNat_natCast]
    omega
  · rw [if_neg h0]; omega
open Classical in
set_option maxRecDepth 100000 in
set_option maxHeartbeats 4000000 in
theorem edge_any (r : Int) (a : Option Addr) (n c : Nat) (f : FuncD) (w : World) (hrow : RowV BlockQ 8 w (.slice a n c) f.blocks) (hn : n ≤ 90000) :
    Calls Try.prog 10 #[.agg #[.int .i64 r, .slice a n c]] w fun e w' => ∃ ge us, e = .returned (.slice (some ⟨ge, 0, none⟩) n n) ∧ Rows2 w' w.heap.size 29 3 (.slice (some ⟨ge, 0, none⟩) n n) us (edRow f n n (fun _ => False)) ∧ us.length = n ∧ Below w.heap.size w w' := by
  obtain ⟨W1, hW1⟩ : ∃ W, w.alloc (.cells #[.int .i64 r, .slice a n c] 24) = W := ⟨_, rfl⟩
  have hb1 : Below w.heap.size w W1 := by rw [← hW1]; exact (Below.refl _ w).alloc (Nat.le_refl _) _
  have hz1 : W1.heap.size = w.heap.size + 1 := by rw [← hW1]; simp
  have HB1 := Lib.hid hb1
  have CG := Lib.hid (grown_any r a n c f W1 (hrow.since BlockQ.lasts hb1) (by omega))
  have hc : ∀ j, W1.cell? ⟨w.heap.size, j, none⟩ = (#[.int .i64 r, .slice a n c] : Array Value)[j]? := fun j => by rw [← hW1]; exact World.cell?_alloc_mark _ _ _ _ _
  have hc0 := hc 0
  have hc1 := hc 1
  have hmk := make_rows n n rfl (by omega)
  clear hrow hb1 hc
  go_enter Try.func10, Try.ntmps10
  go_upto_region 1 with fail
  try rw [hW1]
  clear hW1
  go_upto_region 2 with (go_at_call 33; refine CG.out.mono ?_; rintro e w2 ⟨p, g, Z, ov, gf, vs, rd, m, rfl, hG, hrd, hb⟩; have HG := Lib.hid hG; have HB2 := Lib.hid hb; have d1 : w2.cell? ⟨w.heap.size, 1, none⟩ = some (.slice a n c) := ((hb.cell (p := ⟨w.heap.size, 1, none⟩) (show w.heap.size < W1.heap.size by omega)).trans hc1); clear hG hrd hb)
  have HTL := Lib.hid HG.out.at_.tlt
  clear hc0 hc1 CG
  go_upto_region 3 with fail
  have hbm : Below w2.heap.size w2 (w2.alloc (.cells (madeCells #[.slice none 0 0] n) 29)) := (Below.refl _ w2).alloc (Nat.le_refl _) _
  have HS0 : RowKit.Hid (EdSt w2 f w2.heap.size W1.heap.size p n g Z ov gf vs rd m w2.heap.size (List.replicate n (.slice none 0 0)) (edRow f n 0 (fun _ => False)) (w2.alloc (.cells (madeCells #[.slice none 0 0] n) 29))) := Lib.hid ⟨HG.out.since hbm, HTL.out, by rw [edRow_zero f n (fun _ h => h)]; exact Rows2.made (Nat.le_refl _) (by unfold maxLen; omega), by simp, hbm, hbm.size⟩
  obtain ⟨ge, hge⟩ : ∃ k, k = w2.heap.size := ⟨_, rfl⟩
  obtain ⟨W3, hW3⟩ : ∃ W, w2.alloc (.cells (madeCells #[.slice none 0 0] n) 29) = W := ⟨_, rfl⟩
  rw [hW3] at HS0 ⊢
  rw [show EdSt w2 f w2.heap.size W1.heap.size p n g Z ov gf vs rd m w2.heap.size (List.replicate n (.slice none 0 0)) (edRow f n 0 (fun _ => False)) W3 = EdSt w2 f w2.heap.size W1.heap.size p n g Z ov gf vs rd m ge (List.replicate n (.slice none 0 0)) (edRow f n 0 (fun _ => False)) W3 by rw [hge]] at HS0
  rw [← hge]
  clear hW3 hbm d1 hmk hge
  have HSET := Lib.hid HG.out.set
  have HLEN := Lib.hid HG.out.len
  have c3 : W3.cell? ⟨p, 3, none⟩ = some (.slice (some ⟨g 1, 0, none⟩) n n) := by simp [World.cell?, HS0.out.gr.at_.blk]
  go_wp2_with fail
  clear c3
  go_loopw [21] (fun v21 wr => ∃ (i : Nat) (us : List Value), i ≤ n ∧ v21 = .int .i64 (i : Int) ∧ RowKit.Hid (EdSt w2 f w2.heap.size W1.heap.size p n g Z ov gf vs rd m ge us (edRow f n i (fun _ => False)) wr)) (fun v21 _ => n - (intOf v21).toNat)
  case atStart => exact ⟨0, _, Nat.zero_le _, rfl, HS0⟩
  case round =>
    obtain ⟨i, us, hi, rfl, HI⟩ := hrel
    clear HS0
    obtain ⟨wo, hwo⟩ : ∃ u, u = wr := ⟨_, rfl⟩
    rw [← hwo] at HI ⊢
    clear hwo
    by_cases hlt : i < n
    · have hiv : i < vs.length := by rw [HG.out.vsl]; exact hlt
      obtain ⟨nx, hnx⟩ : ∃ z, upOf n (Z 1) i = z := ⟨_, rfl⟩
      have HNX := Lib.hid hnx
      have hup : nth (Z 1) i = nx := by rw [← hnx, upOf_lt hlt]
      have c1 : wo.cell? ⟨g 1, i, none⟩ = some (.int .i64 nx) := by rw [← hup]; exact HI.out.gr.at_.cell (i := 1) (by omega) hlt
      obtain ⟨xa, xn, xc, hxc, hxn, hxl, _⟩ := HI.out.gr.from_ hlt
      have hcell := HI.out.gr.at_.fr.cell hiv
      have hvx : vs[i] = .slice xa xn xc := Option.some.inj (hcell.symm.trans hxc)
      have HVX := Lib.hid hvx
      have HXL : RowKit.Hid (((ahL f n i).filter (metZ f)).length = xn) := Lib.hid hxn.1
      have HQ : RowKit.Hid (∀ z ∈ (ahL f n i).filter (metZ f), ∃ q : Nat, z = (q : Int) ∧ MetF f q ∧ EdgeF f q i) := Lib.hid fun z hz => by
        obtain ⟨q, rfl, hq, hx⟩ := (fr_mem HLEN.out).1 hz
        exact ⟨q, rfl, hq, hx, by rw [← HLEN.out]; exact hlt⟩
      have HEND := Lib.hid (edRow_more HSET.out HLEN.out hlt)
      obtain ⟨L, hL⟩ : ∃ L, L = (ahL f n i).filter (metZ f) := ⟨_, rfl⟩
      have HL := Lib.hid hL
      rw [← hL] at HXL HQ HEND
      have c2 : wo.cell? ⟨p, 2, none⟩ = some (.slice (some ⟨gf, 0, none⟩) n n) := by simp [World.cell?, HI.out.gr.at_.blk]
      have hii : (i : Int) < (n : Int) := by omega
      have hi0 : (0 : Int) ≤ (i : Int) := by omega
      have HS1 : RowKit.Hid (EdSt w2 f w2.heap.size W1.heap.size p n g Z ov gf vs rd m ge us (edRow f n i (DDone (upOf n (Z 1)) L i 0)) wo) := Lib.hid (by rw [edRow_same (fun x => ⟨fun h => absurd h (ddone_none _ _ _ x), fun h => h.elim⟩ : ∀ x, DDone (upOf n (Z 1)) L i 0 x ↔ False)]; exact HI.out)
      clear hnx hup hxn hcell hvx hL
      go_wp2_with fail
      clear c1 hxc c2
      go_loopw [34] (fun v34 wr => ∃ (j : Nat) (us : List Value), j ≤ xn ∧ v34 = .int .i64 (j : Int) ∧ RowKit.Hid (EdSt w2 f w2.heap.size W1.heap.size p n g Z ov gf vs rd m ge us (edRow f n i (DDone (upOf n (Z 1)) L i j)) wr)) (fun v34 _ => xn - (intOf v34).toNat)
      case atStart => exact ⟨0, _, Nat.zero_le _, rfl, HS1⟩
      case round =>
        obtain ⟨j, us, hj, rfl, HJ⟩ := hrel
        clear HS1 HI
        obtain ⟨wq, hwq⟩ : ∃ u, u = wr := ⟨_, rfl⟩
        rw [← hwq] at HJ ⊢
        clear hwq
        by_cases hjl : j < xn
        · have hjL : j < L.length := by rw [HXL.out]; exact hjl
          obtain ⟨q, hq, hqm, hqe⟩ := HQ.out (L[j]) (List.getElem_mem _)
          obtain ⟨xa', xn', xc', hxc, hxn, _⟩ := HJ.out.gr.from_ hlt
          have hcell := HJ.out.gr.at_.fr.cell (show i < vs.length by rw [HG.out.vsl]; exact hlt)
          rw [hxc, HVX.out] at hcell
          cases hcell
          rw [← HL.out] at hxn
          obtain ⟨gx, offx, rfl, hgx, hcx⟩ := hxn.2 (by omega)
          have hcq : wq.cell? ⟨gx, offx + j, none⟩ = some (.int .i64 (q : Int)) := by
            have h := hcx j hjL
            rw [hq] at h
            exact h
          obtain ⟨hst, hMb⟩ := clm_start HSET.out HLEN.out hqm hqe
          have HJL := Lib.hid hjL
          have HQQ := Lib.hid (And.intro hq hqm)
          have HC0 : RowKit.Hid (ClmAt (upOf n (Z 1)) i q (q : Int) ∧ EdSt w2 f w2.heap.size W1.heap.size p n g Z ov gf vs rd m ge us (edRow f n i (DPart (upOf n (Z 1)) L i j q (q : Int))) wq) := Lib.hid ⟨hst, by rw [edRow_same (dpart_start (upOf n (Z 1)) L i j q)]; exact HJ.out⟩
          have hji : (j : Int) < (xn : Int) := by omega
          have hj0 : (0 : Int) ≤ (j : Int) := by omega
          clear hcx hgx hq hqm hqe hst hMb hxc hxn
          go_wp2_with fail
          clear hcq
          go_loopw [9] (fun v9 wr => ∃ (z : Int) (us : List Value), v9 = .int .i64 z ∧ RowKit.Hid (ClmAt (upOf n (Z 1)) i q z ∧ EdSt w2 f w2.heap.size W1.heap.size p n g Z ov gf vs rd m ge us (edRow f n i (DPart (upOf n (Z 1)) L i j q z)) wr)) (fun v9 _ => upM f (intOf v9))
          case atStart => exact ⟨(q : Int), us, rfl, HC0⟩
          case round =>
            obtain ⟨z, us, rfl, HC⟩ := hrel
            clear HC0 HJ
            obtain ⟨wc, hwc⟩ : ∃ u, u = wr := ⟨_, rfl⟩
            rw [← hwc] at HC ⊢
            clear hwc
            have hwj : wrap64 ((j : Int) + 1) = (j : Int) + 1 := by unfold wrap64; omega
            by_cases hzn : z = nx
            · have hb : (z != nx) = false := by rw [hzn]; simp
              have HE : RowKit.Hid (EdSt w2 f w2.heap.size W1.heap.size p n g Z ov gf vs rd m ge us (edRow f n i (DDone (upOf n (Z 1)) L i (j + 1))) wc) := Lib.hid (by
                have h := HC.out.2
                rw [hzn, ← HNX.out, edRow_same (dpart_end HJL.out HQQ.out.1)] at h
                exact h)
              clear hzn
              go_wp2_with fail
              go_roundw
              case rel => exact ⟨j + 1, us, by omega, by go_num, HE⟩
              case measure => simp [intOf, hwj]; omega
            · have hb : (z != nx) = true := by rw [bne_iff_ne]; exact hzn
              have HNE : RowKit.Hid (z ≠ upOf n (Z 1) i) := Lib.hid (by rw [HNX.out]; exact hzn)
              obtain ⟨x, rfl, hxm⟩ : ∃ x : Nat, z = (x : Int) ∧ MetF f x := by
                rcases HC.out.1 with h | ⟨x, rfl, h1, h2⟩
                · exact absurd h HNE.out
                · exact ⟨x, rfl, clm_met HSET.out HQQ.out.2 HC.out.1 HNE.out⟩
              have hxn' : x < n := by rw [HLEN.out]; exact met_lt hxm
              have hxu : x < us.length := by rw [HC.out.2.len]; exact hxn'
              have hxZ : x < (edRow f n i (DPart (upOf n (Z 1)) L i j q (x : Int))).length := by rw [edRow_len]; exact hxn'
              have hown := HC.out.2.row.own x hxu hxZ
              rw [edRow_at hxZ] at hown
              obtain ⟨ya, yn, yc, hyv, hyn⟩ := hown.nums
              have hcy : wc.cell? ⟨ge, x, none⟩ = some (.slice ya yn yc) := by rw [← hyv]; exact HC.out.2.row.cell hxu
              have hyl : yn ≤ 100000 := by
                have h1 := hyn.1
                have h2 := edgeL_len f n i x
                rw [List.length_append] at h1
                have h3 : ∀ (q : Prop) [Decidable q], (if q then [(i : Int)] else []).length ≤ 1 := fun q _ => by split <;> simp
                have h4 := h3 (DPart (upOf n (Z 1)) L i j q (x : Int) x)
                omega
              have CE := Lib.hid (ends_any ya yn yc _ (i : Int) wc hyn hyl)
              rw [ends_row] at CE
              have HXM := Lib.hid hxm
              have HXU := Lib.hid hxu
              have HYV := Lib.hid hyv
              have hxi : (x : Int) < (n : Int) := by omega
              have hx0 : (0 : Int) ≤ (x : Int) := by omega
              by_cases hD : DPart (upOf n (Z 1)) L i j q (x : Int) x
              · have HE : RowKit.Hid (EdSt w2 f w2.heap.size W1.heap.size p n g Z ov gf vs rd m ge us (edRow f n i (DDone (upOf n (Z 1)) L i (j + 1))) wc) := Lib.hid (by
                  have h := HC.out.2
                  rw [edRow_same (dpart_met HJL.out HQQ.out.1 hD)] at h
                  exact h)
                rw [decide_eq_true hD] at CE
                clear hD hown hyn hyv hxZ hxm
                go_wp2_with (go_at_call 34; (with_reducible refine CE.out.mono ?_); rintro e u ⟨rfl, rfl⟩)
                go_roundw
                case rel => exact ⟨j + 1, us, by omega, by go_num, HE⟩
                case measure => simp [intOf, hwj]; omega
              · rw [decide_eq_false hD] at CE
                rw [if_neg hD, List.append_nil] at hown
                have HOW : RowKit.Hid (OwnsI wc w2.heap.size 3 (.slice ya yn yc) (edgeL f n i x)) := Lib.hid (by rw [← hyv]; exact hown)
                have HOWA : RowKit.Hid (OwnsI (wc.alloc (.cells #[.int .i64 (i : Int)] 3)) w2.heap.size 3 (.slice ya yn yc) (edgeL f n i x)) := Lib.hid (World.ownsRow.alloc HOW.out _)
                have HLZ : RowKit.Hid (((edgeL f n i x).length + 1) * 8 ≤ 140737488355328) := Lib.hid (by have := edgeL_len f n i x; omega)
                have HSP := Lib.hid (clm_step HSET.out.tree HC.out.1 HNE.out)
                have HDS := Lib.hid (edRow_set (b := i) (f := f) hxn' hD (dpart_step HSET.out.tree (L := L) (j := j) HC.out.1 HNE.out))
                have HUM := Lib.hid (upM_lt (f := f) (HSET.out.tree.low x) HSP.out.2)
                obtain ⟨y, hy⟩ : ∃ y, upOf n (Z 1) x = y := ⟨_, rfl⟩
                rw [hy] at HSP HDS HUM
                have HYY := Lib.hid (show nth (Z 1) x = y by rw [← hy, upOf_lt hxn'])
                clear hD hown hyn hyv hxZ hxm hy
                go_wp2_with (first
                  | (go_at_call 34; (with_reducible refine CE.out.mono ?_); rintro e u ⟨rfl, rfl⟩)
                  | ((with_reducible refine wpList_append_numA _ rfl _ _ 29 rfl 3 Try.underlying29 info_int w2.heap.size (.slice ya yn yc) (edgeL f n i x) ?_ ?_ ?_ _ 1 wc.heap.size (i : Int) ?_ ?_ ?_ ?_ ?_); (next => rfl); (next => exact HOW.out); (next => exact HC.out.2.siz); (next => rfl); (next => rfl); (next => rfl); (next => exact HLZ.out); intro va vn vc w3 ho3 hg3 hw3; have HP := Lib.hid (HC.out.2.push (b := x) (Z' := edgeL f n i x ++ [(i : Int)]) HXU.out (by rw [HYV.out]; exact hg3) ho3 (by rw [HYV.out]; exact hw3)); have hf3 := HP.out.2.1; have hc3 : w3.cell? ⟨ge, x, none⟩ = some (.slice ya yn yc) := HP.out.2.2.trans (by rw [HYV.out]); have hd3 : (w3.setCell ⟨ge, x, none⟩ (.slice va vn vc)).cell? ⟨p, 3, none⟩ = some (.slice (some ⟨g 1, 0, none⟩) n n) := (by simp [World.cell?, HP.out.1.gr.at_.blk]); have hu3 : (w3.setCell ⟨ge, x, none⟩ (.slice va vn vc)).cell? ⟨g 1, x, none⟩ = some (.int .i64 y) := (by rw [← HYY.out]; exact HP.out.1.gr.at_.cell (i := 1) (by omega) hxn'); clear ho3 hg3 hw3))
                go_roundw
                case rel =>
                  have h := HP.out.1
                  rw [HDS.out] at h
                  exact ⟨y, _, rfl, Lib.hid ⟨HSP.out.1, h⟩⟩
                case measure => exact HUM.out
        · obtain rfl : j = xn := by omega
          have HE : RowKit.Hid (EdSt w2 f w2.heap.size W1.heap.size p n g Z ov gf vs rd m ge us (edRow f n (i + 1) (fun _ => False)) wq) := Lib.hid (by
            have h := HJ.out
            rw [← HXL.out, HEND.out] at h
            exact h)
          have hw : wrap64 ((i : Int) + 1) = (i : Int) + 1 := by unfold wrap64; omega
          go_wp2_with fail
          go_roundw
          case rel => exact ⟨i + 1, us, hlt, by go_num, HE⟩
          case measure => simp [intOf, hw]; omega
    · obtain rfl : i = n := by omega
      go_wp2_with fail
      refine bodyPost_ret (v := .slice (some ⟨ge, 0, none⟩) i i) (by simp [results, Try.results10, go_sem]) rfl ?_
      have hN : w.heap.size ≤ w2.heap.size := by have := HB2.out.size; omega
      exact ⟨ge, us, rfl, HI.out.row.mono hN, HI.out.len, (HB1.out.trans (HB2.out.mono HB1.out.size)).trans (HI.out.bel.mono hN)⟩
end Go.Proofs.Ytnnccahpgailiaa
