/- Layer 14: package flow's ways, side 1. -/
import Derived.Test.YtgncpiamokeohaaFlowWb
namespace Go.Proofs.Ytgncpiamokeohaa
open Go.RowKit (wrap64 intOf Below)
set_option linter.unusedVariables false
set_option linter.unusedSimpArgs false

set_option maxRecDepth 100000 in
set_option maxHeartbeats 4000000 in
theorem ways1_any (n : Nat) (ea : Option Addr) (en ec : Nat) (E : List (Int × Int)) (w : World) (hE : PairsAt w ea en E) (hn : n ≤ 1099511627776) (hen : en ≤ 1099511627776) (hin : ∀ e ∈ turnF E, 0 ≤ e.1 ∧ e.1 < (n : Int)) :
    Calls Try.prog 22 #[.int .i64 (n : Int), .slice ea en ec, .int .i64 1] w (WaysPost (turnF E) n w) := by
  have hlen := hE.1
  obtain ⟨E', hE'⟩ : ∃ E', E' = turnF E := ⟨_, rfl⟩
  have hl' : E'.length = en := by rw [hE']; unfold turnF; rw [List.length_map]; exact hlen
  have HX : RowKit.Hid (∀ i (h : i < E'.length) (h2 : i < E.length), E'[i] = (E[i].2, E[i].1)) := Lib.hid fun i h h2 => by subst hE'; simp [turnF]
  have HIN : RowKit.Hid (∀ i (h : i < E'.length), ∃ u : Nat, E'[i].1 = (u : Int) ∧ u < n) := Lib.hid fun i h => by
    have h3 := hin E'[i] (by rw [← hE']; exact List.getElem_mem h)
    exact ⟨E'[i].1.toNat, by omega, by omega⟩
  rw [← hE']
  have HE := Lib.hid hE
  have HCB := Lib.hid (CnSt.begin w n hn)
  have hmk := make_intF n n rfl hn
  have hmk2 := make_intF en en rfl hen
  have hmk3 := make_rowF n n rfl hn
  clear hE hE' hin
  obtain ⟨w1, hw1⟩ : ∃ u, u = w.alloc (.cells (madeCells #[.int .i64 0] n) 3) := ⟨_, rfl⟩
  rw [← hw1] at HCB
  go_enter Try.func22, Try.ntmps22
  go_upto_region 2 with fail
  rw [← hw1]
  clear hw1 hmk
  go_upto_region 3 with fail
  go_loopw [20] (fun v20 wr => ∃ i : Nat, i ≤ en ∧ v20 = .int .i64 (i : Int) ∧ RowKit.Hid (CnSt w w.heap.size n (cntsF (E'.take i) n) wr)) (fun v20 _ => en - (intOf v20).toNat)
  case atStart => exact ⟨0, Nat.zero_le _, rfl, Lib.hid (by simpa using HCB.out)⟩
  case round =>
    obtain ⟨i, hi, rfl, HI⟩ := hrel
    by_cases hlt : i < en
    · have hltz : (i : Int) < (en : Int) := by omega
      have hi0 : (0 : Int) ≤ (i : Int) := by omega
      have hiE : i < E.length := by omega
      have hiE' : i < E'.length := by omega
      obtain ⟨g, off, rfl, hg, hcs⟩ := (HE.out.since HI.out.bel).2 (by omega)
      obtain ⟨c0, c1⟩ := hcs i hiE
      obtain ⟨u, hu, hun⟩ := HIN.out i hiE'
      have hx := HX.out i hiE' hiE
      have hxu : E[i].2 = (u : Int) := by rw [hx] at hu; exact hu
      have HST : RowKit.Hid (cntsF (E'.take (i + 1)) n = (cntsF (E'.take i) n).set u ((cntF (E'.take i) u : Int) + 1)) := Lib.hid (cntsF_take hiE' hu).symm
      obtain ⟨cs, hfs⟩ := HI.out.cell hun
      rw [cntsF_at hun] at cs
      have hcb : cntF (E'.take i) u ≤ 1099511627776 := Nat.le_trans (cntF_upto E' i u) (Nat.le_trans hi hen)
      have hslt : w.heap.size < wr.heap.size := (HI.out.sz.lt _ rfl).2
      have hun' : (u : Int) < (n : Int) := by omega
      rw [hxu] at c1
      clear hcs hx hu hxu
      generalize E[i].1 = y at *
      generalize cntF (E'.take i) u = cn at *
      obtain ⟨hw1, hw2⟩ := wrapsF hcb
      go_wp2_with fail
      go_roundw
      case rel => exact ⟨i + 1, by omega, by go_num, Lib.hid (by rw [HST.out]; exact (HI.out.set u _).alloc _)⟩
      case measure => simp [intOf]; omega
    · obtain rfl : en = i := by omega
      have hge : ¬ ((en : Int) < (en : Int)) := by omega
      have hHI : CnSt w w.heap.size n (cntsF E' n) wr := by have := HI.out; rwa [← hl', List.take_length] at this
      have HLY := Lib.hid (hHI.lay E' en hn hen)
      obtain ⟨R, hR⟩ : ∃ R, R = wr.heap.size := ⟨_, rfl⟩
      obtain ⟨w2, hw2⟩ : ∃ u, u = (wr.alloc (.cells (madeCells #[.int .i64 0] en) 3)).alloc (.cells (madeCells #[.slice none 0 0] n) 23) := ⟨_, rfl⟩
      rw [← hw2, ← hR] at HLY
      clear hHI HI HCB
      go_upto_region 9 with fail
      rw [← hw2, ← hR]
      clear hw2 hR hmk2 hmk3
      go_upto_region 10 with fail
      go_loopw [10, 40] (fun v10 v40 wr => ∃ k : Nat, k ≤ n ∧ v40 = .int .i64 (k : Int) ∧ v10 = .slice (some ⟨R, offW E' k, none⟩) (en - sumF E' k) (en - sumF E' k) ∧ RowKit.Hid (WaSt w w.heap.size R (R + 1) n en (cntsF E' n) (cntsF [] en) (cutV R n E' k) wr)) (fun _ v40 _ => n - (intOf v40).toNat)
      case atStart => exact ⟨0, Nat.zero_le _, rfl, rfl, Lib.hid HLY.out⟩
      case round =>
        obtain ⟨k, hk, rfl, rfl, HI⟩ := hrel
        by_cases hlt : k < n
        · have hltz : (k : Int) < (n : Int) := by omega
          have hk0 : (0 : Int) ≤ (k : Int) := by omega
          have hsum := sumF_in (E := E') hlt
          have HSU := Lib.hid (sumF_succ E' k)
          have HOF := Lib.hid (offW_succ E' k)
          have cs := HI.out.cellS hlt
          rw [cntsF_at hlt] at cs
          have HCM := Lib.hid (cutV_more (R := R) (E := E') hlt)
          have hgc := HI.out.gw
          obtain ⟨hs1, hs2, hs3, hs4, hs5⟩ := HI.out.lt
          have cg : ∃ v, wr.cell? ⟨R + 1, k, none⟩ = some v ∧ wr.frozen? ⟨R + 1, k, none⟩ = false := ⟨_, HI.out.cellG (by rw [List.getElem?_eq_getElem (by rw [cutV_len]; exact hlt)])⟩
          obtain ⟨vg, cg, fg⟩ := cg
          rw [hl'] at hsum HOF
          clear hgc
          generalize offW E' k = ow at *
          generalize sumF E' k = sm at *
          generalize cntF E' k = cn at *
          have hc1 : (cn : Int) ≤ ((en - sm : Nat) : Int) := by omega
          have hc2 : cn ≤ en - sm := by omega
          have hc3 : (0 : Int) ≤ (cn : Int) := by omega
          go_upto_region 12 with fail
          go_region
          go_wp2_with fail
          go_roundw
          case rel => exact ⟨k + 1, by omega, by go_num, by rw [HOF.out, HSU.out, ← Nat.sub_sub]; split <;> rfl, Lib.hid (by rw [← HCM.out]; exact HI.out.drew.setG k _)⟩
          case measure => simp [intOf]; omega
        · obtain rfl : n = k := by omega
          have hge : ¬ ((n : Int) < (n : Int)) := by omega
          have HL3 : RowKit.Hid (WaSt w w.heap.size R (R + 1) n en (cntsF E' n) (cntsF [] en) (wayV R n E' 0) wr) := Lib.hid (by rw [← cutV_all]; exact HI.out)
          clear HI HLY
          go_upto_region 15 with fail
          go_loopw [57] (fun v57 wr => ∃ i : Nat, i ≤ en ∧ v57 = .int .i64 (i : Int) ∧ RowKit.Hid (∃ Z, RoomF n E' i Z ∧ WaSt w w.heap.size R (R + 1) n en (cntsF E' n) Z (wayV R n E' i) wr)) (fun v57 _ => en - (intOf v57).toNat)
          case atStart => exact ⟨0, Nat.zero_le _, rfl, Lib.hid ⟨_, RoomF.start n E' (by rw [cntsF_len]; exact hl'.symm), HL3.out⟩⟩
          case round =>
            obtain ⟨i, hi, rfl, HI⟩ := hrel
            obtain ⟨Z, hrm, hst⟩ := HI.out
            have HRM := Lib.hid hrm
            have HS := Lib.hid hst
            clear HI hrm hst
            by_cases hlt : i < en
            · have hltz : (i : Int) < (en : Int) := by omega
              have hi0 : (0 : Int) ≤ (i : Int) := by omega
              have hiE : i < E.length := by omega
              have hiE' : i < E'.length := by omega
              obtain ⟨g, off, rfl, hg, hcs⟩ := (HE.out.since HS.out.bel).2 (by omega)
              obtain ⟨c0, c1⟩ := hcs i hiE
              obtain ⟨u, hu, hun⟩ := HIN.out i hiE'
              have hun' : (u : Int) < (n : Int) := by omega
              have hu0 : (0 : Int) ≤ (u : Int) := by omega
              have hx := HX.out i hiE' hiE
              have hy : E'[i].2 = E[i].1 := by rw [hx]
              have hxu : E[i].2 = (u : Int) := by rw [hx] at hu; exact hu
              rw [hxu] at c1
              have HRS := Lib.hid (HRM.out.step hiE' hu hun)
              have HWM := Lib.hid (wayV_more (R := R) (n := n) hiE' hu)
              have hcl := cntF_lt hiE' hu
              have HOP := Lib.hid (offW_pos hun (by omega : 0 < cntF E' u))
              have hsi := sumF_in (E := E') hun
              rw [hy] at HRS
              have HWV := Lib.hid (wayV_at (R := R) (E := E') (i := i) hun)
              clear hcs hx hy hxu hu
              generalize E[i].1 = y at *
              rw [hl'] at hsi
              rw [HOP.out] at HWM HWV
              clear HOP
              generalize sumF E' u = sm at *
              generalize cntF (E'.take i) u = ci at *
              generalize cntF E' u = cn at *
              have hwp1 : IntKind.i64.wrap 1 = 1 := wrap_small _ (by omega) (by omega)
              have hwp0 : IntKind.i64.wrap 0 = 0 := wrap_small _ (by omega) (by omega)
              go_upto_region 17 with fail
              obtain ⟨U, hU⟩ : ∃ U, U = wr.alloc (.cells #[.int .i64 y, .int .i64 (u : Int)] 43) := ⟨_, rfl⟩
              obtain ⟨bx, hbx⟩ : ∃ b, b = wr.heap.size := ⟨_, rfl⟩
              rw [← hU, ← hbx]
              have HSU : RowKit.Hid (WaSt w w.heap.size R (R + 1) n en (cntsF E' n) Z (wayV R n E' i) U) := Lib.hid (by rw [hU]; exact HS.out.alloc _)
              have d0 : U.cell? ⟨bx, 0, none⟩ = some (.int .i64 y) := by rw [hU, hbx, World.cell?_alloc_mark]; rfl
              have d1 : U.cell? ⟨bx, 1, none⟩ = some (.int .i64 (u : Int)) := by rw [hU, hbx, World.cell?_alloc_mark]; rfl
              have d2 := (HSU.out.cellG HWV.out).1
              have hbU : bx < U.heap.size := by rw [hU, hbx]; simp
              have HBR : RowKit.Hid (bx ≠ R) := Lib.hid (by have := HS.out.lt.2.1; omega)
              have HKB : RowKit.Hid (∀ o j z, ((U.alloc o).drew.setCells R j [z]).cell? ⟨bx, 0, none⟩ = some (.int .i64 y) ∧ ((U.alloc o).drew.setCells R j [z]).cell? ⟨bx, 1, none⟩ = some (.int .i64 (u : Int))) := Lib.hid fun o j z =>
                ⟨(World.cell?_setCells_out _ _ _ _ _ (fun e => absurd e HBR.out)).trans ((((Below.refl _ U).alloc (Nat.le_refl _) o).cell (p := ⟨bx, 0, none⟩) hbU).trans d0), (World.cell?_setCells_out _ _ _ _ _ (fun e => absurd e HBR.out)).trans ((((Below.refl _ U).alloc (Nat.le_refl _) o).cell (p := ⟨bx, 1, none⟩) hbU).trans d1)⟩
              have hGU := HSU.out.lt.2.2.1
              have HA : RowKit.Hid (∀ o, WaSt w w.heap.size R (R + 1) n en (cntsF E' n) Z (wayV R n E' i) (U.alloc o).drew) := Lib.hid fun o => (HSU.out.alloc o).drew
              obtain ⟨i0, hi0', hz0, hz1, hz2⟩ := info_parts info_intF
              have HI0 := Lib.hid (And.intro hi0' hz1)
              clear hU hbx hi0' hz0 hz1 hz2 c0 c1
              go_region_law (refine step_append_room rfl (.tmp 70) (.tmp 75) 23 rfl 3 i0 1 Try.underlying23 HI0.out.1 HI0.out.2 R sm ci cn (by simp [Act.eval, Act.put]) ⟨U.heap.size, 0, none⟩ 1 1 [.int .i64 y] (by simp [Act.eval, Act.put]) rfl (cell_one_new U.drew _ _) (by intro z hz; simp at hz; subst hz; rfl) (by omega) (fun j hj => (HA.out _).cellR (by simp at hj; omega)) ?_; obtain ⟨W3, hW3⟩ : ∃ W3, W3 = ((U.alloc (.cells #[.int .i64 y] 3)).drew).setCells R (sm + ci * 1) [.int .i64 y] := ⟨_, rfl⟩; rw [← hW3]; have HS3 : RowKit.Hid (WaSt w w.heap.size R (R + 1) n en (cntsF E' n) (Z.set (sm + ci) y) (wayV R n E' i) W3) := Lib.hid (by rw [hW3, Nat.mul_one]; exact (HA.out _).setR _ _); obtain ⟨k1, k2⟩ := HS3.out.cellG HWV.out; obtain ⟨k3, k4⟩ := HKB.out (.cells #[.int .i64 y] 3) (sm + ci * 1) (.int .i64 y); rw [← hW3] at k3 k4; clear hW3)
              all_goals (go_wp2_with fail; go_roundw; (case rel => exact ⟨i + 1, by omega, by go_num, Lib.hid ⟨_, HRS.out, by rw [← HWM.out]; exact HS3.out.setG u _⟩⟩); (case measure => simp [intOf]; omega))
            · obtain rfl : en = i := by omega
              have hge : ¬ ((en : Int) < (en : Int)) := by omega
              go_wp2_with fail
              go_ret
              refine ⟨R + 1, R, rfl, ?_, HS.out.bel, HS.out.lt.2.2.2.2, HS.out.lt.2.2.2.1⟩
              have hg := HS.out.gw
              have hr := HS.out.rm
              have hlt := HS.out.lt
              have hz := HRM.out
              rw [← hl'] at hg hr hz
              exact ways_of hg hr hz hlt.2.2.1 hlt.2.1
end Go.Proofs.Ytgncpiamokeohaa
