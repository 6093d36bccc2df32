/- Layer 14: the document's fit, Distances and Reach. -/
import Derived.Test.YtgncpiamokeohaaFlowDo
import Derived.Test.YtgncpiamokeohaaFlowLb
import Derived.Test.YtgncpiamokeohaaFlowDa
import Derived.Deep.LoopGhost
namespace Go.Proofs.Ytgncpiamokeohaa
open Go.RowKit (wrap64 intOf Below)
set_option linter.unusedVariables false
set_option linter.unusedSimpArgs false
set_option maxRecDepth 100000 in
set_option maxHeartbeats 2000000 in
theorem off14_any (n v : Int) (w : World) :
    Calls Try.prog 27 #[.int .i64 n, .int .i64 v] w fun e w' => e = .returned (.bool (offF n v)) ∧ w' = w := by
  by_cases h0 : v < 0
  · have HO : RowKit.Hid (offF n v = true) := Lib.hid (by unfold offF; simp; omega)
    go_enter Try.func27, Try.ntmps27
    go_wp2_with fail
    go_ret
    exact ⟨by rw [HO.out]; rfl, rfl⟩
  · by_cases h1 : n ≤ v
    · have HO : RowKit.Hid (offF n v = true) := Lib.hid (by unfold offF; simp; omega)
      go_enter Try.func27, Try.ntmps27
      go_wp2_with fail
      go_ret
      exact ⟨by rw [HO.out]; rfl, rfl⟩
    · have HO : RowKit.Hid (offF n v = false) := Lib.hid (by unfold offF; simp; omega)
      have h1' : ¬ (n ≤ v) := h1
      go_enter Try.func27, Try.ntmps27
      go_wp2_with fail
      go_ret
      exact ⟨by rw [HO.out]; rfl, rfl⟩
set_option maxRecDepth 100000 in
set_option maxHeartbeats 4000000 in
theorem fit14_any (n : Int) (ea : Option Addr) (en ec : Nat) (E : List (Int × Int)) (la : Option Addr) (ln lc : Nat) (L : List Int) (w : World) (hE : PairsAt w ea en E) (hL : NumsAt w la ln L) (hen : en ≤ 140737488355328) (hln : ln ≤ 140737488355328) :
    Calls Try.prog 23 #[.int .i64 n, .slice ea en ec, .slice la ln lc] w fun e w' => e = .returned (.int .i64 (fitF n E L)) ∧ w' = w := by
  have HE := Lib.hid hE
  have HL := Lib.hid hL
  have hlen := hE.1
  have hlenL := hL.1
  have CT : RowKit.Hid (∀ v, Calls Try.prog 27 #[.int .i64 n, .int .i64 v] w fun e w' => e = .returned (.bool (offF n v)) ∧ w' = w) := Lib.hid fun v => off14_any n v w
  clear hE hL
  by_cases h0 : n < 0
  · have HR : RowKit.Hid (fitF n E L = 1) := Lib.hid (by rw [fitF_is, if_pos h0])
    go_enter Try.func23, Try.ntmps23
    go_wp2_with fail
    go_ret
    exact ⟨by rw [HR.out]; rfl, rfl⟩
  · go_enter Try.func23, Try.ntmps23
    go_upto_region 4 with fail
    go_loopw [7] (fun v7 wr => ∃ i : Nat, i ≤ en ∧ v7 = .int .i64 (i : Int) ∧ RowKit.Hid (badE n (E.take i) = false) ∧ wr = w) (fun v7 _ => en - (intOf v7).toNat)
    case atStart => exact ⟨0, Nat.zero_le _, rfl, Lib.hid rfl, rfl⟩
    case round =>
      obtain ⟨i, hi, rfl, HI, rfl⟩ := hrel
      by_cases hlt : i < en
      · have hltz : (i : Int) < (en : Int) := by omega
        have hi0 : (0 : Int) ≤ (i : Int) := by omega
        have hiE : i < E.length := by omega
        obtain ⟨g, off, rfl, hg, hcs⟩ := HE.out.2 (by omega)
        obtain ⟨c0, c1⟩ := hcs i hiE
        have HBT := Lib.hid (badE_take hiE HI.out)
        have HBF : RowKit.Hid ((offF n E[i].1 || offF n E[i].2) = true → fitF n E L = 1) := Lib.hid fun h => by rw [fitF_is, if_neg (by omega), if_pos (badE_found hiE h)]
        clear hcs
        generalize E[i].1 = x at *
        generalize E[i].2 = y at *
        cases hx : offF n x with
        | true =>
          have HX := Lib.hid hx
          have HR : RowKit.Hid (fitF n E L = 1) := Lib.hid (HBF.out (by rw [hx]; rfl))
          clear hx
          go_wp2_with (go_at_call 27; (with_reducible refine (CT.out _).mono ?_); rintro e u1 ⟨rfl, rfl⟩; rw [HX.out])
          go_ret
          exact ⟨by rw [HR.out]; rfl, rfl⟩
        | false =>
          have HX := Lib.hid hx
          cases hy : offF n y with
          | true =>
            have HY := Lib.hid hy
            have HR : RowKit.Hid (fitF n E L = 1) := Lib.hid (HBF.out (by rw [hx, hy]; rfl))
            clear hx hy
            go_wp2_with (go_at_call 27; (with_reducible refine (CT.out _).mono ?_); rintro e u1 ⟨rfl, rfl⟩; first | rw [HX.out] | rw [HY.out])
            go_ret
            exact ⟨by rw [HR.out]; rfl, rfl⟩
          | false =>
            have HY := Lib.hid hy
            have HR : RowKit.Hid (badE n (E.take (i + 1)) = false) := Lib.hid (by rw [HBT.out, hx, hy]; rfl)
            clear hx hy
            go_wp2_with (go_at_call 27; (with_reducible refine (CT.out _).mono ?_); rintro e u1 ⟨rfl, rfl⟩; first | rw [HX.out] | rw [HY.out])
            go_roundw
            case rel => exact ⟨i + 1, by omega, by go_num, Lib.hid HR.out, by simp⟩
            case measure => simp [intOf]; omega
      · obtain rfl : en = i := by omega
        have hge : ¬ ((en : Int) < (en : Int)) := by omega
        have HNE : RowKit.Hid (badE n E = false) := Lib.hid (by have := HI.out; rwa [← hlen, List.take_length] at this)
        go_upto_region 9 with fail
        obtain ⟨wo, hwo⟩ : ∃ wo : World, wo = wr := ⟨_, rfl⟩
        rw [← hwo] at HL CT ⊢
        have HWO := Lib.hid hwo
        clear hwo HI HE
        go_loopw [8] (fun v8 wr => ∃ j : Nat, j ≤ ln ∧ v8 = .int .i64 (j : Int) ∧ RowKit.Hid (badL n (L.take j) = false) ∧ wr = wo) (fun v8 _ => ln - (intOf v8).toNat)
        case atStart => exact ⟨0, Nat.zero_le _, rfl, Lib.hid rfl, rfl⟩
        case round =>
          obtain ⟨j, hj, rfl, HJ, rfl⟩ := hrel
          by_cases hlt : j < ln
          · have hltz : (j : Int) < (ln : Int) := by omega
            have hj0 : (0 : Int) ≤ (j : Int) := by omega
            have hjL : j < L.length := by omega
            obtain ⟨g, off, rfl, hg, hjL, c0⟩ := nums_cell HL.out hlt
            have HBT := Lib.hid (badL_take hjL HJ.out)
            have HBF : RowKit.Hid (offF n L[j] = true → fitF n E L = 1) := Lib.hid fun h => by rw [fitF_is, if_neg (by omega), if_neg (by rw [HNE.out]; simp), if_pos (badL_found hjL h)]
            generalize L[j] = x at *
            cases hx : offF n x with
            | true =>
              have HX := Lib.hid hx
              have HR : RowKit.Hid (fitF n E L = 1) := Lib.hid (HBF.out hx)
              clear hx
              go_wp2_with (go_at_call 27; (with_reducible refine (CT.out _).mono ?_); rintro e u1 ⟨rfl, rfl⟩; rw [HX.out])
              go_ret
              exact ⟨by rw [HR.out]; rfl, HWO.out⟩
            | false =>
              have HX := Lib.hid hx
              have HR : RowKit.Hid (badL n (L.take (j + 1)) = false) := Lib.hid (by rw [HBT.out, hx])
              clear hx
              go_wp2_with (go_at_call 27; (with_reducible refine (CT.out _).mono ?_); rintro e u1 ⟨rfl, rfl⟩; rw [HX.out])
              go_roundw
              case rel => exact ⟨j + 1, by omega, by go_num, Lib.hid HR.out, by simp⟩
              case measure => simp [intOf]; omega
          · obtain rfl : j = ln := by omega
            have hge : ¬ ((j : Int) < (j : Int)) := by omega
            have HNL : RowKit.Hid (badL n L = false) := Lib.hid (by have := HJ.out; rwa [← hlenL, List.take_length] at this)
            by_cases hbig : 16384 < n
            · have HR : RowKit.Hid (fitF n E L = 2) := Lib.hid (by rw [fitF_is, if_neg (by omega), if_neg (by rw [HNE.out]; simp), if_neg (by rw [HNL.out]; simp), if_pos hbig])
              go_wp2_with fail
              go_ret
              exact ⟨by rw [HR.out]; rfl, HWO.out⟩
            · have HR : RowKit.Hid (fitF n E L = 0) := Lib.hid (by rw [fitF_is, if_neg (by omega), if_neg (by rw [HNE.out]; simp), if_neg (by rw [HNL.out]; simp), if_neg hbig])
              go_wp2_with fail
              go_ret
              exact ⟨by rw [HR.out]; rfl, HWO.out⟩
/-- The row that the document's Distances makes. -/
theorem CnSt.fill (w : World) (n : Nat) (hn : n ≤ 1099511627776) : CnSt w w.heap.size n (fillF n 0) (w.alloc (.cells (madeCells #[.int .i64 0] n) 3)) := by
  have h := CnSt.begin w n hn
  rw [cntsF_none] at h
  have e : fillF n 0 = List.replicate n 0 := by simp [fillF]
  rw [e]; exact h
theorem CnSt.reads {w W : World} {s n : Nat} {C : List Int} (h : CnSt w s n C W) : NumsAt W (some ⟨s, 0, none⟩) n C := by
  obtain ⟨a, k, c, e, hn⟩ := h.sz.nums
  cases e; exact hn
theorem zeroF_take {n : Nat} {S : List Int} {j : Nat} (hj : j < S.length) : zeroF n (S.take (j + 1)) = (zeroF n (S.take j)).set S[j].toNat 0 := by
  rw [List.take_succ_eq_append_getElem hj, zeroF_more]
theorem zeroF_len {n : Nat} (S : List Int) : (zeroF n S).length = n := by
  have key : ∀ (S : List Int) (D : List Int), (S.foldl (fun D s => D.set s.toNat 0) D).length = D.length := by
    intro S
    induction S with
    | nil => intro D; rfl
    | cons s S ih => intro D; rw [List.foldl_cons, ih, List.length_set]
  unfold zeroF
  rw [key, List.length_replicate]
set_option maxRecDepth 100000 in
set_option maxHeartbeats 8000000 in
theorem dist14_any (n : Int) (ea : Option Addr) (en ec : Nat) (E : List (Int × Int)) (la : Option Addr) (ln lc : Nat) (S : List Int) (w : World) (hE : PairsAt w ea en E) (hL : NumsAt w la ln S) (hen : en ≤ 1099511627776) (hln : ln ≤ 17592186044416) :
    Calls Try.prog 16 #[.int .i64 n, .slice ea en ec, .slice la ln lc] w (DistPost n E S w) := by
  have CF := Lib.hid (fit14_any n ea en ec E la ln lc S w hE hL (by omega) (by omega))
  have HE := Lib.hid hE
  have HL := Lib.hid hL
  have hlE := hE.1
  have hlL := hL.1
  clear hE hL
  by_cases hf : fitF n E S = 0
  · obtain ⟨hn0, hn1, hee, hss⟩ := fitF_ok hf
    rw [hf] at CF
    obtain ⟨N, rfl⟩ := Int.eq_ofNat_of_zero_le hn0
    have hmk := make_intF N N rfl (by omega)
    have HF := Lib.hid hf
    have HEE := Lib.hid hee
    have HSS := Lib.hid hss
    have hN : N ≤ 16384 := by omega
    have HC0 := Lib.hid (CnSt.fill w N (by omega))
    obtain ⟨w1, hw1⟩ : ∃ w1, w1 = w.alloc (.cells (madeCells #[.int .i64 0] N) 3) := ⟨_, rfl⟩
    rw [← hw1] at HC0
    clear hf hee hss
    go_enter Try.func16, Try.ntmps16
    go_upto_region 5 with (go_at_call 23; refine CF.out.mono ?_; rintro e w' ⟨rfl, hww⟩; rw [hww]; clear hww w')
    rw [← hw1]
    clear hw1 hmk
    go_upto_region 6 with fail
    go_loopw [10] (fun v10 wr => ∃ i : Nat, i ≤ N ∧ v10 = .int .i64 (i : Int) ∧ RowKit.Hid (CnSt w w.heap.size N (fillF N i) wr)) (fun v10 _ => N - (intOf v10).toNat)
    case atStart => exact ⟨0, Nat.zero_le _, rfl, Lib.hid HC0.out⟩
    case round =>
      obtain ⟨i, hi, rfl, HI⟩ := hrel
      by_cases hlt : i < N
      · have hltz : (i : Int) < (N : Int) := by omega
        have hi0 : (0 : Int) ≤ (i : Int) := by omega
        obtain ⟨hcj, hfj⟩ := HI.out.cell hlt
        have hsl : w.heap.size < wr.heap.size := (HI.out.sz.lt _ rfl).2
        have HM := Lib.hid (fillF_more hlt)
        go_wp2_with fail
        go_roundw
        case rel => exact ⟨i + 1, by omega, by go_num, Lib.hid (by rw [← HM.out]; exact HI.out.set i (-1))⟩
        case measure => simp [intOf]; omega
      · obtain rfl : N = i := by omega
        have hge : ¬ ((N : Int) < (N : Int)) := by omega
        have HZ : RowKit.Hid (CnSt w w.heap.size N (zeroF N (S.take 0)) wr) := Lib.hid (by have := HI.out; rw [fillF_all] at this; exact this)
        clear HI HC0
        go_upto_region 10 with fail
        obtain ⟨w2, hw2⟩ : ∃ u, u = wr := ⟨_, rfl⟩
        rw [← hw2] at HZ ⊢
        clear hw2
        go_loopw [11] (fun v11 wr => ∃ j : Nat, j ≤ ln ∧ v11 = .int .i64 (j : Int) ∧ RowKit.Hid (CnSt w w.heap.size N (zeroF N (S.take j)) wr)) (fun v11 _ => ln - (intOf v11).toNat)
        case atStart => exact ⟨0, Nat.zero_le _, rfl, Lib.hid HZ.out⟩
        case round =>
          obtain ⟨j, hj, rfl, HI⟩ := hrel
          by_cases hlt : j < ln
          · have hltz : (j : Int) < (ln : Int) := by omega
            have hj0 : (0 : Int) ≤ (j : Int) := by omega
            obtain ⟨g, off, rfl, hg, hjL, c0⟩ := nums_cell (HL.out.since HI.out.bel) hlt
            obtain ⟨u, hu, huN⟩ : ∃ u : Nat, S[j] = (u : Int) ∧ u < N := by
              have := HSS.out S[j] (List.getElem_mem hjL)
              exact ⟨S[j].toNat, by omega, by omega⟩
            have HM := Lib.hid (zeroF_take (n := N) hjL)
            rw [hu] at c0 HM
            have huz : (u : Int) < (N : Int) := by omega
            have hu0 : (0 : Int) ≤ (u : Int) := by omega
            obtain ⟨hcj, hfj⟩ := HI.out.cell huN
            have hsl : w.heap.size < wr.heap.size := (HI.out.sz.lt _ rfl).2
            clear hu
            go_wp2_with fail
            go_roundw
            case rel => exact ⟨j + 1, by omega, by go_num, Lib.hid (by rw [HM.out, Int.toNat_natCast]; exact HI.out.set u 0)⟩
            case measure => simp [intOf]; omega
          · obtain rfl : ln = j := by omega
            have hge : ¬ ((ln : Int) < (ln : Int)) := by omega
            have hST : CnSt w w.heap.size N (zeroF N S) wr := by have := HI.out; rwa [← hlL, List.take_length] at this
            have HR0 : RowKit.Hid (RndF N E S 0 true (zeroF N S) ∧ CnSt w w.heap.size N (zeroF N S) wr) := Lib.hid ⟨RndF.begin HSS.out, hST⟩
            clear HI HZ hST
            go_upto_region 15 with fail
            go_loopg [12, 13] (2 * negF (zeroF N S) + 1) (fun gk v12 v13 wr => ∃ (r : Nat) (b : Bool) (D : List Int), v12 = .bool b ∧ v13 = .int .i64 (r : Int) ∧ gk = 2 * negF D + (if b = true then 1 else 0) ∧ RowKit.Hid (RndF N E S r b D ∧ CnSt w w.heap.size N D wr))
            case atStart => exact ⟨0, true, _, rfl, rfl, rfl, HR0⟩
            case round =>
              obtain ⟨r, b, D, rfl, rfl, hgk, HI⟩ := hrel
              clear HR0
              cases b with
              | false =>
                have HD : RowKit.Hid (D = distsF N E S) := Lib.hid (HI.out.1.done (fun e he => by have := HEE.out e he; exact ⟨this.2.2.1, this.2.2.2⟩))
                go_wp2_with fail
                go_ret2
                refine ⟨_, N, N, by rw [HF.out]; rfl, ?_, HI.out.2.bel⟩
                unfold distL
                rw [if_pos HF.out, Int.toNat_natCast, ← HD.out]
                exact HI.out.2.reads
              | true =>
                have hlow : r + negF D ≤ N := by have := HI.out.1.low; simpa using this
                have hgk2 : gk = 2 * negF D + 1 := by rw [hgk]; rfl
                obtain ⟨c0, hc0⟩ : ∃ c0, c0 = negF D := ⟨_, rfl⟩
                have HIN0 : RowKit.Hid (InnF N E S r c0 0 false D ∧ CnSt w w.heap.size N D wr) := Lib.hid ⟨by rw [hc0]; exact HI.out.1.enter, HI.out.2⟩
                rw [← hc0] at hlow hgk2
                clear hgk hc0 HI
                go_upto_region 19 with fail
                obtain ⟨wo, hwo⟩ : ∃ u, u = wr := ⟨_, rfl⟩
                rw [← hwo] at HIN0 ⊢
                clear hwo
                go_loopw [12, 14] (fun v12 v14 wr => ∃ (i : Nat) (b : Bool) (D : List Int), i ≤ en ∧ v12 = .bool b ∧ v14 = .int .i64 (i : Int) ∧ RowKit.Hid (InnF N E S r c0 i b D ∧ CnSt w w.heap.size N D wr)) (fun _ v14 _ => en - (intOf v14).toNat)
                case atStart => exact ⟨0, false, D, Nat.zero_le _, rfl, rfl, HIN0⟩
                case round =>
                  obtain ⟨i, b, D2, hi, rfl, rfl, HI⟩ := hrel
                  by_cases hlt : i < en
                  · have hltz : (i : Int) < (en : Int) := by omega
                    have hi0 : (0 : Int) ≤ (i : Int) := by omega
                    have hiE : i < E.length := by omega
                    obtain ⟨g, off, rfl, hg, hcs⟩ := (HE.out.since HI.out.2.bel).2 (by omega)
                    obtain ⟨e0, e1⟩ := hcs i hiE
                    obtain ⟨x, y, hxy, hx, hy⟩ : ∃ x y : Nat, E[i] = ((x : Int), (y : Int)) ∧ x < N ∧ y < N := by
                      have := HEE.out E[i] (List.getElem_mem hiE)
                      exact ⟨E[i].1.toNat, E[i].2.toNat, Prod.ext (by simp; omega) (by simp; omega), by omega, by omega⟩
                    rw [hxy] at e0 e1
                    simp only at e0 e1
                    have HXY := Lib.hid hxy
                    have hxz : (x : Int) < (N : Int) := by omega
                    have hyz : (y : Int) < (N : Int) := by omega
                    have hx0 : (0 : Int) ≤ (x : Int) := by omega
                    have hy0 : (0 : Int) ≤ (y : Int) := by omega
                    obtain ⟨hcx, hfx⟩ := HI.out.2.cell hx
                    obtain ⟨hcy, hfy⟩ := HI.out.2.cell hy
                    have hsl : w.heap.size < wr.heap.size := (HI.out.2.sz.lt _ rfl).2
                    obtain ⟨hrw, hrw2⟩ := wrapsF (c := r) (by omega)
                    clear hxy hcs
                    obtain ⟨dx, hdx⟩ : ∃ d, d = nth D2 x := ⟨_, rfl⟩
                    obtain ⟨dy, hdy⟩ : ∃ d, d = nth D2 y := ⟨_, rfl⟩
                    rw [← hdx] at hcx
                    rw [← hdy] at hcy
                    have HDX := Lib.hid hdx
                    have HDY := Lib.hid hdy
                    clear hdx hdy
                    by_cases h1 : dx = (r : Int)
                    · subst h1
                      by_cases h2 : dy < 0
                      · have HT : RowKit.Hid (InnF N E S r c0 (i + 1) true (D2.set y ((r : Int) + 1))) := Lib.hid (HI.out.1.take hiE HXY.out hx hy HDX.out.symm (by rw [← HDY.out]; exact h2))
                        go_wp2_with fail
                        go_roundw
                        case rel => exact ⟨i + 1, true, _, by omega, rfl, by go_num, Lib.hid ⟨HT.out, HI.out.2.set y _⟩⟩
                        case measure => simp [intOf]; omega
                      · have HT : RowKit.Hid (InnF N E S r c0 (i + 1) b D2) := Lib.hid (HI.out.1.pass hiE HXY.out hx (fun h => h2 (by rw [HDY.out]; exact h.2)))
                        have h2' : ¬ (dy < 0) := h2
                        go_wp2_with fail
                        go_roundw
                        case rel => exact ⟨i + 1, b, D2, by omega, rfl, by go_num, Lib.hid ⟨HT.out, HI.out.2⟩⟩
                        case measure => simp [intOf]; omega
                    · have HT : RowKit.Hid (InnF N E S r c0 (i + 1) b D2) := Lib.hid (HI.out.1.pass hiE HXY.out hx (fun h => h1 (by rw [HDX.out]; exact h.1)))
                      have h1b : (dx == (r : Int)) = false := by simp [h1]
                      have h1d : decide (dx = (r : Int)) = false := by simp [h1]
                      go_wp2_with fail
                      go_roundw
                      case rel => exact ⟨i + 1, b, D2, by omega, rfl, by go_num, Lib.hid ⟨HT.out, HI.out.2⟩⟩
                      case measure => simp [intOf]; omega
                  · obtain rfl : en = i := by omega
                    have hge : ¬ ((en : Int) < (en : Int)) := by omega
                    obtain ⟨hrw, hrw2⟩ := wrapsF (c := r) (by omega)
                    have HV : RowKit.Hid (RndF N E S (r + 1) b D2) := Lib.hid (InnF.leave (by rw [hlE]; exact HI.out.1) hlow)
                    have HM : RowKit.Hid (2 * negF D2 + (if b = true then 1 else 0) < 2 * c0 + 1) := Lib.hid (by
                      have h1 := HI.out.1.yes
                      have h2 := HI.out.1.no
                      cases b with
                      | true => have := h1 rfl; rw [if_pos rfl]; omega
                      | false => rw [if_neg (by simp)]; omega)
                    go_wp2_with fail
                    go_roundg (2 * negF D2 + (if b = true then 1 else 0))
                    case measure => exact HM.out
                    case rel => exact ⟨r + 1, b, D2, rfl, by go_num, rfl, Lib.hid ⟨HV.out, HI.out.2⟩⟩
  · have hbz : (fitF n E S != 0) = true := by simp [hf]
    have HLL : RowKit.Hid (distL n E S = []) := Lib.hid (by unfold distL; rw [if_neg hf])
    obtain ⟨er, her⟩ : ∃ er, er = fitF n E S := ⟨_, rfl⟩
    rw [← her] at hf CF hbz
    have HER := Lib.hid her
    clear her
    go_enter Try.func16, Try.ntmps16
    go_wp2_with (go_at_call 23; refine CF.out.mono ?_; rintro e w' ⟨rfl, hww⟩; rw [hww]; clear hww w')
    go_ret2
    exact ⟨none, 0, 0, by rw [← HER.out]; rfl, by rw [HLL.out]; exact NumsAt.nil _ _, Below.refl _ _⟩
end Go.Proofs.Ytgncpiamokeohaa
