/- Layer 14: package flow's fault, and the document's fit: what is wrong with nodes. -/
import Derived.Test.YtgncpiamokeohaaFlowPb
import Derived.Test.YtgncpiamokeohaaOps
import Derived.Test.YtgncpiamokeohaaFlowMe
import Derived.Deep.QuietTactic
import Derived.Deep.DeepCutAuto
namespace Go.Proofs.Ytgncpiamokeohaa
open Go.RowKit (wrap64 intOf Below)
set_option linter.unusedVariables false
set_option linter.unusedSimpArgs false

/-- What is wrong, as far as was looked. -/
def badE (n : Int) (E : List (Int × Int)) : Bool := E.any fun e => offF n e.1 || offF n e.2
theorem badE_take {n : Int} {E : List (Int × Int)} {i : Nat} (hi : i < E.length) (h : badE n (E.take i) = false) : badE n (E.take (i + 1)) = (offF n E[i].1 || offF n E[i].2) := by
  unfold badE at h ⊢
  rw [List.take_succ_eq_append_getElem hi, List.any_append, h]
  simp
theorem badE_found {n : Int} {E : List (Int × Int)} {i : Nat} (hi : i < E.length) (h : (offF n E[i].1 || offF n E[i].2) = true) : badE n E = true := by
  unfold badE
  exact List.any_eq_true.2 ⟨E[i], List.getElem_mem hi, h⟩
def badL (n : Int) (L : List Int) : Bool := L.any (offF n)
theorem badL_take {n : Int} {L : List Int} {i : Nat} (hi : i < L.length) (h : badL n (L.take i) = false) : badL n (L.take (i + 1)) = offF n L[i] := by
  unfold badL at h ⊢
  rw [List.take_succ_eq_append_getElem hi, List.any_append, h]
  simp
theorem badL_found {n : Int} {L : List Int} {i : Nat} (hi : i < L.length) (h : offF n L[i] = true) : badL n L = true := by
  unfold badL
  exact List.any_eq_true.2 ⟨L[i], List.getElem_mem hi, h⟩
theorem fitF_is (n : Int) (E : List (Int × Int)) (L : List Int) : fitF n E L = if n < 0 then 1 else if badE n E = true then 1 else if badL n L = true then 1 else if 16384 < n then 2 else 0 := rfl
theorem nums_cell {W : World} {a : Option Addr} {n : Nat} {L : List Int} (h : NumsAt W a n L) {i : Nat} (hi : i < n) : ∃ g off, a = some ⟨g, off, none⟩ ∧ g < W.heap.size ∧ ∃ hi' : i < L.length, W.cell? ⟨g, off + i, none⟩ = some (.int .i64 L[i]) := by
  obtain ⟨g, off, e, hg, hc⟩ := h.2 (by omega)
  have hi' : i < L.length := by rw [h.1]; exact hi
  exact ⟨g, off, e, hg, hi', hc i hi'⟩
set_option maxRecDepth 100000 in
set_option maxHeartbeats 2000000 in
theorem thereF_any (n v : Int) (b : Nat) (w : World) (hc : w.cell? ⟨b, 0, none⟩ = some (.int .i64 n)) :
    Calls Try.prog 24 #[.int .i64 v, .pointer (some ⟨b, 0, none⟩)] w fun e w' => e = .returned (.bool (!offF n v)) ∧ w' = w := by
  by_cases h0 : 0 ≤ v
  · by_cases h1 : v < n
    · have HO : RowKit.Hid (offF n v = false) := Lib.hid (by unfold offF; simp; omega)
      go_enter Try.func24, Try.ntmps24
      go_wp2_with fail
      go_ret
      exact ⟨by rw [HO.out]; rfl, rfl⟩
    · have HO : RowKit.Hid (offF n v = true) := Lib.hid (by unfold offF; simp; omega)
      go_enter Try.func24, Try.ntmps24
      go_wp2_with fail
      go_ret
      exact ⟨by rw [HO.out]; rfl, rfl⟩
  · have HO : RowKit.Hid (offF n v = true) := Lib.hid (by unfold offF; simp; omega)
    have h0' : v < 0 := by omega
    go_enter Try.func24, Try.ntmps24
    go_wp2_with fail
    go_ret
    exact ⟨by rw [HO.out]; rfl, rfl⟩
set_option maxRecDepth 100000 in
set_option maxHeartbeats 4000000 in
theorem fault_any (n : Int) (ea : Option Addr) (en ec : Nat) (E : List (Int × Int)) (la : Option Addr) (ln lc : Nat) (L : List Int) (w : World) (hE : PairsAt w ea en E) (hL : NumsAt w la ln L) (hen : en ≤ 140737488355328) (hln : ln ≤ 140737488355328) :
    Calls Try.prog 20 #[.int .i64 n, .slice ea en ec, .slice la ln lc] w fun e w' => e = .returned (.int .i64 (fitF n E L)) ∧ Below w.heap.size w w' := by
  have HE := Lib.hid hE
  have HL := Lib.hid hL
  obtain ⟨w1, hw1⟩ : ∃ u, u = w.alloc (.cells #[.int .i64 n] 3) := ⟨_, rfl⟩
  have hz1 : w1.heap.size = w.heap.size + 1 := by rw [hw1]; simp
  have hb1 : Below w.heap.size w w1 := by rw [hw1]; exact (Below.refl _ w).alloc (Nat.le_refl _) _
  have hc1 : w1.cell? ⟨w.heap.size, 0, none⟩ = some (.int .i64 n) := by rw [hw1, World.cell?_alloc_mark]; rfl
  have HB1 := Lib.hid hb1
  have HZ1 := Lib.hid hz1
  have HC1 := Lib.hid hc1
  have HCU : RowKit.Hid (∀ u, Below w1.heap.size w1 u → u.cell? ⟨w.heap.size, 0, none⟩ = some (.int .i64 n)) := Lib.hid fun u hu => (hu.cell (p := ⟨w.heap.size, 0, none⟩) (by show w.heap.size < _; omega)).trans hc1
  have HEU : RowKit.Hid (∀ u, Below w1.heap.size w1 u → PairsAt u ea en E ∧ NumsAt u la ln L ∧ Below w.heap.size w u) := Lib.hid fun u hu => by
    have hb : Below w.heap.size w u := hb1.trans (hu.mono (by omega))
    exact ⟨hE.since hb, hL.since hb, hb⟩
  have hlen := hE.1
  have hlenL := hL.1
  clear hE hL hb1 hz1
  by_cases h0 : n < 0
  · have HR : RowKit.Hid (fitF n E L = 1) := Lib.hid (by rw [fitF_is, if_pos h0])
    go_enter Try.func20, Try.ntmps20
    go_upto_region 1 with fail
    rw [← hw1]
    clear hw1
    go_wp2_with fail
    go_ret
    exact ⟨by rw [HR.out]; rfl, HB1.out⟩
  · go_enter Try.func20, Try.ntmps20
    go_upto_region 1 with fail
    rw [← hw1]
    clear hw1
    go_upto_region 5 with fail
    go_loopw [17] (fun v17 wr => ∃ i : Nat, i ≤ en ∧ v17 = .int .i64 (i : Int) ∧ RowKit.Hid (badE n (E.take i) = false ∧ Below w1.heap.size w1 wr)) (fun v17 _ => en - (intOf v17).toNat)
    case atStart => exact ⟨0, Nat.zero_le _, rfl, Lib.hid ⟨rfl, Below.refl _ _⟩⟩
    case round =>
      obtain ⟨i, hi, rfl, HI⟩ := hrel
      have CT : RowKit.Hid (∀ u v, Below w1.heap.size w1 u → Calls Try.prog 24 #[.int .i64 v, .pointer (some ⟨w.heap.size, 0, none⟩)] u fun e w' => e = .returned (.bool (!offF n v)) ∧ w' = u) := Lib.hid fun u v hu => thereF_any n v w.heap.size u (HCU.out u hu)
      by_cases hlt : i < en
      · have hltz : (i : Int) < (en : Int) := by omega
        have hi0 : (0 : Int) ≤ (i : Int) := by omega
        have hiE : i < E.length := by omega
        obtain ⟨g, off, rfl, hg, hcs⟩ := (HEU.out wr HI.out.2).1.2 (by omega)
        obtain ⟨c0, c1⟩ := hcs i hiE
        have HBT := Lib.hid (badE_take hiE HI.out.1)
        have HBF : RowKit.Hid ((offF n E[i].1 || offF n E[i].2) = true → fitF n E L = 1) := Lib.hid fun h => by rw [fitF_is, if_neg (by omega), if_pos (badE_found hiE h)]
        have HBW : RowKit.Hid (∀ o, Below w1.heap.size w1 (wr.alloc o)) := Lib.hid fun o => HI.out.2.alloc HI.out.2.size _
        clear hcs
        generalize E[i].1 = x at *
        generalize E[i].2 = y at *
        cases hx : offF n x with
        | true =>
          have HX := Lib.hid hx
          have HR : RowKit.Hid (fitF n E L = 1) := Lib.hid (HBF.out (by rw [hx]; rfl))
          clear hx
          go_wp2_with (go_at_call 24; (with_reducible refine (CT.out _ _ (HBW.out _)).mono ?_); rintro e u1 ⟨rfl, rfl⟩; rw [HX.out])
          go_ret
          exact ⟨by rw [HR.out]; rfl, (HEU.out _ (HBW.out _)).2.2⟩
        | false =>
          have HX := Lib.hid hx
          cases hy : offF n y with
          | true =>
            have HY := Lib.hid hy
            have HR : RowKit.Hid (fitF n E L = 1) := Lib.hid (HBF.out (by rw [hx, hy]; rfl))
            clear hx hy
            go_wp2_with (go_at_call 24; (with_reducible refine (CT.out _ _ (HBW.out _)).mono ?_); rintro e u1 ⟨rfl, rfl⟩; first | rw [HX.out] | rw [HY.out])
            go_ret
            exact ⟨by rw [HR.out]; rfl, (HEU.out _ (HBW.out _)).2.2⟩
          | false =>
            have HY := Lib.hid hy
            have HR : RowKit.Hid (badE n (E.take (i + 1)) = false) := Lib.hid (by rw [HBT.out, hx, hy]; rfl)
            clear hx hy
            go_wp2_with (go_at_call 24; (with_reducible refine (CT.out _ _ (HBW.out _)).mono ?_); rintro e u1 ⟨rfl, rfl⟩; first | rw [HX.out] | rw [HY.out])
            go_roundw
            case rel => exact ⟨i + 1, by omega, by go_num, Lib.hid ⟨HR.out, HBW.out _⟩⟩
            case measure => simp [intOf]; omega
      · obtain rfl : i = en := by omega
        have hge : ¬ ((i : Int) < (i : Int)) := by omega
        have HNE : RowKit.Hid (badE n E = false) := Lib.hid (by have := HI.out.1; rwa [← hlen, List.take_length] at this)
        go_upto_region 11 with fail
        obtain ⟨wo, hwo⟩ : ∃ wo : World, wo = wr := ⟨_, rfl⟩
        rw [← hwo]
        have HIO : RowKit.Hid (Below w1.heap.size w1 wo) := Lib.hid (by rw [hwo]; exact HI.out.2)
        clear hwo HI
        go_loopw [36] (fun v36 wr => ∃ j : Nat, j ≤ ln ∧ v36 = .int .i64 (j : Int) ∧ RowKit.Hid (badL n (L.take j) = false) ∧ wr = wo) (fun v36 _ => ln - (intOf v36).toNat)
        case atStart => exact ⟨0, Nat.zero_le _, rfl, Lib.hid rfl, rfl⟩
        case round =>
          obtain ⟨j, hj, rfl, HJ, rfl⟩ := hrel
          by_cases hlt : j < ln
          · have hltz : (j : Int) < (ln : Int) := by omega
            have hj0 : (0 : Int) ≤ (j : Int) := by omega
            have hjL : j < L.length := by omega
            obtain ⟨g, off, rfl, hg, hjL, c0⟩ := nums_cell (HEU.out wr HIO.out).2.1 hlt
            have HBT := Lib.hid (badL_take hjL HJ.out)
            have HBF : RowKit.Hid (offF n L[j] = true → fitF n E L = 1) := Lib.hid fun h => by rw [fitF_is, if_neg (by omega), if_neg (by rw [HNE.out]; simp), if_pos (badL_found hjL h)]
            generalize L[j] = x at *
            cases hx : offF n x with
            | true =>
              have HX := Lib.hid hx
              have HR : RowKit.Hid (fitF n E L = 1) := Lib.hid (HBF.out hx)
              clear hx
              go_wp2_with (go_at_call 24; (with_reducible refine (CT.out _ _ HIO.out).mono ?_); rintro e u1 ⟨rfl, rfl⟩; rw [HX.out])
              go_ret
              exact ⟨by rw [HR.out]; rfl, (HEU.out _ HIO.out).2.2⟩
            | false =>
              have HX := Lib.hid hx
              have HR : RowKit.Hid (badL n (L.take (j + 1)) = false) := Lib.hid (by rw [HBT.out, hx])
              clear hx
              go_wp2_with (go_at_call 24; (with_reducible refine (CT.out _ _ HIO.out).mono ?_); rintro e u1 ⟨rfl, rfl⟩; rw [HX.out])
              go_roundw
              case rel => exact ⟨j + 1, by omega, by go_num, Lib.hid HR.out, by simp⟩
              case measure => simp [intOf]; omega
          · obtain rfl : j = ln := by omega
            have hge : ¬ ((j : Int) < (j : Int)) := by omega
            have hcn := HCU.out wr HIO.out
            have HNL : RowKit.Hid (badL n L = false) := Lib.hid (by have := HJ.out; rwa [← hlenL, List.take_length] at this)
            by_cases hbig : 16384 < n
            · have HR : RowKit.Hid (fitF n E L = 2) := Lib.hid (by rw [fitF_is, if_neg (by omega), if_neg (by rw [HNE.out]; simp), if_neg (by rw [HNL.out]; simp), if_pos hbig])
              go_wp2_with fail
              go_ret
              exact ⟨by rw [HR.out]; rfl, (HEU.out _ HIO.out).2.2⟩
            · have HR : RowKit.Hid (fitF n E L = 0) := Lib.hid (by rw [fitF_is, if_neg (by omega), if_neg (by rw [HNE.out]; simp), if_neg (by rw [HNL.out]; simp), if_neg hbig])
              go_wp2_with fail
              go_ret
              exact ⟨by rw [HR.out]; rfl, (HEU.out _ HIO.out).2.2⟩
end Go.Proofs.Ytgncpiamokeohaa
