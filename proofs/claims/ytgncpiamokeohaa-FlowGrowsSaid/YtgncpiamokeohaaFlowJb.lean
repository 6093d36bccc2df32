/- Layer 14: package flow's met: new nodes join the line. -/
import Derived.Test.YtgncpiamokeohaaFlowJa
namespace Go.Proofs.Ytgncpiamokeohaa
open Go.RowKit (wrap64 intOf Below)
set_option linter.unusedVariables false
set_option linter.unusedSimpArgs false
theorem info_prF : (Try.prog.info? 43).map (fun i => (i.zero, i.size, i.bytes)) = some (some (.agg #[.int .i64 0, .int .i64 0]), 2, 16) := by kernel_rfl
/-- What comes when nodes join. -/
def JoinPost (w0 : World) (X : Nat → Prop) (O : World → Nat → Prop) (n0 bl q N : Nat) (M : List Int) (d : Int) (l : List (Int × Int)) (ns : List Int) (W : World) (e : Ending) (w' : World) : Prop :=
  (∃ v, e = .returned v) ∧ ∃ vl, LineSt w0 X O n0 bl q N w' vl (M ++ (joinF M d l ns).map Prod.fst) (joinF M d l ns) ∧ AbidF n0 q O W w'
set_option maxRecDepth 100000 in
set_option maxHeartbeats 4000000 in
theorem join_any (w0 : World) (X : Nat → Prop) (O : World → Nat → Prop) (hO : SteadyO O) (n0 bl q N : Nat) (M : List Int) (d : Int) (l : List (Int × Int)) (ns : List Int) (bm : Nat) (W : World) (vl : Value) (na : Option Addr) (nn nc : Nat)
    (hst : LineSt w0 X O n0 bl q N W vl (M ++ l.map Prod.fst) l) (hXm : X bm) (hbm : w0.cell? ⟨bm, 0, none⟩ = some (.slice (some ⟨q, 0, none⟩) N N)) (hns : NumsAt w0 na nn ns) (hXn : ∀ g off, na = some ⟨g, off, none⟩ → 0 < nn → X g)
    (hin : ∀ z ∈ ns, 0 ≤ z ∧ z < (N : Int)) (hnn : nn ≤ 17592186044416) (hl : LnOk N l) (hN : N ≤ 16384) :
    Calls Try.prog 26 #[.slice na nn nc, .int .i64 d, .pointer (some ⟨bm, 0, none⟩), .pointer (some ⟨bl, 0, none⟩)] W (JoinPost w0 X O n0 bl q N M d l ns W) := by
  have hlen := hns.1
  have HS0 := Lib.hid hst
  have HNS := Lib.hid hns
  have HXN := Lib.hid hXn
  have HIN := Lib.hid hin
  have HL := Lib.hid hl
  have HO := Lib.hid hO
  have HLB : RowKit.Hid (∀ i, LnOk N (joinF M d l (ns.take i)) ∧ (joinF M d l (ns.take i)).length ≤ 1000000) := Lib.hid fun i => by
    have h1 : LnOk N (joinF M d l (ns.take i)) := hl.join (fun z hz => hin z (List.mem_of_mem_take hz))
    have := h1.len
    exact ⟨h1, by omega⟩
  have HNB : RowKit.Hid (N ≤ 16384) := Lib.hid hN
  have HBM : RowKit.Hid (∀ U v mt k, LineSt w0 X O n0 bl q N U v mt k → U.cell? ⟨bm, 0, none⟩ = some (.slice (some ⟨q, 0, none⟩) N N) ∧ bm < U.heap.size) := Lib.hid fun U v mt k h => ⟨(h.cell hXm).trans hbm, (h.came bm hXm).2.2.2.2⟩
  clear hst hns hXn hin hl hO hbm hXm hN
  go_enter Try.func26, Try.ntmps26
  go_upto_region 1 with fail
  go_loopw [10] (fun v10 wr => ∃ i : Nat, i ≤ nn ∧ v10 = .int .i64 (i : Int) ∧ RowKit.Hid (∃ vl, LineSt w0 X O n0 bl q N wr vl (M ++ (joinF M d l (ns.take i)).map Prod.fst) (joinF M d l (ns.take i)) ∧ AbidF n0 q O W wr)) (fun v10 _ => nn - (intOf v10).toNat)
  case atStart => exact ⟨0, Nat.zero_le _, rfl, Lib.hid ⟨vl, HS0.out, AbidF.refl _ _ _ _⟩⟩
  case round =>
    obtain ⟨i, hi, rfl, HI⟩ := hrel
    obtain ⟨v1, h1, h2⟩ := HI.out
    have HS := Lib.hid h1
    have HAB := Lib.hid h2
    clear HI h1 h2
    by_cases hlt : i < nn
    · have hltz : (i : Int) < (nn : Int) := by omega
      have hi0 : (0 : Int) ≤ (i : Int) := by omega
      obtain ⟨g, off, rfl, hg, hiL, c0⟩ := nums_cell (HS.out.nums HNS.out HXN.out) hlt
      obtain ⟨j, hj, hjN⟩ : ∃ j : Nat, ns[i] = (j : Int) ∧ j < N := by
        have := HIN.out ns[i] (List.getElem_mem hiL)
        exact ⟨ns[i].toNat, by omega, by omega⟩
      have hjz : (j : Int) < (N : Int) := by omega
      have hj0 : (0 : Int) ≤ (j : Int) := by omega
      have HT := Lib.hid (joinF_take (M := M) (d := d) (l := l) hiL)
      rw [hj] at c0 HT
      obtain ⟨cb, hbl⟩ := HBM.out _ _ _ _ HS.out
      obtain ⟨cm, fm⟩ := HS.out.markAt hjN
      have hql := HS.out.qlt
      have HLI := Lib.hid (HLB.out i)
      clear hj HBM HLB
      by_cases hM : (j : Int) ∈ M ++ (joinF M d l (ns.take i)).map Prod.fst
      · rw [decide_eq_true hM] at cm
        have HE : RowKit.Hid (joinF M d l (ns.take (i + 1)) = joinF M d l (ns.take i)) := Lib.hid (by rw [HT.out]; unfold addF; rw [if_pos hM])
        clear hM
        go_wp2_with fail
        go_roundw
        case rel => exact ⟨i + 1, by omega, by go_num, Lib.hid ⟨v1, by rw [HE.out]; exact HS.out, HAB.out⟩⟩
        case measure => simp [intOf]; omega
      · rw [decide_eq_false hM] at cm
        have HE : RowKit.Hid (joinF M d l (ns.take (i + 1)) = joinF M d l (ns.take i) ++ [((j : Int), d)]) := Lib.hid (by rw [HT.out]; unfold addF; rw [if_neg hM])
        obtain ⟨m1, m2, m3⟩ := HS.out.mark HO.out hjN
        have HM1 := Lib.hid m1
        have HM3 := Lib.hid (HAB.out.trans m3)
        have cl2 := m1.boxL.cell
        have fl2 := m1.boxL.frozen
        have hll := m1.boxL.lt
        obtain ⟨va, vc, rfl⟩ := m1.rowL.slice
        clear hM m1 m2 m3
        go_wp2_with ((with_reducible refine wpList_append_prW _ rfl _ _ 22 rfl 43 Try.underlying22 info_prF n0 (.slice va (joinF M d l (ns.take i)).length vc) (joinF M d l (ns.take i)) ?_ ?_ ?_ _ 1 wr.heap.size ((j : Int), d) ?_ ?_ ?_ ?_ ?_); (next => rfl); (next => exact HM1.out.rowL); (next => exact HM1.out.siz); (next => rfl); (next => simp); (next => rfl); (next => exact HLI.out.2); intro xa xn xc w5 ho5 hg5 hw5; obtain ⟨p1, p2, p3⟩ := HM1.out.push HO.out hg5 ho5 hw5; have HP2 := Lib.hid p2; have HP3 := Lib.hid (HM3.out.trans p3); have k1 := p1.cell; have k2 := p1.frozen; clear p1 p2 p3 ho5 hg5 hw5)
        go_roundw
        case rel => exact ⟨i + 1, by omega, by go_num, Lib.hid ⟨_, by rw [HE.out]; simpa using HP2.out, HP3.out⟩⟩
        case measure => simp [intOf]; omega
    · obtain rfl : nn = i := by omega
      have hge : ¬ ((nn : Int) < (nn : Int)) := by omega
      have HT : RowKit.Hid (ns.take nn = ns) := Lib.hid (by rw [← hlen, List.take_length])
      rw [HT.out] at HS
      go_wp2_with fail
      go_end0
      exact ⟨⟨_, rfl⟩, v1, HS.out, HAB.out⟩
end Go.Proofs.Ytgncpiamokeohaa
