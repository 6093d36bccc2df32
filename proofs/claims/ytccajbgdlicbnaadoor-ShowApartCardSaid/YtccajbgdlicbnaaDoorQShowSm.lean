/- Layer 6: the document's Small at 1500: what it counts (mk_ssm.py, out of CodeSm). -/
import Derived.Test.YtccajbgdlicbnaaDoorQCodeFi

namespace Go.Proofs.YtccajbgdlicbnaaDoor
open Go.RowKit (wrap64 intOf Below)
set_option linter.unusedVariables false
set_option linter.unusedSimpArgs false

def sumN {α : Type} (f : α → Nat) : List α → Nat
  | [] => 0
  | x :: r => f x + sumN f r
theorem sumN_snoc {α : Type} (f : α → Nat) : ∀ (xs : List α) (x : α), sumN f (xs ++ [x]) = sumN f xs + f x
  | [], x => by simp [sumN]
  | y :: xs, x => by simp only [List.cons_append, sumN, sumN_snoc f xs x]; omega
theorem sumN_take {α : Type} (f : α → Nat) {xs : List α} {i : Nat} (h : i < xs.length) : sumN f (xs.take (i + 1)) = sumN f (xs.take i) + f xs[i] := by
  rw [List.take_succ_eq_append_getElem h, sumN_snoc]
def pSig (y : SigD) : Nat := y.params.length
def pCls (y : ClassD) : Nat := y.fields.length + y.methods.length
def pOp (o : OpD) : Nat := o.L.length + o.S.size / 8
def pBlock (b : BlockD) : Nat := b.params.length + b.ops.length + b.fin.L.length + b.fin.M.length + sumN pOp b.ops
def pFunc (f : FuncD) : Nat := f.blocks.length + sumN pBlock f.blocks
def partsP (P : ProgD) : Nat := P.sigs.length + P.classes.length + P.funcs.length + sumN pSig P.sigs + sumN pCls P.classes + sumN pFunc P.funcs
def SmallPost15 (P : ProgD) (w : World) (e : Ending) (w' : World) : Prop := ∃ b : Bool, e = .returned (.bool b) ∧ (b = true → partsP P ≤ 1500) ∧ Below w.heap.size w w'
set_option maxRecDepth 100000 in
set_option maxHeartbeats 16000000 in
theorem ref_small15 (g off : Nat) (sa : Option Addr) (sn sc : Nat) (ca : Option Addr) (cn cc : Nat) (fa : Option Addr) (fn fc : Nat) (P : ProgD) (w : World) (hg : g < w.heap.size)
    (hc0 : w.cell? ⟨g, off, none⟩ = some (.slice sa sn sc)) (hc1 : w.cell? ⟨g, off + 1, none⟩ = some (.slice ca cn cc)) (hc2 : w.cell? ⟨g, off + 2, none⟩ = some (.slice fa fn fc))
    (hP : ProgQ w [.slice sa sn sc, .slice ca cn cc, .slice fa fn fc] P) :
    Calls Tryd.prog 5 #[.pointer (some ⟨g, off, none⟩), .int .i64 1500] w (SmallPost15 P w) := by
  obtain ⟨_, _, _, he, hS, hC, hF⟩ := hP
  simp only [List.cons.injEq, and_true] at he
  obtain ⟨rfl, rfl, rfl⟩ := he
  obtain ⟨hsl, hsm⟩ := rowV_len' hS
  obtain ⟨hcl, hcm⟩ := rowV_len' hC
  obtain ⟨hfl, hfm⟩ := rowV_len' hF
  have HS := Lib.hid hS
  have HC := Lib.hid hC
  have HF := Lib.hid hF
  have HSL := Lib.hid hsl
  have HCL := Lib.hid hcl
  have HFL := Lib.hid hfl
  clear hS hC hF hsl hcl hfl
  go_enter Tryd.func5, Tryd.ntmps5
  go_wp2_with fail
  go_quiet (fail)
  go_wp2_with fail
  go_loopw [5, 6] (fun nv iv wr => ∃ n i : Nat, i ≤ sn ∧ RowKit.Hid (sn + cn + fn + sumN pSig (P.sigs.take i) ≤ n) ∧ n ≤ 1000000000000000 ∧ nv = .int .i64 (n : Int) ∧ iv = .int .i64 (i : Int) ∧ ∃ q, wr = w.drewN q) (fun _ iv _ => sn - (intOf iv).toNat)
  case atStart => exact ⟨sn + cn + fn, 0, Nat.zero_le _, Lib.hid (by simp [sumN]), by omega, by go_num, rfl, _, rfl⟩
  case round =>
    obtain ⟨n, i, hi, hn0, hn1, rfl, rfl, q, rfl⟩ := hrel
    by_cases hlt : i < sn
    · by_cases hn4 : n ≤ 1500
      · have hn4' : (n : Int) ≤ 1500 := by omega
        obtain ⟨g1, o1, rfl, hg1, hcs1⟩ := rowV_at HS.out (by omega)
        have hi1 : i < P.sigs.length := by rw [HSL.out]; exact hlt
        obtain ⟨cs1, hc21, hcell1, hq1⟩ := hcs1 i hi1
        obtain ⟨v1, rfl, ⟨pa, pn, pc, rfl, hpat, _, hpm, _⟩, _⟩ := hq1
        have hd0 := hcell1 0 (by simp)
        simp only [Nat.add_zero, List.getElem_cons_zero] at hd0
        have HPA : RowKit.Hid (pSig P.sigs[i] = pn) := Lib.hid hpat.1
        clear hcell1 hcs1 hpat
        go_wp2_with fail
        go_roundw
        case rel => exact ⟨n + pn, i + 1, by omega, Lib.hid (by rw [sumN_take _ hi1]; have h1 := hn0.out; have h2 := HPA.out; omega), by omega, by go_num, by go_num, _, rfl⟩
        case measure => simp [intOf]; omega
      · have hn4' : ¬ (n : Int) ≤ 1500 := by omega
        go_wp2_with fail
        go_loopw [5, 7] (fun nv iv wr => nv = .int .i64 (n : Int) ∧ iv = .int .i64 0 ∧ ∃ q, wr = w.drewN q) (fun _ _ _ => 0)
        case atStart => exact ⟨rfl, rfl, _, rfl⟩
        case round =>
          obtain ⟨rfl, rfl, q, rfl⟩ := hrel
          by_cases hlt2 : 0 < cn
          · go_wp2_with fail
            go_loopw [5, 8] (fun nv iv wr => nv = .int .i64 (n : Int) ∧ iv = .int .i64 0 ∧ ∃ q, wr = w.drewN q) (fun _ _ _ => 0)
            case atStart => exact ⟨rfl, rfl, _, rfl⟩
            case round =>
              obtain ⟨rfl, rfl, q, rfl⟩ := hrel
              by_cases hlt3 : 0 < fn
              · go_wp2_with fail
                go_ret
                exact ⟨_, rfl, fun h => absurd h (by first | (simp; done) | (simp; omega)), below_drewN _ (Below.refl _ _)⟩
              · obtain rfl : fn = 0 := by omega
                go_wp2_with fail
                go_ret
                exact ⟨_, rfl, fun h => absurd h (by first | (simp; done) | (simp; omega)), below_drewN _ (Below.refl _ _)⟩
          · obtain rfl : cn = 0 := by omega
            go_wp2_with fail
            go_loopw [5, 8] (fun nv iv wr => nv = .int .i64 (n : Int) ∧ iv = .int .i64 0 ∧ ∃ q, wr = w.drewN q) (fun _ _ _ => 0)
            case atStart => exact ⟨rfl, rfl, _, rfl⟩
            case round =>
              obtain ⟨rfl, rfl, q, rfl⟩ := hrel
              by_cases hlt3 : 0 < fn
              · go_wp2_with fail
                go_ret
                exact ⟨_, rfl, fun h => absurd h (by first | (simp; done) | (simp; omega)), below_drewN _ (Below.refl _ _)⟩
              · obtain rfl : fn = 0 := by omega
                go_wp2_with fail
                go_ret
                exact ⟨_, rfl, fun h => absurd h (by first | (simp; done) | (simp; omega)), below_drewN _ (Below.refl _ _)⟩
    · have HN1 : RowKit.Hid (sn + cn + fn + sumN pSig P.sigs ≤ n) := Lib.hid (by have h1 := hn0.out; rwa [List.take_of_length_le (by rw [HSL.out]; omega)] at h1)
      go_wp2_with fail
      go_loopw [5, 7] (fun nv iv wr => ∃ n i : Nat, i ≤ cn ∧ RowKit.Hid (sn + cn + fn + sumN pSig P.sigs + sumN pCls (P.classes.take i) ≤ n) ∧ n ≤ 1000000000000000 ∧ nv = .int .i64 (n : Int) ∧ iv = .int .i64 (i : Int) ∧ ∃ q, wr = w.drewN q) (fun _ iv _ => cn - (intOf iv).toNat)
      case atStart => exact ⟨n, 0, Nat.zero_le _, Lib.hid (by have := HN1.out; simpa [sumN] using this), by omega, rfl, rfl, _, rfl⟩
      case round =>
        clear hi hn0 hn1
        obtain ⟨n, i, hi, hn0, hn1, rfl, rfl, q, rfl⟩ := hrel
        by_cases hlt : i < cn
        · by_cases hn4 : n ≤ 1500
          · have hn4' : (n : Int) ≤ 1500 := by omega
            obtain ⟨g1, o1, rfl, hg1, hcs1⟩ := rowV_at HC.out (by omega)
            have hi1 : i < P.classes.length := by rw [HCL.out]; exact hlt
            obtain ⟨cs1, hc21, hcell1, hq1⟩ := hcs1 i hi1
            obtain ⟨v1, v2, rfl, ⟨pa, pn, pc, rfl, hpat, _, hpm, _⟩, ⟨ma, mn, mc, rfl, hmat, _, hmm, _⟩⟩ := hq1
            have hd0 := hcell1 0 (by simp)
            have hd1 := hcell1 1 (by simp)
            simp only [Nat.add_zero, List.getElem_cons_zero, List.getElem_cons_succ] at hd0 hd1
            have HPA : RowKit.Hid (pCls P.classes[i] = pn + mn) := Lib.hid (by unfold pCls; rw [hpat.1, hmat.1])
            clear hcell1 hcs1 hpat hmat
            go_wp2_with fail
            go_quiet (fail)
            go_wp2_with fail
            go_roundw
            case rel => exact ⟨n + pn + mn, i + 1, by omega, Lib.hid (by rw [sumN_take _ hi1]; have h1 := hn0.out; have h2 := HPA.out; omega), by omega, by go_num, by go_num, _, rfl⟩
            case measure => simp [intOf]; omega
          · have hn4' : ¬ (n : Int) ≤ 1500 := by omega
            go_wp2_with fail
            go_loopw [5, 8] (fun nv iv wr => nv = .int .i64 (n : Int) ∧ iv = .int .i64 0 ∧ ∃ q, wr = w.drewN q) (fun _ _ _ => 0)
            case atStart => exact ⟨rfl, rfl, _, rfl⟩
            case round =>
              obtain ⟨rfl, rfl, q, rfl⟩ := hrel
              by_cases hlt3 : 0 < fn
              · go_wp2_with fail
                go_ret
                exact ⟨_, rfl, fun h => absurd h (by first | (simp; done) | (simp; omega)), below_drewN _ (Below.refl _ _)⟩
              · obtain rfl : fn = 0 := by omega
                go_wp2_with fail
                go_ret
                exact ⟨_, rfl, fun h => absurd h (by first | (simp; done) | (simp; omega)), below_drewN _ (Below.refl _ _)⟩
        · have HN2 : RowKit.Hid (sn + cn + fn + sumN pSig P.sigs + sumN pCls P.classes ≤ n) := Lib.hid (by have h1 := hn0.out; rwa [List.take_of_length_le (by rw [HCL.out]; omega)] at h1)
          go_wp2_with fail
          go_loopw [5, 8] (fun nv iv wr => ∃ n i : Nat, i ≤ fn ∧ 0 ≤ n ∧ n ≤ 1000000000000000 ∧ nv = .int .i64 (n : Int) ∧ iv = .int .i64 (i : Int) ∧ RowKit.Hid ((n ≤ 1500 → sn + cn + fn + sumN pSig P.sigs + sumN pCls P.classes + sumN pFunc (P.funcs.take i) ≤ n) ∧ Below w.heap.size w wr)) (fun _ iv _ => fn - (intOf iv).toNat)
          case atStart => exact ⟨n, 0, Nat.zero_le _, by omega, by omega, rfl, rfl, Lib.hid ⟨fun _ => by have := HN2.out; simpa [sumN] using this, below_drewN _ (Below.refl _ _)⟩⟩
          case round =>
            clear hi hn0 hn1
            obtain ⟨n, i, hi, hn0, hn1, rfl, rfl, HI⟩ := hrel
            have hb0 := (HI.out.2.cell (p := ⟨g, off, none⟩) hg).trans hc0
            have hb1 := (HI.out.2.cell (p := ⟨g, off + 1, none⟩) hg).trans hc1
            have hb2 := (HI.out.2.cell (p := ⟨g, off + 2, none⟩) hg).trans hc2
            by_cases hlt : i < fn
            · by_cases hn4 : n ≤ 1500
              · have hn4' : (n : Int) ≤ 1500 := by omega
                obtain ⟨g1, o1, rfl, hg1, hcs1⟩ := rowV_at (HF.out.since FuncQ.lasts HI.out.2) (by omega)
                have hi1 : i < P.funcs.length := by rw [HFL.out]; exact hlt
                obtain ⟨cs1, hc21, hcell1, hq1⟩ := hcs1 i hi1
                obtain ⟨X, hX⟩ : ∃ X, X = P.funcs[i] := ⟨_, rfl⟩
                rw [← hX] at hq1
                obtain ⟨v1, rfl, _, hrow⟩ := hq1
                obtain ⟨ba, bn, bc, rfl, hbl, _⟩ := id hrow
                have hbm := (rowV_len' hrow).2
                have hd1 := hcell1 1 (by simp)
                simp only [List.getElem_cons_zero, List.getElem_cons_succ] at hd1
                have HR := Lib.hid hrow
                have HX := Lib.hid hX
                have HBL := Lib.hid hbl
                clear hcell1 hcs1 hrow hX hbl hc21
                go_wp2_with fail
                obtain ⟨w3, rfl⟩ : ∃ u, u = wr := ⟨wr, rfl⟩
                go_loopw [5, 9] (fun nv kv wk => ∃ n2 k : Nat, k ≤ bn ∧ n + bn ≤ n2 ∧ n2 ≤ 1000000000000000 ∧ nv = .int .i64 (n2 : Int) ∧ kv = .int .i64 (k : Int) ∧ RowKit.Hid ((n2 ≤ 1500 → n + bn + sumN pBlock (X.blocks.take k) ≤ n2) ∧ Below w3.heap.size w3 wk)) (fun _ kv _ => bn - (intOf kv).toNat)
                case atStart => exact ⟨n + bn, 0, Nat.zero_le _, Nat.le_refl _, by omega, by go_num, rfl, Lib.hid ⟨fun _ => by simp [sumN], Below.refl _ _⟩⟩
                case round =>
                  obtain ⟨n2, k, hk, hk0, hk9, rfl, rfl, HK⟩ := hrel
                  have hw0 : g < w3.heap.size := Nat.lt_of_lt_of_le hg HI.out.2.size
                  have hf2 := (HK.out.2.cell (p := ⟨g, off + 2, none⟩) hw0).trans hb2
                  have hfd := (HK.out.2.cell (p := ⟨g1, o1 + i * 2 + 1, none⟩) hg1).trans hd1
                  by_cases hlk : k < bn
                  · by_cases hn5 : n2 ≤ 1500
                    · have hn5' : (n2 : Int) ≤ 1500 := by omega
                      obtain ⟨g2, o2, rfl, hg2, hcs2⟩ := rowV_at (HR.out.since BlockQ.lasts HK.out.2) (by omega)
                      have hk1 : k < X.blocks.length := by rw [HBL.out]; exact hlk
                      obtain ⟨cs2, hc82, hcell2, hbq2⟩ := hcs2 k hk1
                      obtain ⟨Y, hY⟩ : ∃ Y, Y = X.blocks[k] := ⟨_, rfl⟩
                      rw [← hY] at hbq2
                      obtain ⟨pa, pn, pc, oa, on, oc, la, ln, lc, ma, mn, mc, rfl, hon⟩ := hbq2.form
                      have hpm := hbq2.params.2
                      have hom := (rowV_len' hbq2.ops).2
                      have hlm : ln ≤ 140737488351232 := by obtain ⟨_, _, e, _, _, _, _, ⟨_, _, _, rfl, _, _, h, _⟩, _⟩ := hbq2.fin; simp only [List.cons.injEq, Value.slice.injEq] at e; omega
                      have hmm : mn ≤ 140737488351232 := by obtain ⟨_, _, e, _, _, _, _, _, ⟨_, _, _, rfl, _, _, h, _⟩⟩ := hbq2.fin; simp only [List.cons.injEq, Value.slice.injEq] at e; omega
                      have hd10 := hcell2 0 (by simp)
                      have hd11 := hcell2 1 (by simp)
                      have hd12 := hcell2 2 (by simp)
                      have hd13 := hcell2 3 (by simp)
                      have hd14 := hcell2 4 (by simp)
                      have hd15 := hcell2 5 (by simp)
                      have hd16 := hcell2 6 (by simp)
                      have hd17 := hcell2 7 (by simp)
                      simp only [Nat.add_zero, List.getElem_cons_zero, List.getElem_cons_succ] at hd10 hd11 hd12 hd13 hd14 hd15 hd16 hd17
                      have hll : Y.fin.L.length = ln := by obtain ⟨_, _, e, _, _, _, _, ⟨_, _, _, rfl, hat, _⟩, _⟩ := hbq2.fin; simp only [List.cons.injEq, Value.slice.injEq] at e; have := hat.1; omega
                      have hml : Y.fin.M.length = mn := by obtain ⟨_, _, e, _, _, _, _, _, ⟨_, _, _, rfl, hat, _⟩⟩ := hbq2.fin; simp only [List.cons.injEq, Value.slice.injEq] at e; have := hat.1; omega
                      have HPB : RowKit.Hid (pBlock X.blocks[k] = pn + on + ln + mn + sumN pOp Y.ops) := Lib.hid (by rw [← hY]; unfold pBlock; rw [hbq2.params.1.1, hon, hll, hml])
                      clear hll hml
                      have HOY := Lib.hid hbq2.ops
                      have HYL := Lib.hid hon
                      have HY := Lib.hid hY
                      clear hcell2 hcs2 hbq2 hY hon hc82
                      go_wp2_with fail
                      have hal : Below wr.heap.size wr (wr.alloc (.cells #[.slice pa pn pc, .slice oa on oc, .int .i64 Y.fin.K, .int .i64 Y.fin.A, .int .i64 Y.fin.To, .int .i64 Y.fin.Else, .slice la ln lc, .slice ma mn mc] 48)) := (Below.refl _ _).alloc (Nat.le_refl _) _
                      have hblk := heap_alloc_new wr (.cells #[.slice pa pn pc, .slice oa on oc, .int .i64 Y.fin.K, .int .i64 Y.fin.A, .int .i64 Y.fin.To, .int .i64 Y.fin.Else, .slice la ln lc, .slice ma mn mc] 48)
                      obtain ⟨w4, rfl⟩ : ∃ u, u = wr := ⟨wr, rfl⟩
                      generalize (w4.alloc (.cells #[.slice pa pn pc, .slice oa on oc, .int .i64 Y.fin.K, .int .i64 Y.fin.A, .int .i64 Y.fin.To, .int .i64 Y.fin.Else, .slice la ln lc, .slice ma mn mc] 48)) = wy at hal hblk ⊢
                      have hby1 : wy.cell? ⟨w4.heap.size, 1, none⟩ = some (.slice oa on oc) := by simp [World.cell?, hblk]
                      have hby : w4.heap.size < wy.heap.size := (Array.getElem?_eq_some_iff.1 hblk).1
                      have HBY := Lib.hid hal
                      clear hal hblk hd10 hd11 hd12 hd13 hd14 hd15 hd16 hd17
                      go_loopw [5, 11] (fun nv jv wj => ∃ n3 j : Nat, j ≤ on ∧ RowKit.Hid (n2 + pn + on + ln + mn + sumN pOp (Y.ops.take j) ≤ n3) ∧ n2 ≤ n3 ∧ n3 ≤ 1000000000000000 ∧ nv = .int .i64 (n3 : Int) ∧ jv = .int .i64 (j : Int) ∧ RowKit.Hid (Below wy.heap.size wy wj)) (fun _ jv _ => on - (intOf jv).toNat)
                      case atStart => exact ⟨n2 + pn + on + ln + mn, 0, Nat.zero_le _, Lib.hid (by simp [sumN]), by omega, by omega, by go_num, rfl, Lib.hid (Below.refl _ _)⟩
                      case round =>
                        obtain ⟨n3, j, hj, hj0, hj2, hj1, rfl, rfl, HJ⟩ := hrel
                        have hy1 := (HJ.out.cell (p := ⟨w4.heap.size, 1, none⟩) hby).trans hby1
                        by_cases hlj : j < on
                        · by_cases hn6 : n3 ≤ 1500
                          · have hn6' : (n3 : Int) ≤ 1500 := by omega
                            obtain ⟨g3, o3, rfl, hg3, hcs3⟩ := rowV_at ((HOY.out.since OpQ.lasts HBY.out).since OpQ.lasts HJ.out) (by omega)
                            have hj9 : j < Y.ops.length := by rw [HYL.out]; exact hlj
                            obtain ⟨cs3, hc83, hcell3, hoq3⟩ := hcs3 j hj9
                            obtain ⟨O, hO⟩ : ∃ O, O = Y.ops[j] := ⟨_, rfl⟩
                            rw [← hO] at hoq3
                            obtain ⟨l3, rfl, _, _, _, _, _, hos, ⟨la3, ln3, lc3, rfl, hlat, _, hlm, _⟩⟩ := hoq3
                            have hm5 := hcell3 5 (by simp)
                            have hm6 := hcell3 6 (by simp)
                            simp only [List.getElem_cons_zero, List.getElem_cons_succ] at hm5 hm6
                            have hq8 : ((O.S.size : Nat) : Int).tdiv 8 = ((O.S.size / 8 : Nat) : Int) := rfl
                            have hs8 : O.S.size / 8 ≤ 140737488351232 := by omega
                            have HPO : RowKit.Hid (pOp Y.ops[j] = ln3 + O.S.size / 8) := Lib.hid (by rw [← hO]; unfold pOp; rw [hlat.1])
                            clear hcell3 hcs3 hlat hO hc83
                            go_wp2_with fail
                            go_quiet (fail)
                            go_wp2_with fail
                            go_roundw
                            case rel => exact ⟨n3 + ln3 + O.S.size / 8, j + 1, by omega, Lib.hid (by rw [sumN_take _ hj9]; have h1 := hj0.out; have h2 := HPO.out; omega), by omega, by omega, by go_num, by go_num, Lib.hid (below_drewN _ HJ.out)⟩
                            case measure => simp [intOf]; omega
                          · have hn6' : ¬ (n3 : Int) ≤ 1500 := by omega
                            go_wp2_with fail
                            go_roundw
                            case rel => exact ⟨n3, k + 1, by omega, by omega, by omega, rfl, by go_num, Lib.hid ⟨fun h4 => absurd h4 hn6, keepB HK.out.2 (keepB HBY.out HJ.out)⟩⟩
                            case measure => simp [intOf]; omega
                        · obtain rfl : j = on := by omega
                          go_wp2_with fail
                          go_roundw
                          case rel => exact ⟨n3, k + 1, by omega, by omega, by omega, rfl, by go_num, Lib.hid ⟨fun h4 => by have h1 := hj0.out; rw [List.take_of_length_le (by rw [HYL.out]; exact Nat.le_refl _)] at h1; have h2 := HK.out.1 (by omega); have h3 := HPB.out; rw [sumN_take _ hk1]; omega, keepB HK.out.2 (keepB HBY.out HJ.out)⟩⟩
                          case measure => simp [intOf]; omega
                    · have hn5' : ¬ (n2 : Int) ≤ 1500 := by omega
                      go_wp2_with fail
                      go_roundw
                      case rel => exact ⟨n2, i + 1, by omega, by omega, by omega, rfl, by go_num, Lib.hid ⟨fun h4 => absurd h4 hn5, keepB HI.out.2 HK.out.2⟩⟩
                      case measure => simp [intOf]; omega
                  · obtain rfl : k = bn := by omega
                    go_wp2_with fail
                    go_roundw
                    case rel => exact ⟨n2, i + 1, by omega, by omega, by omega, rfl, by go_num, Lib.hid ⟨fun h4 => by have h1 := HI.out.1 hn4; have h2 := HK.out.1 h4; rw [List.take_of_length_le (by rw [HBL.out]; exact Nat.le_refl _)] at h2; have h3 : pFunc P.funcs[i] = k + sumN pBlock X.blocks := (by rw [← HX.out]; unfold pFunc; rw [HBL.out]); rw [sumN_take _ hi1]; omega, keepB HI.out.2 HK.out.2⟩⟩
                    case measure => simp [intOf]; omega
              · have hn4' : ¬ (n : Int) ≤ 1500 := by omega
                go_wp2_with fail
                go_ret
                exact ⟨_, rfl, fun h => absurd h (by first | (simp; done) | (simp; omega)), HI.out.2⟩
            · obtain rfl : i = fn := by omega
              go_wp2_with fail
              go_ret
              refine ⟨_, rfl, fun h => ?_, HI.out.2⟩
              have h4 : n ≤ 1500 := by simp at h; omega
              have h1 := HI.out.1 h4
              rw [List.take_of_length_le (by rw [HFL.out]; exact Nat.le_refl _)] at h1
              unfold partsP
              have h2 := HSL.out
              have h3 := HCL.out
              have h5 := HFL.out
              omega
end Go.Proofs.YtccajbgdlicbnaaDoor
