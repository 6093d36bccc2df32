/- Layer 13: what a small program's function is bounded by (plain). -/
import Derived.Test.YtdchhfdmingnaaaDoorFCfgJ
import Derived.Test.YtdchhfdmingnaaaDoorFCodeCe
import Derived.Test.YtdchhfdmingnaaaDoorFCodeFi
import Derived.Test.YtdchhfdmingnaaaDoorFCodeQe
import Derived.Test.YtdchhfdmingnaaaDoorFCodeRl
import Derived.Test.YtdchhfdmingnaaaDoorFCodeSq
import Derived.Test.YtdchhfdmingnaaaDoorFCodeWo
import Derived.Test.YtdchhfdmingnaaaDoorFKindPlainW
import Derived.Test.YtdchhfdmingnaaaDoorFT0
import Derived.Test.YtdchhfdmingnaaaDoorFT1
import Derived.Test.YtdchhfdmingnaaaDoorFT2
import Derived.Test.YtdchhfdmingnaaaDoorFT3
import Derived.Test.YtdchhfdmingnaaaDoorFT4
import Derived.Test.YtdchhfdmingnaaaDoorFUsesC
import Derived.Deep.RegionLaw
import Derived.Deep.RegionHeld3
import Derived.Deep.DeepCutAuto
import Derived.Defers
import Derived.Recover
import Derived.Laws.Bits64b
import Derived.BigQuiet
namespace Go.Proofs.YtdchhfdmingnaaaDoor
open Go.RowKit (wrap64 intOf Below)
set_option linter.unusedVariables false
set_option linter.unusedSimpArgs false
theorem sumU_mem {α : Type} (f : α → Nat) : ∀ {xs : List α} {x : α}, x ∈ xs → f x ≤ sumN f xs
  | y :: xs, x, h => by
    simp only [sumN]
    rcases List.mem_cons.1 h with rfl | h
    · omega
    · have := sumU_mem f h; omega
  | [], x, h => by cases h
theorem fstU_parts (f : FuncD) : ∀ i, i ≤ f.blocks.length → fstU f i ≤ sumN pBlock (f.blocks.take i)
  | 0, _ => by simp [fstU]
  | i + 1, h => by
    have ih := fstU_parts f i (by omega)
    rw [fstU_more (show i < f.blocks.length from h), sumN_take pBlock (show i < f.blocks.length from h)]
    have h3 : pBlock f.blocks[i] = f.blocks[i].params.length + f.blocks[i].ops.length + f.blocks[i].fin.L.length + f.blocks[i].fin.M.length + sumN pOp f.blocks[i].ops := rfl
    omega
theorem pairs_le (s : SiteU) (V : Nat) (l : List Int) : (pairsU s V l).length ≤ l.length := by
  unfold pairsU
  rw [List.length_map]
  exact List.length_filter_le _ _
theorem opU_le (o : OpD) : (opU o).length ≤ 3 + pOp o := by
  have h := usesL_len o.K o.A o.B o.C o.L
  show (usesL o.K o.A o.B o.C o.L).length ≤ 3 + (o.L.length + o.S.size / 8)
  omega
theorem partU_le (f : FuncD) (i : Nat) : ∀ m, m ≤ (blkU f i).ops.length → (partU f i m).length ≤ 3 * m + sumN pOp ((blkU f i).ops.take m)
  | 0, _ => by simp [partU]
  | m + 1, h => by
    have hm : m < (blkU f i).ops.length := h
    rw [partU_more, List.length_append, sumN_take pOp hm]
    have h1 := partU_le f i m (by omega)
    have h2 : (siteU f i m).length ≤ (atU f i m).length := pairs_le _ _ _
    rw [atU_op hm] at h2
    have h3 := opU_le (blkU f i).ops[m]
    omega
theorem endU_le (r : Int) (e : EndD) : (endU r e).length ≤ 1 + e.L.length + e.M.length := by
  unfold endU
  rw [List.length_append]
  have h1 : (endA r e).length ≤ 1 := by unfold endA; split <;> simp
  have h2 : ((tgts e).flatMap (·.2)).length ≤ e.L.length + e.M.length := by
    unfold tgts
    split
    · simp
    · split <;> simp
  omega
theorem blk_le (f : FuncD) (i : Nat) : (partU f i (lenU f i + 1)).length ≤ 4 * pBlock (blkU f i) + 1 := by
  rw [partU_more, List.length_append]
  have h1 := partU_le f i (lenU f i) (Nat.le_refl _)
  rw [List.take_of_length_le (show (blkU f i).ops.length ≤ lenU f i from Nat.le_refl _)] at h1
  have h2 : (siteU f i (lenU f i)).length ≤ (atU f i (lenU f i)).length := pairs_le _ _ _
  rw [atU_end f i (lenU f i) (Nat.le_refl _)] at h2
  have h3 := endU_le f.ret (blkU f i).fin
  have h4 : pBlock (blkU f i) = (blkU f i).params.length + (blkU f i).ops.length + (blkU f i).fin.L.length + (blkU f i).fin.M.length + sumN pOp (blkU f i).ops := rfl
  have h5 : lenU f i = (blkU f i).ops.length := rfl
  omega
theorem allU_le (f : FuncD) : ∀ m, m ≤ f.blocks.length → (allU f m).length ≤ 4 * sumN pBlock (f.blocks.take m) + m
  | 0, _ => by simp [allU]
  | m + 1, h => by
    have hm : m < f.blocks.length := h
    rw [allU_more, List.length_append, sumN_take pBlock hm]
    have h1 := allU_le f m (by omega)
    have h2 := blk_le f m
    rw [blkU_at hm] at h2
    omega
theorem smU_of {P : ProgD} {m : Nat} (hm : m ≤ 1000) (h : partsP P ≤ m) {f : FuncD} (hf : f ∈ P.funcs) : SmU f ∧ (usesU f).length ≤ 900000 := by
  have h1 := sumU_mem pFunc hf
  have h2 : pFunc f = f.blocks.length + sumN pBlock f.blocks := rfl
  unfold partsP at h
  have h3 := fstU_parts f f.blocks.length (Nat.le_refl _)
  have h4 := allU_le f f.blocks.length (Nat.le_refl _)
  rw [List.take_of_length_le (Nat.le_refl _)] at h3 h4
  have hend : ∀ p, (theEnd f p).L.length ≤ 100000 ∧ (theEnd f p).M.length ≤ 100000 := fun p => by
    by_cases hp : p < f.blocks.length
    · rw [theEnd_at hp]
      have h5 := sumU_mem pBlock (List.getElem_mem hp)
      have h6 : pBlock f.blocks[p] = f.blocks[p].params.length + f.blocks[p].ops.length + f.blocks[p].fin.L.length + f.blocks[p].fin.M.length + sumN pOp f.blocks[p].ops := rfl
      exact ⟨by omega, by omega⟩
    · unfold theEnd
      rw [List.getElem?_eq_none (by omega)]
      exact ⟨by simp [noEnd], by simp [noEnd]⟩
  exact ⟨⟨by omega, by unfold valU; omega, fun p => (hend p).1, fun p => (hend p).2⟩, by unfold usesU; omega⟩
end Go.Proofs.YtdchhfdmingnaaaDoor

/- The document's Small at any bound: what it counts (out of ShowSm). -/
namespace Go.Proofs.YtdchhfdmingnaaaDoor
open Go.RowKit (wrap64 intOf Below)
set_option linter.unusedVariables false
set_option linter.unusedSimpArgs false
def SmallPostM (m : Nat) (P : ProgD) (w : World) (e : Ending) (w' : World) : Prop := ∃ b : Bool, e = .returned (.bool b) ∧ (b = true → partsP P ≤ m) ∧ Below w.heap.size w w'
set_option maxRecDepth 100000 in
set_option maxHeartbeats 16000000 in
theorem ref_smallM (m : Nat) (hm : m ≤ 100000) (g off : Nat) (sa : Option Addr) (sn sc : Nat) (ca : Option Addr) (cn cc : Nat) (fa : Option Addr) (fn fc : Nat) (P : ProgD) (w : World) (hg : g < w.heap.size)
    (hc0 : w.cell? ⟨g, off, none⟩ = some (.slice sa sn sc)) (hc1 : w.cell? ⟨g, off + 1, none⟩ = some (.slice ca cn cc)) (hc2 : w.cell? ⟨g, off + 2, none⟩ = some (.slice fa fn fc))
    (hP : ProgQ w [.slice sa sn sc, .slice ca cn cc, .slice fa fn fc] P) :
    Calls Tryd.prog 23 #[.pointer (some ⟨g, off, none⟩), .int .i64 (m : Int)] w (SmallPostM m P w) := by
  obtain ⟨_, _, _, he, hS, hC, hF⟩ := hP
  simp only [List.cons.injEq, and_true] at he
  obtain ⟨rfl, rfl, rfl⟩ := he
  obtain ⟨hsl, hsm⟩ := rowV_len' hS
  obtain ⟨hcl, hcm⟩ := rowV_len' hC
  obtain ⟨hfl, hfm⟩ := rowV_len' hF
  have HS := Lib.hid hS
  have HC := Lib.hid hC
  have HF := Lib.hid hF
  have HSL := Lib.hid hsl
  have HCL := Lib.hid hcl
  have HFL := Lib.hid hfl
  clear hS hC hF hsl hcl hfl
  go_enter Tryd.func23, Tryd.ntmps23
  go_wp2_with fail
  go_quiet (fail)
  go_wp2_with fail
  go_loopw [5, 6] (fun nv iv wr => ∃ n i : Nat, i ≤ sn ∧ RowKit.Hid (sn + cn + fn + sumN pSig (P.sigs.take i) ≤ n) ∧ n ≤ 1000000000000000 ∧ nv = .int .i64 (n : Int) ∧ iv = .int .i64 (i : Int) ∧ ∃ q, wr = w.drewN q) (fun _ iv _ => sn - (intOf iv).toNat)
  case atStart => exact ⟨sn + cn + fn, 0, Nat.zero_le _, Lib.hid (by simp [sumN]), by omega, by go_num, rfl, _, rfl⟩
  case round =>
    obtain ⟨n, i, hi, hn0, hn1, rfl, rfl, q, rfl⟩ := hrel
    by_cases hlt : i < sn
    · by_cases hn4 : n ≤ m
      · have hn4' : (n : Int) ≤ (m : Int) := by omega
        obtain ⟨g1, o1, rfl, hg1, hcs1⟩ := rowV_at HS.out (by omega)
        have hi1 : i < P.sigs.length := by rw [HSL.out]; exact hlt
        obtain ⟨cs1, hc21, hcell1, hq1⟩ := hcs1 i hi1
        obtain ⟨v1, rfl, ⟨pa, pn, pc, rfl, hpat, _, hpm, _⟩, _⟩ := hq1
        have hd0 := hcell1 0 (by simp)
        simp only [Nat.add_zero, List.getElem_cons_zero] at hd0
        have HPA : RowKit.Hid (pSig P.sigs[i] = pn) := Lib.hid hpat.1
        clear hcell1 hcs1 hpat
        go_wp2_with fail
        go_roundw
        case rel => exact ⟨n + pn, i + 1, by omega, Lib.hid (by rw [sumN_take _ hi1]; have h1 := hn0.out; have h2 := HPA.out; omega), by omega, by go_num, by go_num, _, rfl⟩
        case measure => simp [intOf]; omega
      · have hn4' : ¬ (n : Int) ≤ (m : Int) := by omega
        go_wp2_with fail
        go_loopw [5, 7] (fun nv iv wr => nv = .int .i64 (n : Int) ∧ iv = .int .i64 0 ∧ ∃ q, wr = w.drewN q) (fun _ _ _ => 0)
        case atStart => exact ⟨rfl, rfl, _, rfl⟩
        case round =>
          obtain ⟨rfl, rfl, q, rfl⟩ := hrel
          by_cases hlt2 : 0 < cn
          · go_wp2_with fail
            go_loopw [5, 8] (fun nv iv wr => nv = .int .i64 (n : Int) ∧ iv = .int .i64 0 ∧ ∃ q, wr = w.drewN q) (fun _ _ _ => 0)
            case atStart => exact ⟨rfl, rfl, _, rfl⟩
            case round =>
              obtain ⟨rfl, rfl, q, rfl⟩ := hrel
              by_cases hlt3 : 0 < fn
              · go_wp2_with fail
                go_ret
                exact ⟨_, rfl, fun h => absurd h (by first | (simp; done) | (simp; omega)), below_drewN _ (Below.refl _ _)⟩
              · obtain rfl : fn = 0 := by omega
                go_wp2_with fail
                go_ret
                exact ⟨_, rfl, fun h => absurd h (by first | (simp; done) | (simp; omega)), below_drewN _ (Below.refl _ _)⟩
          · obtain rfl : cn = 0 := by omega
            go_wp2_with fail
            go_loopw [5, 8] (fun nv iv wr => nv = .int .i64 (n : Int) ∧ iv = .int .i64 0 ∧ ∃ q, wr = w.drewN q) (fun _ _ _ => 0)
            case atStart => exact ⟨rfl, rfl, _, rfl⟩
            case round =>
              obtain ⟨rfl, rfl, q, rfl⟩ := hrel
              by_cases hlt3 : 0 < fn
              · go_wp2_with fail
                go_ret
                exact ⟨_, rfl, fun h => absurd h (by first | (simp; done) | (simp; omega)), below_drewN _ (Below.refl _ _)⟩
              · obtain rfl : fn = 0 := by omega
                go_wp2_with fail
                go_ret
                exact ⟨_, rfl, fun h => absurd h (by first | (simp; done) | (simp; omega)), below_drewN _ (Below.refl _ _)⟩
    · have HN1 : RowKit.Hid (sn + cn + fn + sumN pSig P.sigs ≤ n) := Lib.hid (by have h1 := hn0.out; rwa [List.take_of_length_le (by rw [HSL.out]; omega)] at h1)
      go_wp2_with fail
      go_loopw [5, 7] (fun nv iv wr => ∃ n i : Nat, i ≤ cn ∧ RowKit.Hid (sn + cn + fn + sumN pSig P.sigs + sumN pCls (P.classes.take i) ≤ n) ∧ n ≤ 1000000000000000 ∧ nv = .int .i64 (n : Int) ∧ iv = .int .i64 (i : Int) ∧ ∃ q, wr = w.drewN q) (fun _ iv _ => cn - (intOf iv).toNat)
      case atStart => exact ⟨n, 0, Nat.zero_le _, Lib.hid (by have := HN1.out; simpa [sumN] using this), by omega, rfl, rfl, _, rfl⟩
      case round =>
        clear hi hn0 hn1
        obtain ⟨n, i, hi, hn0, hn1, rfl, rfl, q, rfl⟩ := hrel
        by_cases hlt : i < cn
        · by_cases hn4 : n ≤ m
          · have hn4' : (n : Int) ≤ (m : Int) := by omega
            obtain ⟨g1, o1, rfl, hg1, hcs1⟩ := rowV_at HC.out (by omega)
            have hi1 : i < P.classes.length := by rw [HCL.out]; exact hlt
            obtain ⟨cs1, hc21, hcell1, hq1⟩ := hcs1 i hi1
            obtain ⟨v1, v2, rfl, ⟨pa, pn, pc, rfl, hpat, _, hpm, _⟩, ⟨ma, mn, mc, rfl, hmat, _, hmm, _⟩⟩ := hq1
            have hd0 := hcell1 0 (by simp)
            have hd1 := hcell1 1 (by simp)
            simp only [Nat.add_zero, List.getElem_cons_zero, List.getElem_cons_succ] at hd0 hd1
            have HPA : RowKit.Hid (pCls P.classes[i] = pn + mn) := Lib.hid (by unfold pCls; rw [hpat.1, hmat.1])
            clear hcell1 hcs1 hpat hmat
            go_wp2_with fail
            go_quiet (fail)
            go_wp2_with fail
            go_roundw
            case rel => exact ⟨n + pn + mn, i + 1, by omega, Lib.hid (by rw [sumN_take _ hi1]; have h1 := hn0.out; have h2 := HPA.out; omega), by omega, by go_num, by go_num, _, rfl⟩
            case measure => simp [intOf]; omega
          · have hn4' : ¬ (n : Int) ≤ (m : Int) := by omega
            go_wp2_with fail
            go_loopw [5, 8] (fun nv iv wr => nv = .int .i64 (n : Int) ∧ iv = .int .i64 0 ∧ ∃ q, wr = w.drewN q) (fun _ _ _ => 0)
            case atStart => exact ⟨rfl, rfl, _, rfl⟩
            case round =>
              obtain ⟨rfl, rfl, q, rfl⟩ := hrel
              by_cases hlt3 : 0 < fn
              · go_wp2_with fail
                go_ret
                exact ⟨_, rfl, fun h => absurd h (by first | (simp; done) | (simp; omega)), below_drewN _ (Below.refl _ _)⟩
              · obtain rfl : fn = 0 := by omega
                go_wp2_with fail
                go_ret
                exact ⟨_, rfl, fun h => absurd h (by first | (simp; done) | (simp; omega)), below_drewN _ (Below.refl _ _)⟩
        · have HN2 : RowKit.Hid (sn + cn + fn + sumN pSig P.sigs + sumN pCls P.classes ≤ n) := Lib.hid (by have h1 := hn0.out; rwa [List.take_of_length_le (by rw [HCL.out]; omega)] at h1)
          go_wp2_with fail
          go_loopw [5, 8] (fun nv iv wr => ∃ n i : Nat, i ≤ fn ∧ 0 ≤ n ∧ n ≤ 1000000000000000 ∧ nv = .int .i64 (n : Int) ∧ iv = .int .i64 (i : Int) ∧ RowKit.Hid ((n ≤ m → sn + cn + fn + sumN pSig P.sigs + sumN pCls P.classes + sumN pFunc (P.funcs.take i) ≤ n) ∧ Below w.heap.size w wr)) (fun _ iv _ => fn - (intOf iv).toNat)
          case atStart => exact ⟨n, 0, Nat.zero_le _, by omega, by omega, rfl, rfl, Lib.hid ⟨fun _ => by have := HN2.out; simpa [sumN] using this, below_drewN _ (Below.refl _ _)⟩⟩
          case round =>
            clear hi hn0 hn1
            obtain ⟨n, i, hi, hn0, hn1, rfl, rfl, HI⟩ := hrel
            have hb0 := (HI.out.2.cell (p := ⟨g, off, none⟩) hg).trans hc0
            have hb1 := (HI.out.2.cell (p := ⟨g, off + 1, none⟩) hg).trans hc1
            have hb2 := (HI.out.2.cell (p := ⟨g, off + 2, none⟩) hg).trans hc2
            by_cases hlt : i < fn
            · by_cases hn4 : n ≤ m
              · have hn4' : (n : Int) ≤ (m : Int) := by omega
                obtain ⟨g1, o1, rfl, hg1, hcs1⟩ := rowV_at (HF.out.since FuncQ.lasts HI.out.2) (by omega)
                have hi1 : i < P.funcs.length := by rw [HFL.out]; exact hlt
                obtain ⟨cs1, hc21, hcell1, hq1⟩ := hcs1 i hi1
                obtain ⟨X, hX⟩ : ∃ X, X = P.funcs[i] := ⟨_, rfl⟩
                rw [← hX] at hq1
                obtain ⟨v1, rfl, _, hrow⟩ := hq1
                obtain ⟨ba, bn, bc, rfl, hbl, _⟩ := id hrow
                have hbm := (rowV_len' hrow).2
                have hd1 := hcell1 1 (by simp)
                simp only [List.getElem_cons_zero, List.getElem_cons_succ] at hd1
                have HR := Lib.hid hrow
                have HX := Lib.hid hX
                have HBL := Lib.hid hbl
                clear hcell1 hcs1 hrow hX hbl hc21
                go_wp2_with fail
                obtain ⟨w3, rfl⟩ : ∃ u, u = wr := ⟨wr, rfl⟩
                go_loopw [5, 9] (fun nv kv wk => ∃ n2 k : Nat, k ≤ bn ∧ n + bn ≤ n2 ∧ n2 ≤ 1000000000000000 ∧ nv = .int .i64 (n2 : Int) ∧ kv = .int .i64 (k : Int) ∧ RowKit.Hid ((n2 ≤ m → n + bn + sumN pBlock (X.blocks.take k) ≤ n2) ∧ Below w3.heap.size w3 wk)) (fun _ kv _ => bn - (intOf kv).toNat)
                case atStart => exact ⟨n + bn, 0, Nat.zero_le _, Nat.le_refl _, by omega, by go_num, rfl, Lib.hid ⟨fun _ => by simp [sumN], Below.refl _ _⟩⟩
                case round =>
                  obtain ⟨n2, k, hk, hk0, hk9, rfl, rfl, HK⟩ := hrel
                  have hw0 : g < w3.heap.size := Nat.lt_of_lt_of_le hg HI.out.2.size
                  have hf2 := (HK.out.2.cell (p := ⟨g, off + 2, none⟩) hw0).trans hb2
                  have hfd := (HK.out.2.cell (p := ⟨g1, o1 + i * 2 + 1, none⟩) hg1).trans hd1
                  by_cases hlk : k < bn
                  · by_cases hn5 : n2 ≤ m
                    · have hn5' : (n2 : Int) ≤ (m : Int) := by omega
                      obtain ⟨g2, o2, rfl, hg2, hcs2⟩ := rowV_at (HR.out.since BlockQ.lasts HK.out.2) (by omega)
                      have hk1 : k < X.blocks.length := by rw [HBL.out]; exact hlk
                      obtain ⟨cs2, hc82, hcell2, hbq2⟩ := hcs2 k hk1
                      obtain ⟨Y, hY⟩ : ∃ Y, Y = X.blocks[k] := ⟨_, rfl⟩
                      rw [← hY] at hbq2
                      obtain ⟨pa, pn, pc, oa, on, oc, la, ln, lc, ma, mn, mc, rfl, hon⟩ := hbq2.form
                      have hpm := hbq2.params.2
                      have hom := (rowV_len' hbq2.ops).2
                      have hlm : ln ≤ 140737488351232 := by obtain ⟨_, _, e, _, _, _, _, ⟨_, _, _, rfl, _, _, h, _⟩, _⟩ := hbq2.fin; simp only [List.cons.injEq, Value.slice.injEq] at e; omega
                      have hmm : mn ≤ 140737488351232 := by obtain ⟨_, _, e, _, _, _, _, _, ⟨_, _, _, rfl, _, _, h, _⟩⟩ := hbq2.fin; simp only [List.cons.injEq, Value.slice.injEq] at e; omega
                      have hd10 := hcell2 0 (by simp)
                      have hd11 := hcell2 1 (by simp)
                      have hd12 := hcell2 2 (by simp)
                      have hd13 := hcell2 3 (by simp)
                      have hd14 := hcell2 4 (by simp)
                      have hd15 := hcell2 5 (by simp)
                      have hd16 := hcell2 6 (by simp)
                      have hd17 := hcell2 7 (by simp)
                      simp only [Nat.add_zero, List.getElem_cons_zero, List.getElem_cons_succ] at hd10 hd11 hd12 hd13 hd14 hd15 hd16 hd17
                      have hll : Y.fin.L.length = ln := by obtain ⟨_, _, e, _, _, _, _, ⟨_, _, _, rfl, hat, _⟩, _⟩ := hbq2.fin; simp only [List.cons.injEq, Value.slice.injEq] at e; have := hat.1; omega
                      have hml : Y.fin.M.length = mn := by obtain ⟨_, _, e, _, _, _, _, _, ⟨_, _, _, rfl, hat, _⟩⟩ := hbq2.fin; simp only [List.cons.injEq, Value.slice.injEq] at e; have := hat.1; omega
                      have HPB : RowKit.Hid (pBlock X.blocks[k] = pn + on + ln + mn + sumN pOp Y.ops) := Lib.hid (by rw [← hY]; unfold pBlock; rw [hbq2.params.1.1, hon, hll, hml])
                      clear hll hml
                      have HOY := Lib.hid hbq2.ops
                      have HYL := Lib.hid hon
                      have HY := Lib.hid hY
                      clear hcell2 hcs2 hbq2 hY hon hc82
                      go_wp2_with fail
                      have hal : Below wr.heap.size wr (wr.alloc (.cells #[.slice pa pn pc, .slice oa on oc, .int .i64 Y.fin.K, .int .i64 Y.fin.A, .int .i64 Y.fin.To, .int .i64 Y.fin.Else, .slice la ln lc, .slice ma mn mc] 57)) := (Below.refl _ _).alloc (Nat.le_refl _) _
                      have hblk := heap_alloc_new wr (.cells #[.slice pa pn pc, .slice oa on oc, .int .i64 Y.fin.K, .int .i64 Y.fin.A, .int .i64 Y.fin.To, .int .i64 Y.fin.Else, .slice la ln lc, .slice ma mn mc] 57)
                      obtain ⟨w4, rfl⟩ : ∃ u, u = wr := ⟨wr, rfl⟩
                      generalize (w4.alloc (.cells #[.slice pa pn pc, .slice oa on oc, .int .i64 Y.fin.K, .int .i64 Y.fin.A, .int .i64 Y.fin.To, .int .i64 Y.fin.Else, .slice la ln lc, .slice ma mn mc] 57)) = wy at hal hblk ⊢
                      have hby1 : wy.cell? ⟨w4.heap.size, 1, none⟩ = some (.slice oa on oc) := by simp [World.cell?, hblk]
                      have hby : w4.heap.size < wy.heap.size := (Array.getElem?_eq_some_iff.1 hblk).1
                      have HBY := Lib.hid hal
                      clear hal hblk hd10 hd11 hd12 hd13 hd14 hd15 hd16 hd17
                      go_loopw [5, 11] (fun nv jv wj => ∃ n3 j : Nat, j ≤ on ∧ RowKit.Hid (n2 + pn + on + ln + mn + sumN pOp (Y.ops.take j) ≤ n3) ∧ n2 ≤ n3 ∧ n3 ≤ 1000000000000000 ∧ nv = .int .i64 (n3 : Int) ∧ jv = .int .i64 (j : Int) ∧ RowKit.Hid (Below wy.heap.size wy wj)) (fun _ jv _ => on - (intOf jv).toNat)
                      case atStart => exact ⟨n2 + pn + on + ln + mn, 0, Nat.zero_le _, Lib.hid (by simp [sumN]), by omega, by omega, by go_num, rfl, Lib.hid (Below.refl _ _)⟩
                      case round =>
                        obtain ⟨n3, j, hj, hj0, hj2, hj1, rfl, rfl, HJ⟩ := hrel
                        have hy1 := (HJ.out.cell (p := ⟨w4.heap.size, 1, none⟩) hby).trans hby1
                        by_cases hlj : j < on
                        · by_cases hn6 : n3 ≤ m
                          · have hn6' : (n3 : Int) ≤ (m : Int) := by omega
                            obtain ⟨g3, o3, rfl, hg3, hcs3⟩ := rowV_at ((HOY.out.since OpQ.lasts HBY.out).since OpQ.lasts HJ.out) (by omega)
                            have hj9 : j < Y.ops.length := by rw [HYL.out]; exact hlj
                            obtain ⟨cs3, hc83, hcell3, hoq3⟩ := hcs3 j hj9
                            obtain ⟨O, hO⟩ : ∃ O, O = Y.ops[j] := ⟨_, rfl⟩
                            rw [← hO] at hoq3
                            obtain ⟨l3, rfl, _, _, _, _, _, hos, ⟨la3, ln3, lc3, rfl, hlat, _, hlm, _⟩⟩ := hoq3
                            have hm5 := hcell3 5 (by simp)
                            have hm6 := hcell3 6 (by simp)
                            simp only [List.getElem_cons_zero, List.getElem_cons_succ] at hm5 hm6
                            have hq8 : ((O.S.size : Nat) : Int).tdiv 8 = ((O.S.size / 8 : Nat) : Int) := rfl
                            have hs8 : O.S.size / 8 ≤ 140737488351232 := by omega
                            have HPO : RowKit.Hid (pOp Y.ops[j] = ln3 + O.S.size / 8) := Lib.hid (by rw [← hO]; unfold pOp; rw [hlat.1])
                            clear hcell3 hcs3 hlat hO hc83
                            go_wp2_with fail
                            go_quiet (fail)
                            go_wp2_with fail
                            go_roundw
                            case rel => exact ⟨n3 + ln3 + O.S.size / 8, j + 1, by omega, Lib.hid (by rw [sumN_take _ hj9]; have h1 := hj0.out; have h2 := HPO.out; omega), by omega, by omega, by go_num, by go_num, Lib.hid (below_drewN _ HJ.out)⟩
                            case measure => simp [intOf]; omega
                          · have hn6' : ¬ (n3 : Int) ≤ (m : Int) := by omega
                            go_wp2_with fail
                            go_roundw
                            case rel => exact ⟨n3, k + 1, by omega, by omega, by omega, rfl, by go_num, Lib.hid ⟨fun h4 => absurd h4 hn6, keepB HK.out.2 (keepB HBY.out HJ.out)⟩⟩
                            case measure => simp [intOf]; omega
                        · obtain rfl : j = on := by omega
                          go_wp2_with fail
                          go_roundw
                          case rel => exact ⟨n3, k + 1, by omega, by omega, by omega, rfl, by go_num, Lib.hid ⟨fun h4 => by have h1 := hj0.out; rw [List.take_of_length_le (by rw [HYL.out]; exact Nat.le_refl _)] at h1; have h2 := HK.out.1 (by omega); have h3 := HPB.out; rw [sumN_take _ hk1]; omega, keepB HK.out.2 (keepB HBY.out HJ.out)⟩⟩
                          case measure => simp [intOf]; omega
                    · have hn5' : ¬ (n2 : Int) ≤ (m : Int) := by omega
                      go_wp2_with fail
                      go_roundw
                      case rel => exact ⟨n2, i + 1, by omega, by omega, by omega, rfl, by go_num, Lib.hid ⟨fun h4 => absurd h4 hn5, keepB HI.out.2 HK.out.2⟩⟩
                      case measure => simp [intOf]; omega
                  · obtain rfl : k = bn := by omega
                    go_wp2_with fail
                    go_roundw
                    case rel => exact ⟨n2, i + 1, by omega, by omega, by omega, rfl, by go_num, Lib.hid ⟨fun h4 => by have h1 := HI.out.1 hn4; have h2 := HK.out.1 h4; rw [List.take_of_length_le (by rw [HBL.out]; exact Nat.le_refl _)] at h2; have h3 : pFunc P.funcs[i] = k + sumN pBlock X.blocks := (by rw [← HX.out]; unfold pFunc; rw [HBL.out]); rw [sumN_take _ hi1]; omega, keepB HI.out.2 HK.out.2⟩⟩
                    case measure => simp [intOf]; omega
              · have hn4' : ¬ (n : Int) ≤ (m : Int) := by omega
                go_wp2_with fail
                go_ret
                exact ⟨_, rfl, fun h => absurd h (by first | (simp; done) | (simp; omega)), HI.out.2⟩
            · obtain rfl : i = fn := by omega
              go_wp2_with fail
              go_ret
              refine ⟨_, rfl, fun h => ?_, HI.out.2⟩
              have h4 : n ≤ m := by simp at h; omega
              have h1 := HI.out.1 h4
              rw [List.take_of_length_le (by rw [HFL.out]; exact Nat.le_refl _)] at h1
              unfold partsP
              have h2 := HSL.out
              have h3 := HCL.out
              have h5 := HFL.out
              omega
end Go.Proofs.YtdchhfdmingnaaaDoor

/- Layer 13: the statements' own choice of a function of a program (mk_ulfun.py). -/
namespace Go.Proofs.YtdchhfdmingnaaaDoor
open Go.RowKit (wrap64 intOf Below)
set_option linter.unusedVariables false
set_option linter.unusedSimpArgs false
def UFuncC (W : World) (cs : List Value) (x : FuncD) : Prop := FuncQ W cs x ∧ ∃ r a n c, cs = [r, .slice a n c] ∧ n ≤ c ∧ c ≤ 9223372036854775807
def UlfunPost (P : ProgD) (w : World) (e : Ending) (w' : World) : Prop :=
  ((e = .returned (.tuple #[.agg #[.int .i64 0, .slice none 0 0], .bool false])) ∨ ∃ (F : FuncD) (ba : Option Addr) (m bc : Nat), F ∈ P.funcs ∧ partsP P ≤ 400 ∧ e = .returned (.tuple #[.agg #[.int .i64 F.ret, .slice ba m bc], .bool true]) ∧ FuncQ w' [.int .i64 F.ret, .slice ba m bc] F ∧ m ≤ bc ∧ bc ≤ 9223372036854775807) ∧ Below w.heap.size w w'
theorem urem_nat (a b : Nat) : Int.tmod (a : Int) (b : Int) = ((a % b : Nat) : Int) := by
  exact (Int.ofNat_tmod a b).symm
theorem utwo_set (W : World) (b : Nat) (v0 v1 u0 u1 : Value) (h0 : W.cell? ⟨b, 0, none⟩ = some u0) (h1 : W.cell? ⟨b, 1, none⟩ = some u1) : ((W.setCell ⟨b, 0, none⟩ v0).setCell ⟨b, 1, none⟩ v1).cell? ⟨b, 0, none⟩ = some v0 ∧ ((W.setCell ⟨b, 0, none⟩ v0).setCell ⟨b, 1, none⟩ v1).cell? ⟨b, 1, none⟩ = some v1 := by
  have k : ∀ (u : World) (i j : Nat) (v : Value), i ≠ j → (u.setCell ⟨b, i, none⟩ v).cell? ⟨b, j, none⟩ = u.cell? ⟨b, j, none⟩ := fun u i j v h => World.cell?_setCell_other _ _ _ _ (fun e => h (by cases e; rfl))
  refine ⟨?_, World.cell?_setCell_same _ _ _ (by rw [k _ 0 1 _ (by omega)]; exact h1)⟩
  rw [k _ 1 0 _ (by omega)]
  exact World.cell?_setCell_same _ _ _ h0
set_option maxRecDepth 100000 in
set_option maxHeartbeats 4000000 in
theorem ulfun_any (g : Nat) {sa : Option Addr} {sn sc : Nat} {ca : Option Addr} {cn cc : Nat} {fa : Option Addr} {fn fc : Nat} {P : ProgD} (nn : Nat) (hnn : nn ≤ 255) (w : World)
    (c0 : w.cell? ⟨g, 0, none⟩ = some (.slice sa sn sc)) (c1 : w.cell? ⟨g, 1, none⟩ = some (.slice ca cn cc)) (c2 : w.cell? ⟨g, 2, none⟩ = some (.slice fa fn fc))
    (hP : ProgQ w [.slice sa sn sc, .slice ca cn cc, .slice fa fn fc] P) (hcap : RowV UFuncC 2 w (.slice fa fn fc) P.funcs) :
    Calls Tryd.prog 7 #[.pointer (some ⟨g, 0, none⟩), .int .u8 (nn : Int)] w (UlfunPost P w) := by
  have hgl : g < w.heap.size := World.block_lt_of_cell? _ _ c2
  by_cases h0 : fn = 0
  · subst h0
    clear hP hcap c0 c1
    go_enter Tryd.func7, Tryd.ntmps7
    go_wp2_with fail
    refine bodyPost_ret (v := .tuple #[.agg #[.int .i64 0, .slice none 0 0], .bool false]) (by simp [results, Tryd.results7, go_sem]) rfl ⟨.inl rfl, (Below.refl _ w).alloc (Nat.le_refl _) _⟩
  · have hfm : fn ≤ 140737488351232 := by
      obtain ⟨_, _, _, e, _, _, hm, _⟩ := hcap
      cases e
      exact hm
    have hpos : 0 < nn % fn + 1 := by omega
    have hkl : nn % fn < fn := Nat.mod_lt _ (by omega)
    obtain ⟨k, hk⟩ : ∃ k, k = nn % fn := ⟨_, rfl⟩
    rw [← hk] at hkl
    obtain ⟨hl2, _⟩ := rowV_len' hcap
    obtain ⟨gs, os, rfl, hgs, hcs⟩ := rowV_at hcap (by omega)
    have hsl : k < P.funcs.length := by rw [hl2]; exact hkl
    obtain ⟨cs, hc2, hscell, hq, r', ba, bn, bc, rfl, hbc, hbc8⟩ := hcs k hsl
    obtain ⟨F, hF⟩ : ∃ F, F = P.funcs[k] := ⟨_, rfl⟩
    rw [← hF] at hq
    have hmem : F ∈ P.funcs := by rw [hF]; exact List.getElem_mem hsl
    obtain ⟨bv, he, hrr, hbr⟩ := hq
    simp only [List.cons.injEq, and_true] at he
    obtain ⟨rfl, rfl⟩ := he
    have f0 := hscell 0 (by simp)
    have f1 := hscell 1 (by simp)
    simp only [Nat.add_zero, List.getElem_cons_zero, List.getElem_cons_succ] at f0 f1
    have hfq : FuncQ w [.int .i64 F.ret, .slice ba bn bc] F := ⟨_, rfl, hrr, hbr⟩
    have HFQ := Lib.hid hfq
    have HMEM := Lib.hid hmem
    have HBC := Lib.hid hbc
    have HBC8 := Lib.hid hbc8
    have hnez : ((fn : Int) == 0) = false := by rw [beq_eq_false_iff_ne]; omega
    have hfnz : ¬ (fn : Int) = 0 := by omega
    have hrem : Int.tmod (nn : Int) (fn : Int) = (k : Int) := by rw [urem_nat, ← hk]
    have hwn : IntKind.i64.wrap (nn : Int) = (nn : Int) := wrap_small _ (by omega) (by omega)
    have hfn0 : ¬ fn = 0 := h0
    have hk0 : (0 : Int) ≤ (k : Int) := by omega
    have hkz : (k : Int) < (fn : Int) := by omega
    obtain ⟨W1, hW1⟩ : ∃ U, w.alloc (.cells #[.int .i64 0, .slice none 0 0] 30) = U := ⟨_, rfl⟩
    have hb1 : Below w.heap.size w W1 := by rw [← hW1]; exact (Below.refl _ w).alloc (Nat.le_refl _) _
    have hs1 : W1.heap.size = w.heap.size + 1 := by rw [← hW1]; simp
    have hx1 : W1.heap[w.heap.size]? = some (.cells #[.int .i64 0, .slice none 0 0] 30 (0, 0)) := by rw [← hW1]; exact heap_alloc_new w _
    have HB1 := Lib.hid hb1
    have HS1 := Lib.hid hs1
    have HX1 := Lib.hid hx1
    have HC : RowKit.Hid (∀ U, Below W1.heap.size W1 U → U.cell? ⟨g, 2, none⟩ = some (.slice (some ⟨gs, os, none⟩) fn fc) ∧ U.cell? ⟨gs, os + k * 2, none⟩ = some (.int .i64 F.ret) ∧ U.cell? ⟨gs, os + k * 2 + 1, none⟩ = some (.slice ba bn bc)) := Lib.hid fun U hU => by
      have hbw := hb1.trans (hU.mono hb1.size)
      exact ⟨(hbw.cell (p := ⟨g, 2, none⟩) hgl).trans c2, (hbw.cell (p := ⟨gs, os + k * 2, none⟩) hgs).trans f0, (hbw.cell (p := ⟨gs, os + k * 2 + 1, none⟩) hgs).trans f1⟩
    have CSM : RowKit.Hid (Calls Tryd.prog 23 #[.pointer (some ⟨g, 0, none⟩), .int .i64 400] W1 (SmallPostM 400 P W1)) := Lib.hid (ref_smallM 400 (by omega) g 0 sa sn sc ca cn cc (some ⟨gs, os, none⟩) fn fc P W1 (Nat.lt_of_lt_of_le hgl hb1.size) ((hb1.cell (p := ⟨g, 0, none⟩) hgl).trans c0) ((hb1.cell (p := ⟨g, 1, none⟩) hgl).trans c1) ((hb1.cell (p := ⟨g, 2, none⟩) hgl).trans c2) (ProgQ.lasts _ _ _ _ hb1 hP))
    clear hP hcap hcs hc2 hscell hl2 hF hmem hsl hrr hbr f0 f1 hgs hfq hb1 hs1 hx1 hk h0 hgl hbc hbc8 hpos c0 c1
    go_enter Tryd.func7, Tryd.ntmps7
    go_upto_region 1 with fail
    try rw [hW1]
    clear hW1 c2
    obtain ⟨c2, q0, q1⟩ := HC.out W1 (Below.refl _ _)
    go_wp2_with fail
    refine CSM.out.mono ?_
    rintro e w2 ⟨b, rfl, hsm, hb2⟩
    have HSM := Lib.hid hsm
    have HB2 := Lib.hid hb2
    have hx2 : w2.heap[w.heap.size]? = some (.cells #[.int .i64 0, .slice none 0 0] 30 (0, 0)) := by rw [hb2.block _ (by have := HS1.out; omega)]; exact HX1.out
    have HX2 := Lib.hid hx2
    have HPL : RowKit.Hid (w.heap.size < w2.heap.size) := Lib.hid (by have := HS1.out; have := hb2.size; omega)
    obtain ⟨p, hp⟩ : ∃ p, p = w.heap.size := ⟨_, rfl⟩
    have HPP := Lib.hid hp
    rw [← hp] at hx2 ⊢
    have a0 : w2.cell? ⟨p, 0, none⟩ = some (.int .i64 0) := by simp [World.cell?, hx2]
    have a1 : w2.cell? ⟨p, 1, none⟩ = some (.slice none 0 0) := by simp [World.cell?, hx2]
    have a2 : w2.frozen? ⟨p, 0, none⟩ = false := by simp [World.frozen?, hx2]
    have a3 : w2.frozen? ⟨p, 1, none⟩ = false := by simp [World.frozen?, hx2]
    clear CSM hsm hb2 hx2 hp c2 q0 q1
    cases b with
    | false =>
      clear HSM HFQ HMEM
      have HU := Lib.hid (utwo_set w2 p (.int .i64 0) (.slice none 0 0) _ _ a0 a1)
      have HBU : RowKit.Hid (Below w.heap.size w ((w2.setCell ⟨p, 0, none⟩ (.int .i64 0)).setCell ⟨p, 1, none⟩ (.slice none 0 0))) := Lib.hid (((HB1.out.trans (HB2.out.mono HB1.out.size)).setCell (p := ⟨p, 0, none⟩) (by have := HPP.out; simp only []; omega) _).setCell (p := ⟨p, 1, none⟩) (by have := HPP.out; simp only []; omega) _)
      go_wp2_with fail
      obtain ⟨u0, u1⟩ := HU.out
      refine bodyPost_ret (v := .tuple #[.agg #[.int .i64 0, .slice none 0 0], .bool false]) (by simp [results, Tryd.results7, go_sem, u0, u1]) rfl ⟨.inl rfl, HBU.out⟩
    | true =>
      have HPA := Lib.hid (HSM.out rfl)
      clear HSM
      go_upto_region 3 with fail
      refine wp_region_T (S := (fun u : World => u.cell? ⟨g, 2, none⟩ = some (.slice (some ⟨gs, os, none⟩) fn fc) ∧ u.cell? ⟨gs, os + k * 2, none⟩ = some (.int .i64 F.ret) ∧ u.cell? ⟨gs, os + k * 2 + 1, none⟩ = some (.slice ba bn bc))) 14 (by kernel_rfl) (HC.out _ HB2.out.drew) (fun hHeld => ?_)
      refine wpAnyT_takeW (i := 0) (oi := ⟨some 22, _, _, _, _, _⟩) (v := ?_) rfl (by kernel_rfl) (by kernel_rfl) (by kernel_rfl) (fun _ _ _ h => h) (Or.inl ⟨by rfl, ?_⟩) ?_
      rotate_left
      · ((intro w _; go_simp); try with_reducible rfl)
      (try simp only [Act.put, List.setIfInBounds_toArray, List.set_cons_zero, List.set_cons_succ])
      refine wpAnyT_takeW (i := 1) (oi := ⟨some 23, _, _, _, _, _⟩) (v := ?_) rfl (by kernel_rfl) (by kernel_rfl) (by kernel_rfl) (fun _ _ _ h => h) (Or.inl ⟨by rfl, ?_⟩) ?_
      rotate_left
      · ((intro w _; go_simp); try with_reducible rfl)
      (try simp only [Act.put, List.setIfInBounds_toArray, List.set_cons_zero, List.set_cons_succ])
      refine wpAnyT_takeW (i := 2) (oi := ⟨some 24, _, _, _, _, _⟩) (v := ?_) rfl (by kernel_rfl) (by kernel_rfl) (by kernel_rfl) (fun _ _ _ h => h) (Or.inl ⟨by rfl, ?_⟩) ?_
      rotate_left
      · ((intro w _; go_simp); try with_reducible rfl)
      (try simp only [Act.put, List.setIfInBounds_toArray, List.set_cons_zero, List.set_cons_succ])
      refine wpAnyT_take (i := 3) (oi := ⟨some 25, _, _, _, _, _⟩) (v := ?_) 8 rfl (by kernel_rfl) (by kernel_rfl) (by kernel_rfl) (by kernel_rfl) (by kernel_rfl) (fun _ _ _ h => h) (Or.inl ⟨by rfl, ?_⟩) (by assumption) ?_
      rotate_left
      · ((intro w hSw; (try dsimp only at hSw); go_simp); try with_reducible rfl)
      (try simp only [Act.put, List.setIfInBounds_toArray, List.set_cons_zero, List.set_cons_succ])
      refine wpAnyT_takeW (i := 4) (oi := ⟨some 26, _, _, _, _, _⟩) (v := ?_) rfl (by kernel_rfl) (by kernel_rfl) (by kernel_rfl) (fun _ _ _ h => h) (Or.inl ⟨by rfl, ?_⟩) ?_
      rotate_left
      · ((intro w _; go_simp); try with_reducible rfl)
      (try simp only [Act.put, List.setIfInBounds_toArray, List.set_cons_zero, List.set_cons_succ])
      refine wpAnyT_takeW (i := 5) (oi := ⟨some 27, _, _, _, _, _⟩) (v := ?_) rfl (by kernel_rfl) (by kernel_rfl) (by kernel_rfl) (fun _ _ _ h => h) (Or.inl ⟨by rfl, ?_⟩) ?_
      rotate_left
      · ((intro w _; go_simp); try with_reducible rfl)
      (try simp only [Act.put, List.setIfInBounds_toArray, List.set_cons_zero, List.set_cons_succ])
      refine wpAnyT_takeW (i := 6) (oi := ⟨some 28, _, _, _, _, _⟩) (v := ?_) rfl (by kernel_rfl) (by kernel_rfl) (by kernel_rfl) (fun _ _ _ h => h) (Or.inl ⟨by rfl, ?_⟩) ?_
      rotate_left
      · ((intro w _; go_simp); try with_reducible rfl)
      (try simp only [Act.put, List.setIfInBounds_toArray, List.set_cons_zero, List.set_cons_succ])
      refine wpAnyT_takeW (i := 7) (oi := ⟨some 29, _, _, _, _, _⟩) (v := ?_) rfl (by kernel_rfl) (by kernel_rfl) (by kernel_rfl) (fun _ _ _ h => h) (Or.inl ⟨by rfl, ?_⟩) ?_
      rotate_left
      · ((intro w _; go_simp); try with_reducible rfl)
      (try simp only [Act.put, List.setIfInBounds_toArray, List.set_cons_zero, List.set_cons_succ])
      refine wpAnyT_takeW (i := 8) (oi := ⟨some 30, _, _, _, _, _⟩) (v := ?_) rfl (by kernel_rfl) (by kernel_rfl) (by kernel_rfl) (fun _ _ _ h => h) (Or.inl ⟨by rfl, ?_⟩) ?_
      rotate_left
      · ((intro w _; go_simp); try with_reducible rfl)
      (try simp only [Act.put, List.setIfInBounds_toArray, List.set_cons_zero, List.set_cons_succ])
      refine wpAnyT_take (i := 9) (oi := ⟨some 31, _, _, _, _, _⟩) (v := ?_) 8 rfl (by kernel_rfl) (by kernel_rfl) (by kernel_rfl) (by kernel_rfl) (by kernel_rfl) (fun _ _ _ h => h) (Or.inl ⟨by rfl, ?_⟩) (by assumption) ?_
      rotate_left
      · ((intro w hSw; (try dsimp only at hSw); go_simp); try with_reducible rfl)
      (try simp only [Act.put, List.setIfInBounds_toArray, List.set_cons_zero, List.set_cons_succ])
      refine wpAnyT_takeW (i := 10) (oi := ⟨some 32, _, _, _, _, _⟩) (v := ?_) rfl (by kernel_rfl) (by kernel_rfl) (by kernel_rfl) (fun _ _ _ h => h) (Or.inl ⟨by rfl, ?_⟩) ?_
      rotate_left
      · ((intro w _; go_simp); try with_reducible rfl)
      (try simp only [Act.put, List.setIfInBounds_toArray, List.set_cons_zero, List.set_cons_succ])
      refine wpAnyT_takeW (i := 11) (oi := ⟨some 33, _, _, _, _, _⟩) (v := ?_) rfl (by kernel_rfl) (by kernel_rfl) (by kernel_rfl) (fun _ _ _ h => h) (Or.inl ⟨by rfl, ?_⟩) ?_
      rotate_left
      · ((intro w _; go_simp); try with_reducible rfl)
      (try simp only [Act.put, List.setIfInBounds_toArray, List.set_cons_zero, List.set_cons_succ])
      refine wpAnyT_takeW (i := 12) (oi := ⟨some 34, _, _, _, _, _⟩) (v := ?_) rfl (by kernel_rfl) (by kernel_rfl) (by kernel_rfl) (fun _ _ _ h => h) (Or.inl ⟨by rfl, ?_⟩) ?_
      rotate_left
      · ((intro w _; go_simp); try with_reducible rfl)
      (try simp only [Act.put, List.setIfInBounds_toArray, List.set_cons_zero, List.set_cons_succ])
      refine wpAnyT_take (i := 13) (oi := ⟨some 35, _, _, _, _, _⟩) (v := ?_) 8 rfl (by kernel_rfl) (by kernel_rfl) (by kernel_rfl) (by kernel_rfl) (by kernel_rfl) (fun _ _ _ h => h) (Or.inl ⟨by rfl, ?_⟩) (by assumption) ?_
      rotate_left
      · ((intro w hSw; (try dsimp only at hSw); go_simp); try with_reducible rfl)
      (try simp only [Act.put, List.setIfInBounds_toArray, List.set_cons_zero, List.set_cons_succ])
      obtain ⟨Y, hY⟩ : ∃ U, U = w2.drew := ⟨_, rfl⟩
      have a0 : Y.cell? ⟨p, 0, none⟩ = some (.int .i64 0) := by rw [hY]; exact a0
      have a1 : Y.cell? ⟨p, 1, none⟩ = some (.slice none 0 0) := by rw [hY]; exact a1
      have a2 : Y.frozen? ⟨p, 0, none⟩ = false := by rw [hY]; exact a2
      have a3 : Y.frozen? ⟨p, 1, none⟩ = false := by rw [hY]; exact a3
      have HU := Lib.hid (utwo_set Y p (.int .i64 F.ret) (.slice ba bn bc) _ _ a0 a1)
      have HBU : RowKit.Hid (Below w.heap.size w ((Y.setCell ⟨p, 0, none⟩ (.int .i64 F.ret)).setCell ⟨p, 1, none⟩ (.slice ba bn bc))) := Lib.hid (by rw [hY]; exact (((HB1.out.trans (HB2.out.drew.mono HB1.out.size)).setCell (p := ⟨p, 0, none⟩) (by have := HPP.out; simp only []; omega) _).setCell (p := ⟨p, 1, none⟩) (by have := HPP.out; simp only []; omega) _))
      rw [← hY]
      clear hY
      refine wpAnyT_end (i := 14) (by kernel_rfl) (by kernel_rfl) rfl (fun K hK => ?_)
      rw [if_pos (by rfl)]
      go_simp
      refine hK.out _ _ ?_
      clear hK K
      (try simp only [Act.put, List.setIfInBounds_toArray, List.set_cons_zero, List.set_cons_succ])
      refine wpAnyT_end (i := 15) (by kernel_rfl) (by kernel_rfl) rfl (fun K hK => ?_)
      rw [if_pos (by rfl)]
      go_simp
      refine hK.out _ _ ?_
      clear hK K
      (try simp only [Act.put, List.setIfInBounds_toArray, List.set_cons_zero, List.set_cons_succ])
      refine wpAnyT_done (by kernel_rfl) ?_
      go_wp2_with fail
      obtain ⟨u0, u1⟩ := HU.out
      refine bodyPost_ret (v := .tuple #[.agg #[.int .i64 F.ret, .slice ba bn bc], .bool true]) (by simp [results, Tryd.results7, go_sem, u0, u1]) rfl ⟨.inr ⟨F, ba, bn, bc, HMEM.out, HPA.out, rfl, FuncQ.lasts _ _ _ _ HBU.out HFQ.out, HBC.out, HBC8.out⟩, HBU.out⟩
end Go.Proofs.YtdchhfdmingnaaaDoor

/- Layer 13: package uses' sets: rows of numbers that grow. -/
namespace Go.Proofs.YtdchhfdmingnaaaDoor
open Go.RowKit (wrap64 intOf Below)
set_option linter.unusedVariables false
set_option linter.unusedSimpArgs false
theorem step_append_one {P : Program} {u : World} {ops : Array Oper} {o : Oper} {a : Act} {K : Act → World → Prop} {Q : Exit → Act → World → Prop} {E : Prop} (hgd : o.guard = none) (s x : Operand) (t : TypeId)
    (ho : o.op = .call { callee := .builtin .append, args := #[s, x], argTypes := #[t, t] }) (e : TypeId) (ht : P.underlying t = some (.slice e))
    (hinfo : (P.info? e).map (fun i => (i.zero, i.size, i.bytes)) = some (some (.int .i64 0), 1, 8))
    (B : Nat) (v : Value) (Z : List Int) (hs : a.eval s = v) (hown : OwnsI u B e v Z) (hB : B ≤ u.heap.size)
    (c g : Nat) (z : Int) (hx : a.eval x = .slice (some ⟨g, 0, none⟩) 1 c) (hc : u.cell? ⟨g, 0, none⟩ = some (.int .i64 z)) (hlen : (Z.length + 1) * 8 ≤ 140737488355328)
    (h : ∀ va vn vc w', OwnsI w' B e (.slice va vn vc) (Z ++ [z]) → u.grownBy w' v.ownBlock → (∀ k, (Value.slice va vn vc).ownBlock = some k → v.ownBlock = some k ∨ u.heap.size ≤ k) → K (a.put o.dst (.slice va vn vc)) w') :
    if Region.wanted o (yielded ops a.tmps) = true then Oper.wp P o a u K Q else E := by
  have hw : Region.wanted o (yielded ops a.tmps) = true := by simp [Region.wanted, hgd]
  rw [if_pos hw]
  obtain ⟨i0, hi, hz0, hz1, hz2⟩ := info_parts hinfo
  obtain ⟨v', w', hrun, r1, r2, _, r4⟩ := run_append_own_at (P := P) (w := u) B t o.type e i0 (.int .i64 0) 1 8 ht hi hz0 hz1 hz2 rfl (by decide) v Z.length (Z.map numV) hown ⟨g, 0, none⟩ 1 c [.int .i64 z] rfl (fun j y hy => by
    cases j with
    | zero => simp at hy; subst hy; exact hc
    | succ j => simp at hy) (by intro y hy; simp at hy; subst hy; rfl) (by unfold maxLen; omega) hlen hB
  have hown' : OwnsI w' B e v' (Z ++ [z]) := by
    show w'.ownsRow B e 1 v' (Z ++ [z]).length ((Z ++ [z]).map numV)
    rw [List.map_append, List.length_append]
    exact r1
  obtain ⟨va, vn, vc, rfl, _⟩ := hown'.nums
  have hk := h va vn vc w' hown' r2 (fun k hk => by
    rcases r4 with e' | e'
    · exact .inl (e' ▸ hk)
    · rw [e'] at hk; cases hk; exact .inr (Nat.le_refl _))
  unfold Oper.wp
  simp only [execOp, ho, resolve, invoke, builtin, List.map_toArray, List.map_cons, List.map_nil, hs, hx, Sem.run_bind, Sem.run_pure, Result.andThen_ok, hrun]
  exact hk
structure SetU (B bx g n : Nat) (W : World) (vs : List Value) (Zs : List (List Int)) : Prop where
  box : Boxed W bx 43 (.slice (some ⟨g, 0, none⟩) n n)
  row : Rows2 W B 34 3 (.slice (some ⟨g, 0, none⟩) n n) vs Zs
  len : vs.length = n
def GrowX (g : Nat) (vs : List Value) (i : Nat) (k : Nat) : Prop := (∃ h : i < vs.length, (vs[i]).ownBlock = some k) ∨ k = g
def growL (Z : List Int) (z : Int) : List Int := if Z.getLast? = some z then Z else Z ++ [z]
def freshB (Z : List Int) (z : Int) : Bool := decide (Z.getLast? ≠ some z)
theorem SetU.since {B bx g n : Nat} {W W' : World} {vs : List Value} {Zs : List (List Int)} (h : SetU B bx g n W vs Zs) (hb : Below W.heap.size W W') : SetU B bx g n W' vs Zs :=
  ⟨(hb.block _ h.box.lt).trans h.box, h.row.since hb, h.len⟩
theorem SetU.blk {B bx g n : Nat} {W : World} {vs : List Value} {Zs : List (List Int)} (h : SetU B bx g n W vs Zs) : ∃ cur, W.heap[g]? = some (.cells cur 34 (0, 0)) ∧ B ≤ g := ownsRow_blk h.row.row rfl
theorem SetU.ne {B bx g n : Nat} {W : World} {vs : List Value} {Zs : List (List Int)} (h : SetU B bx g n W vs Zs) : bx ≠ g ∧ ∀ i (h1 : i < vs.length) (h2 : i < Zs.length), (vs[i]).ownBlock ≠ some bx := by
  refine ⟨fun e => ?_, fun i h1 h2 e => ?_⟩
  · obtain ⟨cur, hc, _⟩ := h.blk
    have hb : W.heap[bx]? = _ := h.box
    rw [e, hc] at hb; cases hb
  · obtain ⟨cur, hc, _⟩ := ownsI_blk (h.row.own i h1 h2) e
    have hb : W.heap[bx]? = _ := h.box
    rw [hc] at hb; cases hb
theorem SetU.push {B bx g n i : Nat} {W U w1 : World} {vs : List Value} {Zs : List (List Int)} {v' : Value} {Z' : List Int} (h : SetU B bx g n W vs Zs) (hi : i < vs.length) (hU : Below W.heap.size W U) (hg : U.grownBy w1 (vs[i]).ownBlock) (ho : OwnsI w1 B 3 v' Z') (hw : ∀ k, v'.ownBlock = some k → (vs[i]).ownBlock = some k ∨ W.heap.size ≤ k) :
    w1.cell? ⟨bx, 0, none⟩ = some (.slice (some ⟨g, 0, none⟩) n n) ∧ w1.cell? ⟨g, i, none⟩ = some vs[i] ∧ w1.frozen? ⟨g, i, none⟩ = false ∧ SetU B bx g n (w1.setCell ⟨g, i, none⟩ v') (vs.set i v') (Zs.set i Z') ∧ Off (GrowX g vs i) W (w1.setCell ⟨g, i, none⟩ v') := by
  obtain ⟨h1, h2, h3, h4, h5⟩ := h.row.push (by decide) h.len.symm hi hU hg ho hw
  obtain ⟨cur, hgb, hBg⟩ := h.blk
  have hgl : g < W.heap.size := (Array.getElem?_eq_some_iff.1 hgb).1
  have hiz : i < Zs.length := by rw [← h.row.len]; exact hi
  have hbn := h.ne.2 i hi hiz
  have hbl : bx < W.heap.size := h.box.lt
  refine ⟨(h4.cell (p := ⟨bx, 0, none⟩) hbl hbn).trans h.box.cell, (h4.cell (p := ⟨g, i, none⟩) hgl h5).trans (h.row.cell hi), (h4.frozen (p := ⟨g, i, none⟩) hgl h5).trans (h.row.free h.len.symm), ⟨?_, h1, by rw [List.length_set]; exact h.len⟩, h3.mono fun k _ hk => ?_⟩
  · exact (h3.block bx hbl (fun e => by rcases e with e | e; exact hbn e; exact h.ne.1 e)).trans h.box
  · rcases hk with hk | hk
    · exact .inl ⟨hi, hk⟩
    · exact .inr hk
def GrowPost (B bx g n : Nat) (W : World) (vs : List Value) (Zs : List (List Int)) (i : Nat) (z : Int) (e : Ending) (w' : World) : Prop :=
  ∃ (v' : Value) (Z : List Int), Zs[i]? = some Z ∧ e = .returned (.bool (freshB Z z)) ∧ SetU B bx g n w' (vs.set i v') (Zs.set i (growL Z z)) ∧ Off (GrowX g vs i) W w' ∧ ∀ k, v'.ownBlock = some k → (∃ h : i < vs.length, (vs[i]).ownBlock = some k) ∨ W.heap.size ≤ k
set_option maxRecDepth 100000 in
set_option maxHeartbeats 4000000 in
theorem grow_any (B bx g n : Nat) (W : World) (vs : List Value) (Zs : List (List Int)) (i : Nat) (z : Int) (h : SetU B bx g n W vs Zs) (hi : i < n) (hn : n ≤ 140737488355328) (hlen : ∀ Z ∈ Zs, Z.length ≤ 1000000) (hB : B ≤ W.heap.size) :
    Calls Tryd.prog 61 #[.int .i64 (i : Int), .int .i64 z, .pointer (some ⟨bx, 0, none⟩)] W (GrowPost B bx g n W vs Zs i z) := by
  have hiv : i < vs.length := by rw [h.len]; exact hi
  have hiz : i < Zs.length := by rw [← h.row.len]; exact hiv
  have hown := h.row.own i hiv hiz
  obtain ⟨xa, xn, xc, hxv, hnum⟩ := hown.nums
  have hb0 : W.cell? ⟨bx, 0, none⟩ = some (.slice (some ⟨g, 0, none⟩) n n) := h.box.cell
  have hcb : W.cell? ⟨g, i, none⟩ = some (.slice xa xn xc) := by rw [← hxv]; exact h.row.cell hiv
  obtain ⟨Z, hZ⟩ : ∃ Z, Z = Zs[i] := ⟨_, rfl⟩
  rw [← hZ] at hown hnum
  have hZl : Z.length ≤ 1000000 := by rw [hZ]; exact hlen _ (List.getElem_mem hiz)
  have hxn : Z.length = xn := hnum.1
  have HZI : RowKit.Hid (Zs[i]? = some Z) := Lib.hid (by rw [hZ]; exact List.getElem?_eq_getElem hiz)
  have HH := Lib.hid h
  have HXV : RowKit.Hid (vs[i]? = some (.slice xa xn xc)) := Lib.hid (by rw [List.getElem?_eq_getElem hiv, hxv])
  have HIV := Lib.hid hiv
  have HB := Lib.hid hB
  rw [hxv] at hown
  have HOWN := Lib.hid hown
  have HNUM := Lib.hid hnum
  have HZL := Lib.hid hZl
  have HXN := Lib.hid hxn
  have HALC : RowKit.Hid (W.heap.size ≤ ((W.alloc (.cells #[.int .i64 z] 3)).drew).heap.size) := Lib.hid (by show W.heap.size ≤ (W.alloc _).heap.size; simp)
  have hba : (W.alloc (.cells #[.int .i64 z] 3)).cell? ⟨bx, 0, none⟩ = some (.slice (some ⟨g, 0, none⟩) n n) := (((Below.refl _ W).alloc (Nat.le_refl _) _).cell (p := ⟨bx, 0, none⟩) h.box.lt).trans hb0
  have hii : (i : Int) < (n : Int) := by omega
  have hi0 : (0 : Int) ≤ (i : Int) := by omega
  have HSAME : RowKit.Hid (vs.set i (.slice xa xn xc) = vs ∧ Zs.set i Z = Zs) := Lib.hid (by
    refine ⟨?_, ?_⟩
    · conv => lhs; rw [← hxv]
      exact List.set_getElem_self hiv
    · conv => lhs; rw [hZ]
      exact List.set_getElem_self hiz)
  clear h hown hnum hZl hlen hZ hxv hiz hiv hB hxn
  by_cases h0 : 0 < xn
  · have h0' : (0 : Int) < (xn : Int) := by omega
    have hzl : xn - 1 < Z.length := by have := HXN.out; omega
    obtain ⟨ad, had, hcel⟩ := HNUM.out.at h0
    subst had
    have c0 := hcel (xn - 1) hzl
    obtain ⟨y, hy⟩ : ∃ y, y = Z[xn - 1] := ⟨_, rfl⟩
    rw [← hy] at c0
    unfold numV at c0
    have HLAST : RowKit.Hid (Z.getLast? = some y) := Lib.hid (by rw [List.getLast?_eq_getElem?, hy, HXN.out]; exact List.getElem?_eq_getElem hzl)
    have HW1 : RowKit.Hid (wrap64 ((xn : Int) - 1) = ((xn - 1 : Nat) : Int)) := Lib.hid (by have := HZL.out; have := HXN.out; unfold wrap64; omega)
    clear hcel hy hzl
    have hw1 := HW1.out
    have hlt1 : ((xn - 1 : Nat) : Int) < (xn : Int) := by omega
    have hge1 : (0 : Int) ≤ ((xn - 1 : Nat) : Int) := by omega
    by_cases hyz : y = z
    · have HF : RowKit.Hid (freshB Z z = false ∧ growL Z z = Z) := Lib.hid (by unfold freshB growL; rw [HLAST.out, hyz]; simp)
      have hyb : (y == z) = true := by rw [hyz]; exact beq_self_eq_true z
      clear hyz HLAST
      go_enter Tryd.func61, Tryd.ntmps61
      go_wp2_with fail
      go_ret
      refine ⟨.slice (some ad) xn xc, Z, HZI.out, by rw [HF.out.1]; rfl, by rw [HF.out.2, HSAME.out.1, HSAME.out.2]; exact HH.out, Off.refl _ _, fun k hk => .inl ?_⟩
      obtain ⟨h1, h2⟩ := List.getElem?_eq_some_iff.1 HXV.out
      exact ⟨h1, by rw [h2]; exact hk⟩
    · have HF : RowKit.Hid (freshB Z z = true ∧ growL Z z = Z ++ [z]) := Lib.hid (by unfold freshB growL; rw [HLAST.out]; simp [hyz])
      have hyb : (y == z) = false := by simpa using hyz
      clear hyz HLAST
      go_enter Tryd.func61, Tryd.ntmps61
      go_wp2_with fail
      have HV : RowKit.Hid (vs[i]'HIV.out = .slice (some ad) xn xc) := Lib.hid (by obtain ⟨h1, h2⟩ := List.getElem?_eq_some_iff.1 HXV.out; exact h2)
      go_region_law (refine step_append_one rfl (.tmp 26) (.tmp 28) 34 rfl 3 Tryd.underlying34 info_int B (.slice (some ad) xn xc) Z (by simp [Act.eval, Act.put]) (World.ownsRow.alloc (World.ownsRow.drew HOWN.out) _) (Nat.le_trans HB.out HALC.out) 1 W.drew.heap.size z (by simp [Act.eval, Act.put]) (World.cell?_alloc_mark _ _ _ _ _) (by have := HZL.out; omega) ?_; intro va vn vc w3 ho3 hg3 hw3; have HP := Lib.hid (HH.out.push HIV.out (((Below.refl _ W).drew).alloc (Nat.le_refl _) _) (by rw [HV.out]; exact hg3) ho3 (fun k hk => by rw [HV.out]; rcases hw3 k hk with h' | h'; exact .inl h'; exact .inr (Nat.le_trans HALC.out h'))); have d0 := HP.out.1; have d1 := HP.out.2.1; rw [HV.out] at d1; have d2 := HP.out.2.2.1; have HW3 : RowKit.Hid (∀ k, (Value.slice va vn vc).ownBlock = some k → (∃ h : i < vs.length, (vs[i]).ownBlock = some k) ∨ W.heap.size ≤ k) := Lib.hid (fun k hk => by rcases hw3 k hk with h' | h'; exact .inl ⟨HIV.out, by rw [HV.out]; exact h'⟩; exact .inr (Nat.le_trans HALC.out h')); clear ho3 hg3 hw3)
      all_goals
        go_wp2_with fail
        go_ret
        exact ⟨.slice va vn vc, Z, HZI.out, by rw [HF.out.1]; rfl, by rw [HF.out.2]; exact HP.out.2.2.2.1, HP.out.2.2.2.2, HW3.out⟩
  · obtain rfl : xn = 0 := by omega
    have HF : RowKit.Hid (freshB Z z = true ∧ growL Z z = Z ++ [z]) := Lib.hid (by
      have hz0 : Z = [] := List.eq_nil_of_length_eq_zero HXN.out
      subst hz0; unfold freshB growL; simp)
    go_enter Tryd.func61, Tryd.ntmps61
    go_wp2_with fail
    have HV : RowKit.Hid (vs[i]'HIV.out = .slice xa 0 xc) := Lib.hid (by obtain ⟨h1, h2⟩ := List.getElem?_eq_some_iff.1 HXV.out; exact h2)
    go_region_law (refine step_append_one rfl (.tmp 26) (.tmp 28) 34 rfl 3 Tryd.underlying34 info_int B (.slice xa 0 xc) Z (by simp [Act.eval, Act.put]) (World.ownsRow.alloc (World.ownsRow.drew HOWN.out) _) (Nat.le_trans HB.out HALC.out) 1 W.drew.heap.size z (by simp [Act.eval, Act.put]) (World.cell?_alloc_mark _ _ _ _ _) (by have := HZL.out; omega) ?_; intro va vn vc w3 ho3 hg3 hw3; have HP := Lib.hid (HH.out.push HIV.out (((Below.refl _ W).drew).alloc (Nat.le_refl _) _) (by rw [HV.out]; exact hg3) ho3 (fun k hk => by rw [HV.out]; rcases hw3 k hk with h' | h'; exact .inl h'; exact .inr (Nat.le_trans HALC.out h'))); have d0 := HP.out.1; have d1 := HP.out.2.1; rw [HV.out] at d1; have d2 := HP.out.2.2.1; have HW3 : RowKit.Hid (∀ k, (Value.slice va vn vc).ownBlock = some k → (∃ h : i < vs.length, (vs[i]).ownBlock = some k) ∨ W.heap.size ≤ k) := Lib.hid (fun k hk => by rcases hw3 k hk with h' | h'; exact .inl ⟨HIV.out, by rw [HV.out]; exact h'⟩; exact .inr (Nat.le_trans HALC.out h')); clear ho3 hg3 hw3)
    all_goals
      go_wp2_with fail
      go_ret
      exact ⟨.slice va vn vc, Z, HZI.out, by rw [HF.out.1]; rfl, by rw [HF.out.2]; exact HP.out.2.2.2.1, HP.out.2.2.2.2, HW3.out⟩
end Go.Proofs.YtdchhfdmingnaaaDoor

/- Layer 13: package uses' sets, empty; where each block's values begin; which blocks each value is used in. -/
namespace Go.Proofs.YtdchhfdmingnaaaDoor
open Go.RowKit (wrap64 intOf Below)
set_option linter.unusedVariables false
set_option linter.unusedSimpArgs false
set_option maxRecDepth 100000 in
set_option maxHeartbeats 2000000 in
theorem sets_any (q : Nat) (hq : q ≤ 1099511627776) (w : World) : Calls Tryd.prog 42 #[.int .i64 (q : Int)] w fun e w' =>
    e = .returned (.tuple #[.slice (some ⟨w.heap.size + 1, 0, none⟩) q q, .func (.func 61) #[] #[.pointer (some ⟨w.heap.size, 0, none⟩)]]) ∧ SetU w.heap.size w.heap.size (w.heap.size + 1) q w' (List.replicate q (.slice none 0 0)) (List.replicate q []) ∧ Below w.heap.size w w' := by
  have hmk := make_rows q q rfl hq
  obtain ⟨W1, hW1⟩ : ∃ u, u = (w.alloc (.cells #[.slice (some ⟨w.heap.size + 1, 0, none⟩) q q] 43)).alloc (.cells (madeCells #[.slice none 0 0] q) 34) := ⟨_, rfl⟩
  have HS1 : RowKit.Hid (Below w.heap.size w W1 ∧ Boxed W1 w.heap.size 43 (.slice (some ⟨w.heap.size + 1, 0, none⟩) q q) ∧ Rows2 W1 w.heap.size 34 3 (.slice (some ⟨w.heap.size + 1, 0, none⟩) q q) (List.replicate q (.slice none 0 0)) (List.replicate q [])) := Lib.hid (by
    have hm := Rows2.made (w := w.alloc (.cells #[.slice (some ⟨w.heap.size + 1, 0, none⟩) q q] 43)) (B := w.heap.size) (n := q) (s := 34) (e := 3) (by simp) (by unfold maxLen; omega)
    rw [World.size_alloc] at hm
    refine ⟨by rw [hW1]; exact ((Below.refl _ w).alloc (Nat.le_refl _) _).alloc (by simp) _, ?_, by rw [hW1]; exact hm⟩
    rw [hW1]
    exact (Boxed.new w 43 _).alloc _)
  go_enter Tryd.func42, Tryd.ntmps42
  go_wp2_with fail
  rw [← hW1]
  refine bodyPost_ret (v := .tuple #[.slice (some ⟨w.heap.size + 1, 0, none⟩) q q, .func (.func 61) #[] #[.pointer (some ⟨w.heap.size, 0, none⟩)]]) ?_ rfl ⟨rfl, ⟨HS1.out.2.1, HS1.out.2.2, by simp⟩, HS1.out.1⟩
  have hc := HS1.out.2.1.cell
  simp [results, Tryd.results42, go_sem, hc]
theorem wrap_id {x : Int} (h0 : -9223372036854775808 ≤ x) (h1 : x ≤ 9223372036854775807) : wrap64 x = x := by unfold wrap64; omega
end Go.Proofs.YtdchhfdmingnaaaDoor

/- Layer 13: package uses' firsts: the numbers of the blocks' first values (mk_ufirst.py). -/
namespace Go.Proofs.YtdchhfdmingnaaaDoor
open Go.RowKit (wrap64 intOf Below)
set_option linter.unusedVariables false
set_option linter.unusedSimpArgs false
theorem ustep_append {u : World} {ops : Array Oper} {o : Oper} {a : Act} {K : Act → World → Prop} {Q : Exit → Act → World → Prop} {E : Prop} (hgd : Region.wanted o (yielded ops a.tmps) = true) (s x : Operand)
    (ho : o.op = .call { callee := .builtin .append, args := #[s, x], argTypes := #[34, 34] })
    (B : Nat) (v : Value) (L : List Int) (hs : a.eval s = v) (hown : OwnsI u B 3 v L) (hB : B ≤ u.heap.size)
    (c g : Nat) (z : Int) (hx : a.eval x = .slice (some ⟨g, 0, none⟩) 1 c) (hc : u.cell? ⟨g, 0, none⟩ = some (.int .i64 z))
    (hlen : (L.length + 1) * 8 ≤ 140737488355328)
    (h : ∀ va vn vc w', OwnsI w' B 3 (.slice va vn vc) (L ++ [z]) → u.grownBy w' v.ownBlock → (∀ k, (Value.slice va vn vc).ownBlock = some k → v.ownBlock = some k ∨ u.heap.size ≤ k) → K (a.put o.dst (.slice va vn vc)) w') :
    if Region.wanted o (yielded ops a.tmps) = true then Oper.wp Tryd.prog o a u K Q else E := by
  rw [if_pos hgd]
  obtain ⟨i0, hi, hz0, hz1, hz2⟩ := info_parts info_int
  obtain ⟨v', w', hrun, r1, r2, _, r3⟩ := run_append_own_at (P := Tryd.prog) u B 34 o.type 3 i0 (.int .i64 0) 1 8 Tryd.underlying34 hi hz0 hz1 hz2 rfl (by decide) v L.length (L.map numV) hown ⟨g, 0, none⟩ 1 c [.int .i64 z] rfl (fun j y hu => by
    rw [addr_plain, Nat.zero_add]
    cases j with
    | zero => simp at hu; subst hu; exact hc
    | succ j => simp at hu) (by intro y hu; simp at hu; subst hu; rfl) (by unfold maxLen; omega) hlen hB
  have h2 : OwnsI w' B 3 v' (L ++ [z]) := by
    show w'.ownsRow B _ 1 v' (L ++ [z]).length ((L ++ [z]).map numV)
    rw [List.map_append, List.length_append]
    exact r1
  obtain ⟨va, vn, vc, rfl⟩ : ∃ va vn vc, v' = .slice va vn vc := by
    rcases h2.2 with ⟨e, _⟩ | ⟨_, _, _, e, _⟩
    · exact ⟨_, _, _, e⟩
    · exact ⟨_, _, _, e⟩
  have hk := h va vn vc w' h2 r2 (fun k hk => by
      rcases r3 with e' | e'
      · exact .inl (e' ▸ hk)
      · rw [e'] at hk; cases hk; simp)
  unfold Oper.wp
  simp only [execOp, ho, resolve, invoke, builtin, List.map_toArray, List.map_cons, List.map_nil, hs, hx, Sem.run_bind, Sem.run_pure, Result.andThen_ok, hrun]
  exact hk
def firstUL (f : FuncD) : List Int := (List.range (f.blocks.length + 1)).map fun i => ((fstU f i : Nat) : Int)
theorem uwrap_nat {a b : Nat} (h : a + b ≤ 1099511627776) : wrap64 ((a : Int) + (b : Int)) = ((a + b : Nat) : Int) := by unfold wrap64; omega
theorem uwrap_nat3 {a b c : Nat} (h : a + b + c ≤ 1099511627776) : wrap64 ((a : Int) + (b : Int) + (c : Int)) = ((a + b + c : Nat) : Int) := by unfold wrap64; omega
def firstU (f : FuncD) (i : Nat) : List Int := (List.range (i + 1)).map fun j => ((fstU f j : Nat) : Int)
theorem ufirstK_len (f : FuncD) (i : Nat) : (firstU f i).length = i + 1 := by simp [firstU]
theorem ufirstK_all (f : FuncD) : firstU f f.blocks.length = firstUL f := rfl
theorem ufirstK_zero (f : FuncD) : firstU f 0 = [0] := by simp [firstU, fstU_zero]
theorem ufirstK_more (f : FuncD) (i : Nat) : firstU f (i + 1) = firstU f i ++ [((fstU f (i + 1) : Nat) : Int)] := by
  unfold firstU
  rw [List.range_succ, List.map_append]
  rfl
theorem uown_one (w : World) (B n : Nat) (cur : Array Value) (hB : B ≤ w.heap.size) (hn : n + 1 ≤ maxLen) (hc : cur.size = n + 1) (h0 : cur[0]? = some (.int .i64 0)) : OwnsI (w.alloc (.cells cur 3)) B 3 (.slice (some ⟨w.heap.size, 0, none⟩) 1 (n + 1)) [0] := by
  refine ⟨rfl, .inr ⟨w.heap.size, n + 1, cur, rfl, hB, heap_alloc_new w _, by simp, hn, by rw [hc, Nat.mul_one], ?_⟩⟩
  have hl : cur.toList[0]? = some (.int .i64 0) := by simpa using h0
  cases hq : cur.toList with
  | nil => rw [hq] at hl; cases hl
  | cons x l => rw [hq] at hl; simp at hl; subst hl; rfl
theorem umake_first (n : Nat) (hn : n ≤ 100000) (u : World) : (Instr.makeSlice 34 (.int .i64 1) (.int .i64 ((n : Int) + 1))).run Tryd.prog u = .ok (.slice (some ⟨u.heap.size, 0, none⟩) 1 (n + 1)) (u.alloc (.cells (madeCells #[.int .i64 0] (n + 1)) 3)) := by
  obtain ⟨i0, hi, hz0, hz1, hz2⟩ := info_parts info_int
  have h := run_make (P := Tryd.prog) u 34 3 i0 (.int .i64 0) Tryd.underlying34 hi hz0 .i64 .i64 1 ((n : Int) + 1) (by omega) (by omega) (by rw [hz2]; omega) (by omega)
  have e : ((n : Int) + 1).toNat = n + 1 := by omega
  rw [e] at h
  simpa [hz1, Value.cells] using h
theorem ukwrap_nat3 {a b c : Nat} (h : a + b + c ≤ 1099511627776) : IntKind.i64.wrap (IntKind.i64.wrap ((a : Int) + (b : Int)) + (c : Int)) = ((a + b + c : Nat) : Int) := by
  rw [wrap_small ((a : Int) + (b : Int)) (by omega) (by omega), wrap_small _ (by omega) (by omega)]
  omega
def FirstsPostU (f : FuncD) (n : Nat) (w : World) (e : Ending) (w' : World) : Prop := ∃ va vc, e = .returned (.slice va (n + 1) vc) ∧ OwnsI w' w.heap.size 3 (.slice va (n + 1) vc) (firstUL f) ∧ Below w.heap.size w w'
set_option maxRecDepth 100000 in
set_option maxHeartbeats 2000000 in
theorem ufirsts_any (r : Int) (a : Option Addr) (n c : Nat) (f : FuncD) (w : World) (hrow : RowV BlockQ 8 w (.slice a n c) f.blocks) (hn : n ≤ 100000) (hv : valU f ≤ 1099511627776) :
    Calls Tryd.prog 43 #[.agg #[.int .i64 r, .slice a n c]] w (FirstsPostU f n w) := by
  obtain ⟨W1, hW1⟩ : ∃ W, w.alloc (.cells #[.int .i64 r, .slice a n c] 30) = W := ⟨_, rfl⟩
  have hb1 : Below w.heap.size w W1 := by rw [← hW1]; exact (Below.refl _ w).alloc (Nat.le_refl _) _
  have HB1 := Lib.hid hb1
  have hc : ∀ j, W1.cell? ⟨w.heap.size, j, none⟩ = (#[.int .i64 r, .slice a n c] : Array Value)[j]? := fun j => by rw [← hW1]; exact World.cell?_alloc_mark _ _ _ _ _
  have hc1 := hc 1
  have HR := Lib.hid hrow
  have HL : RowKit.Hid (f.blocks.length = n) := Lib.hid (by obtain ⟨_, _, _, e, h, _⟩ := hrow; cases e; exact h)
  have HV := Lib.hid hv
  have hwn : wrap64 ((n : Int) + 1) = ((n + 1 : Nat) : Int) := by unfold wrap64; omega
  have hs1 : w.heap.size ≤ W1.heap.size := hb1.size
  have HS1 := Lib.hid hs1
  have HLT : RowKit.Hid (w.heap.size < W1.heap.size) := Lib.hid (by rw [← hW1]; simp)
  have hmk := umake_first n hn
  clear hrow hb1 hc hv hs1
  go_enter Tryd.func43, Tryd.ntmps43
  go_upto_region 1 with fail
  try rw [hW1]
  clear hW1
  go_upto_region 2 with fail
  clear hmk
  obtain ⟨W2, hW2⟩ : ∃ u, W1.alloc (.cells (madeCells #[.int .i64 0] (n + 1)) 3) = u := ⟨_, rfl⟩
  have hb2 : Below w.heap.size w W2 := by rw [← hW2]; exact HB1.out.alloc HS1.out _
  have HO0 : RowKit.Hid (OwnsI W2 w.heap.size 3 (.slice (some ⟨W1.heap.size, 0, none⟩) 1 (n + 1)) (firstU f 0) ∧ Below w.heap.size w W2) := Lib.hid ⟨by rw [← hW2, ufirstK_zero]; exact uown_one W1 w.heap.size n _ HS1.out (by unfold maxLen; omega) (size_madeCells _ _) (by simp [madeCells]), hb2⟩
  rw [hW2]
  have hsw : W1.heap.size ≤ W2.heap.size := by rw [← hW2]; simp
  have HB12 : RowKit.Hid (Below W1.heap.size W1 W2) := Lib.hid (by rw [← hW2]; exact (Below.refl _ W1).alloc (Nat.le_refl _) _)
  have k1 : W2.cell? ⟨w.heap.size, 1, none⟩ = some (.slice a n c) := (HB12.out.cell (p := ⟨w.heap.size, 1, none⟩) HLT.out).trans hc1
  clear hW2 hb2 hc1
  go_upto_region 3 with fail
  go_loopw [3, 14] (fun v3 v14 wr => ∃ (i : Nat) (va : Option Addr) (vn vc : Nat), i ≤ n ∧ v3 = .slice va vn vc ∧ v14 = .int .i64 (i : Int) ∧ RowKit.Hid (OwnsI wr w.heap.size 3 (.slice va vn vc) (firstU f i) ∧ Below w.heap.size w wr)) (fun _ iv _ => n - (intOf iv).toNat)
  case atStart => exact ⟨0, _, _, _, Nat.zero_le _, rfl, rfl, HO0⟩
  case round =>
    obtain ⟨i, va, vn, vc, hi, rfl, rfl, HI⟩ := hrel
    by_cases hlt : i < n
    · have hltz : (i : Int) < (n : Int) := by omega
      obtain ⟨a', n', c', e, _, hpm, _, hrow⟩ := HR.out.since BlockQ.lasts HI.out.2
      cases e
      obtain ⟨g, off, rfl, hg, hcs⟩ := hrow (by omega)
      have hif : i < f.blocks.length := by rw [HL.out]; exact hlt
      obtain ⟨cs, hl8, hcell, hq⟩ := hcs i hif
      obtain ⟨X, hX⟩ : ∃ X, X = f.blocks[i] := ⟨_, rfl⟩
      rw [← hX] at hq
      obtain ⟨pv, ov, es, rfl, ⟨pa, pn, pc, rfl, hp, _⟩, ⟨oa, on, oc, rfl, ho, _⟩, l1, m1, rfl, r1, r2, r3, r4, ⟨la, ln, lc, rfl, _⟩, ⟨ma, mn, mc, rfl, _⟩⟩ := hq
      have hd0 := hcell 0 (by simp)
      have hd1 := hcell 1 (by simp)
      have hd2 := hcell 2 (by simp)
      have hd3 := hcell 3 (by simp)
      have hd4 := hcell 4 (by simp)
      have hd5 := hcell 5 (by simp)
      have hd6 := hcell 6 (by simp)
      have hd7 := hcell 7 (by simp)
      simp only [Nat.add_zero, List.getElem_cons_zero, List.getElem_cons_succ] at hd0 hd1 hd2 hd3 hd4 hd5 hd6 hd7
      have hfm := fstU_more hif
      rw [← hX, hp.1, ho] at hfm
      clear hX
      have hfv := Nat.le_trans (fstU_le f (i + 1)) HV.out
      obtain ⟨z0, hz0⟩ : ∃ z, z = fstU f i := ⟨_, rfl⟩
      have hvn : vn = i + 1 := by have := HI.out.1.read.1; rw [ufirstK_len] at this; omega
      subst hvn
      obtain ⟨_, hvg⟩ := HI.out.1.read
      obtain ⟨gv, ov, rfl, hgv, hvc⟩ := hvg (by omega)
      have hv0 := hvc i (by rw [ufirstK_len]; omega)
      have hfk : (firstU f i)[i]'(by rw [ufirstK_len]; omega) = ((z0 : Nat) : Int) := by simp [firstU, hz0]
      rw [hfk] at hv0
      have hv1 : wr.cell? ⟨gv, ov + i, none⟩ = some (.int .i64 (z0 : Int)) := hv0
      have HE : RowKit.Hid (fstU f (i + 1) = z0 + pn + on ∧ z0 + pn + on ≤ 1099511627776) := Lib.hid (by rw [hz0]; omega)
      have HGV := Lib.hid hgv
      clear hcs hcell hrow hfm hfv hz0 hvg hvc hv0 hfk hp ho hl8 hif
      go_upto_region 5 with fail
      obtain ⟨Y, hY⟩ : ∃ u, u = wr.alloc (.cells #[.slice pa pn pc, .slice oa on oc, .int .i64 X.fin.K, .int .i64 X.fin.A, .int .i64 X.fin.To, .int .i64 X.fin.Else, .slice la ln lc, .slice ma mn mc] 57) := ⟨_, rfl⟩
      have hbY : Below wr.heap.size wr Y := by rw [hY]; exact (Below.refl _ wr).alloc (Nat.le_refl _) _
      have e1 : Y.cell? ⟨gv, ov + i, none⟩ = some (.int .i64 (z0 : Int)) := (hbY.cell (p := ⟨gv, ov + i, none⟩) HGV.out).trans hv1
      have hcY : ∀ j, Y.cell? ⟨wr.heap.size, j, none⟩ = (#[.slice pa pn pc, .slice oa on oc, .int .i64 X.fin.K, .int .i64 X.fin.A, .int .i64 X.fin.To, .int .i64 X.fin.Else, .slice la ln lc, .slice ma mn mc] : Array Value)[j]? := fun j => by rw [hY]; exact World.cell?_alloc_mark _ _ _ _ _
      have e2 := hcY 0
      have e3 := hcY 1
      have hpy : wr.heap.size < Y.heap.size := by rw [hY]; simp
      rw [← hY]
      obtain ⟨p, hp⟩ : ∃ p, p = wr.heap.size := ⟨_, rfl⟩
      rw [← hp] at e2 e3 hpy ⊢
      have hgY : gv < Y.heap.size := by have := hbY.size; have := HGV.out; omega
      have HS0 : RowKit.Hid (∀ u, Below Y.heap.size Y u → u.cell? ⟨gv, ov + i, none⟩ = some (.int .i64 (z0 : Int)) ∧ u.cell? ⟨p, 0, none⟩ = some (.slice pa pn pc) ∧ u.cell? ⟨p, 1, none⟩ = some (.slice oa on oc)) := Lib.hid fun u hu => ⟨(hu.cell (p := ⟨gv, ov + i, none⟩) hgY).trans e1, (hu.cell (p := ⟨p, 0, none⟩) hpy).trans e2, (hu.cell (p := ⟨p, 1, none⟩) hpy).trans e3⟩
      have HBY : RowKit.Hid (w.heap.size ≤ Y.heap.size ∧ Below w.heap.size w Y) := Lib.hid (by have h1 := HI.out.2.size; have h2 := hbY.size; exact ⟨by omega, HI.out.2.trans (hbY.mono h1)⟩)
      have HOY : RowKit.Hid (OwnsI Y w.heap.size 3 (.slice (some ⟨gv, ov, none⟩) (i + 1) vc) (firstU f i)) := Lib.hid (OwnsI.below HI.out.1 hbY)
      have HLN : RowKit.Hid (((firstU f i).length + 1) * 8 ≤ 140737488355328) := Lib.hid (by rw [ufirstK_len]; omega)
      have HE2 := Lib.hid HE.out.2
      have hw1 : wrap64 ((z0 : Int) + (pn : Int)) = ((z0 + pn : Nat) : Int) := uwrap_nat (Nat.le_trans (Nat.le_add_right _ on) HE.out.2)
      have hw2 : wrap64 (((z0 + pn : Nat) : Int) + (on : Int)) = ((z0 + pn + on : Nat) : Int) := uwrap_nat HE.out.2
      have hw3 : wrap64 ((z0 : Int) + (pn : Int) + (on : Int)) = ((z0 + pn + on : Nat) : Int) := uwrap_nat3 HE.out.2
      have hi0 : (0 : Int) ≤ (i : Int) := by omega
      have hiv : (i : Int) < ((i + 1 : Nat) : Int) := by omega
      have hiv2 : (i : Int) < (i : Int) + 1 := by omega
      have HX3 := Lib.hid (ukwrap_nat3 HE.out.2)
      have HYB : RowKit.Hid (∀ X, Below Y.heap.size Y (Y.drew.alloc X)) := Lib.hid fun X => (below_drewN 1 (Below.refl _ Y)).alloc (by simp) X
      clear e1 e2 e3 hcY hbY hY hpy hgY hp hd0 hd1 hd2 hd3 hd4 hd5 hd6 hd7 r1 r2 r3 r4 hv1
      refine wp_region_T (S := (fun u : World => u.cell? ⟨gv, ov + i, none⟩ = some (.int .i64 (z0 : Int)) ∧ u.cell? ⟨p, 0, none⟩ = some (.slice pa pn pc) ∧ u.cell? ⟨p, 1, none⟩ = some (.slice oa on oc))) 14 (by kernel_rfl) (HS0.out _ (below_drewN 1 (Below.refl _ _))) (fun hHeld => ?_)
      refine wpAnyT_takeW (i := 0) (oi := ⟨some 19, _, _, _, _, _⟩) (v := ?_) rfl (by kernel_rfl) (by kernel_rfl) (by kernel_rfl) (fun _ _ _ h => h) (Or.inl ⟨by rfl, ?_⟩) ?_
      rotate_left
      · ((intro w _; go_simp); try with_reducible rfl)
      (try simp only [Act.put, List.setIfInBounds_toArray, List.set_cons_zero, List.set_cons_succ])
      refine wpAnyT_takeW (i := 1) (oi := ⟨some 20, _, _, _, _, _⟩) (v := ?_) rfl (by kernel_rfl) (by kernel_rfl) (by kernel_rfl) (fun _ _ _ h => h) (Or.inl ⟨by rfl, ?_⟩) ?_
      rotate_left
      · ((intro w _; go_simp); try with_reducible rfl)
      (try simp only [Act.put, List.setIfInBounds_toArray, List.set_cons_zero, List.set_cons_succ])
      refine wpAnyT_takeW (i := 2) (oi := ⟨some 21, _, _, _, _, _⟩) (v := ?_) rfl (by kernel_rfl) (by kernel_rfl) (by kernel_rfl) (fun _ _ _ h => h) (Or.inl ⟨by rfl, ?_⟩) ?_
      rotate_left
      · ((intro w _; go_simp); try with_reducible rfl)
      (try simp only [Act.put, List.setIfInBounds_toArray, List.set_cons_zero, List.set_cons_succ])
      refine wpAnyT_takeW (i := 3) (oi := ⟨some 22, _, _, _, _, _⟩) (v := ?_) rfl (by kernel_rfl) (by kernel_rfl) (by kernel_rfl) (fun _ _ _ h => h) (Or.inl ⟨by rfl, ?_⟩) ?_
      rotate_left
      · ((intro w _; go_simp); try with_reducible rfl)
      (try simp only [Act.put, List.setIfInBounds_toArray, List.set_cons_zero, List.set_cons_succ])
      refine wpAnyT_take (i := 4) (oi := ⟨some 23, _, _, _, _, _⟩) (v := ?_) 8 rfl (by kernel_rfl) (by kernel_rfl) (by kernel_rfl) (by kernel_rfl) (by kernel_rfl) (fun _ _ _ h => h) (Or.inl ⟨by rfl, ?_⟩) (by assumption) ?_
      rotate_left
      · ((intro w hSw; (try dsimp only at hSw); go_simp); try with_reducible rfl)
      (try simp only [Act.put, List.setIfInBounds_toArray, List.set_cons_zero, List.set_cons_succ])
      refine wpAnyT_takeW (i := 5) (oi := ⟨some 24, _, _, _, _, _⟩) (v := ?_) rfl (by kernel_rfl) (by kernel_rfl) (by kernel_rfl) (fun _ _ _ h => h) (Or.inl ⟨by rfl, ?_⟩) ?_
      rotate_left
      · ((intro w _; go_simp); try with_reducible rfl)
      (try simp only [Act.put, List.setIfInBounds_toArray, List.set_cons_zero, List.set_cons_succ])
      refine wpAnyT_take (i := 6) (oi := ⟨some 25, _, _, _, _, _⟩) (v := ?_) 8 rfl (by kernel_rfl) (by kernel_rfl) (by kernel_rfl) (by kernel_rfl) (by kernel_rfl) (fun _ _ _ h => h) (Or.inl ⟨by rfl, ?_⟩) (by assumption) ?_
      rotate_left
      · ((intro w hSw; (try dsimp only at hSw); go_simp); try with_reducible rfl)
      (try simp only [Act.put, List.setIfInBounds_toArray, List.set_cons_zero, List.set_cons_succ])
      refine wpAnyT_takeW (i := 7) (oi := ⟨some 26, _, _, _, _, _⟩) (v := ?_) rfl (by kernel_rfl) (by kernel_rfl) (by kernel_rfl) (fun _ _ _ h => h) (Or.inl ⟨by rfl, ?_⟩) ?_
      rotate_left
      · ((intro w _; go_simp); try with_reducible rfl)
      (try simp only [Act.put, List.setIfInBounds_toArray, List.set_cons_zero, List.set_cons_succ])
      refine wpAnyT_takeW (i := 8) (oi := ⟨some 27, _, _, _, _, _⟩) (v := ?_) rfl (by kernel_rfl) (by kernel_rfl) (by kernel_rfl) (fun _ _ _ h => h) (Or.inl ⟨by rfl, ?_⟩) ?_
      rotate_left
      · ((intro w _; go_simp); try with_reducible rfl)
      (try simp only [Act.put, List.setIfInBounds_toArray, List.set_cons_zero, List.set_cons_succ])
      refine wpAnyT_takeW (i := 9) (oi := ⟨some 28, _, _, _, _, _⟩) (v := ?_) rfl (by kernel_rfl) (by kernel_rfl) (by kernel_rfl) (fun _ _ _ h => h) (Or.inl ⟨by rfl, ?_⟩) ?_
      rotate_left
      · ((intro w _; go_simp); try with_reducible rfl)
      (try simp only [Act.put, List.setIfInBounds_toArray, List.set_cons_zero, List.set_cons_succ])
      refine wpAnyT_take (i := 10) (oi := ⟨some 29, _, _, _, _, _⟩) (v := ?_) 8 rfl (by kernel_rfl) (by kernel_rfl) (by kernel_rfl) (by kernel_rfl) (by kernel_rfl) (fun _ _ _ h => h) (Or.inl ⟨by rfl, ?_⟩) (by assumption) ?_
      rotate_left
      · ((intro w hSw; (try dsimp only at hSw); go_simp); try with_reducible rfl)
      (try simp only [Act.put, List.setIfInBounds_toArray, List.set_cons_zero, List.set_cons_succ])
      refine wpAnyT_takeW (i := 11) (oi := ⟨some 30, _, _, _, _, _⟩) (v := ?_) rfl (by kernel_rfl) (by kernel_rfl) (by kernel_rfl) (fun _ _ _ h => h) (Or.inl ⟨by rfl, ?_⟩) ?_
      rotate_left
      · ((intro w _; go_simp); try with_reducible rfl)
      (try simp only [Act.put, List.setIfInBounds_toArray, List.set_cons_zero, List.set_cons_succ])
      refine wpAnyT_takeW (i := 12) (oi := ⟨some 31, _, _, _, _, _⟩) (v := ?_) rfl (by kernel_rfl) (by kernel_rfl) (by kernel_rfl) (fun _ _ _ h => h) (Or.inl ⟨by rfl, ?_⟩) ?_
      rotate_left
      · ((intro w _; go_simp); try with_reducible rfl)
      (try simp only [Act.put, List.setIfInBounds_toArray, List.set_cons_zero, List.set_cons_succ])
      refine wpAnyT_one (i := 13) (by kernel_rfl) rfl (fun K hK => ?_)
      rw [if_pos (by rfl)]
      go_simp
      refine hK.out _ _ (HS0.out _ (HYB.out _)) (fun hHeld => ?_)
      clear hK K
      (try simp only [Act.put, List.setIfInBounds_toArray, List.set_cons_zero, List.set_cons_succ])
      refine wpAnyT_end (i := 14) (by kernel_rfl) (by kernel_rfl) rfl (fun K hK => ?_)
      refine ustep_append (by rfl) _ _ (by rfl) w.heap.size (.slice (some ⟨gv, ov, none⟩) (i + 1) vc) (firstU f i) (by rfl) (OwnsI.below HOY.out (HYB.out _)) (Nat.le_trans HBY.out.1 (HYB.out _).size) _ _ (IntKind.i64.wrap (IntKind.i64.wrap ((z0 : Int) + (pn : Int)) + (on : Int))) (by rfl) (show (Y.alloc (.cells #[.int .i64 (IntKind.i64.wrap (IntKind.i64.wrap ((z0 : Int) + (pn : Int)) + (on : Int)))] 3)).cell? ⟨Y.heap.size, 0, none⟩ = _ from World.cell?_alloc_mark _ _ _ _ _) HLN.out ?_
      intro ya yn yc w1 ho1 hg1 hw1
      have HW1 : RowKit.Hid (OwnsI w1 w.heap.size 3 (.slice ya yn yc) (firstU f (i + 1)) ∧ Below w.heap.size w w1) := Lib.hid ⟨by rw [ufirstK_more, HE.out.1, ← HX3.out]; exact ho1, (HBY.out.2.trans ((HYB.out _).mono HBY.out.1)).grown hg1 (Nat.le_trans HBY.out.1 (HYB.out _).size) (fun b hb => (HOY.out.lt b hb).1)⟩
      clear ho1 hg1 hw1
      refine hK.out _ _ ?_
      clear hK K
      (try simp only [Act.put, List.setIfInBounds_toArray, List.set_cons_zero, List.set_cons_succ])
      refine wpAnyT_end (i := 15) (by kernel_rfl) (by kernel_rfl) rfl (fun K hK => ?_)
      rw [if_pos (by rfl)]
      go_simp
      refine hK.out _ _ ?_
      clear hK K
      (try simp only [Act.put, List.setIfInBounds_toArray, List.set_cons_zero, List.set_cons_succ])
      refine wpAnyT_done (by kernel_rfl) ?_
      go_wp2_with fail
      go_roundw
      case rel => exact ⟨i + 1, _, _, _, hlt, rfl, by go_num, HW1⟩
      case measure => simp [intOf]; omega
    · obtain rfl : i = n := by omega
      have hnn : ¬ (i : Int) < (i : Int) := by omega
      have hvn : vn = i + 1 := by have := HI.out.1.read.1; rw [ufirstK_len] at this; omega
      subst hvn
      go_wp2_with fail
      go_ret
      exact ⟨va, vc, rfl, by rw [← ufirstK_all, HL.out]; exact HI.out.1, HI.out.2⟩
end Go.Proofs.YtdchhfdmingnaaaDoor

/- Layer 5: where a method of a reader's walk stands; its list of numbers. -/
namespace Go.Proofs.YtdchhfdmingnaaaDoor
open Go.RowKit (wrap64 intOf Below)
set_option linter.unusedVariables false
set_option linter.unusedSimpArgs false
theorem NumsO.keep {r g n m : Nat} {u u' : World} {v : Value} {Z : List Int} (h : NumsO u (From n) v Z) (ho : Off (fun i => i = r ∨ i = g) u u') (hr : r < n) (hg : g < n) (hm : m ≤ n) : NumsO u' (From m) v Z :=
  (h.off ho (fun b hb e => by have hb : n ≤ b := hb; omega)).wider (fun b _ hb => Nat.le_trans hm hb)
theorem RowO.keep {α : Type} {T k : Nat} {Q : World → (Nat → Prop) → List Value → α → Prop} (hQ : Holds Q) {r g n m : Nat} {u u' : World} {v : Value} {xs : List α} (h : RowO T k Q u (From n) v xs) (ho : Off (fun i => i = r ∨ i = g) u u') (hr : r < n) (hg : g < n) (hm : m ≤ n) : RowO T k Q u' (From m) v xs :=
  (h.off hQ ho (fun b hb e => by have hb : n ≤ b := hb; omega)).wider hQ (fun b _ hb => Nat.le_trans hm hb)
theorem IntQ.holds : Holds IntQ := fun _ _ _ _ _ _ _ h => h
theorem nums_flat : ∀ (css : List (List Value)) (Z : List Int), css.length = Z.length → (∀ i (h : i < Z.length) (h' : i < css.length), css[i] = [.int .i64 Z[i]]) → css.flatten = Z.map numV
  | [], [], _, _ => rfl
  | [], z :: Z, h, _ => by simp at h
  | c :: css, [], h, _ => by simp at h
  | c :: css, z :: Z, h, hi => by
    have h0 := hi 0 (by simp) (by simp)
    simp only [List.getElem_cons_zero] at h0
    have ih := nums_flat css Z (by simpa using h) (fun i h1 h2 => by have := hi (i + 1) (by simpa using h1) (by simpa using h2); simpa using this)
    simp only [List.flatten_cons, List.map_cons, ih, h0, numV, List.singleton_append]
theorem RowO.nums {w : World} {S : Nat → Prop} {v : Value} {Z : List Int} (h : RowO 3 1 IntQ w S v Z) (hl : Z.length ≤ 100000) : NumsO w S v Z := by
  obtain ⟨css, h1, h2, h3, h4, h5, h6⟩ := h
  have hf := nums_flat css Z h2 (fun i h h' => (h6 i h h').1)
  refine ⟨?_, h4, by omega, fun z hz => ?_⟩
  · show w.ownsRow 0 3 1 v Z.length (Z.map numV)
    rw [← hf]; exact h1
  · obtain ⟨i, hi, rfl⟩ := List.mem_iff_getElem.1 hz
    exact (h6 i hi (by omega)).2
end Go.Proofs.YtdchhfdmingnaaaDoor

/- Layer 5: a step, read field by field (P5.1, P5.2); where a reader's walk through the fields stands. -/
namespace Go.Proofs.YtdchhfdmingnaaaDoor
open Go.RowKit (wrap64 intOf Below)
set_option linter.unusedVariables false
set_option linter.unusedSimpArgs false
def rdField (o : OpD) (f : UInt8) (L : List UInt8) : PR OpD :=
  if f = 78 then (rdNum L).bind fun n r => .ok { o with N := n } r else if f = 83 then (rdText L).bind fun s r => .ok { o with S := s } r
  else if f = 65 then (rdNum L).bind fun n r => .ok { o with A := n } r else if f = 66 then (rdNum L).bind fun n r => .ok { o with B := n } r
  else if f = 67 then (rdNum L).bind fun n r => .ok { o with C := n } r else if f = 76 then (rdNums 8 L).bind fun l r => .ok { o with L := l } r
  else (rdTruth L).bind fun t r => .ok { o with T := t } r
def rdFields : OpD → List UInt8 → List UInt8 → PR OpD
  | o, [], L => .ok o L
  | o, f :: fs, L => (rdField o f L).bind fun o' r => rdFields o' fs r
def opZero (k : Int) : OpD := ⟨k, 0, 0, 0, 0, ⟨#[]⟩, [], false⟩
def rdOp (L : List UInt8) : PR OpD := (rdBelow 26 L).bind fun k r => rdFields (opZero k) (fieldsL k) r
theorem rdFields_append : ∀ (fs gs : List UInt8) (o : OpD) (L : List UInt8), rdFields o (fs ++ gs) L = (rdFields o fs L).bind fun o' r => rdFields o' gs r
  | [], gs, o, L => rfl
  | f :: fs, gs, o, L => by
    simp only [List.cons_append, rdFields]
    cases rdField o f L with
    | no e => rfl
    | ok o' r => simp only [PR.bind]; exact rdFields_append fs gs o' r
end Go.Proofs.YtdchhfdmingnaaaDoor

/- Layer 5, plain: a program's bytes are read as it, without what plays no part (P5.4); without the last ones they are none (P5.5); what is read is written as what was read. Nothing of the program is named here. -/
namespace Go.Proofs.YtdchhfdmingnaaaDoor
set_option linter.unusedVariables false
def Takes {α : Type} (p : List UInt8 → PR α) (l : List UInt8) (x : α) : Prop :=
  (∀ X, p (l ++ X) = .ok x X) ∧ ∀ j, j < l.length → p (l.take j) = .no 3
section
variable {α β : Type}
theorem Takes.bind {p : List UInt8 → PR α} {f : α → List UInt8 → PR β} {l m : List UInt8} {x : α} {y : β} (h : Takes p l x) (h' : Takes (f x) m y) : Takes (fun L => (p L).bind f) (l ++ m) y := by
  constructor
  · intro X
    simp only [List.append_assoc]
    rw [h.1]
    exact h'.1 X
  · intro j hj
    by_cases hl : j < l.length
    · have e : (l ++ m).take j = l.take j := List.take_append_of_le_length (by omega)
      simp only [e, h.2 j hl, PR.bind]
    · have e : (l ++ m).take j = l ++ m.take (j - l.length) := by rw [List.take_append, List.take_of_length_le (by omega)]
      simp only [e]
      rw [h.1]
      exact h'.2 _ (by simp at hj; omega)
theorem Takes.pure (x : α) : Takes (fun L => .ok x L) [] x := ⟨fun X => rfl, fun j hj => absurd hj (by simp)⟩
theorem Takes.map {p : List UInt8 → PR α} {l : List UInt8} {x : α} (g : α → β) (h : Takes p l x) : Takes (fun L => (p L).bind fun x r => .ok (g x) r) l (g x) := by
  have := h.bind (f := fun x r => .ok (g x) r) (m := []) (y := g x) (Takes.pure _)
  simpa using this
theorem Takes.guard {p : List UInt8 → PR α} {f : α → List UInt8 → PR β} {l : List UInt8} {x : α} {y : β} (h : Takes p l x) (h' : ∀ r, f x r = .ok y r) : Takes (fun L => (p L).bind f) l y := by
  have := h.bind (f := f) (m := []) (y := y) ⟨fun X => h' X, fun j hj => absurd hj (by simp)⟩
  simpa using this
end
def RngOp (o : OpD) : Prop := InR o.K ∧ InR o.A ∧ InR o.B ∧ InR o.C ∧ InR o.N ∧ ∀ z ∈ o.L, InR z
def RngEnd (e : EndD) : Prop := InR e.K ∧ InR e.A ∧ InR e.To ∧ InR e.Else ∧ (∀ z ∈ e.L, InR z) ∧ ∀ z ∈ e.M, InR z
def RngBlock (b : BlockD) : Prop := (∀ z ∈ b.params, InR z) ∧ (∀ o ∈ b.ops, RngOp o) ∧ RngEnd b.fin
def RngFunc (f : FuncD) : Prop := InR f.ret ∧ ∀ b ∈ f.blocks, RngBlock b
def RngSig (s : SigD) : Prop := (∀ z ∈ s.params, InR z) ∧ InR s.ret
def RngClass (c : ClassD) : Prop := (∀ z ∈ c.fields, InR z) ∧ ∀ z ∈ c.methods, InR z
def RngProg (p : ProgD) : Prop := (∀ s ∈ p.sigs, RngSig s) ∧ (∀ c ∈ p.classes, RngClass c) ∧ ∀ f ∈ p.funcs, RngFunc f
theorem inR_zero : InR 0 := ⟨by decide, by decide⟩
theorem rng_pick {b : Bool} {z : Int} (h : InR z) : InR (pickI b z) := by unfold pickI; split; exact h; exact inR_zero
theorem RngOp.plain {o : OpD} (h : RngOp o) : RngOp (plainOp o) :=
  ⟨h.1, rng_pick h.2.1, rng_pick h.2.2.1, rng_pick h.2.2.2.1, rng_pick h.2.2.2.2.1, fun z hz => by
    simp only [plainOp, pickL] at hz
    split at hz
    · exact h.2.2.2.2.2 z hz
    · cases hz⟩
theorem RngEnd.plain {e : EndD} (h : RngEnd e) : RngEnd (plainEnd e) := by
  obtain ⟨r1, r2, r3, r4, r5, r6⟩ := h
  unfold plainEnd
  split
  · exact ⟨r1, inR_zero, r3, inR_zero, r5, fun z hz => by cases hz⟩
  · split
    · exact ⟨r1, r2, r3, r4, r5, r6⟩
    · split
      · exact ⟨r1, r2, inR_zero, inR_zero, fun z hz => (by cases hz), fun z hz => (by cases hz)⟩
      · exact ⟨r1, inR_zero, inR_zero, inR_zero, fun z hz => (by cases hz), fun z hz => (by cases hz)⟩
theorem RngProg.plain {p : ProgD} (h : RngProg p) : RngProg (plainProg p) := by
  refine ⟨h.1, h.2.1, fun f hf => ?_⟩
  obtain ⟨f', hf', rfl⟩ := List.mem_map.1 hf
  have h1 := h.2.2 f' hf'
  refine ⟨h1.1, fun b hb => ?_⟩
  obtain ⟨b', hb', rfl⟩ := List.mem_map.1 hb
  have h2 := h1.2 b' hb'
  refine ⟨h2.1, fun o ho => ?_, h2.2.2.plain⟩
  obtain ⟨o', ho', rfl⟩ := List.mem_map.1 ho
  exact (h2.2.1 o' ho').plain
end Go.Proofs.YtdchhfdmingnaaaDoor

/- Layer 9: what a program that is small is bounded by (plain). -/
namespace Go.Proofs.YtdchhfdmingnaaaDoor
open Go.RowKit (wrap64 intOf Below)
set_option linter.unusedVariables false
set_option linter.unusedSimpArgs false
theorem sumN_mem {α : Type} (f : α → Nat) : ∀ {xs : List α} {x : α}, x ∈ xs → f x ≤ sumN f xs
  | y :: xs, x, h => by
    simp only [sumN]
    rcases List.mem_cons.1 h with rfl | h
    · omega
    · have := sumN_mem f h; omega
  | [], x, h => by cases h
theorem firstN_parts (f : FuncD) : ∀ i, i ≤ f.blocks.length → firstN f i ≤ sumN pBlock (f.blocks.take i)
  | 0, _ => by simp [firstN]
  | i + 1, h => by
    have ih := firstN_parts f i (by omega)
    rw [firstN_more (show i < f.blocks.length from h), sumN_take pBlock (show i < f.blocks.length from h)]
    have h3 : pBlock f.blocks[i] = f.blocks[i].params.length + f.blocks[i].ops.length + f.blocks[i].fin.L.length + f.blocks[i].fin.M.length + sumN pOp f.blocks[i].ops := rfl
    omega
theorem values_parts (f : FuncD) : valuesN f ≤ pFunc f ∧ f.blocks.length ≤ pFunc f := by
  have h := firstN_parts f f.blocks.length (Nat.le_refl _)
  rw [List.take_of_length_le (Nat.le_refl _)] at h
  unfold pFunc
  exact ⟨by unfold valuesN; omega, by omega⟩
theorem parts_func {P : ProgD} {m : Nat} (h : partsP P ≤ m) {f : FuncD} (hf : f ∈ P.funcs) : valuesN f ≤ m ∧ f.blocks.length ≤ m := by
  have h1 := sumN_mem pFunc hf
  have h2 := values_parts f
  unfold partsP at h
  exact ⟨by omega, by omega⟩
theorem parts_sized {P : ProgD} (h : partsP P ≤ 100000) : SizedP P := fun f hf => by
  have := parts_func h hf
  exact ⟨this.2, by omega⟩
theorem prog_at {W : World} {g : Nat} {sa : Option Addr} {sn sc : Nat} {ca : Option Addr} {cn cc : Nat} {fa : Option Addr} {fn fc : Nat} {P : ProgD} (hc0 : W.cell? ⟨g, 0, none⟩ = some (.slice sa sn sc)) (hc1 : W.cell? ⟨g, 1, none⟩ = some (.slice ca cn cc)) (hc2 : W.cell? ⟨g, 2, none⟩ = some (.slice fa fn fc)) (hP : ProgQ W [.slice sa sn sc, .slice ca cn cc, .slice fa fn fc] P) : ProgAt W g sa sn sc ca cn cc fa fn fc P := by
  obtain ⟨s, c, f, he, h1, h2, h3⟩ := hP
  simp only [List.cons.injEq, and_true] at he
  obtain ⟨rfl, rfl, rfl⟩ := he
  exact ⟨hc0, hc1, hc2, h1, h2, h3⟩
theorem ProgAt.q {W : World} {g : Nat} {sa : Option Addr} {sn sc : Nat} {ca : Option Addr} {cn cc : Nat} {fa : Option Addr} {fn fc : Nat} {P : ProgD} (h : ProgAt W g sa sn sc ca cn cc fa fn fc P) : ProgQ W [.slice sa sn sc, .slice ca cn cc, .slice fa fn fc] P := ⟨_, _, _, rfl, h.s, h.c, h.f⟩
end Go.Proofs.YtdchhfdmingnaaaDoor

/- Layer 9: the document's words on types, and on a value that is seen. -/
namespace Go.Proofs.YtdchhfdmingnaaaDoor
open Go.RowKit (wrap64 intOf Below)
set_option linter.unusedVariables false
set_option linter.unusedSimpArgs false
set_option maxRecDepth 100000 in
set_option maxHeartbeats 2000000 in
theorem dall_any (g : Nat) {sa : Option Addr} {sn sc : Nat} {ca : Option Addr} {cn cc : Nat} {fa : Option Addr} {fn fc : Nat} {P : ProgD} (la : Option Addr) (ln lc : Nat) (L : List Int) (w : World) (hP : ProgAt w g sa sn sc ca cn cc fa fn fc P) (hL : NumsAt w la ln L) (hr : ∀ z ∈ L, InR z) (hln : ln ≤ 140737488355328) :
    Calls Tryd.prog 31 #[.pointer (some ⟨g, 0, none⟩), .slice la ln lc] w fun e w' => e = .returned (.bool (knownB P L)) ∧ w = w' := by
  have hcl := hP.c.len
  have CT : RowKit.Hid (∀ z, InR z → Calls Tryd.prog 52 #[.pointer (some ⟨g, 0, none⟩), .int .i64 z] w fun e w' => e = .returned (.bool (typB P.classes.length z)) ∧ w = w') := Lib.hid fun z hz => by
    rw [hcl.1]
    exact type_any g ca cn cc z w hP.c1 hz (by omega)
  have HLN : RowKit.Hid (L.length = ln) := Lib.hid hL.1
  have HN := Lib.hid hL
  have HR := Lib.hid hr
  clear hP hL hr hcl
  go_enter Tryd.func31, Tryd.ntmps31
  go_upto_region 2 with fail
  go_loopw [5] (fun v5 wr => ∃ i : Nat, i ≤ ln ∧ v5 = .int .i64 (i : Int) ∧ w = wr ∧ RowKit.Hid (allK (fun i => typB P.classes.length (nth L i)) i = true)) (fun iv _ => ln - (intOf iv).toNat)
  case atStart => exact ⟨0, Nat.zero_le _, rfl, rfl, Lib.hid rfl⟩
  case round =>
    obtain ⟨i, hi, rfl, rfl, HI⟩ := hrel
    by_cases hlt : i < ln
    · have hltz : (i : Int) < (ln : Int) := by omega
      have hi0 : (0 : Int) ≤ (i : Int) := by omega
      have hil : i < L.length := by have := HLN.out; omega
      obtain ⟨ga, oa, rfl, hg, hcell⟩ := HN.out.2 (by omega)
      have hz : w.cell? ⟨ga, oa + i, none⟩ = some (.int .i64 (nth L i)) := by rw [hcell i hil, nth_is hil]; rfl
      have HZ : RowKit.Hid (InR (nth L i)) := Lib.hid (HR.out _ (by rw [nth_is hil]; exact List.getElem_mem hil))
      obtain ⟨z, hzz⟩ : ∃ z, z = nth L i := ⟨_, rfl⟩
      have HZZ := Lib.hid hzz
      rw [← hzz] at hz HZ
      have CZ := Lib.hid (CT.out z HZ.out)
      have HIL := Lib.hid hlt
      obtain ⟨b, hb⟩ : ∃ b, b = typB P.classes.length z := ⟨_, rfl⟩
      have HBB : RowKit.Hid (typB P.classes.length (nth L i) = b) := Lib.hid (by rw [hb, hzz])
      rw [← hb] at CZ
      clear hcell hg hil hzz hb
      cases b with
      | true =>
        go_wp2_with (go_at_call 52; (with_reducible refine CZ.out.mono ?_); rintro e w2 ⟨rfl, rfl⟩)
        go_roundw
        case rel => exact ⟨i + 1, HIL.out, by go_num, (by first | rfl | trivial), Lib.hid (allK_more HI.out HBB.out)⟩
        case measure => have := HIL.out; simp [intOf]; omega
      | false =>
        have HK : RowKit.Hid (knownB P L = false) := Lib.hid (by unfold knownB; rw [HLN.out]; exact allK_no HIL.out HBB.out)
        go_wp2_with (go_at_call 52; (with_reducible refine CZ.out.mono ?_); rintro e w2 ⟨rfl, rfl⟩)
        go_ret
        exact ⟨by rw [HK.out]; rfl, rfl⟩
    · obtain rfl : i = ln := by omega
      have hnn : ¬ (i : Int) < (i : Int) := by omega
      have HK : RowKit.Hid (knownB P L = true) := Lib.hid (by unfold knownB; rw [HLN.out]; exact HI.out)
      go_wp2_with fail
      go_ret
      exact ⟨by rw [HK.out]; rfl, rfl⟩
set_option maxRecDepth 100000 in
theorem dtold_any (g : Nat) {sa : Option Addr} {sn sc : Nat} {ca : Option Addr} {cn cc : Nat} {fa : Option Addr} {fn fc : Nat} {P : ProgD} (t : Int) (w : World) (hP : ProgAt w g sa sn sc ca cn cc fa fn fc P) (ht : InR t) :
    Calls Tryd.prog 32 #[.pointer (some ⟨g, 0, none⟩), .int .i64 t] w fun e w' => e = .returned (.bool (toldB P t)) ∧ w = w' := by
  have hcl := hP.c.len
  have CT := Lib.hid (type_any g ca cn cc t w hP.c1 ht (by omega))
  by_cases h1 : t = -1
  · have HK : RowKit.Hid (toldB P t = true) := Lib.hid (by unfold toldB; rw [h1]; rfl)
    subst h1
    clear hP hcl CT
    go_enter Tryd.func32, Tryd.ntmps32
    go_wp2_with fail
    go_ret
    exact ⟨by rw [HK.out]; rfl, rfl⟩
  · have hee : (t == -1) = false := by rw [beq_eq_false_iff_ne]; exact h1
    have HK : RowKit.Hid (toldB P t = typB cn t) := Lib.hid (by unfold toldB; rw [hee, hcl.1]; rfl)
    clear hP hcl h1
    go_enter Tryd.func32, Tryd.ntmps32
    go_wp2_with (go_at_call 52; (with_reducible refine CT.out.mono ?_); rintro e w2 ⟨rfl, rfl⟩)
    go_ret
    exact ⟨by rw [HK.out]; rfl, rfl⟩
structure CAt (W : World) (q g : Nat) (sa : Option Addr) (sn sc : Nat) (ca : Option Addr) (cn cc : Nat) (pa : Option Addr) (pn pc : Nat) (P : ProgD) (a : Option Addr) (n c : Nat) (f : FuncD) (ta : Option Addr) (tn tc : Nat) (T : List Int) : Prop where
  c0 : W.cell? ⟨q, 0, none⟩ = some (.pointer (some ⟨g, 0, none⟩))
  c1 : W.cell? ⟨q, 1, none⟩ = some (.int .i64 f.ret)
  c2 : W.cell? ⟨q, 2, none⟩ = some (.slice a n c)
  c3 : W.cell? ⟨q, 3, none⟩ = some (.slice ta tn tc)
  lt : q < W.heap.size
  prog : ProgAt W g sa sn sc ca cn cc pa pn pc P
  fun' : FuncQ W [.int .i64 f.ret, .slice a n c] f
  typ : NumsAt W ta tn T
  len : tn = valuesN f
  rng : ∀ z ∈ T, InR z
  small : n ≤ 100000
  vals : valuesN f ≤ 1099511627776
theorem CAt.since {W W' : World} {q g : Nat} {sa : Option Addr} {sn sc : Nat} {ca : Option Addr} {cn cc : Nat} {pa : Option Addr} {pn pc : Nat} {P : ProgD} {a : Option Addr} {n c : Nat} {f : FuncD} {ta : Option Addr} {tn tc : Nat} {T : List Int} (h : CAt W q g sa sn sc ca cn cc pa pn pc P a n c f ta tn tc T) (hb : Below W.heap.size W W') : CAt W' q g sa sn sc ca cn cc pa pn pc P a n c f ta tn tc T :=
  ⟨(hb.cell (p := ⟨q, 0, none⟩) h.lt).trans h.c0, (hb.cell (p := ⟨q, 1, none⟩) h.lt).trans h.c1, (hb.cell (p := ⟨q, 2, none⟩) h.lt).trans h.c2, (hb.cell (p := ⟨q, 3, none⟩) h.lt).trans h.c3, Nat.lt_of_lt_of_le h.lt hb.size, h.prog.since hb, FuncQ.lasts _ _ _ _ hb h.fun', h.typ.since hb, h.len, h.rng, h.small, h.vals⟩
set_option maxRecDepth 100000 in
set_option maxHeartbeats 2000000 in
theorem dvalue_any {q g : Nat} {sa : Option Addr} {sn sc : Nat} {ca : Option Addr} {cn cc : Nat} {pa : Option Addr} {pn pc : Nat} {P : ProgD} {a : Option Addr} {n c : Nat} {f : FuncD} {ta : Option Addr} {tn tc : Nat} {T : List Int} (x k : Nat) (v : Int) (w : World) (h : CAt w q g sa sn sc ca cn cc pa pn pc P a n c f ta tn tc T) :
    Calls Tryd.prog 57 #[.pointer (some ⟨q, 0, none⟩), .int .i64 (x : Int), .int .i64 (k : Int), .int .i64 v] w (NumPost (valD f T x k v) w) := by
  have CS := Lib.hid (refsees_any f.ret a n c f (x : Int) (k : Int) v w h.fun' h.small h.vals)
  have HH := Lib.hid h
  have c1 := h.c1
  have c2 := h.c2
  have HD3 : RowKit.Hid (∀ U, Below w.heap.size w U → U.cell? ⟨q, 3, none⟩ = some (.slice ta tn tc)) := Lib.hid fun U hU => (h.since hU).c3
  obtain ⟨rt, hrt⟩ : ∃ t, t = f.ret := ⟨_, rfl⟩
  rw [← hrt] at c1 CS
  clear h hrt
  by_cases hs : seesB f (x : Int) (k : Int) v = true
  · obtain ⟨u, rfl, hu⟩ := sees_value hs
    have HV : RowKit.Hid (valD f T x k (u : Int) = nth T u) := Lib.hid (by unfold valD; rw [if_pos hs, Int.toNat_natCast])
    rw [hs] at CS
    have hut : u < T.length := by rw [HH.out.typ.1, HH.out.len]; exact hu
    have hutn : u < tn := by rw [← HH.out.typ.1]; exact hut
    have hu0 : (0 : Int) ≤ (u : Int) := by omega
    have huz : (u : Int) < (tn : Int) := by omega
    obtain ⟨gt, ot, rfl, hgt, htc⟩ := HH.out.typ.2 (by omega)
    have HT : RowKit.Hid (∀ U, Below w.heap.size w U → U.cell? ⟨gt, ot + u, none⟩ = some (.int .i64 (nth T u))) := Lib.hid fun U hU => by
      rw [hU.cell (p := ⟨gt, ot + u, none⟩) hgt, htc u hut, nth_is hut]
      rfl
    clear htc hut hutn hu hs hgt
    go_enter Tryd.func57, Tryd.ntmps57
    go_wp2_with (go_at_call 69; (with_reducible refine CS.out.mono ?_); rintro e w2 ⟨rfl, hb⟩; have HB2 := Lib.hid hb; have d3 := HD3.out w2 hb; have t0 := HT.out w2 hb; clear hb)
    go_ret
    exact ⟨by rw [HV.out]; rfl, HB2.out⟩
  · have hs' : seesB f (x : Int) (k : Int) v = false := by simpa using hs
    have HV : RowKit.Hid (valD f T x k v = -1) := Lib.hid (by unfold valD; rw [if_neg hs])
    rw [hs'] at CS
    clear hs hs'
    go_enter Tryd.func57, Tryd.ntmps57
    go_wp2_with (go_at_call 69; (with_reducible refine CS.out.mono ?_); rintro e w2 ⟨rfl, hb⟩; have HB2 := Lib.hid hb; clear hb)
    go_ret
    exact ⟨by rw [HV.out]; rfl, HB2.out⟩
end Go.Proofs.YtdchhfdmingnaaaDoor

/- Layer 5: code.Decode: the program that bytes are, or why none. -/
namespace Go.Proofs.YtdchhfdmingnaaaDoor
open Go.RowKit (wrap64 intOf Below)
set_option linter.unusedVariables false
set_option linter.unusedSimpArgs false
def DecPost (p : PR ProgD) (w : World) (e : Ending) (w' : World) : Prop :=
  (∃ P g s c f, p = .ok P [] ∧ e = .returned (.tuple #[.pointer (some ⟨g, 0, none⟩), .int .i64 0]) ∧ w.heap.size ≤ g ∧ WinAt w' g 0 [s, c, f] ∧ ProgO w' (From w.heap.size) [s, c, f] P ∧ Below w.heap.size w w') ∨
  (∃ er, p = .no er ∧ er ≠ 0 ∧ e = .returned (.tuple #[.pointer none, .int .i64 er]) ∧ Below w.heap.size w w')
def NoZero {α : Type} (p : List UInt8 → PR α) : Prop := ∀ L e, p L = .no e → e ≠ 0
theorem NoZero.bind {α β : Type} {p : List UInt8 → PR α} {f : α → List UInt8 → PR β} (h : NoZero p) (h' : ∀ x, NoZero (f x)) : NoZero (fun L => (p L).bind f) := by
  intro L e he
  simp only at he
  cases hp : p L with
  | no e' => rw [hp] at he; cases he; exact h L _ hp
  | ok x r => rw [hp] at he; exact h' x r e he
end Go.Proofs.YtdchhfdmingnaaaDoor

/- Layer 5: the document's reader (D): where it stands, and its small calls: num, count, form. -/
namespace Go.Proofs.YtdchhfdmingnaaaDoor
open Go.RowKit (wrap64 intOf Below)
set_option linter.unusedVariables false
set_option linter.unusedSimpArgs false
attribute [local go_sem ↓] Go.wp_at_zero Go.wp_at_succ
section
variable {d : Nat} {a : Option Addr} {n c : Nat} {L : List UInt8} {w u : World} {p : Nat} {y : Int}
theorem BytesAt.off {X : Nat → Prop} (h : BytesAt w a n c L) (ho : Off X w u) (hx : ∀ ad, a = some ad → 0 < n → ¬ X ad.block) : BytesAt u a n c L := by
  obtain ⟨h1, h2, h3, h4, h5, h6⟩ := h
  refine ⟨h1, h2, h3, h4, fun hn => ?_, fun ad ha j hj => ?_⟩
  · obtain ⟨g, off, e, hg⟩ := h5 hn
    exact ⟨g, off, e, Nat.lt_of_lt_of_le hg ho.size⟩
  · obtain ⟨g, off, e, hg⟩ := h5 (by omega)
    rw [ho.cell (p := ad.add j) (by rw [addr_block]; rw [e] at ha; cases ha; exact hg) (by rw [addr_block]; exact hx ad ha (by omega))]
    exact h6 ad ha j hj
end
def Ran {α : Type} (f : List UInt8 → PR α) (L : List UInt8) (p : Nat) (y : Int) (p' : Nat) (y' : Int) (x : α) : Prop :=
  (y ≠ 0 → y' = y) ∧ (y = 0 → (y' = 0 → f (L.drop p) = .ok x (L.drop p')) ∧ (y' ≠ 0 → f (L.drop p) = .no y'))
theorem Ran.stop {α β : Type} {f : List UInt8 → PR α} {g : List UInt8 → PR β} {L : List UInt8} {p p1 : Nat} {y y1 : Int} {x : α} (h : Ran f L p y p1 y1 x) (h1 : y1 ≠ 0) (hg : ∀ l e, f l = .no e → g l = .no e) (z : β) (p2 : Nat) : Ran g L p y p2 y1 z :=
  ⟨h.1, fun hy => ⟨fun h0 => absurd h0 h1, fun _ => hg _ _ ((h.2 hy).2 h1)⟩⟩
theorem Ran.went {α : Type} {f : List UInt8 → PR α} {L : List UInt8} {p p1 : Nat} {y y1 : Int} {x : α} (h : Ran f L p y p1 y1 x) (h1 : y1 = 0) : y = 0 ∧ f (L.drop p) = .ok x (L.drop p1) := by
  have hy : y = 0 := Classical.byContradiction fun hy => hy ((h.1 hy).symm.trans h1)
  exact ⟨hy, (h.2 hy).1 h1⟩
end Go.Proofs.YtdchhfdmingnaaaDoor

/- Layer 5: the document's reader (D): its lists of numbers. -/
namespace Go.Proofs.YtdchhfdmingnaaaDoor
open Go.RowKit (wrap64 intOf Below)
set_option linter.unusedVariables false
set_option linter.unusedSimpArgs false
attribute [local go_sem ↓] Go.wp_at_zero Go.wp_at_succ
section
variable {α β : Type} {L : List UInt8} {p p1 p2 : Nat} {y y1 y2 : Int}
theorem Ran.bind {f : List UInt8 → PR α} {g : α → List UInt8 → PR β} {x : α} {z : β} (h1 : Ran f L p y p1 y1 x) (h2 : Ran (g x) L p1 y1 p2 y2 z) : Ran (fun l => (f l).bind g) L p y p2 y2 z := by
  refine ⟨fun hy => ?_, fun hy => ⟨fun h => ?_, fun h => ?_⟩⟩
  · have e := h1.1 hy
    exact (h2.1 (by rw [e]; exact hy)).trans e
  · have h0 : y1 = 0 := Classical.byContradiction fun hn => hn ((h2.1 hn).symm.trans h)
    simp only [(h1.2 hy).1 h0, PR.bind]
    exact (h2.2 h0).1 h
  · by_cases h0 : y1 = 0
    · simp only [(h1.2 hy).1 h0, PR.bind]
      exact (h2.2 h0).2 h
    · rw [h2.1 h0]
      simp only [(h1.2 hy).2 h0, PR.bind]
theorem Ran.pure (x : α) : Ran (fun l => PR.ok x l) L p y p y x := ⟨fun _ => rfl, fun hy => ⟨fun _ => rfl, fun h => absurd hy h⟩⟩
theorem Ran.of {f g : List UInt8 → PR α} {x : α} (h : Ran f L p y p1 y1 x) (he : ∀ l, f l = g l) : Ran g L p y p1 y1 x := by
  have e : f = g := funext he
  rw [← e]; exact h
theorem rdTimes_stays {f : List UInt8 → PR α} {l : List UInt8} {e : Int} {i : Nat} (h : rdTimes f i l = .no e) : ∀ {k : Nat}, i ≤ k → rdTimes f k l = .no e
  | 0, hk => by obtain rfl : i = 0 := by omega
                exact h
  | k + 1, hk => by
    by_cases he : i = k + 1
    · rw [← he]; exact h
    · rw [rdTimes_more, rdTimes_stays h (show i ≤ k by omega)]; rfl
theorem Ran.snoc {f : List UInt8 → PR α} {i : Nat} {xs : List α} {x : α} (h1 : Ran (rdTimes f i) L p y p1 y1 xs) (h2 : Ran f L p1 y1 p2 y2 x) : Ran (rdTimes f (i + 1)) L p y p2 y2 (xs ++ [x]) :=
  (h1.bind (g := fun xs r => (f r).bind fun x r' => .ok (xs ++ [x]) r') (h2.bind (Ran.pure _))).of (fun l => (rdTimes_more f i l).symm)
theorem Ran.enough {f : List UInt8 → PR α} {i k : Nat} {xs : List α} (h : Ran (rdTimes f i) L p y p1 y1 xs) (hk : i ≤ k) (hn : i = k ∨ y1 ≠ 0) : Ran (rdTimes f k) L p y p1 y1 xs := by
  rcases hn with rfl | hn
  · exact h
  · exact ⟨h.1, fun hy => ⟨fun h0 => absurd h0 hn, fun _ => rdTimes_stays ((h.2 hy).2 hn) hk⟩⟩
end
theorem Off.news {d : Nat} {w w1 w2 : World} (h : Off (fun k => k = d) w w1) (hb : Below w.heap.size w1 w2) : Off (fun k => k = d) w w2 :=
  h.trans_new (Y := fun k => w.heap.size ≤ k) (Off.of_below hb (fun i hi _ => hi)) (fun i hi => .inr hi)
end Go.Proofs.YtdchhfdmingnaaaDoor

/- Layer 5: the document's reader (D): an end (mk_dc.py). -/
namespace Go.Proofs.YtdchhfdmingnaaaDoor
open Go.RowKit (wrap64 intOf Below)
set_option linter.unusedVariables false
set_option linter.unusedSimpArgs false
attribute [local go_sem ↓] Go.wp_at_zero Go.wp_at_succ
theorem InR.one : InR 1 := ⟨by decide, by decide⟩
theorem Ran.target {L : List UInt8} {p p1 p2 : Nat} {y y1 y2 : Int} {t : Int} {Z : List Int} (h1 : Ran rdNum L p y p1 y1 t) (h2 : Ran (rdNums 8) L p1 y1 p2 y2 Z) : Ran rdTarget L p y p2 y2 (t, Z) :=
  Ran.bind (f := rdNum) (g := fun t r => (rdNums 8 r).bind fun Z r' => .ok (t, Z) r') h1 (Ran.bind (f := rdNums 8) (g := fun Z r' => .ok (t, Z) r') h2 (Ran.pure _))
end Go.Proofs.YtdchhfdmingnaaaDoor

/- Layer 5: the document's reader (D): a step (mk_dd.py). -/
namespace Go.Proofs.YtdchhfdmingnaaaDoor
open Go.RowKit (wrap64 intOf Below)
set_option linter.unusedVariables false
set_option linter.unusedSimpArgs false
attribute [local go_sem ↓] Go.wp_at_zero Go.wp_at_succ
section
variable {L : List UInt8} {p p1 p2 : Nat} {y y1 y2 : Int}
theorem Ran.field {fs : List UInt8} {o x z : OpD} {j : Nat} (hj : j < fs.length) (h1 : Ran (rdFields o (fs.take j)) L p y p1 y1 x) (h2 : Ran (rdField x fs[j]) L p1 y1 p2 y2 z) : Ran (rdFields o (fs.take (j + 1))) L p y p2 y2 z :=
  (h1.bind (g := fun x r => rdField x fs[j] r) h2).of (fun l => by
    rw [List.take_succ_eq_append_getElem hj, rdFields_append]
    congr 1
    funext x r
    simp only [rdFields]
    cases rdField x fs[j] r <;> rfl)
theorem Ran.op {k : Int} {x : OpD} (h1 : Ran (rdBelow 26) L p y p1 y1 k) (h2 : Ran (rdFields (opZero k) (fieldsL k)) L p1 y1 p2 y2 x) : Ran rdOp L p y p2 y2 x := Ran.bind (f := rdBelow 26) (g := fun k r => rdFields (opZero k) (fieldsL k) r) h1 h2
end
end Go.Proofs.YtdchhfdmingnaaaDoor
