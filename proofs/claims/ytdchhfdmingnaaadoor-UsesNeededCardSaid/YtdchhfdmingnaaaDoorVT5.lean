/- Layer 13: what a small program's function is bounded by (plain). -/
import Derived.Test.YtdchhfdmingnaaaDoorVCfgJ
import Derived.Test.YtdchhfdmingnaaaDoorVCodeFi
import Derived.Test.YtdchhfdmingnaaaDoorVCodeSq
import Derived.Test.YtdchhfdmingnaaaDoorVT0
import Derived.Test.YtdchhfdmingnaaaDoorVUsesC
import Derived.Deep.RegionLaw
import Derived.Deep.RegionHeld3
namespace Go.Proofs.YtdchhfdmingnaaaDoor
open Go.RowKit (wrap64 intOf Below)
set_option linter.unusedVariables false
set_option linter.unusedSimpArgs false
theorem sumU_mem {α : Type} (f : α → Nat) : ∀ {xs : List α} {x : α}, x ∈ xs → f x ≤ sumN f xs
  | y :: xs, x, h => by
    simp only [sumN]
    rcases List.mem_cons.1 h with rfl | h
    · omega
    · have := sumU_mem f h; omega
  | [], x, h => by cases h
theorem fstU_parts (f : FuncD) : ∀ i, i ≤ f.blocks.length → fstU f i ≤ sumN pBlock (f.blocks.take i)
  | 0, _ => by simp [fstU]
  | i + 1, h => by
    have ih := fstU_parts f i (by omega)
    rw [fstU_more (show i < f.blocks.length from h), sumN_take pBlock (show i < f.blocks.length from h)]
    have h3 : pBlock f.blocks[i] = f.blocks[i].params.length + f.blocks[i].ops.length + f.blocks[i].fin.L.length + f.blocks[i].fin.M.length + sumN pOp f.blocks[i].ops := rfl
    omega
theorem pairs_le (s : SiteU) (V : Nat) (l : List Int) : (pairsU s V l).length ≤ l.length := by
  unfold pairsU
  rw [List.length_map]
  exact List.length_filter_le _ _
theorem opU_le (o : OpD) : (opU o).length ≤ 3 + pOp o := by
  have h := usesL_len o.K o.A o.B o.C o.L
  show (usesL o.K o.A o.B o.C o.L).length ≤ 3 + (o.L.length + o.S.size / 8)
  omega
theorem partU_le (f : FuncD) (i : Nat) : ∀ m, m ≤ (blkU f i).ops.length → (partU f i m).length ≤ 3 * m + sumN pOp ((blkU f i).ops.take m)
  | 0, _ => by simp [partU]
  | m + 1, h => by
    have hm : m < (blkU f i).ops.length := h
    rw [partU_more, List.length_append, sumN_take pOp hm]
    have h1 := partU_le f i m (by omega)
    have h2 : (siteU f i m).length ≤ (atU f i m).length := pairs_le _ _ _
    rw [atU_op hm] at h2
    have h3 := opU_le (blkU f i).ops[m]
    omega
theorem endU_le (r : Int) (e : EndD) : (endU r e).length ≤ 1 + e.L.length + e.M.length := by
  unfold endU
  rw [List.length_append]
  have h1 : (endA r e).length ≤ 1 := by unfold endA; split <;> simp
  have h2 : ((tgts e).flatMap (·.2)).length ≤ e.L.length + e.M.length := by
    unfold tgts
    split
    · simp
    · split <;> simp
  omega
theorem blk_le (f : FuncD) (i : Nat) : (partU f i (lenU f i + 1)).length ≤ 4 * pBlock (blkU f i) + 1 := by
  rw [partU_more, List.length_append]
  have h1 := partU_le f i (lenU f i) (Nat.le_refl _)
  rw [List.take_of_length_le (show (blkU f i).ops.length ≤ lenU f i from Nat.le_refl _)] at h1
  have h2 : (siteU f i (lenU f i)).length ≤ (atU f i (lenU f i)).length := pairs_le _ _ _
  rw [atU_end f i (lenU f i) (Nat.le_refl _)] at h2
  have h3 := endU_le f.ret (blkU f i).fin
  have h4 : pBlock (blkU f i) = (blkU f i).params.length + (blkU f i).ops.length + (blkU f i).fin.L.length + (blkU f i).fin.M.length + sumN pOp (blkU f i).ops := rfl
  have h5 : lenU f i = (blkU f i).ops.length := rfl
  omega
theorem allU_le (f : FuncD) : ∀ m, m ≤ f.blocks.length → (allU f m).length ≤ 4 * sumN pBlock (f.blocks.take m) + m
  | 0, _ => by simp [allU]
  | m + 1, h => by
    have hm : m < f.blocks.length := h
    rw [allU_more, List.length_append, sumN_take pBlock hm]
    have h1 := allU_le f m (by omega)
    have h2 := blk_le f m
    rw [blkU_at hm] at h2
    omega
theorem smU_of {P : ProgD} {m : Nat} (hm : m ≤ 1000) (h : partsP P ≤ m) {f : FuncD} (hf : f ∈ P.funcs) : SmU f ∧ (usesU f).length ≤ 900000 := by
  have h1 := sumU_mem pFunc hf
  have h2 : pFunc f = f.blocks.length + sumN pBlock f.blocks := rfl
  unfold partsP at h
  have h3 := fstU_parts f f.blocks.length (Nat.le_refl _)
  have h4 := allU_le f f.blocks.length (Nat.le_refl _)
  rw [List.take_of_length_le (Nat.le_refl _)] at h3 h4
  have hend : ∀ p, (theEnd f p).L.length ≤ 100000 ∧ (theEnd f p).M.length ≤ 100000 := fun p => by
    by_cases hp : p < f.blocks.length
    · rw [theEnd_at hp]
      have h5 := sumU_mem pBlock (List.getElem_mem hp)
      have h6 : pBlock f.blocks[p] = f.blocks[p].params.length + f.blocks[p].ops.length + f.blocks[p].fin.L.length + f.blocks[p].fin.M.length + sumN pOp f.blocks[p].ops := rfl
      exact ⟨by omega, by omega⟩
    · unfold theEnd
      rw [List.getElem?_eq_none (by omega)]
      exact ⟨by simp [noEnd], by simp [noEnd]⟩
  exact ⟨⟨by omega, by unfold valU; omega, fun p => (hend p).1, fun p => (hend p).2⟩, by unfold usesU; omega⟩
end Go.Proofs.YtdchhfdmingnaaaDoor

/- The document's Small at any bound: what it counts (out of ShowSm). -/
namespace Go.Proofs.YtdchhfdmingnaaaDoor
open Go.RowKit (wrap64 intOf Below)
set_option linter.unusedVariables false
set_option linter.unusedSimpArgs false
def SmallPostM (m : Nat) (P : ProgD) (w : World) (e : Ending) (w' : World) : Prop := ∃ b : Bool, e = .returned (.bool b) ∧ (b = true → partsP P ≤ m) ∧ Below w.heap.size w w'
set_option maxRecDepth 100000 in
set_option maxHeartbeats 16000000 in
theorem ref_smallM (m : Nat) (hm : m ≤ 100000) (g off : Nat) (sa : Option Addr) (sn sc : Nat) (ca : Option Addr) (cn cc : Nat) (fa : Option Addr) (fn fc : Nat) (P : ProgD) (w : World) (hg : g < w.heap.size)
    (hc0 : w.cell? ⟨g, off, none⟩ = some (.slice sa sn sc)) (hc1 : w.cell? ⟨g, off + 1, none⟩ = some (.slice ca cn cc)) (hc2 : w.cell? ⟨g, off + 2, none⟩ = some (.slice fa fn fc))
    (hP : ProgQ w [.slice sa sn sc, .slice ca cn cc, .slice fa fn fc] P) :
    Calls Tryd.prog 23 #[.pointer (some ⟨g, off, none⟩), .int .i64 (m : Int)] w (SmallPostM m P w) := by
  obtain ⟨_, _, _, he, hS, hC, hF⟩ := hP
  simp only [List.cons.injEq, and_true] at he
  obtain ⟨rfl, rfl, rfl⟩ := he
  obtain ⟨hsl, hsm⟩ := rowV_len' hS
  obtain ⟨hcl, hcm⟩ := rowV_len' hC
  obtain ⟨hfl, hfm⟩ := rowV_len' hF
  have HS := Lib.hid hS
  have HC := Lib.hid hC
  have HF := Lib.hid hF
  have HSL := Lib.hid hsl
  have HCL := Lib.hid hcl
  have HFL := Lib.hid hfl
  clear hS hC hF hsl hcl hfl
  go_enter Tryd.func23, Tryd.ntmps23
  go_wp2_with fail
  go_quiet (fail)
  go_wp2_with fail
  go_loopw [5, 6] (fun nv iv wr => ∃ n i : Nat, i ≤ sn ∧ RowKit.Hid (sn + cn + fn + sumN pSig (P.sigs.take i) ≤ n) ∧ n ≤ 1000000000000000 ∧ nv = .int .i64 (n : Int) ∧ iv = .int .i64 (i : Int) ∧ ∃ q, wr = w.drewN q) (fun _ iv _ => sn - (intOf iv).toNat)
  case atStart => exact ⟨sn + cn + fn, 0, Nat.zero_le _, Lib.hid (by simp [sumN]), by omega, by go_num, rfl, _, rfl⟩
  case round =>
    obtain ⟨n, i, hi, hn0, hn1, rfl, rfl, q, rfl⟩ := hrel
    by_cases hlt : i < sn
    · by_cases hn4 : n ≤ m
      · have hn4' : (n : Int) ≤ (m : Int) := by omega
        obtain ⟨g1, o1, rfl, hg1, hcs1⟩ := rowV_at HS.out (by omega)
        have hi1 : i < P.sigs.length := by rw [HSL.out]; exact hlt
        obtain ⟨cs1, hc21, hcell1, hq1⟩ := hcs1 i hi1
        obtain ⟨v1, rfl, ⟨pa, pn, pc, rfl, hpat, _, hpm, _⟩, _⟩ := hq1
        have hd0 := hcell1 0 (by simp)
        simp only [Nat.add_zero, List.getElem_cons_zero] at hd0
        have HPA : RowKit.Hid (pSig P.sigs[i] = pn) := Lib.hid hpat.1
        clear hcell1 hcs1 hpat
        go_wp2_with fail
        go_roundw
        case rel => exact ⟨n + pn, i + 1, by omega, Lib.hid (by rw [sumN_take _ hi1]; have h1 := hn0.out; have h2 := HPA.out; omega), by omega, by go_num, by go_num, _, rfl⟩
        case measure => simp [intOf]; omega
      · have hn4' : ¬ (n : Int) ≤ (m : Int) := by omega
        go_wp2_with fail
        go_loopw [5, 7] (fun nv iv wr => nv = .int .i64 (n : Int) ∧ iv = .int .i64 0 ∧ ∃ q, wr = w.drewN q) (fun _ _ _ => 0)
        case atStart => exact ⟨rfl, rfl, _, rfl⟩
        case round =>
          obtain ⟨rfl, rfl, q, rfl⟩ := hrel
          by_cases hlt2 : 0 < cn
          · go_wp2_with fail
            go_loopw [5, 8] (fun nv iv wr => nv = .int .i64 (n : Int) ∧ iv = .int .i64 0 ∧ ∃ q, wr = w.drewN q) (fun _ _ _ => 0)
            case atStart => exact ⟨rfl, rfl, _, rfl⟩
            case round =>
              obtain ⟨rfl, rfl, q, rfl⟩ := hrel
              by_cases hlt3 : 0 < fn
              · go_wp2_with fail
                go_ret
                exact ⟨_, rfl, fun h => absurd h (by first | (simp; done) | (simp; omega)), below_drewN _ (Below.refl _ _)⟩
              · obtain rfl : fn = 0 := by omega
                go_wp2_with fail
                go_ret
                exact ⟨_, rfl, fun h => absurd h (by first | (simp; done) | (simp; omega)), below_drewN _ (Below.refl _ _)⟩
          · obtain rfl : cn = 0 := by omega
            go_wp2_with fail
            go_loopw [5, 8] (fun nv iv wr => nv = .int .i64 (n : Int) ∧ iv = .int .i64 0 ∧ ∃ q, wr = w.drewN q) (fun _ _ _ => 0)
            case atStart => exact ⟨rfl, rfl, _, rfl⟩
            case round =>
              obtain ⟨rfl, rfl, q, rfl⟩ := hrel
              by_cases hlt3 : 0 < fn
              · go_wp2_with fail
                go_ret
                exact ⟨_, rfl, fun h => absurd h (by first | (simp; done) | (simp; omega)), below_drewN _ (Below.refl _ _)⟩
              · obtain rfl : fn = 0 := by omega
                go_wp2_with fail
                go_ret
                exact ⟨_, rfl, fun h => absurd h (by first | (simp; done) | (simp; omega)), below_drewN _ (Below.refl _ _)⟩
    · have HN1 : RowKit.Hid (sn + cn + fn + sumN pSig P.sigs ≤ n) := Lib.hid (by have h1 := hn0.out; rwa [List.take_of_length_le (by rw [HSL.out]; omega)] at h1)
      go_wp2_with fail
      go_loopw [5, 7] (fun nv iv wr => ∃ n i : Nat, i ≤ cn ∧ RowKit.Hid (sn + cn + fn + sumN pSig P.sigs + sumN pCls (P.classes.take i) ≤ n) ∧ n ≤ 1000000000000000 ∧ nv = .int .i64 (n : Int) ∧ iv = .int .i64 (i : Int) ∧ ∃ q, wr = w.drewN q) (fun _ iv _ => cn - (intOf iv).toNat)
      case atStart => exact ⟨n, 0, Nat.zero_le _, Lib.hid (by have := HN1.out; simpa [sumN] using this), by omega, rfl, rfl, _, rfl⟩
      case round =>
        clear hi hn0 hn1
        obtain ⟨n, i, hi, hn0, hn1, rfl, rfl, q, rfl⟩ := hrel
        by_cases hlt : i < cn
        · by_cases hn4 : n ≤ m
          · have hn4' : (n : Int) ≤ (m : Int) := by omega
            obtain ⟨g1, o1, rfl, hg1, hcs1⟩ := rowV_at HC.out (by omega)
            have hi1 : i < P.classes.length := by rw [HCL.out]; exact hlt
            obtain ⟨cs1, hc21, hcell1, hq1⟩ := hcs1 i hi1
            obtain ⟨v1, v2, rfl, ⟨pa, pn, pc, rfl, hpat, _, hpm, _⟩, ⟨ma, mn, mc, rfl, hmat, _, hmm, _⟩⟩ := hq1
            have hd0 := hcell1 0 (by simp)
            have hd1 := hcell1 1 (by simp)
            simp only [Nat.add_zero, List.getElem_cons_zero, List.getElem_cons_succ] at hd0 hd1
            have HPA : RowKit.Hid (pCls P.classes[i] = pn + mn) := Lib.hid (by unfold pCls; rw [hpat.1, hmat.1])
            clear hcell1 hcs1 hpat hmat
            go_wp2_with fail
            go_quiet (fail)
            go_wp2_with fail
            go_roundw
            case rel => exact ⟨n + pn + mn, i + 1, by omega, Lib.hid (by rw [sumN_take _ hi1]; have h1 := hn0.out; have h2 := HPA.out; omega), by omega, by go_num, by go_num, _, rfl⟩
            case measure => simp [intOf]; omega
          · have hn4' : ¬ (n : Int) ≤ (m : Int) := by omega
            go_wp2_with fail
            go_loopw [5, 8] (fun nv iv wr => nv = .int .i64 (n : Int) ∧ iv = .int .i64 0 ∧ ∃ q, wr = w.drewN q) (fun _ _ _ => 0)
            case atStart => exact ⟨rfl, rfl, _, rfl⟩
            case round =>
              obtain ⟨rfl, rfl, q, rfl⟩ := hrel
              by_cases hlt3 : 0 < fn
              · go_wp2_with fail
                go_ret
                exact ⟨_, rfl, fun h => absurd h (by first | (simp; done) | (simp; omega)), below_drewN _ (Below.refl _ _)⟩
              · obtain rfl : fn = 0 := by omega
                go_wp2_with fail
                go_ret
                exact ⟨_, rfl, fun h => absurd h (by first | (simp; done) | (simp; omega)), below_drewN _ (Below.refl _ _)⟩
        · have HN2 : RowKit.Hid (sn + cn + fn + sumN pSig P.sigs + sumN pCls P.classes ≤ n) := Lib.hid (by have h1 := hn0.out; rwa [List.take_of_length_le (by rw [HCL.out]; omega)] at h1)
          go_wp2_with fail
          go_loopw [5, 8] (fun nv iv wr => ∃ n i : Nat, i ≤ fn ∧ 0 ≤ n ∧ n ≤ 1000000000000000 ∧ nv = .int .i64 (n : Int) ∧ iv = .int .i64 (i : Int) ∧ RowKit.Hid ((n ≤ m → sn + cn + fn + sumN pSig P.sigs + sumN pCls P.classes + sumN pFunc (P.funcs.take i) ≤ n) ∧ Below w.heap.size w wr)) (fun _ iv _ => fn - (intOf iv).toNat)
          case atStart => exact ⟨n, 0, Nat.zero_le _, by omega, by omega, rfl, rfl, Lib.hid ⟨fun _ => by have := HN2.out; simpa [sumN] using this, below_drewN _ (Below.refl _ _)⟩⟩
          case round =>
            clear hi hn0 hn1
            obtain ⟨n, i, hi, hn0, hn1, rfl, rfl, HI⟩ := hrel
            have hb0 := (HI.out.2.cell (p := ⟨g, off, none⟩) hg).trans hc0
            have hb1 := (HI.out.2.cell (p := ⟨g, off + 1, none⟩) hg).trans hc1
            have hb2 := (HI.out.2.cell (p := ⟨g, off + 2, none⟩) hg).trans hc2
            by_cases hlt : i < fn
            · by_cases hn4 : n ≤ m
              · have hn4' : (n : Int) ≤ (m : Int) := by omega
                obtain ⟨g1, o1, rfl, hg1, hcs1⟩ := rowV_at (HF.out.since FuncQ.lasts HI.out.2) (by omega)
                have hi1 : i < P.funcs.length := by rw [HFL.out]; exact hlt
                obtain ⟨cs1, hc21, hcell1, hq1⟩ := hcs1 i hi1
                obtain ⟨X, hX⟩ : ∃ X, X = P.funcs[i] := ⟨_, rfl⟩
                rw [← hX] at hq1
                obtain ⟨v1, rfl, _, hrow⟩ := hq1
                obtain ⟨ba, bn, bc, rfl, hbl, _⟩ := id hrow
                have hbm := (rowV_len' hrow).2
                have hd1 := hcell1 1 (by simp)
                simp only [List.getElem_cons_zero, List.getElem_cons_succ] at hd1
                have HR := Lib.hid hrow
                have HX := Lib.hid hX
                have HBL := Lib.hid hbl
                clear hcell1 hcs1 hrow hX hbl hc21
                go_wp2_with fail
                obtain ⟨w3, rfl⟩ : ∃ u, u = wr := ⟨wr, rfl⟩
                go_loopw [5, 9] (fun nv kv wk => ∃ n2 k : Nat, k ≤ bn ∧ n + bn ≤ n2 ∧ n2 ≤ 1000000000000000 ∧ nv = .int .i64 (n2 : Int) ∧ kv = .int .i64 (k : Int) ∧ RowKit.Hid ((n2 ≤ m → n + bn + sumN pBlock (X.blocks.take k) ≤ n2) ∧ Below w3.heap.size w3 wk)) (fun _ kv _ => bn - (intOf kv).toNat)
                case atStart => exact ⟨n + bn, 0, Nat.zero_le _, Nat.le_refl _, by omega, by go_num, rfl, Lib.hid ⟨fun _ => by simp [sumN], Below.refl _ _⟩⟩
                case round =>
                  obtain ⟨n2, k, hk, hk0, hk9, rfl, rfl, HK⟩ := hrel
                  have hw0 : g < w3.heap.size := Nat.lt_of_lt_of_le hg HI.out.2.size
                  have hf2 := (HK.out.2.cell (p := ⟨g, off + 2, none⟩) hw0).trans hb2
                  have hfd := (HK.out.2.cell (p := ⟨g1, o1 + i * 2 + 1, none⟩) hg1).trans hd1
                  by_cases hlk : k < bn
                  · by_cases hn5 : n2 ≤ m
                    · have hn5' : (n2 : Int) ≤ (m : Int) := by omega
                      obtain ⟨g2, o2, rfl, hg2, hcs2⟩ := rowV_at (HR.out.since BlockQ.lasts HK.out.2) (by omega)
                      have hk1 : k < X.blocks.length := by rw [HBL.out]; exact hlk
                      obtain ⟨cs2, hc82, hcell2, hbq2⟩ := hcs2 k hk1
                      obtain ⟨Y, hY⟩ : ∃ Y, Y = X.blocks[k] := ⟨_, rfl⟩
                      rw [← hY] at hbq2
                      obtain ⟨pa, pn, pc, oa, on, oc, la, ln, lc, ma, mn, mc, rfl, hon⟩ := hbq2.form
                      have hpm := hbq2.params.2
                      have hom := (rowV_len' hbq2.ops).2
                      have hlm : ln ≤ 140737488351232 := by obtain ⟨_, _, e, _, _, _, _, ⟨_, _, _, rfl, _, _, h, _⟩, _⟩ := hbq2.fin; simp only [List.cons.injEq, Value.slice.injEq] at e; omega
                      have hmm : mn ≤ 140737488351232 := by obtain ⟨_, _, e, _, _, _, _, _, ⟨_, _, _, rfl, _, _, h, _⟩⟩ := hbq2.fin; simp only [List.cons.injEq, Value.slice.injEq] at e; omega
                      have hd10 := hcell2 0 (by simp)
                      have hd11 := hcell2 1 (by simp)
                      have hd12 := hcell2 2 (by simp)
                      have hd13 := hcell2 3 (by simp)
                      have hd14 := hcell2 4 (by simp)
                      have hd15 := hcell2 5 (by simp)
                      have hd16 := hcell2 6 (by simp)
                      have hd17 := hcell2 7 (by simp)
                      simp only [Nat.add_zero, List.getElem_cons_zero, List.getElem_cons_succ] at hd10 hd11 hd12 hd13 hd14 hd15 hd16 hd17
                      have hll : Y.fin.L.length = ln := by obtain ⟨_, _, e, _, _, _, _, ⟨_, _, _, rfl, hat, _⟩, _⟩ := hbq2.fin; simp only [List.cons.injEq, Value.slice.injEq] at e; have := hat.1; omega
                      have hml : Y.fin.M.length = mn := by obtain ⟨_, _, e, _, _, _, _, _, ⟨_, _, _, rfl, hat, _⟩⟩ := hbq2.fin; simp only [List.cons.injEq, Value.slice.injEq] at e; have := hat.1; omega
                      have HPB : RowKit.Hid (pBlock X.blocks[k] = pn + on + ln + mn + sumN pOp Y.ops) := Lib.hid (by rw [← hY]; unfold pBlock; rw [hbq2.params.1.1, hon, hll, hml])
                      clear hll hml
                      have HOY := Lib.hid hbq2.ops
                      have HYL := Lib.hid hon
                      have HY := Lib.hid hY
                      clear hcell2 hcs2 hbq2 hY hon hc82
                      go_wp2_with fail
                      have hal : Below wr.heap.size wr (wr.alloc (.cells #[.slice pa pn pc, .slice oa on oc, .int .i64 Y.fin.K, .int .i64 Y.fin.A, .int .i64 Y.fin.To, .int .i64 Y.fin.Else, .slice la ln lc, .slice ma mn mc] 57)) := (Below.refl _ _).alloc (Nat.le_refl _) _
                      have hblk := heap_alloc_new wr (.cells #[.slice pa pn pc, .slice oa on oc, .int .i64 Y.fin.K, .int .i64 Y.fin.A, .int .i64 Y.fin.To, .int .i64 Y.fin.Else, .slice la ln lc, .slice ma mn mc] 57)
                      obtain ⟨w4, rfl⟩ : ∃ u, u = wr := ⟨wr, rfl⟩
                      generalize (w4.alloc (.cells #[.slice pa pn pc, .slice oa on oc, .int .i64 Y.fin.K, .int .i64 Y.fin.A, .int .i64 Y.fin.To, .int .i64 Y.fin.Else, .slice la ln lc, .slice ma mn mc] 57)) = wy at hal hblk ⊢
                      have hby1 : wy.cell? ⟨w4.heap.size, 1, none⟩ = some (.slice oa on oc) := by simp [World.cell?, hblk]
                      have hby : w4.heap.size < wy.heap.size := (Array.getElem?_eq_some_iff.1 hblk).1
                      have HBY := Lib.hid hal
                      clear hal hblk hd10 hd11 hd12 hd13 hd14 hd15 hd16 hd17
                      go_loopw [5, 11] (fun nv jv wj => ∃ n3 j : Nat, j ≤ on ∧ RowKit.Hid (n2 + pn + on + ln + mn + sumN pOp (Y.ops.take j) ≤ n3) ∧ n2 ≤ n3 ∧ n3 ≤ 1000000000000000 ∧ nv = .int .i64 (n3 : Int) ∧ jv = .int .i64 (j : Int) ∧ RowKit.Hid (Below wy.heap.size wy wj)) (fun _ jv _ => on - (intOf jv).toNat)
                      case atStart => exact ⟨n2 + pn + on + ln + mn, 0, Nat.zero_le _, Lib.hid (by simp [sumN]), by omega, by omega, by go_num, rfl, Lib.hid (Below.refl _ _)⟩
                      case round =>
                        obtain ⟨n3, j, hj, hj0, hj2, hj1, rfl, rfl, HJ⟩ := hrel
                        have hy1 := (HJ.out.cell (p := ⟨w4.heap.size, 1, none⟩) hby).trans hby1
                        by_cases hlj : j < on
                        · by_cases hn6 : n3 ≤ m
                          · have hn6' : (n3 : Int) ≤ (m : Int) := by omega
                            obtain ⟨g3, o3, rfl, hg3, hcs3⟩ := rowV_at ((HOY.out.since OpQ.lasts HBY.out).since OpQ.lasts HJ.out) (by omega)
                            have hj9 : j < Y.ops.length := by rw [HYL.out]; exact hlj
                            obtain ⟨cs3, hc83, hcell3, hoq3⟩ := hcs3 j hj9
                            obtain ⟨O, hO⟩ : ∃ O, O = Y.ops[j] := ⟨_, rfl⟩
                            rw [← hO] at hoq3
                            obtain ⟨l3, rfl, _, _, _, _, _, hos, ⟨la3, ln3, lc3, rfl, hlat, _, hlm, _⟩⟩ := hoq3
                            have hm5 := hcell3 5 (by simp)
                            have hm6 := hcell3 6 (by simp)
                            simp only [List.getElem_cons_zero, List.getElem_cons_succ] at hm5 hm6
                            have hq8 : ((O.S.size : Nat) : Int).tdiv 8 = ((O.S.size / 8 : Nat) : Int) := rfl
                            have hs8 : O.S.size / 8 ≤ 140737488351232 := by omega
                            have HPO : RowKit.Hid (pOp Y.ops[j] = ln3 + O.S.size / 8) := Lib.hid (by rw [← hO]; unfold pOp; rw [hlat.1])
                            clear hcell3 hcs3 hlat hO hc83
                            go_wp2_with fail
                            go_quiet (fail)
                            go_wp2_with fail
                            go_roundw
                            case rel => exact ⟨n3 + ln3 + O.S.size / 8, j + 1, by omega, Lib.hid (by rw [sumN_take _ hj9]; have h1 := hj0.out; have h2 := HPO.out; omega), by omega, by omega, by go_num, by go_num, Lib.hid (below_drewN _ HJ.out)⟩
                            case measure => simp [intOf]; omega
                          · have hn6' : ¬ (n3 : Int) ≤ (m : Int) := by omega
                            go_wp2_with fail
                            go_roundw
                            case rel => exact ⟨n3, k + 1, by omega, by omega, by omega, rfl, by go_num, Lib.hid ⟨fun h4 => absurd h4 hn6, keepB HK.out.2 (keepB HBY.out HJ.out)⟩⟩
                            case measure => simp [intOf]; omega
                        · obtain rfl : j = on := by omega
                          go_wp2_with fail
                          go_roundw
                          case rel => exact ⟨n3, k + 1, by omega, by omega, by omega, rfl, by go_num, Lib.hid ⟨fun h4 => by have h1 := hj0.out; rw [List.take_of_length_le (by rw [HYL.out]; exact Nat.le_refl _)] at h1; have h2 := HK.out.1 (by omega); have h3 := HPB.out; rw [sumN_take _ hk1]; omega, keepB HK.out.2 (keepB HBY.out HJ.out)⟩⟩
                          case measure => simp [intOf]; omega
                    · have hn5' : ¬ (n2 : Int) ≤ (m : Int) := by omega
                      go_wp2_with fail
                      go_roundw
                      case rel => exact ⟨n2, i + 1, by omega, by omega, by omega, rfl, by go_num, Lib.hid ⟨fun h4 => absurd h4 hn5, keepB HI.out.2 HK.out.2⟩⟩
                      case measure => simp [intOf]; omega
                  · obtain rfl : k = bn := by omega
                    go_wp2_with fail
                    go_roundw
                    case rel => exact ⟨n2, i + 1, by omega, by omega, by omega, rfl, by go_num, Lib.hid ⟨fun h4 => by have h1 := HI.out.1 hn4; have h2 := HK.out.1 h4; rw [List.take_of_length_le (by rw [HBL.out]; exact Nat.le_refl _)] at h2; have h3 : pFunc P.funcs[i] = k + sumN pBlock X.blocks := (by rw [← HX.out]; unfold pFunc; rw [HBL.out]); rw [sumN_take _ hi1]; omega, keepB HI.out.2 HK.out.2⟩⟩
                    case measure => simp [intOf]; omega
              · have hn4' : ¬ (n : Int) ≤ (m : Int) := by omega
                go_wp2_with fail
                go_ret
                exact ⟨_, rfl, fun h => absurd h (by first | (simp; done) | (simp; omega)), HI.out.2⟩
            · obtain rfl : i = fn := by omega
              go_wp2_with fail
              go_ret
              refine ⟨_, rfl, fun h => ?_, HI.out.2⟩
              have h4 : n ≤ m := by simp at h; omega
              have h1 := HI.out.1 h4
              rw [List.take_of_length_le (by rw [HFL.out]; exact Nat.le_refl _)] at h1
              unfold partsP
              have h2 := HSL.out
              have h3 := HCL.out
              have h5 := HFL.out
              omega
end Go.Proofs.YtdchhfdmingnaaaDoor

/- Layer 13: the statements' own choice of a function of a program (mk_ulfun.py). -/
namespace Go.Proofs.YtdchhfdmingnaaaDoor
open Go.RowKit (wrap64 intOf Below)
set_option linter.unusedVariables false
set_option linter.unusedSimpArgs false
def UFuncC (W : World) (cs : List Value) (x : FuncD) : Prop := FuncQ W cs x ∧ ∃ r a n c, cs = [r, .slice a n c] ∧ n ≤ c ∧ c ≤ 9223372036854775807
def UlfunPost (P : ProgD) (w : World) (e : Ending) (w' : World) : Prop :=
  ((e = .returned (.tuple #[.agg #[.int .i64 0, .slice none 0 0], .bool false])) ∨ ∃ (F : FuncD) (ba : Option Addr) (m bc : Nat), F ∈ P.funcs ∧ partsP P ≤ 400 ∧ e = .returned (.tuple #[.agg #[.int .i64 F.ret, .slice ba m bc], .bool true]) ∧ FuncQ w' [.int .i64 F.ret, .slice ba m bc] F ∧ m ≤ bc ∧ bc ≤ 9223372036854775807) ∧ Below w.heap.size w w'
theorem urem_nat (a b : Nat) : Int.tmod (a : Int) (b : Int) = ((a % b : Nat) : Int) := by
  exact (Int.ofNat_tmod a b).symm
theorem utwo_set (W : World) (b : Nat) (v0 v1 u0 u1 : Value) (h0 : W.cell? ⟨b, 0, none⟩ = some u0) (h1 : W.cell? ⟨b, 1, none⟩ = some u1) : ((W.setCell ⟨b, 0, none⟩ v0).setCell ⟨b, 1, none⟩ v1).cell? ⟨b, 0, none⟩ = some v0 ∧ ((W.setCell ⟨b, 0, none⟩ v0).setCell ⟨b, 1, none⟩ v1).cell? ⟨b, 1, none⟩ = some v1 := by
  have k : ∀ (u : World) (i j : Nat) (v : Value), i ≠ j → (u.setCell ⟨b, i, none⟩ v).cell? ⟨b, j, none⟩ = u.cell? ⟨b, j, none⟩ := fun u i j v h => World.cell?_setCell_other _ _ _ _ (fun e => h (by cases e; rfl))
  refine ⟨?_, World.cell?_setCell_same _ _ _ (by rw [k _ 0 1 _ (by omega)]; exact h1)⟩
  rw [k _ 1 0 _ (by omega)]
  exact World.cell?_setCell_same _ _ _ h0
set_option maxRecDepth 100000 in
set_option maxHeartbeats 4000000 in
theorem ulfun_any (g : Nat) {sa : Option Addr} {sn sc : Nat} {ca : Option Addr} {cn cc : Nat} {fa : Option Addr} {fn fc : Nat} {P : ProgD} (nn : Nat) (hnn : nn ≤ 255) (w : World)
    (c0 : w.cell? ⟨g, 0, none⟩ = some (.slice sa sn sc)) (c1 : w.cell? ⟨g, 1, none⟩ = some (.slice ca cn cc)) (c2 : w.cell? ⟨g, 2, none⟩ = some (.slice fa fn fc))
    (hP : ProgQ w [.slice sa sn sc, .slice ca cn cc, .slice fa fn fc] P) (hcap : RowV UFuncC 2 w (.slice fa fn fc) P.funcs) :
    Calls Tryd.prog 7 #[.pointer (some ⟨g, 0, none⟩), .int .u8 (nn : Int)] w (UlfunPost P w) := by
  have hgl : g < w.heap.size := World.block_lt_of_cell? _ _ c2
  by_cases h0 : fn = 0
  · subst h0
    clear hP hcap c0 c1
    go_enter Tryd.func7, Tryd.ntmps7
    go_wp2_with fail
    refine bodyPost_ret (v := .tuple #[.agg #[.int .i64 0, .slice none 0 0], .bool false]) (by simp [results, Tryd.results7, go_sem]) rfl ⟨.inl rfl, (Below.refl _ w).alloc (Nat.le_refl _) _⟩
  · have hfm : fn ≤ 140737488351232 := by
      obtain ⟨_, _, _, e, _, _, hm, _⟩ := hcap
      cases e
      exact hm
    have hpos : 0 < nn % fn + 1 := by omega
    have hkl : nn % fn < fn := Nat.mod_lt _ (by omega)
    obtain ⟨k, hk⟩ : ∃ k, k = nn % fn := ⟨_, rfl⟩
    rw [← hk] at hkl
    obtain ⟨hl2, _⟩ := rowV_len' hcap
    obtain ⟨gs, os, rfl, hgs, hcs⟩ := rowV_at hcap (by omega)
    have hsl : k < P.funcs.length := by rw [hl2]; exact hkl
    obtain ⟨cs, hc2, hscell, hq, r', ba, bn, bc, rfl, hbc, hbc8⟩ := hcs k hsl
    obtain ⟨F, hF⟩ : ∃ F, F = P.funcs[k] := ⟨_, rfl⟩
    rw [← hF] at hq
    have hmem : F ∈ P.funcs := by rw [hF]; exact List.getElem_mem hsl
    obtain ⟨bv, he, hrr, hbr⟩ := hq
    simp only [List.cons.injEq, and_true] at he
    obtain ⟨rfl, rfl⟩ := he
    have f0 := hscell 0 (by simp)
    have f1 := hscell 1 (by simp)
    simp only [Nat.add_zero, List.getElem_cons_zero, List.getElem_cons_succ] at f0 f1
    have hfq : FuncQ w [.int .i64 F.ret, .slice ba bn bc] F := ⟨_, rfl, hrr, hbr⟩
    have HFQ := Lib.hid hfq
    have HMEM := Lib.hid hmem
    have HBC := Lib.hid hbc
    have HBC8 := Lib.hid hbc8
    have hnez : ((fn : Int) == 0) = false := by rw [beq_eq_false_iff_ne]; omega
    have hfnz : ¬ (fn : Int) = 0 := by omega
    have hrem : Int.tmod (nn : Int) (fn : Int) = (k : Int) := by rw [urem_nat, ← hk]
    have hwn : IntKind.i64.wrap (nn : Int) = (nn : Int) := wrap_small _ (by omega) (by omega)
    have hfn0 : ¬ fn = 0 := h0
    have hk0 : (0 : Int) ≤ (k : Int) := by omega
    have hkz : (k : Int) < (fn : Int) := by omega
    obtain ⟨W1, hW1⟩ : ∃ U, w.alloc (.cells #[.int .i64 0, .slice none 0 0] 30) = U := ⟨_, rfl⟩
    have hb1 : Below w.heap.size w W1 := by rw [← hW1]; exact (Below.refl _ w).alloc (Nat.le_refl _) _
    have hs1 : W1.heap.size = w.heap.size + 1 := by rw [← hW1]; simp
    have hx1 : W1.heap[w.heap.size]? = some (.cells #[.int .i64 0, .slice none 0 0] 30 (0, 0)) := by rw [← hW1]; exact heap_alloc_new w _
    have HB1 := Lib.hid hb1
    have HS1 := Lib.hid hs1
    have HX1 := Lib.hid hx1
    have HC : RowKit.Hid (∀ U, Below W1.heap.size W1 U → U.cell? ⟨g, 2, none⟩ = some (.slice (some ⟨gs, os, none⟩) fn fc) ∧ U.cell? ⟨gs, os + k * 2, none⟩ = some (.int .i64 F.ret) ∧ U.cell? ⟨gs, os + k * 2 + 1, none⟩ = some (.slice ba bn bc)) := Lib.hid fun U hU => by
      have hbw := hb1.trans (hU.mono hb1.size)
      exact ⟨(hbw.cell (p := ⟨g, 2, none⟩) hgl).trans c2, (hbw.cell (p := ⟨gs, os + k * 2, none⟩) hgs).trans f0, (hbw.cell (p := ⟨gs, os + k * 2 + 1, none⟩) hgs).trans f1⟩
    have CSM : RowKit.Hid (Calls Tryd.prog 23 #[.pointer (some ⟨g, 0, none⟩), .int .i64 400] W1 (SmallPostM 400 P W1)) := Lib.hid (ref_smallM 400 (by omega) g 0 sa sn sc ca cn cc (some ⟨gs, os, none⟩) fn fc P W1 (Nat.lt_of_lt_of_le hgl hb1.size) ((hb1.cell (p := ⟨g, 0, none⟩) hgl).trans c0) ((hb1.cell (p := ⟨g, 1, none⟩) hgl).trans c1) ((hb1.cell (p := ⟨g, 2, none⟩) hgl).trans c2) (ProgQ.lasts _ _ _ _ hb1 hP))
    clear hP hcap hcs hc2 hscell hl2 hF hmem hsl hrr hbr f0 f1 hgs hfq hb1 hs1 hx1 hk h0 hgl hbc hbc8 hpos c0 c1
    go_enter Tryd.func7, Tryd.ntmps7
    go_upto_region 1 with fail
    try rw [hW1]
    clear hW1 c2
    obtain ⟨c2, q0, q1⟩ := HC.out W1 (Below.refl _ _)
    go_wp2_with fail
    refine CSM.out.mono ?_
    rintro e w2 ⟨b, rfl, hsm, hb2⟩
    have HSM := Lib.hid hsm
    have HB2 := Lib.hid hb2
    have hx2 : w2.heap[w.heap.size]? = some (.cells #[.int .i64 0, .slice none 0 0] 30 (0, 0)) := by rw [hb2.block _ (by have := HS1.out; omega)]; exact HX1.out
    have HX2 := Lib.hid hx2
    have HPL : RowKit.Hid (w.heap.size < w2.heap.size) := Lib.hid (by have := HS1.out; have := hb2.size; omega)
    obtain ⟨p, hp⟩ : ∃ p, p = w.heap.size := ⟨_, rfl⟩
    have HPP := Lib.hid hp
    rw [← hp] at hx2 ⊢
    have a0 : w2.cell? ⟨p, 0, none⟩ = some (.int .i64 0) := by simp [World.cell?, hx2]
    have a1 : w2.cell? ⟨p, 1, none⟩ = some (.slice none 0 0) := by simp [World.cell?, hx2]
    have a2 : w2.frozen? ⟨p, 0, none⟩ = false := by simp [World.frozen?, hx2]
    have a3 : w2.frozen? ⟨p, 1, none⟩ = false := by simp [World.frozen?, hx2]
    clear CSM hsm hb2 hx2 hp c2 q0 q1
    cases b with
    | false =>
      clear HSM HFQ HMEM
      have HU := Lib.hid (utwo_set w2 p (.int .i64 0) (.slice none 0 0) _ _ a0 a1)
      have HBU : RowKit.Hid (Below w.heap.size w ((w2.setCell ⟨p, 0, none⟩ (.int .i64 0)).setCell ⟨p, 1, none⟩ (.slice none 0 0))) := Lib.hid (((HB1.out.trans (HB2.out.mono HB1.out.size)).setCell (p := ⟨p, 0, none⟩) (by have := HPP.out; simp only []; omega) _).setCell (p := ⟨p, 1, none⟩) (by have := HPP.out; simp only []; omega) _)
      go_wp2_with fail
      obtain ⟨u0, u1⟩ := HU.out
      refine bodyPost_ret (v := .tuple #[.agg #[.int .i64 0, .slice none 0 0], .bool false]) (by simp [results, Tryd.results7, go_sem, u0, u1]) rfl ⟨.inl rfl, HBU.out⟩
    | true =>
      have HPA := Lib.hid (HSM.out rfl)
      clear HSM
      go_upto_region 3 with fail
      refine wp_region_T (S := (fun u : World => u.cell? ⟨g, 2, none⟩ = some (.slice (some ⟨gs, os, none⟩) fn fc) ∧ u.cell? ⟨gs, os + k * 2, none⟩ = some (.int .i64 F.ret) ∧ u.cell? ⟨gs, os + k * 2 + 1, none⟩ = some (.slice ba bn bc))) 14 (by kernel_rfl) (HC.out _ HB2.out.drew) (fun hHeld => ?_)
      refine wpAnyT_takeW (i := 0) (oi := ⟨some 22, _, _, _, _, _⟩) (v := ?_) rfl (by kernel_rfl) (by kernel_rfl) (by kernel_rfl) (fun _ _ _ h => h) (Or.inl ⟨by rfl, ?_⟩) ?_
      rotate_left
      · ((intro w _; go_simp); try with_reducible rfl)
      (try simp only [Act.put, List.setIfInBounds_toArray, List.set_cons_zero, List.set_cons_succ])
      refine wpAnyT_takeW (i := 1) (oi := ⟨some 23, _, _, _, _, _⟩) (v := ?_) rfl (by kernel_rfl) (by kernel_rfl) (by kernel_rfl) (fun _ _ _ h => h) (Or.inl ⟨by rfl, ?_⟩) ?_
      rotate_left
      · ((intro w _; go_simp); try with_reducible rfl)
      (try simp only [Act.put, List.setIfInBounds_toArray, List.set_cons_zero, List.set_cons_succ])
      refine wpAnyT_takeW (i := 2) (oi := ⟨some 24, _, _, _, _, _⟩) (v := ?_) rfl (by kernel_rfl) (by kernel_rfl) (by kernel_rfl) (fun _ _ _ h => h) (Or.inl ⟨by rfl, ?_⟩) ?_
      rotate_left
      · ((intro w _; go_simp); try with_reducible rfl)
      (try simp only [Act.put, List.setIfInBounds_toArray, List.set_cons_zero, List.set_cons_succ])
      refine wpAnyT_take (i := 3) (oi := ⟨some 25, _, _, _, _, _⟩) (v := ?_) 8 rfl (by kernel_rfl) (by kernel_rfl) (by kernel_rfl) (by kernel_rfl) (by kernel_rfl) (fun _ _ _ h => h) (Or.inl ⟨by rfl, ?_⟩) (by assumption) ?_
      rotate_left
      · ((intro w hSw; (try dsimp only at hSw); go_simp); try with_reducible rfl)
      (try simp only [Act.put, List.setIfInBounds_toArray, List.set_cons_zero, List.set_cons_succ])
      refine wpAnyT_takeW (i := 4) (oi := ⟨some 26, _, _, _, _, _⟩) (v := ?_) rfl (by kernel_rfl) (by kernel_rfl) (by kernel_rfl) (fun _ _ _ h => h) (Or.inl ⟨by rfl, ?_⟩) ?_
      rotate_left
      · ((intro w _; go_simp); try with_reducible rfl)
      (try simp only [Act.put, List.setIfInBounds_toArray, List.set_cons_zero, List.set_cons_succ])
      refine wpAnyT_takeW (i := 5) (oi := ⟨some 27, _, _, _, _, _⟩) (v := ?_) rfl (by kernel_rfl) (by kernel_rfl) (by kernel_rfl) (fun _ _ _ h => h) (Or.inl ⟨by rfl, ?_⟩) ?_
      rotate_left
      · ((intro w _; go_simp); try with_reducible rfl)
      (try simp only [Act.put, List.setIfInBounds_toArray, List.set_cons_zero, List.set_cons_succ])
      refine wpAnyT_takeW (i := 6) (oi := ⟨some 28, _, _, _, _, _⟩) (v := ?_) rfl (by kernel_rfl) (by kernel_rfl) (by kernel_rfl) (fun _ _ _ h => h) (Or.inl ⟨by rfl, ?_⟩) ?_
      rotate_left
      · ((intro w _; go_simp); try with_reducible rfl)
      (try simp only [Act.put, List.setIfInBounds_toArray, List.set_cons_zero, List.set_cons_succ])
      refine wpAnyT_takeW (i := 7) (oi := ⟨some 29, _, _, _, _, _⟩) (v := ?_) rfl (by kernel_rfl) (by kernel_rfl) (by kernel_rfl) (fun _ _ _ h => h) (Or.inl ⟨by rfl, ?_⟩) ?_
      rotate_left
      · ((intro w _; go_simp); try with_reducible rfl)
      (try simp only [Act.put, List.setIfInBounds_toArray, List.set_cons_zero, List.set_cons_succ])
      refine wpAnyT_takeW (i := 8) (oi := ⟨some 30, _, _, _, _, _⟩) (v := ?_) rfl (by kernel_rfl) (by kernel_rfl) (by kernel_rfl) (fun _ _ _ h => h) (Or.inl ⟨by rfl, ?_⟩) ?_
      rotate_left
      · ((intro w _; go_simp); try with_reducible rfl)
      (try simp only [Act.put, List.setIfInBounds_toArray, List.set_cons_zero, List.set_cons_succ])
      refine wpAnyT_take (i := 9) (oi := ⟨some 31, _, _, _, _, _⟩) (v := ?_) 8 rfl (by kernel_rfl) (by kernel_rfl) (by kernel_rfl) (by kernel_rfl) (by kernel_rfl) (fun _ _ _ h => h) (Or.inl ⟨by rfl, ?_⟩) (by assumption) ?_
      rotate_left
      · ((intro w hSw; (try dsimp only at hSw); go_simp); try with_reducible rfl)
      (try simp only [Act.put, List.setIfInBounds_toArray, List.set_cons_zero, List.set_cons_succ])
      refine wpAnyT_takeW (i := 10) (oi := ⟨some 32, _, _, _, _, _⟩) (v := ?_) rfl (by kernel_rfl) (by kernel_rfl) (by kernel_rfl) (fun _ _ _ h => h) (Or.inl ⟨by rfl, ?_⟩) ?_
      rotate_left
      · ((intro w _; go_simp); try with_reducible rfl)
      (try simp only [Act.put, List.setIfInBounds_toArray, List.set_cons_zero, List.set_cons_succ])
      refine wpAnyT_takeW (i := 11) (oi := ⟨some 33, _, _, _, _, _⟩) (v := ?_) rfl (by kernel_rfl) (by kernel_rfl) (by kernel_rfl) (fun _ _ _ h => h) (Or.inl ⟨by rfl, ?_⟩) ?_
      rotate_left
      · ((intro w _; go_simp); try with_reducible rfl)
      (try simp only [Act.put, List.setIfInBounds_toArray, List.set_cons_zero, List.set_cons_succ])
      refine wpAnyT_takeW (i := 12) (oi := ⟨some 34, _, _, _, _, _⟩) (v := ?_) rfl (by kernel_rfl) (by kernel_rfl) (by kernel_rfl) (fun _ _ _ h => h) (Or.inl ⟨by rfl, ?_⟩) ?_
      rotate_left
      · ((intro w _; go_simp); try with_reducible rfl)
      (try simp only [Act.put, List.setIfInBounds_toArray, List.set_cons_zero, List.set_cons_succ])
      refine wpAnyT_take (i := 13) (oi := ⟨some 35, _, _, _, _, _⟩) (v := ?_) 8 rfl (by kernel_rfl) (by kernel_rfl) (by kernel_rfl) (by kernel_rfl) (by kernel_rfl) (fun _ _ _ h => h) (Or.inl ⟨by rfl, ?_⟩) (by assumption) ?_
      rotate_left
      · ((intro w hSw; (try dsimp only at hSw); go_simp); try with_reducible rfl)
      (try simp only [Act.put, List.setIfInBounds_toArray, List.set_cons_zero, List.set_cons_succ])
      obtain ⟨Y, hY⟩ : ∃ U, U = w2.drew := ⟨_, rfl⟩
      have a0 : Y.cell? ⟨p, 0, none⟩ = some (.int .i64 0) := by rw [hY]; exact a0
      have a1 : Y.cell? ⟨p, 1, none⟩ = some (.slice none 0 0) := by rw [hY]; exact a1
      have a2 : Y.frozen? ⟨p, 0, none⟩ = false := by rw [hY]; exact a2
      have a3 : Y.frozen? ⟨p, 1, none⟩ = false := by rw [hY]; exact a3
      have HU := Lib.hid (utwo_set Y p (.int .i64 F.ret) (.slice ba bn bc) _ _ a0 a1)
      have HBU : RowKit.Hid (Below w.heap.size w ((Y.setCell ⟨p, 0, none⟩ (.int .i64 F.ret)).setCell ⟨p, 1, none⟩ (.slice ba bn bc))) := Lib.hid (by rw [hY]; exact (((HB1.out.trans (HB2.out.drew.mono HB1.out.size)).setCell (p := ⟨p, 0, none⟩) (by have := HPP.out; simp only []; omega) _).setCell (p := ⟨p, 1, none⟩) (by have := HPP.out; simp only []; omega) _))
      rw [← hY]
      clear hY
      refine wpAnyT_end (i := 14) (by kernel_rfl) (by kernel_rfl) rfl (fun K hK => ?_)
      rw [if_pos (by rfl)]
      go_simp
      refine hK.out _ _ ?_
      clear hK K
      (try simp only [Act.put, List.setIfInBounds_toArray, List.set_cons_zero, List.set_cons_succ])
      refine wpAnyT_end (i := 15) (by kernel_rfl) (by kernel_rfl) rfl (fun K hK => ?_)
      rw [if_pos (by rfl)]
      go_simp
      refine hK.out _ _ ?_
      clear hK K
      (try simp only [Act.put, List.setIfInBounds_toArray, List.set_cons_zero, List.set_cons_succ])
      refine wpAnyT_done (by kernel_rfl) ?_
      go_wp2_with fail
      obtain ⟨u0, u1⟩ := HU.out
      refine bodyPost_ret (v := .tuple #[.agg #[.int .i64 F.ret, .slice ba bn bc], .bool true]) (by simp [results, Tryd.results7, go_sem, u0, u1]) rfl ⟨.inr ⟨F, ba, bn, bc, HMEM.out, HPA.out, rfl, FuncQ.lasts _ _ _ _ HBU.out HFQ.out, HBC.out, HBC8.out⟩, HBU.out⟩
end Go.Proofs.YtdchhfdmingnaaaDoor

/- Layer 13: package uses' sets: rows of numbers that grow. -/
namespace Go.Proofs.YtdchhfdmingnaaaDoor
open Go.RowKit (wrap64 intOf Below)
set_option linter.unusedVariables false
set_option linter.unusedSimpArgs false
theorem step_append_one {P : Program} {u : World} {ops : Array Oper} {o : Oper} {a : Act} {K : Act → World → Prop} {Q : Exit → Act → World → Prop} {E : Prop} (hgd : o.guard = none) (s x : Operand) (t : TypeId)
    (ho : o.op = .call { callee := .builtin .append, args := #[s, x], argTypes := #[t, t] }) (e : TypeId) (ht : P.underlying t = some (.slice e))
    (hinfo : (P.info? e).map (fun i => (i.zero, i.size, i.bytes)) = some (some (.int .i64 0), 1, 8))
    (B : Nat) (v : Value) (Z : List Int) (hs : a.eval s = v) (hown : OwnsI u B e v Z) (hB : B ≤ u.heap.size)
    (c g : Nat) (z : Int) (hx : a.eval x = .slice (some ⟨g, 0, none⟩) 1 c) (hc : u.cell? ⟨g, 0, none⟩ = some (.int .i64 z)) (hlen : (Z.length + 1) * 8 ≤ 140737488355328)
    (h : ∀ va vn vc w', OwnsI w' B e (.slice va vn vc) (Z ++ [z]) → u.grownBy w' v.ownBlock → (∀ k, (Value.slice va vn vc).ownBlock = some k → v.ownBlock = some k ∨ u.heap.size ≤ k) → K (a.put o.dst (.slice va vn vc)) w') :
    if Region.wanted o (yielded ops a.tmps) = true then Oper.wp P o a u K Q else E := by
  have hw : Region.wanted o (yielded ops a.tmps) = true := by simp [Region.wanted, hgd]
  rw [if_pos hw]
  obtain ⟨i0, hi, hz0, hz1, hz2⟩ := info_parts hinfo
  obtain ⟨v', w', hrun, r1, r2, _, r4⟩ := run_append_own_at (P := P) (w := u) B t o.type e i0 (.int .i64 0) 1 8 ht hi hz0 hz1 hz2 rfl (by decide) v Z.length (Z.map numV) hown ⟨g, 0, none⟩ 1 c [.int .i64 z] rfl (fun j y hy => by
    cases j with
    | zero => simp at hy; subst hy; exact hc
    | succ j => simp at hy) (by intro y hy; simp at hy; subst hy; rfl) (by unfold maxLen; omega) hlen hB
  have hown' : OwnsI w' B e v' (Z ++ [z]) := by
    show w'.ownsRow B e 1 v' (Z ++ [z]).length ((Z ++ [z]).map numV)
    rw [List.map_append, List.length_append]
    exact r1
  obtain ⟨va, vn, vc, rfl, _⟩ := hown'.nums
  have hk := h va vn vc w' hown' r2 (fun k hk => by
    rcases r4 with e' | e'
    · exact .inl (e' ▸ hk)
    · rw [e'] at hk; cases hk; exact .inr (Nat.le_refl _))
  unfold Oper.wp
  simp only [execOp, ho, resolve, invoke, builtin, List.map_toArray, List.map_cons, List.map_nil, hs, hx, Sem.run_bind, Sem.run_pure, Result.andThen_ok, hrun]
  exact hk
structure SetU (B bx g n : Nat) (W : World) (vs : List Value) (Zs : List (List Int)) : Prop where
  box : Boxed W bx 43 (.slice (some ⟨g, 0, none⟩) n n)
  row : Rows2 W B 34 3 (.slice (some ⟨g, 0, none⟩) n n) vs Zs
  len : vs.length = n
def GrowX (g : Nat) (vs : List Value) (i : Nat) (k : Nat) : Prop := (∃ h : i < vs.length, (vs[i]).ownBlock = some k) ∨ k = g
def growL (Z : List Int) (z : Int) : List Int := if Z.getLast? = some z then Z else Z ++ [z]
def freshB (Z : List Int) (z : Int) : Bool := decide (Z.getLast? ≠ some z)
theorem SetU.since {B bx g n : Nat} {W W' : World} {vs : List Value} {Zs : List (List Int)} (h : SetU B bx g n W vs Zs) (hb : Below W.heap.size W W') : SetU B bx g n W' vs Zs :=
  ⟨(hb.block _ h.box.lt).trans h.box, h.row.since hb, h.len⟩
theorem SetU.blk {B bx g n : Nat} {W : World} {vs : List Value} {Zs : List (List Int)} (h : SetU B bx g n W vs Zs) : ∃ cur, W.heap[g]? = some (.cells cur 34 (0, 0)) ∧ B ≤ g := ownsRow_blk h.row.row rfl
theorem SetU.ne {B bx g n : Nat} {W : World} {vs : List Value} {Zs : List (List Int)} (h : SetU B bx g n W vs Zs) : bx ≠ g ∧ ∀ i (h1 : i < vs.length) (h2 : i < Zs.length), (vs[i]).ownBlock ≠ some bx := by
  refine ⟨fun e => ?_, fun i h1 h2 e => ?_⟩
  · obtain ⟨cur, hc, _⟩ := h.blk
    have hb : W.heap[bx]? = _ := h.box
    rw [e, hc] at hb; cases hb
  · obtain ⟨cur, hc, _⟩ := ownsI_blk (h.row.own i h1 h2) e
    have hb : W.heap[bx]? = _ := h.box
    rw [hc] at hb; cases hb
theorem SetU.push {B bx g n i : Nat} {W U w1 : World} {vs : List Value} {Zs : List (List Int)} {v' : Value} {Z' : List Int} (h : SetU B bx g n W vs Zs) (hi : i < vs.length) (hU : Below W.heap.size W U) (hg : U.grownBy w1 (vs[i]).ownBlock) (ho : OwnsI w1 B 3 v' Z') (hw : ∀ k, v'.ownBlock = some k → (vs[i]).ownBlock = some k ∨ W.heap.size ≤ k) :
    w1.cell? ⟨bx, 0, none⟩ = some (.slice (some ⟨g, 0, none⟩) n n) ∧ w1.cell? ⟨g, i, none⟩ = some vs[i] ∧ w1.frozen? ⟨g, i, none⟩ = false ∧ SetU B bx g n (w1.setCell ⟨g, i, none⟩ v') (vs.set i v') (Zs.set i Z') ∧ Off (GrowX g vs i) W (w1.setCell ⟨g, i, none⟩ v') := by
  obtain ⟨h1, h2, h3, h4, h5⟩ := h.row.push (by decide) h.len.symm hi hU hg ho hw
  obtain ⟨cur, hgb, hBg⟩ := h.blk
  have hgl : g < W.heap.size := (Array.getElem?_eq_some_iff.1 hgb).1
  have hiz : i < Zs.length := by rw [← h.row.len]; exact hi
  have hbn := h.ne.2 i hi hiz
  have hbl : bx < W.heap.size := h.box.lt
  refine ⟨(h4.cell (p := ⟨bx, 0, none⟩) hbl hbn).trans h.box.cell, (h4.cell (p := ⟨g, i, none⟩) hgl h5).trans (h.row.cell hi), (h4.frozen (p := ⟨g, i, none⟩) hgl h5).trans (h.row.free h.len.symm), ⟨?_, h1, by rw [List.length_set]; exact h.len⟩, h3.mono fun k _ hk => ?_⟩
  · exact (h3.block bx hbl (fun e => by rcases e with e | e; exact hbn e; exact h.ne.1 e)).trans h.box
  · rcases hk with hk | hk
    · exact .inl ⟨hi, hk⟩
    · exact .inr hk
def GrowPost (B bx g n : Nat) (W : World) (vs : List Value) (Zs : List (List Int)) (i : Nat) (z : Int) (e : Ending) (w' : World) : Prop :=
  ∃ (v' : Value) (Z : List Int), Zs[i]? = some Z ∧ e = .returned (.bool (freshB Z z)) ∧ SetU B bx g n w' (vs.set i v') (Zs.set i (growL Z z)) ∧ Off (GrowX g vs i) W w' ∧ ∀ k, v'.ownBlock = some k → (∃ h : i < vs.length, (vs[i]).ownBlock = some k) ∨ W.heap.size ≤ k
set_option maxRecDepth 100000 in
set_option maxHeartbeats 4000000 in
theorem grow_any (B bx g n : Nat) (W : World) (vs : List Value) (Zs : List (List Int)) (i : Nat) (z : Int) (h : SetU B bx g n W vs Zs) (hi : i < n) (hn : n ≤ 140737488355328) (hlen : ∀ Z ∈ Zs, Z.length ≤ 1000000) (hB : B ≤ W.heap.size) :
    Calls Tryd.prog 61 #[.int .i64 (i : Int), .int .i64 z, .pointer (some ⟨bx, 0, none⟩)] W (GrowPost B bx g n W vs Zs i z) := by
  have hiv : i < vs.length := by rw [h.len]; exact hi
  have hiz : i < Zs.length := by rw [← h.row.len]; exact hiv
  have hown := h.row.own i hiv hiz
  obtain ⟨xa, xn, xc, hxv, hnum⟩ := hown.nums
  have hb0 : W.cell? ⟨bx, 0, none⟩ = some (.slice (some ⟨g, 0, none⟩) n n) := h.box.cell
  have hcb : W.cell? ⟨g, i, none⟩ = some (.slice xa xn xc) := by rw [← hxv]; exact h.row.cell hiv
  obtain ⟨Z, hZ⟩ : ∃ Z, Z = Zs[i] := ⟨_, rfl⟩
  rw [← hZ] at hown hnum
  have hZl : Z.length ≤ 1000000 := by rw [hZ]; exact hlen _ (List.getElem_mem hiz)
  have hxn : Z.length = xn := hnum.1
  have HZI : RowKit.Hid (Zs[i]? = some Z) := Lib.hid (by rw [hZ]; exact List.getElem?_eq_getElem hiz)
  have HH := Lib.hid h
  have HXV : RowKit.Hid (vs[i]? = some (.slice xa xn xc)) := Lib.hid (by rw [List.getElem?_eq_getElem hiv, hxv])
  have HIV := Lib.hid hiv
  have HB := Lib.hid hB
  rw [hxv] at hown
  have HOWN := Lib.hid hown
  have HNUM := Lib.hid hnum
  have HZL := Lib.hid hZl
  have HXN := Lib.hid hxn
  have HALC : RowKit.Hid (W.heap.size ≤ ((W.alloc (.cells #[.int .i64 z] 3)).drew).heap.size) := Lib.hid (by show W.heap.size ≤ (W.alloc _).heap.size; simp)
  have hba : (W.alloc (.cells #[.int .i64 z] 3)).cell? ⟨bx, 0, none⟩ = some (.slice (some ⟨g, 0, none⟩) n n) := (((Below.refl _ W).alloc (Nat.le_refl _) _).cell (p := ⟨bx, 0, none⟩) h.box.lt).trans hb0
  have hii : (i : Int) < (n : Int) := by omega
  have hi0 : (0 : Int) ≤ (i : Int) := by omega
  have HSAME : RowKit.Hid (vs.set i (.slice xa xn xc) = vs ∧ Zs.set i Z = Zs) := Lib.hid (by
    refine ⟨?_, ?_⟩
    · conv => lhs; rw [← hxv]
      exact List.set_getElem_self hiv
    · conv => lhs; rw [hZ]
      exact List.set_getElem_self hiz)
  clear h hown hnum hZl hlen hZ hxv hiz hiv hB hxn
  by_cases h0 : 0 < xn
  · have h0' : (0 : Int) < (xn : Int) := by omega
    have hzl : xn - 1 < Z.length := by have := HXN.out; omega
    obtain ⟨ad, had, hcel⟩ := HNUM.out.at h0
    subst had
    have c0 := hcel (xn - 1) hzl
    obtain ⟨y, hy⟩ : ∃ y, y = Z[xn - 1] := ⟨_, rfl⟩
    rw [← hy] at c0
    unfold numV at c0
    have HLAST : RowKit.Hid (Z.getLast? = some y) := Lib.hid (by rw [List.getLast?_eq_getElem?, hy, HXN.out]; exact List.getElem?_eq_getElem hzl)
    have HW1 : RowKit.Hid (wrap64 ((xn : Int) - 1) = ((xn - 1 : Nat) : Int)) := Lib.hid (by have := HZL.out; have := HXN.out; unfold wrap64; omega)
    clear hcel hy hzl
    have hw1 := HW1.out
    have hlt1 : ((xn - 1 : Nat) : Int) < (xn : Int) := by omega
    have hge1 : (0 : Int) ≤ ((xn - 1 : Nat) : Int) := by omega
    by_cases hyz : y = z
    · have HF : RowKit.Hid (freshB Z z = false ∧ growL Z z = Z) := Lib.hid (by unfold freshB growL; rw [HLAST.out, hyz]; simp)
      have hyb : (y == z) = true := by rw [hyz]; exact beq_self_eq_true z
      clear hyz HLAST
      go_enter Tryd.func61, Tryd.ntmps61
      go_wp2_with fail
      go_ret
      refine ⟨.slice (some ad) xn xc, Z, HZI.out, by rw [HF.out.1]; rfl, by rw [HF.out.2, HSAME.out.1, HSAME.out.2]; exact HH.out, Off.refl _ _, fun k hk => .inl ?_⟩
      obtain ⟨h1, h2⟩ := List.getElem?_eq_some_iff.1 HXV.out
      exact ⟨h1, by rw [h2]; exact hk⟩
    · have HF : RowKit.Hid (freshB Z z = true ∧ growL Z z = Z ++ [z]) := Lib.hid (by unfold freshB growL; rw [HLAST.out]; simp [hyz])
      have hyb : (y == z) = false := by simpa using hyz
      clear hyz HLAST
      go_enter Tryd.func61, Tryd.ntmps61
      go_wp2_with fail
      have HV : RowKit.Hid (vs[i]'HIV.out = .slice (some ad) xn xc) := Lib.hid (by obtain ⟨h1, h2⟩ := List.getElem?_eq_some_iff.1 HXV.out; exact h2)
      go_region_law (refine step_append_one rfl (.tmp 26) (.tmp 28) 34 rfl 3 Tryd.underlying34 info_int B (.slice (some ad) xn xc) Z (by simp [Act.eval, Act.put]) (World.ownsRow.alloc (World.ownsRow.drew HOWN.out) _) (Nat.le_trans HB.out HALC.out) 1 W.drew.heap.size z (by simp [Act.eval, Act.put]) (World.cell?_alloc_mark _ _ _ _ _) (by have := HZL.out; omega) ?_; intro va vn vc w3 ho3 hg3 hw3; have HP := Lib.hid (HH.out.push HIV.out (((Below.refl _ W).drew).alloc (Nat.le_refl _) _) (by rw [HV.out]; exact hg3) ho3 (fun k hk => by rw [HV.out]; rcases hw3 k hk with h' | h'; exact .inl h'; exact .inr (Nat.le_trans HALC.out h'))); have d0 := HP.out.1; have d1 := HP.out.2.1; rw [HV.out] at d1; have d2 := HP.out.2.2.1; have HW3 : RowKit.Hid (∀ k, (Value.slice va vn vc).ownBlock = some k → (∃ h : i < vs.length, (vs[i]).ownBlock = some k) ∨ W.heap.size ≤ k) := Lib.hid (fun k hk => by rcases hw3 k hk with h' | h'; exact .inl ⟨HIV.out, by rw [HV.out]; exact h'⟩; exact .inr (Nat.le_trans HALC.out h')); clear ho3 hg3 hw3)
      all_goals
        go_wp2_with fail
        go_ret
        exact ⟨.slice va vn vc, Z, HZI.out, by rw [HF.out.1]; rfl, by rw [HF.out.2]; exact HP.out.2.2.2.1, HP.out.2.2.2.2, HW3.out⟩
  · obtain rfl : xn = 0 := by omega
    have HF : RowKit.Hid (freshB Z z = true ∧ growL Z z = Z ++ [z]) := Lib.hid (by
      have hz0 : Z = [] := List.eq_nil_of_length_eq_zero HXN.out
      subst hz0; unfold freshB growL; simp)
    go_enter Tryd.func61, Tryd.ntmps61
    go_wp2_with fail
    have HV : RowKit.Hid (vs[i]'HIV.out = .slice xa 0 xc) := Lib.hid (by obtain ⟨h1, h2⟩ := List.getElem?_eq_some_iff.1 HXV.out; exact h2)
    go_region_law (refine step_append_one rfl (.tmp 26) (.tmp 28) 34 rfl 3 Tryd.underlying34 info_int B (.slice xa 0 xc) Z (by simp [Act.eval, Act.put]) (World.ownsRow.alloc (World.ownsRow.drew HOWN.out) _) (Nat.le_trans HB.out HALC.out) 1 W.drew.heap.size z (by simp [Act.eval, Act.put]) (World.cell?_alloc_mark _ _ _ _ _) (by have := HZL.out; omega) ?_; intro va vn vc w3 ho3 hg3 hw3; have HP := Lib.hid (HH.out.push HIV.out (((Below.refl _ W).drew).alloc (Nat.le_refl _) _) (by rw [HV.out]; exact hg3) ho3 (fun k hk => by rw [HV.out]; rcases hw3 k hk with h' | h'; exact .inl h'; exact .inr (Nat.le_trans HALC.out h'))); have d0 := HP.out.1; have d1 := HP.out.2.1; rw [HV.out] at d1; have d2 := HP.out.2.2.1; have HW3 : RowKit.Hid (∀ k, (Value.slice va vn vc).ownBlock = some k → (∃ h : i < vs.length, (vs[i]).ownBlock = some k) ∨ W.heap.size ≤ k) := Lib.hid (fun k hk => by rcases hw3 k hk with h' | h'; exact .inl ⟨HIV.out, by rw [HV.out]; exact h'⟩; exact .inr (Nat.le_trans HALC.out h')); clear ho3 hg3 hw3)
    all_goals
      go_wp2_with fail
      go_ret
      exact ⟨.slice va vn vc, Z, HZI.out, by rw [HF.out.1]; rfl, by rw [HF.out.2]; exact HP.out.2.2.2.1, HP.out.2.2.2.2, HW3.out⟩
end Go.Proofs.YtdchhfdmingnaaaDoor

/- Layer 13: package uses' sets, empty; where each block's values begin; which blocks each value is used in. -/
namespace Go.Proofs.YtdchhfdmingnaaaDoor
open Go.RowKit (wrap64 intOf Below)
set_option linter.unusedVariables false
set_option linter.unusedSimpArgs false
set_option maxRecDepth 100000 in
set_option maxHeartbeats 2000000 in
theorem sets_any (q : Nat) (hq : q ≤ 1099511627776) (w : World) : Calls Tryd.prog 42 #[.int .i64 (q : Int)] w fun e w' =>
    e = .returned (.tuple #[.slice (some ⟨w.heap.size + 1, 0, none⟩) q q, .func (.func 61) #[] #[.pointer (some ⟨w.heap.size, 0, none⟩)]]) ∧ SetU w.heap.size w.heap.size (w.heap.size + 1) q w' (List.replicate q (.slice none 0 0)) (List.replicate q []) ∧ Below w.heap.size w w' := by
  have hmk := make_rows q q rfl hq
  obtain ⟨W1, hW1⟩ : ∃ u, u = (w.alloc (.cells #[.slice (some ⟨w.heap.size + 1, 0, none⟩) q q] 43)).alloc (.cells (madeCells #[.slice none 0 0] q) 34) := ⟨_, rfl⟩
  have HS1 : RowKit.Hid (Below w.heap.size w W1 ∧ Boxed W1 w.heap.size 43 (.slice (some ⟨w.heap.size + 1, 0, none⟩) q q) ∧ Rows2 W1 w.heap.size 34 3 (.slice (some ⟨w.heap.size + 1, 0, none⟩) q q) (List.replicate q (.slice none 0 0)) (List.replicate q [])) := Lib.hid (by
    have hm := Rows2.made (w := w.alloc (.cells #[.slice (some ⟨w.heap.size + 1, 0, none⟩) q q] 43)) (B := w.heap.size) (n := q) (s := 34) (e := 3) (by simp) (by unfold maxLen; omega)
    rw [World.size_alloc] at hm
    refine ⟨by rw [hW1]; exact ((Below.refl _ w).alloc (Nat.le_refl _) _).alloc (by simp) _, ?_, by rw [hW1]; exact hm⟩
    rw [hW1]
    exact (Boxed.new w 43 _).alloc _)
  go_enter Tryd.func42, Tryd.ntmps42
  go_wp2_with fail
  rw [← hW1]
  refine bodyPost_ret (v := .tuple #[.slice (some ⟨w.heap.size + 1, 0, none⟩) q q, .func (.func 61) #[] #[.pointer (some ⟨w.heap.size, 0, none⟩)]]) ?_ rfl ⟨rfl, ⟨HS1.out.2.1, HS1.out.2.2, by simp⟩, HS1.out.1⟩
  have hc := HS1.out.2.1.cell
  simp [results, Tryd.results42, go_sem, hc]
theorem wrap_id {x : Int} (h0 : -9223372036854775808 ≤ x) (h1 : x ≤ 9223372036854775807) : wrap64 x = x := by unfold wrap64; omega
end Go.Proofs.YtdchhfdmingnaaaDoor

/- Layer 13: package uses' firsts: the numbers of the blocks' first values (mk_ufirst.py). -/
namespace Go.Proofs.YtdchhfdmingnaaaDoor
open Go.RowKit (wrap64 intOf Below)
set_option linter.unusedVariables false
set_option linter.unusedSimpArgs false
theorem ustep_append {u : World} {ops : Array Oper} {o : Oper} {a : Act} {K : Act → World → Prop} {Q : Exit → Act → World → Prop} {E : Prop} (hgd : Region.wanted o (yielded ops a.tmps) = true) (s x : Operand)
    (ho : o.op = .call { callee := .builtin .append, args := #[s, x], argTypes := #[34, 34] })
    (B : Nat) (v : Value) (L : List Int) (hs : a.eval s = v) (hown : OwnsI u B 3 v L) (hB : B ≤ u.heap.size)
    (c g : Nat) (z : Int) (hx : a.eval x = .slice (some ⟨g, 0, none⟩) 1 c) (hc : u.cell? ⟨g, 0, none⟩ = some (.int .i64 z))
    (hlen : (L.length + 1) * 8 ≤ 140737488355328)
    (h : ∀ va vn vc w', OwnsI w' B 3 (.slice va vn vc) (L ++ [z]) → u.grownBy w' v.ownBlock → (∀ k, (Value.slice va vn vc).ownBlock = some k → v.ownBlock = some k ∨ u.heap.size ≤ k) → K (a.put o.dst (.slice va vn vc)) w') :
    if Region.wanted o (yielded ops a.tmps) = true then Oper.wp Tryd.prog o a u K Q else E := by
  rw [if_pos hgd]
  obtain ⟨i0, hi, hz0, hz1, hz2⟩ := info_parts info_int
  obtain ⟨v', w', hrun, r1, r2, _, r3⟩ := run_append_own_at (P := Tryd.prog) u B 34 o.type 3 i0 (.int .i64 0) 1 8 Tryd.underlying34 hi hz0 hz1 hz2 rfl (by decide) v L.length (L.map numV) hown ⟨g, 0, none⟩ 1 c [.int .i64 z] rfl (fun j y hu => by
    rw [addr_plain, Nat.zero_add]
    cases j with
    | zero => simp at hu; subst hu; exact hc
    | succ j => simp at hu) (by intro y hu; simp at hu; subst hu; rfl) (by unfold maxLen; omega) hlen hB
  have h2 : OwnsI w' B 3 v' (L ++ [z]) := by
    show w'.ownsRow B _ 1 v' (L ++ [z]).length ((L ++ [z]).map numV)
    rw [List.map_append, List.length_append]
    exact r1
  obtain ⟨va, vn, vc, rfl⟩ : ∃ va vn vc, v' = .slice va vn vc := by
    rcases h2.2 with ⟨e, _⟩ | ⟨_, _, _, e, _⟩
    · exact ⟨_, _, _, e⟩
    · exact ⟨_, _, _, e⟩
  have hk := h va vn vc w' h2 r2 (fun k hk => by
      rcases r3 with e' | e'
      · exact .inl (e' ▸ hk)
      · rw [e'] at hk; cases hk; simp)
  unfold Oper.wp
  simp only [execOp, ho, resolve, invoke, builtin, List.map_toArray, List.map_cons, List.map_nil, hs, hx, Sem.run_bind, Sem.run_pure, Result.andThen_ok, hrun]
  exact hk
def firstUL (f : FuncD) : List Int := (List.range (f.blocks.length + 1)).map fun i => ((fstU f i : Nat) : Int)
theorem uwrap_nat {a b : Nat} (h : a + b ≤ 1099511627776) : wrap64 ((a : Int) + (b : Int)) = ((a + b : Nat) : Int) := by unfold wrap64; omega
theorem uwrap_nat3 {a b c : Nat} (h : a + b + c ≤ 1099511627776) : wrap64 ((a : Int) + (b : Int) + (c : Int)) = ((a + b + c : Nat) : Int) := by unfold wrap64; omega
def firstU (f : FuncD) (i : Nat) : List Int := (List.range (i + 1)).map fun j => ((fstU f j : Nat) : Int)
theorem firstK_len (f : FuncD) (i : Nat) : (firstU f i).length = i + 1 := by simp [firstU]
theorem firstK_all (f : FuncD) : firstU f f.blocks.length = firstUL f := rfl
theorem firstK_zero (f : FuncD) : firstU f 0 = [0] := by simp [firstU, fstU_zero]
theorem firstK_more (f : FuncD) (i : Nat) : firstU f (i + 1) = firstU f i ++ [((fstU f (i + 1) : Nat) : Int)] := by
  unfold firstU
  rw [List.range_succ, List.map_append]
  rfl
theorem uown_one (w : World) (B n : Nat) (cur : Array Value) (hB : B ≤ w.heap.size) (hn : n + 1 ≤ maxLen) (hc : cur.size = n + 1) (h0 : cur[0]? = some (.int .i64 0)) : OwnsI (w.alloc (.cells cur 3)) B 3 (.slice (some ⟨w.heap.size, 0, none⟩) 1 (n + 1)) [0] := by
  refine ⟨rfl, .inr ⟨w.heap.size, n + 1, cur, rfl, hB, heap_alloc_new w _, by simp, hn, by rw [hc, Nat.mul_one], ?_⟩⟩
  have hl : cur.toList[0]? = some (.int .i64 0) := by simpa using h0
  cases hq : cur.toList with
  | nil => rw [hq] at hl; cases hl
  | cons x l => rw [hq] at hl; simp at hl; subst hl; rfl
theorem umake_first (n : Nat) (hn : n ≤ 100000) (u : World) : (Instr.makeSlice 34 (.int .i64 1) (.int .i64 ((n : Int) + 1))).run Tryd.prog u = .ok (.slice (some ⟨u.heap.size, 0, none⟩) 1 (n + 1)) (u.alloc (.cells (madeCells #[.int .i64 0] (n + 1)) 3)) := by
  obtain ⟨i0, hi, hz0, hz1, hz2⟩ := info_parts info_int
  have h := run_make (P := Tryd.prog) u 34 3 i0 (.int .i64 0) Tryd.underlying34 hi hz0 .i64 .i64 1 ((n : Int) + 1) (by omega) (by omega) (by rw [hz2]; omega) (by omega)
  have e : ((n : Int) + 1).toNat = n + 1 := by omega
  rw [e] at h
  simpa [hz1, Value.cells] using h
theorem ukwrap_nat3 {a b c : Nat} (h : a + b + c ≤ 1099511627776) : IntKind.i64.wrap (IntKind.i64.wrap ((a : Int) + (b : Int)) + (c : Int)) = ((a + b + c : Nat) : Int) := by
  rw [wrap_small ((a : Int) + (b : Int)) (by omega) (by omega), wrap_small _ (by omega) (by omega)]
  omega
def FirstsPostU (f : FuncD) (n : Nat) (w : World) (e : Ending) (w' : World) : Prop := ∃ va vc, e = .returned (.slice va (n + 1) vc) ∧ OwnsI w' w.heap.size 3 (.slice va (n + 1) vc) (firstUL f) ∧ Below w.heap.size w w'
set_option maxRecDepth 100000 in
set_option maxHeartbeats 2000000 in
theorem ufirsts_any (r : Int) (a : Option Addr) (n c : Nat) (f : FuncD) (w : World) (hrow : RowV BlockQ 8 w (.slice a n c) f.blocks) (hn : n ≤ 100000) (hv : valU f ≤ 1099511627776) :
    Calls Tryd.prog 43 #[.agg #[.int .i64 r, .slice a n c]] w (FirstsPostU f n w) := by
  obtain ⟨W1, hW1⟩ : ∃ W, w.alloc (.cells #[.int .i64 r, .slice a n c] 30) = W := ⟨_, rfl⟩
  have hb1 : Below w.heap.size w W1 := by rw [← hW1]; exact (Below.refl _ w).alloc (Nat.le_refl _) _
  have HB1 := Lib.hid hb1
  have hc : ∀ j, W1.cell? ⟨w.heap.size, j, none⟩ = (#[.int .i64 r, .slice a n c] : Array Value)[j]? := fun j => by rw [← hW1]; exact World.cell?_alloc_mark _ _ _ _ _
  have hc1 := hc 1
  have HR := Lib.hid hrow
  have HL : RowKit.Hid (f.blocks.length = n) := Lib.hid (by obtain ⟨_, _, _, e, h, _⟩ := hrow; cases e; exact h)
  have HV := Lib.hid hv
  have hwn : wrap64 ((n : Int) + 1) = ((n + 1 : Nat) : Int) := by unfold wrap64; omega
  have hs1 : w.heap.size ≤ W1.heap.size := hb1.size
  have HS1 := Lib.hid hs1
  have HLT : RowKit.Hid (w.heap.size < W1.heap.size) := Lib.hid (by rw [← hW1]; simp)
  have hmk := umake_first n hn
  clear hrow hb1 hc hv hs1
  go_enter Tryd.func43, Tryd.ntmps43
  go_upto_region 1 with fail
  try rw [hW1]
  clear hW1
  go_upto_region 2 with fail
  clear hmk
  obtain ⟨W2, hW2⟩ : ∃ u, W1.alloc (.cells (madeCells #[.int .i64 0] (n + 1)) 3) = u := ⟨_, rfl⟩
  have hb2 : Below w.heap.size w W2 := by rw [← hW2]; exact HB1.out.alloc HS1.out _
  have HO0 : RowKit.Hid (OwnsI W2 w.heap.size 3 (.slice (some ⟨W1.heap.size, 0, none⟩) 1 (n + 1)) (firstU f 0) ∧ Below w.heap.size w W2) := Lib.hid ⟨by rw [← hW2, firstK_zero]; exact uown_one W1 w.heap.size n _ HS1.out (by unfold maxLen; omega) (size_madeCells _ _) (by simp [madeCells]), hb2⟩
  rw [hW2]
  have hsw : W1.heap.size ≤ W2.heap.size := by rw [← hW2]; simp
  have HB12 : RowKit.Hid (Below W1.heap.size W1 W2) := Lib.hid (by rw [← hW2]; exact (Below.refl _ W1).alloc (Nat.le_refl _) _)
  have k1 : W2.cell? ⟨w.heap.size, 1, none⟩ = some (.slice a n c) := (HB12.out.cell (p := ⟨w.heap.size, 1, none⟩) HLT.out).trans hc1
  clear hW2 hb2 hc1
  go_upto_region 3 with fail
  go_loopw [3, 14] (fun v3 v14 wr => ∃ (i : Nat) (va : Option Addr) (vn vc : Nat), i ≤ n ∧ v3 = .slice va vn vc ∧ v14 = .int .i64 (i : Int) ∧ RowKit.Hid (OwnsI wr w.heap.size 3 (.slice va vn vc) (firstU f i) ∧ Below w.heap.size w wr)) (fun _ iv _ => n - (intOf iv).toNat)
  case atStart => exact ⟨0, _, _, _, Nat.zero_le _, rfl, rfl, HO0⟩
  case round =>
    obtain ⟨i, va, vn, vc, hi, rfl, rfl, HI⟩ := hrel
    by_cases hlt : i < n
    · have hltz : (i : Int) < (n : Int) := by omega
      obtain ⟨a', n', c', e, _, hpm, _, hrow⟩ := HR.out.since BlockQ.lasts HI.out.2
      cases e
      obtain ⟨g, off, rfl, hg, hcs⟩ := hrow (by omega)
      have hif : i < f.blocks.length := by rw [HL.out]; exact hlt
      obtain ⟨cs, hl8, hcell, hq⟩ := hcs i hif
      obtain ⟨X, hX⟩ : ∃ X, X = f.blocks[i] := ⟨_, rfl⟩
      rw [← hX] at hq
      obtain ⟨pv, ov, es, rfl, ⟨pa, pn, pc, rfl, hp, _⟩, ⟨oa, on, oc, rfl, ho, _⟩, l1, m1, rfl, r1, r2, r3, r4, ⟨la, ln, lc, rfl, _⟩, ⟨ma, mn, mc, rfl, _⟩⟩ := hq
      have hd0 := hcell 0 (by simp)
      have hd1 := hcell 1 (by simp)
      have hd2 := hcell 2 (by simp)
      have hd3 := hcell 3 (by simp)
      have hd4 := hcell 4 (by simp)
      have hd5 := hcell 5 (by simp)
      have hd6 := hcell 6 (by simp)
      have hd7 := hcell 7 (by simp)
      simp only [Nat.add_zero, List.getElem_cons_zero, List.getElem_cons_succ] at hd0 hd1 hd2 hd3 hd4 hd5 hd6 hd7
      have hfm := fstU_more hif
      rw [← hX, hp.1, ho] at hfm
      clear hX
      have hfv := Nat.le_trans (fstU_le f (i + 1)) HV.out
      obtain ⟨z0, hz0⟩ : ∃ z, z = fstU f i := ⟨_, rfl⟩
      have hvn : vn = i + 1 := by have := HI.out.1.read.1; rw [firstK_len] at this; omega
      subst hvn
      obtain ⟨_, hvg⟩ := HI.out.1.read
      obtain ⟨gv, ov, rfl, hgv, hvc⟩ := hvg (by omega)
      have hv0 := hvc i (by rw [firstK_len]; omega)
      have hfk : (firstU f i)[i]'(by rw [firstK_len]; omega) = ((z0 : Nat) : Int) := by simp [firstU, hz0]
      rw [hfk] at hv0
      have hv1 : wr.cell? ⟨gv, ov + i, none⟩ = some (.int .i64 (z0 : Int)) := hv0
      have HE : RowKit.Hid (fstU f (i + 1) = z0 + pn + on ∧ z0 + pn + on ≤ 1099511627776) := Lib.hid (by rw [hz0]; omega)
      have HGV := Lib.hid hgv
      clear hcs hcell hrow hfm hfv hz0 hvg hvc hv0 hfk hp ho hl8 hif
      go_upto_region 5 with fail
      obtain ⟨Y, hY⟩ : ∃ u, u = wr.alloc (.cells #[.slice pa pn pc, .slice oa on oc, .int .i64 X.fin.K, .int .i64 X.fin.A, .int .i64 X.fin.To, .int .i64 X.fin.Else, .slice la ln lc, .slice ma mn mc] 57) := ⟨_, rfl⟩
      have hbY : Below wr.heap.size wr Y := by rw [hY]; exact (Below.refl _ wr).alloc (Nat.le_refl _) _
      have e1 : Y.cell? ⟨gv, ov + i, none⟩ = some (.int .i64 (z0 : Int)) := (hbY.cell (p := ⟨gv, ov + i, none⟩) HGV.out).trans hv1
      have hcY : ∀ j, Y.cell? ⟨wr.heap.size, j, none⟩ = (#[.slice pa pn pc, .slice oa on oc, .int .i64 X.fin.K, .int .i64 X.fin.A, .int .i64 X.fin.To, .int .i64 X.fin.Else, .slice la ln lc, .slice ma mn mc] : Array Value)[j]? := fun j => by rw [hY]; exact World.cell?_alloc_mark _ _ _ _ _
      have e2 := hcY 0
      have e3 := hcY 1
      have hpy : wr.heap.size < Y.heap.size := by rw [hY]; simp
      rw [← hY]
      obtain ⟨p, hp⟩ : ∃ p, p = wr.heap.size := ⟨_, rfl⟩
      rw [← hp] at e2 e3 hpy ⊢
      have hgY : gv < Y.heap.size := by have := hbY.size; have := HGV.out; omega
      have HS0 : RowKit.Hid (∀ u, Below Y.heap.size Y u → u.cell? ⟨gv, ov + i, none⟩ = some (.int .i64 (z0 : Int)) ∧ u.cell? ⟨p, 0, none⟩ = some (.slice pa pn pc) ∧ u.cell? ⟨p, 1, none⟩ = some (.slice oa on oc)) := Lib.hid fun u hu => ⟨(hu.cell (p := ⟨gv, ov + i, none⟩) hgY).trans e1, (hu.cell (p := ⟨p, 0, none⟩) hpy).trans e2, (hu.cell (p := ⟨p, 1, none⟩) hpy).trans e3⟩
      have HBY : RowKit.Hid (w.heap.size ≤ Y.heap.size ∧ Below w.heap.size w Y) := Lib.hid (by have h1 := HI.out.2.size; have h2 := hbY.size; exact ⟨by omega, HI.out.2.trans (hbY.mono h1)⟩)
      have HOY : RowKit.Hid (OwnsI Y w.heap.size 3 (.slice (some ⟨gv, ov, none⟩) (i + 1) vc) (firstU f i)) := Lib.hid (OwnsI.below HI.out.1 hbY)
      have HLN : RowKit.Hid (((firstU f i).length + 1) * 8 ≤ 140737488355328) := Lib.hid (by rw [firstK_len]; omega)
      have HE2 := Lib.hid HE.out.2
      have hw1 : wrap64 ((z0 : Int) + (pn : Int)) = ((z0 + pn : Nat) : Int) := uwrap_nat (Nat.le_trans (Nat.le_add_right _ on) HE.out.2)
      have hw2 : wrap64 (((z0 + pn : Nat) : Int) + (on : Int)) = ((z0 + pn + on : Nat) : Int) := uwrap_nat HE.out.2
      have hw3 : wrap64 ((z0 : Int) + (pn : Int) + (on : Int)) = ((z0 + pn + on : Nat) : Int) := uwrap_nat3 HE.out.2
      have hi0 : (0 : Int) ≤ (i : Int) := by omega
      have hiv : (i : Int) < ((i + 1 : Nat) : Int) := by omega
      have hiv2 : (i : Int) < (i : Int) + 1 := by omega
      have HX3 := Lib.hid (ukwrap_nat3 HE.out.2)
      have HYB : RowKit.Hid (∀ X, Below Y.heap.size Y (Y.drew.alloc X)) := Lib.hid fun X => (below_drewN 1 (Below.refl _ Y)).alloc (by simp) X
      clear e1 e2 e3 hcY hbY hY hpy hgY hp hd0 hd1 hd2 hd3 hd4 hd5 hd6 hd7 r1 r2 r3 r4 hv1
      refine wp_region_T (S := (fun u : World => u.cell? ⟨gv, ov + i, none⟩ = some (.int .i64 (z0 : Int)) ∧ u.cell? ⟨p, 0, none⟩ = some (.slice pa pn pc) ∧ u.cell? ⟨p, 1, none⟩ = some (.slice oa on oc))) 14 (by kernel_rfl) (HS0.out _ (below_drewN 1 (Below.refl _ _))) (fun hHeld => ?_)
      refine wpAnyT_takeW (i := 0) (oi := ⟨some 19, _, _, _, _, _⟩) (v := ?_) rfl (by kernel_rfl) (by kernel_rfl) (by kernel_rfl) (fun _ _ _ h => h) (Or.inl ⟨by rfl, ?_⟩) ?_
      rotate_left
      · ((intro w _; go_simp); try with_reducible rfl)
      (try simp only [Act.put, List.setIfInBounds_toArray, List.set_cons_zero, List.set_cons_succ])
      refine wpAnyT_takeW (i := 1) (oi := ⟨some 20, _, _, _, _, _⟩) (v := ?_) rfl (by kernel_rfl) (by kernel_rfl) (by kernel_rfl) (fun _ _ _ h => h) (Or.inl ⟨by rfl, ?_⟩) ?_
      rotate_left
      · ((intro w _; go_simp); try with_reducible rfl)
      (try simp only [Act.put, List.setIfInBounds_toArray, List.set_cons_zero, List.set_cons_succ])
      refine wpAnyT_takeW (i := 2) (oi := ⟨some 21, _, _, _, _, _⟩) (v := ?_) rfl (by kernel_rfl) (by kernel_rfl) (by kernel_rfl) (fun _ _ _ h => h) (Or.inl ⟨by rfl, ?_⟩) ?_
      rotate_left
      · ((intro w _; go_simp); try with_reducible rfl)
      (try simp only [Act.put, List.setIfInBounds_toArray, List.set_cons_zero, List.set_cons_succ])
      refine wpAnyT_takeW (i := 3) (oi := ⟨some 22, _, _, _, _, _⟩) (v := ?_) rfl (by kernel_rfl) (by kernel_rfl) (by kernel_rfl) (fun _ _ _ h => h) (Or.inl ⟨by rfl, ?_⟩) ?_
      rotate_left
      · ((intro w _; go_simp); try with_reducible rfl)
      (try simp only [Act.put, List.setIfInBounds_toArray, List.set_cons_zero, List.set_cons_succ])
      refine wpAnyT_take (i := 4) (oi := ⟨some 23, _, _, _, _, _⟩) (v := ?_) 8 rfl (by kernel_rfl) (by kernel_rfl) (by kernel_rfl) (by kernel_rfl) (by kernel_rfl) (fun _ _ _ h => h) (Or.inl ⟨by rfl, ?_⟩) (by assumption) ?_
      rotate_left
      · ((intro w hSw; (try dsimp only at hSw); go_simp); try with_reducible rfl)
      (try simp only [Act.put, List.setIfInBounds_toArray, List.set_cons_zero, List.set_cons_succ])
      refine wpAnyT_takeW (i := 5) (oi := ⟨some 24, _, _, _, _, _⟩) (v := ?_) rfl (by kernel_rfl) (by kernel_rfl) (by kernel_rfl) (fun _ _ _ h => h) (Or.inl ⟨by rfl, ?_⟩) ?_
      rotate_left
      · ((intro w _; go_simp); try with_reducible rfl)
      (try simp only [Act.put, List.setIfInBounds_toArray, List.set_cons_zero, List.set_cons_succ])
      refine wpAnyT_take (i := 6) (oi := ⟨some 25, _, _, _, _, _⟩) (v := ?_) 8 rfl (by kernel_rfl) (by kernel_rfl) (by kernel_rfl) (by kernel_rfl) (by kernel_rfl) (fun _ _ _ h => h) (Or.inl ⟨by rfl, ?_⟩) (by assumption) ?_
      rotate_left
      · ((intro w hSw; (try dsimp only at hSw); go_simp); try with_reducible rfl)
      (try simp only [Act.put, List.setIfInBounds_toArray, List.set_cons_zero, List.set_cons_succ])
      refine wpAnyT_takeW (i := 7) (oi := ⟨some 26, _, _, _, _, _⟩) (v := ?_) rfl (by kernel_rfl) (by kernel_rfl) (by kernel_rfl) (fun _ _ _ h => h) (Or.inl ⟨by rfl, ?_⟩) ?_
      rotate_left
      · ((intro w _; go_simp); try with_reducible rfl)
      (try simp only [Act.put, List.setIfInBounds_toArray, List.set_cons_zero, List.set_cons_succ])
      refine wpAnyT_takeW (i := 8) (oi := ⟨some 27, _, _, _, _, _⟩) (v := ?_) rfl (by kernel_rfl) (by kernel_rfl) (by kernel_rfl) (fun _ _ _ h => h) (Or.inl ⟨by rfl, ?_⟩) ?_
      rotate_left
      · ((intro w _; go_simp); try with_reducible rfl)
      (try simp only [Act.put, List.setIfInBounds_toArray, List.set_cons_zero, List.set_cons_succ])
      refine wpAnyT_takeW (i := 9) (oi := ⟨some 28, _, _, _, _, _⟩) (v := ?_) rfl (by kernel_rfl) (by kernel_rfl) (by kernel_rfl) (fun _ _ _ h => h) (Or.inl ⟨by rfl, ?_⟩) ?_
      rotate_left
      · ((intro w _; go_simp); try with_reducible rfl)
      (try simp only [Act.put, List.setIfInBounds_toArray, List.set_cons_zero, List.set_cons_succ])
      refine wpAnyT_take (i := 10) (oi := ⟨some 29, _, _, _, _, _⟩) (v := ?_) 8 rfl (by kernel_rfl) (by kernel_rfl) (by kernel_rfl) (by kernel_rfl) (by kernel_rfl) (fun _ _ _ h => h) (Or.inl ⟨by rfl, ?_⟩) (by assumption) ?_
      rotate_left
      · ((intro w hSw; (try dsimp only at hSw); go_simp); try with_reducible rfl)
      (try simp only [Act.put, List.setIfInBounds_toArray, List.set_cons_zero, List.set_cons_succ])
      refine wpAnyT_takeW (i := 11) (oi := ⟨some 30, _, _, _, _, _⟩) (v := ?_) rfl (by kernel_rfl) (by kernel_rfl) (by kernel_rfl) (fun _ _ _ h => h) (Or.inl ⟨by rfl, ?_⟩) ?_
      rotate_left
      · ((intro w _; go_simp); try with_reducible rfl)
      (try simp only [Act.put, List.setIfInBounds_toArray, List.set_cons_zero, List.set_cons_succ])
      refine wpAnyT_takeW (i := 12) (oi := ⟨some 31, _, _, _, _, _⟩) (v := ?_) rfl (by kernel_rfl) (by kernel_rfl) (by kernel_rfl) (fun _ _ _ h => h) (Or.inl ⟨by rfl, ?_⟩) ?_
      rotate_left
      · ((intro w _; go_simp); try with_reducible rfl)
      (try simp only [Act.put, List.setIfInBounds_toArray, List.set_cons_zero, List.set_cons_succ])
      refine wpAnyT_one (i := 13) (by kernel_rfl) rfl (fun K hK => ?_)
      rw [if_pos (by rfl)]
      go_simp
      refine hK.out _ _ (HS0.out _ (HYB.out _)) (fun hHeld => ?_)
      clear hK K
      (try simp only [Act.put, List.setIfInBounds_toArray, List.set_cons_zero, List.set_cons_succ])
      refine wpAnyT_end (i := 14) (by kernel_rfl) (by kernel_rfl) rfl (fun K hK => ?_)
      refine ustep_append (by rfl) _ _ (by rfl) w.heap.size (.slice (some ⟨gv, ov, none⟩) (i + 1) vc) (firstU f i) (by rfl) (OwnsI.below HOY.out (HYB.out _)) (Nat.le_trans HBY.out.1 (HYB.out _).size) _ _ (IntKind.i64.wrap (IntKind.i64.wrap ((z0 : Int) + (pn : Int)) + (on : Int))) (by rfl) (show (Y.alloc (.cells #[.int .i64 (IntKind.i64.wrap (IntKind.i64.wrap ((z0 : Int) + (pn : Int)) + (on : Int)))] 3)).cell? ⟨Y.heap.size, 0, none⟩ = _ from World.cell?_alloc_mark _ _ _ _ _) HLN.out ?_
      intro ya yn yc w1 ho1 hg1 hw1
      have HW1 : RowKit.Hid (OwnsI w1 w.heap.size 3 (.slice ya yn yc) (firstU f (i + 1)) ∧ Below w.heap.size w w1) := Lib.hid ⟨by rw [firstK_more, HE.out.1, ← HX3.out]; exact ho1, (HBY.out.2.trans ((HYB.out _).mono HBY.out.1)).grown hg1 (Nat.le_trans HBY.out.1 (HYB.out _).size) (fun b hb => (HOY.out.lt b hb).1)⟩
      clear ho1 hg1 hw1
      refine hK.out _ _ ?_
      clear hK K
      (try simp only [Act.put, List.setIfInBounds_toArray, List.set_cons_zero, List.set_cons_succ])
      refine wpAnyT_end (i := 15) (by kernel_rfl) (by kernel_rfl) rfl (fun K hK => ?_)
      rw [if_pos (by rfl)]
      go_simp
      refine hK.out _ _ ?_
      clear hK K
      (try simp only [Act.put, List.setIfInBounds_toArray, List.set_cons_zero, List.set_cons_succ])
      refine wpAnyT_done (by kernel_rfl) ?_
      go_wp2_with fail
      go_roundw
      case rel => exact ⟨i + 1, _, _, _, hlt, rfl, by go_num, HW1⟩
      case measure => simp [intOf]; omega
    · obtain rfl : i = n := by omega
      have hnn : ¬ (i : Int) < (i : Int) := by omega
      have hvn : vn = i + 1 := by have := HI.out.1.read.1; rw [firstK_len] at this; omega
      subst hvn
      go_wp2_with fail
      go_ret
      exact ⟨va, vc, rfl, by rw [← firstK_all, HL.out]; exact HI.out.1, HI.out.2⟩
end Go.Proofs.YtdchhfdmingnaaaDoor
