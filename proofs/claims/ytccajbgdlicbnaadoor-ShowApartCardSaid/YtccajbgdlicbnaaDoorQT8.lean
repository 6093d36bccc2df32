/- Layer 6: a function's lines: package show's Func, walked (mk_fn.py). -/
import Derived.Test.YtccajbgdlicbnaaDoorQCodeFi
import Derived.Test.YtccajbgdlicbnaaDoorQCodePlain
import Derived.Test.YtccajbgdlicbnaaDoorQCodeSs
import Derived.Test.YtccajbgdlicbnaaDoorQT0
import Derived.Test.YtccajbgdlicbnaaDoorQT3
import Derived.Test.YtccajbgdlicbnaaDoorQT5

namespace Go.Proofs.YtccajbgdlicbnaaDoor
open Go.RowKit (wrap64 intOf Below)
set_option linter.unusedVariables false
set_option linter.unusedSimpArgs false

def valsN : List BlockD → Nat
  | [] => 0
  | b :: r => b.params.length + b.ops.length + valsN r
theorem valsN_snoc : ∀ (xs : List BlockD) (b : BlockD), valsN (xs ++ [b]) = valsN xs + (b.params.length + b.ops.length)
  | [], b => by simp [valsN]
  | x :: xs, b => by simp only [List.cons_append, valsN, valsN_snoc xs b]; omega
theorem valsN_take : ∀ (xs : List BlockD) (k : Nat), valsN (xs.take k) ≤ valsN xs
  | [], k => by simp [valsN]
  | x :: xs, 0 => by simp [valsN]
  | x :: xs, k + 1 => by have := valsN_take xs k; simp only [List.take_succ_cons, valsN]; omega
def blocksText : Nat → Nat → List BlockD → List UInt8
  | _, _, [] => []
  | n, f, b :: r => blockText n f b ++ blocksText (n + 1) (f + (b.params.length + b.ops.length)) r
theorem blocksText_snoc : ∀ (n f : Nat) (xs : List BlockD) (b : BlockD), blocksText n f (xs ++ [b]) = blocksText n f xs ++ blockText (n + xs.length) (f + valsN xs) b
  | n, f, [], b => by simp [blocksText, valsN]
  | n, f, x :: xs, b => by
    simp only [List.cons_append, blocksText, blocksText_snoc (n + 1) _ xs b, List.length_cons, List.append_assoc, valsN]
    rw [show n + 1 + xs.length = n + (xs.length + 1) by omega, show f + (x.params.length + x.ops.length) + valsN xs = f + (x.params.length + x.ops.length + valsN xs) by omega]
theorem blocksText_take : ∀ (n f : Nat) (xs : List BlockD) (k : Nat), (blocksText n f (xs.take k)).length ≤ (blocksText n f xs).length
  | n, f, [], k => by simp [blocksText]
  | n, f, x :: xs, 0 => by simp [blocksText]
  | n, f, x :: xs, k + 1 => by
    have := blocksText_take (n + 1) (f + (x.params.length + x.ops.length)) xs k
    simp only [List.take_succ_cons, blocksText, List.length_append]
    omega
def funcHead (x : FuncD) : List UInt8 := [102, 117, 110, 99, 32] ++ typeText x.ret ++ [10]
def funcText (x : FuncD) : List UInt8 := funcHead x ++ blocksText 0 0 x.blocks
structure FitBlock (b : BlockD) : Prop where
  ps : b.params.length ≤ 1048576
  ls : b.fin.L.length ≤ 1048576
  ms : b.fin.M.length ≤ 1048576
  ops : ∀ o ∈ b.ops, FitOp o
structure FitFunc (x : FuncD) : Prop where
  blocks : ∀ b ∈ x.blocks, FitBlock b
  vals : valsN x.blocks ≤ 1000000000
  many : x.blocks.length ≤ 1000000000
  len : (funcText x).length ≤ 1000000000000
theorem wrap_small (z : Int) (h0 : 0 ≤ z) (h1 : z ≤ 1000000000) : RowKit.wrap64 z = z := by
  unfold RowKit.wrap64
  omega
theorem vals_one (b : BlockD) : valuesOf ⟨0, [b]⟩ = RowKit.wrap64 (0 + ((b.params.length : Int) + (b.ops.length : Int))) := by
  have e1 : valuesOf ⟨0, [b]⟩ = valsOf ([b].take (0 + 1)) := by
    simp only [valuesOf, firstOf, List.length_cons, List.length_nil, Int.toNat_natCast]
  have e2 := valsOf_more [b] 0 (Nat.lt_add_one 0)
  have e3 : valsOf ([b].take 0) = 0 := by simp only [List.take_zero, valsOf, List.foldl_nil]
  rw [e1, e2, e3, List.getElem_cons_zero]
theorem one_vals (b : BlockD) (h : b.params.length + b.ops.length ≤ 1000000000) : valuesOf ⟨0, [b]⟩ = ((b.params.length + b.ops.length : Nat) : Int) := by
  have e := vals_one b
  have e2 := wrap_small (0 + ((b.params.length : Int) + (b.ops.length : Int))) (by omega) (by omega)
  have e3 : (0 + ((b.params.length : Int) + (b.ops.length : Int))) = ((b.params.length + b.ops.length : Nat) : Int) := by omega
  exact e.trans (e2.trans e3)
theorem size_blk : ∀ w, (sizeOf 48).run Tryd.prog w = .ok 8 w := fun w => by
  have h : (Tryd.prog.info? 48).map (fun i => i.size) = some 8 := by kernel_rfl
  cases hi : Tryd.prog.info? 48 with
  | none => rw [hi] at h; cases h
  | some i =>
    rw [hi] at h
    have h8 : i.size = 8 := by simpa using h
    simp [sizeOf, typeInfo, hi, h8]
theorem slice_blk (h oo n c k : Nat) (hk : k < n) (hc : n ≤ c) (u : World) : (Instr.slice 32 (.slice (some ⟨h, oo, none⟩) n c) (some (.int .i64 (k : Int))) (some (.int .i64 ((k : Int) + 1))) none).run Tryd.prog u = .ok (.slice (some ⟨h, oo + k * 8, none⟩) 1 (c - k)) u := by
  have e1 : ((k : Int) + 1) = ((k + 1 : Nat) : Int) := by omega
  rw [e1, run_slice_lh u 32 (some ⟨h, oo, none⟩) n c (under_elem Tryd.underlying32) .i64 .i64 k ((k + 1 : Nat) : Int) (by omega) (by omega) (by omega), elem_is Tryd.underlying32, size_blk u]
  have e2 : ¬ c = k := by omega
  have e3 : k + 1 - k = 1 := by omega
  simp [Result.andThen, sliced, e2, e3, Addr.add]

set_option maxRecDepth 100000 in
set_option maxHeartbeats 8000000 in
theorem func_any (ba : Option Addr) (bn bc : Nat) (x : FuncD) (w : World) (h : FuncQ w [.int .i64 x.ret, .slice ba bn bc] x) (hcap : bn ≤ bc) (hfit : FitFunc x) (ht : Tabs w) (hT : TN w) :
    Calls Tryd.prog 9 #[.agg #[.int .i64 x.ret, .slice ba bn bc]] w fun e w' => e = .returned (.string (mk (funcText x))) ∧ Below w.heap.size w w' := by
  obtain ⟨bv, he, hret, hbv⟩ := h
  cases he
  have hblen := (rowV_len_ hbv).1
  have hbn := (rowV_len_ hbv).2
  obtain ⟨X, hX⟩ : ∃ X, X = w.heap.size := ⟨_, rfl⟩
  obtain ⟨W1, hW1⟩ : ∃ W1, W1 = w.alloc (.cells #[.int .i64 x.ret, .slice ba bn bc] 34) := ⟨_, rfl⟩
  have hbx : W1.heap[X]? = some (.cells #[.int .i64 x.ret, .slice ba bn bc] 34 (0, 0)) := by rw [hW1, hX]; exact heap_alloc_new w _
  have hz1 : W1.heap.size = X + 1 := by rw [hW1, hX]; simp
  have hb1 : Below w.heap.size w W1 := by rw [hW1]; exact (Below.refl _ _).alloc (Nat.le_refl _) _
  obtain ⟨W2, hW2⟩ : ∃ W2, W2 = W1.alloc (.cells #[.pointer none, .slice none 0 0] 55) := ⟨_, rfl⟩
  have HB2 : RowKit.Hid (Lib.IsBuilderF 55 5 (X + 1) (X + 1) (Lib.byteCells []) W2) := Lib.hid (by rw [hW2, ← hz1]; exact Lib.IsBuilderF.of (Lib.fresh_isBuilder _ _ W1))
  have hb2 : Below W1.heap.size W1 W2 := by rw [hW2]; exact (Below.refl _ _).alloc (Nat.le_refl _) _
  have HXZ : RowKit.Hid (X + 1 ≤ W2.heap.size) := Lib.hid (by rw [hW2]; simp; omega)
  have HW2 : RowKit.Hid (Below w.heap.size w W2) := Lib.hid (keepS hb1 hb2)
  have HBX : RowKit.Hid (∀ u, Below (X + 1) W2 u → Below w.heap.size w u ∧ (∀ j, u.cell? ⟨X, j, none⟩ = (#[.int .i64 x.ret, .slice ba bn bc] : Array Value)[j]?)) := Lib.hid fun u hb =>
    ⟨HW2.out.trans (hb.mono (by omega)), fun j => by
      have : u.heap[X]? = _ := (hb.block X (by omega)).trans ((hb2.block X (by omega)).trans hbx)
      simp [World.cell?, this]⟩
  have HX := Lib.hid hX
  have HO := Lib.hid hbv
  have HOL := Lib.hid hblen
  have HFIT := Lib.hid hfit
  have HTB := Lib.hid ht
  have HTN := Lib.hid hT
  have hmany : bn ≤ 1000000000 := by have := hfit.many; omega
  have X1 := Lib.hid (type_txt hret)
  have C1 := Lib.hid (says_type (W := W2) hret (ht.since HW2.out).pow (StrTab.since hT HW2.out))
  obtain ⟨t1, h1⟩ : ∃ t, t = mk (typeText x.ret) := ⟨_, rfl⟩
  rw [← h1] at X1 C1
  have z1 := X1.out.size
  have x0 := (HBX.out W2 (Below.refl _ _)).2 0
  clear hbv hblen hfit ht hT hb1 hb2 hbx h1 hret
  go_enter Tryd.func9, Tryd.ntmps9
  go_upto_region 2 with fail
  rw [← hX, ← hW1]
  try rw [hz1]
  rw [← hW2]
  clear hW2 hW1 hX hz1
  go_wp2_with fail
  refine (C1.out.go (Below.refl _ _)).mono ?_
  rintro e w1 ⟨rfl, hb1⟩
  have HB1 := Lib.hid (builder_news HB2.out hb1)
  have HC1 : RowKit.Hid (Below (X + 1) W2 w1) := Lib.hid (hb1.mono HXZ.out)
  clear hb1 x0
  go_wp2_with fail
  refine (write_text (X + 1) (X + 1) _ (mkB [102, 117, 110, 99, 32] ++ t1 ++ mkB [10]) w1 HB1.out (by rw [Lib.byteCells_length, (((Txt.lit [102, 117, 110, 99, 32]).app X1.out).app (Txt.lit [10])).is, mkB_size]; have h1 := X1.out.len; simp only [List.length_append, List.length_cons, List.length_nil]; omega) (Nat.le_trans HXZ.out HC1.out.size)).mono ?_
  rintro e w3 ⟨rfl, h3, hb3, _⟩
  have HB3 := Lib.hid (builder_text (l := []) (((Txt.lit [102, 117, 110, 99, 32]).app X1.out).app (Txt.lit [10])).is h3)
  have HC3 : RowKit.Hid (Below (X + 1) W2 w3) := Lib.hid (HC1.out.trans hb3)
  clear h3 hb3 z1
  have x1 := (HBX.out w3 HC3.out).2 1
  have HST : RowKit.Hid (Lib.IsBuilderF 55 5 (X + 1) (X + 1) (Lib.byteCells (funcHead x ++ blocksText 0 0 (x.blocks.take 0))) w3 ∧ Below (X + 1) W2 w3) := Lib.hid ⟨by simpa [funcHead, blocksText] using HB3.out, HC3.out⟩
  clear HB3 HC3 HB1 HC1
  go_wp2_with fail
  go_loopw [4, 15] (fun nv iv wr => ∃ k : Nat, k ≤ bn ∧ iv = .int .i64 (k : Int) ∧ nv = .int .i64 ((valsN (x.blocks.take k) : Nat) : Int) ∧ wr.cell? ⟨X, 1, none⟩ = some (.slice ba bn bc) ∧ RowKit.Hid (Lib.IsBuilderF 55 5 (X + 1) (X + 1) (Lib.byteCells (funcHead x ++ blocksText 0 0 (x.blocks.take k))) wr ∧ Below (X + 1) W2 wr)) (fun _ iv _ => bn - (intOf iv).toNat)
  case atStart => exact ⟨0, Nat.zero_le _, rfl, by simp [valsN], x1, HST⟩
  case round =>
    obtain ⟨k, hk, rfl, rfl, hx1, HI⟩ := hrel
    have HPRE : RowKit.Hid (∀ q, (funcHead x ++ blocksText 0 0 (x.blocks.take q)).length ≤ 1000000000000) := Lib.hid fun q => by
      have h1 := HFIT.out.len
      have h2 := blocksText_take 0 0 x.blocks q
      unfold funcText at h1
      simp only [List.length_append] at h1 ⊢
      omega
    by_cases hlt : k < bn
    · have HLT := Lib.hid hlt
      have HKL : RowKit.Hid (k < x.blocks.length) := Lib.hid (by rw [HOL.out]; exact hlt)
      obtain ⟨h, oo, rfl, hh, hcs⟩ := rowV_at_ HO.out (by omega)
      obtain ⟨cs, hc8, hcell, hq⟩ := hcs k HKL.out
      obtain ⟨y, hye⟩ : ∃ y, y = x.blocks[k]'HKL.out := ⟨_, rfl⟩
      rw [← hye] at hq
      have HYE : RowKit.Hid (x.blocks[k]'HKL.out = y) := Lib.hid hye.symm
      have hfy : FitBlock y := by rw [hye]; exact HFIT.out.blocks _ (List.getElem_mem HKL.out)
      have hq0 := hq
      obtain ⟨pv, ov, es, rfl, ⟨pa, pn, pc, rfl, hpat, _⟩, hov, l1, m1, rfl, _, _, _, _, ⟨la, ln, lc, rfl, hlat, _⟩, ⟨ma, mn, mc, rfl, hmat, _⟩⟩ := hq0
      have hov' := hov
      obtain ⟨oa, on, oc, rfl, hol, _⟩ := hov'
      have hbw := (HBX.out wr HI.out.2).1
      have HQ : RowKit.Hid (∀ u, Below w.heap.size w u → BlockQ u [.slice pa pn pc, .slice oa on oc, .int .i64 y.fin.K, .int .i64 y.fin.A, .int .i64 y.fin.To, .int .i64 y.fin.Else, .slice la ln lc, .slice ma mn mc] y) := Lib.hid fun u hb => BlockQ.lasts _ _ _ _ hb hq
      have HCELL : RowKit.Hid (∀ u, Below w.heap.size w u → ∀ j (hj : j < ([.slice pa pn pc, .slice oa on oc, .int .i64 y.fin.K, .int .i64 y.fin.A, .int .i64 y.fin.To, .int .i64 y.fin.Else, .slice la ln lc, .slice ma mn mc] : List Value).length), u.cell? ⟨h, oo + k * 8 + j, none⟩ = some ([.slice pa pn pc, .slice oa on oc, .int .i64 y.fin.K, .int .i64 y.fin.A, .int .i64 y.fin.To, .int .i64 y.fin.Else, .slice la ln lc, .slice ma mn mc] : List Value)[j]) := Lib.hid fun u hb j hj => (hb.cell (p := ⟨h, oo + k * 8 + j, none⟩) hh).trans (hcell j hj)
      have HHH := Lib.hid hh
      have HVT : RowKit.Hid (valsN (x.blocks.take (k + 1)) = valsN (x.blocks.take k) + (pn + on)) := Lib.hid (by rw [List.take_succ_eq_append_getElem HKL.out, HYE.out, valsN_snoc, hpat.1, hol])
      have HVB : RowKit.Hid (valsN (x.blocks.take (k + 1)) ≤ 1000000000) := Lib.hid (Nat.le_trans (valsN_take _ _) HFIT.out.vals)
      have hv1 : valsN (x.blocks.take k) + (pn + on) ≤ 1000000000 := by rw [← HVT.out]; exact HVB.out
      have HTK : RowKit.Hid (blocksText 0 0 (x.blocks.take (k + 1)) = blocksText 0 0 (x.blocks.take k) ++ blockText k (valsN (x.blocks.take k)) y) := Lib.hid (by rw [List.take_succ_eq_append_getElem HKL.out, HYE.out, blocksText_snoc, List.length_take, Nat.min_eq_left (Nat.le_of_lt HKL.out), Nat.zero_add, Nat.zero_add])
      have HLB : RowKit.Hid ((blockText k (valsN (x.blocks.take k)) y).length ≤ 1000000000000) := Lib.hid (by have h1 := HPRE.out (k + 1); rw [HTK.out] at h1; simp only [List.length_append] at h1; omega)
      have HONE : RowKit.Hid (valuesOf ⟨0, [y]⟩ = ((pn + on : Nat) : Int)) := Lib.hid (by rw [one_vals y (by rw [hpat.1, hol]; omega), hpat.1, hol])
      have HCB := Lib.hid (block_any k (valsN (x.blocks.take k)) pa oa la ma pn pc on oc ln lc mn mc y wr (HQ.out wr hbw) (by rw [← hpat.1]; exact hfy.ps) (by rw [← hlat.1]; exact hfy.ls) (by rw [← hmat.1]; exact hfy.ms) hfy.ops (by omega) (by omega) HLB.out (HTB.out.since hbw) (StrTab.since HTN.out hbw))
      have XB : RowKit.Hid (Txt (mk (blockText k (valsN (x.blocks.take k)) y)) (blockText k (valsN (x.blocks.take k)) y) 1000000000000) := Lib.hid ⟨rfl, HLB.out⟩
      obtain ⟨s1, hs1⟩ : ∃ s, s = mk (blockText k (valsN (x.blocks.take k)) y) := ⟨_, rfl⟩
      rw [← hs1] at HCB XB
      have zb := XB.out.size
      obtain ⟨V, hV⟩ : ∃ V, V = valsN (x.blocks.take k) := ⟨_, rfl⟩
      have HV := Lib.hid hV
      rw [← hV] at hv1 HCB HVT ⊢
      have d0 := HCELL.out wr hbw 0 (by simp)
      have d1 := HCELL.out wr hbw 1 (by simp)
      have d2 := HCELL.out wr hbw 2 (by simp)
      have d3 := HCELL.out wr hbw 3 (by simp)
      have d4 := HCELL.out wr hbw 4 (by simp)
      have d5 := HCELL.out wr hbw 5 (by simp)
      have d6 := HCELL.out wr hbw 6 (by simp)
      have d7 := HCELL.out wr hbw 7 (by simp)
      simp only [Nat.add_zero, List.getElem_cons_zero, List.getElem_cons_succ] at d0 d1 d2 d3 d4 d5 d6 d7
      clear hcell hcs hye hc8 hq hpat hlat hmat hol hov hfy hbw hs1 hV
      go_wp2_with fail
      refine HCB.out.mono ?_
      rintro e w5 ⟨rfl, hb5⟩
      have HB5 := Lib.hid (builder_news HI.out.1 hb5)
      have HC5 : RowKit.Hid (Below (X + 1) W2 w5) := Lib.hid (HI.out.2.trans (hb5.mono (Nat.le_trans HXZ.out HI.out.2.size)))
      clear hb5 d0 d1 d2 d3 d4 d5 d6 d7 hx1
      go_wp2_with fail
      refine (write_text (X + 1) (X + 1) _ s1 w5 HB5.out (by rw [Lib.byteCells_length, XB.out.is, mkB_size]; have h1 := HPRE.out k; have h2 := XB.out.len; omega) (Nat.le_trans HXZ.out HC5.out.size)).mono ?_
      rintro e w6 ⟨rfl, h6, hb6, _⟩
      have HB6 := Lib.hid (builder_text XB.out.is h6)
      have HC6 : RowKit.Hid (Below (X + 1) W2 w6) := Lib.hid (HC5.out.trans hb6)
      clear h6 hb6 zb
      have hbw6 := (HBX.out w6 HC6.out).1
      have hx1 := (HBX.out w6 HC6.out).2 1
      have HFQ : RowKit.Hid (FuncQ w6 [.int .i64 0, .slice (some ⟨h, oo + k * 8, none⟩) 1 (bc - k)] ⟨0, [y]⟩) := Lib.hid ⟨_, rfl, ⟨show (-9223372036854775808 : Int) ≤ 0 by decide, show (0 : Int) ≤ 9223372036854775807 by decide⟩, _, _, _, rfl, rfl, (fun hh => by cases hh), by omega, fun _ => ⟨h, oo + k * 8, rfl, Nat.lt_of_lt_of_le HHH.out hbw6.size, fun i hi => by
        obtain rfl : i = 0 := by simpa using hi
        exact ⟨_, rfl, fun j hj => by rw [Nat.zero_mul, Nat.add_zero]; exact HCELL.out w6 hbw6 j hj, HQ.out w6 hbw6⟩⟩⟩
      have HCV := Lib.hid (code_values 0 (some ⟨h, oo + k * 8, none⟩) 1 (bc - k) ⟨0, [y]⟩ w6 HFQ.out)
      rw [HONE.out] at HCV
      rw [show ((pn + on : Nat) : Int) = (pn : Int) + (on : Int) by omega] at HCV
      have hsl := slice_blk h oo bn bc k HLT.out hcap
      clear hbw6
      go_wp2_with fail
      refine HCV.out.mono ?_
      rintro e w7 ⟨rfl, hb7⟩
      have HB7 := Lib.hid (builder_news HB6.out hb7)
      have HC7 : RowKit.Hid (Below (X + 1) W2 w7) := Lib.hid (HC6.out.trans (hb7.mono (Nat.le_trans HXZ.out HC6.out.size)))
      clear hb7 hx1
      go_wp2_with fail
      go_roundw
      case rel => exact ⟨k + 1, by have := HLT.out; omega, by go_num, by rw [HVT.out]; go_num, (HBX.out w7 HC7.out).2 1, Lib.hid ⟨by rw [HTK.out, ← List.append_assoc]; exact HB7.out, HC7.out⟩⟩
      case measure => simp [intOf]; omega
    · have HFULL : RowKit.Hid (funcHead x ++ blocksText 0 0 (x.blocks.take k) = funcText x) := Lib.hid (by rw [List.take_of_length_le (by rw [HOL.out]; omega)]; rfl)
      have HB9 : RowKit.Hid (Lib.IsBuilderF 55 5 (X + 1) (X + 1) (Lib.byteCells (funcText x)) wr) := Lib.hid (by rw [← HFULL.out]; exact HI.out.1)
      have HC9 := Lib.hid HI.out.2
      go_wp2_with fail
      refine (Tryd.Builder_String_any_k (X + 1) (X + 1) _ wr HB9.out (Nat.le_trans HXZ.out HC9.out.size)).mono ?_
      rintro e w7 ⟨rfl, _, hb7, _⟩
      have HD : RowKit.Hid (Below w.heap.size w w7) := Lib.hid ((HBX.out wr HC9.out).1.trans (hb7.mono (by have := HX.out; omega)))
      clear hb7
      go_wp2_with fail
      go_ret
      exact ⟨rfl, HD.out⟩
end Go.Proofs.YtccajbgdlicbnaaDoor

/- Layer 6: a program's text: package show's Prog, walked (mk_pg.py). -/
namespace Go.Proofs.YtccajbgdlicbnaaDoor
open Go.RowKit (wrap64 intOf Below)
set_option linter.unusedVariables false
set_option linter.unusedSimpArgs false
set_option linter.unnecessarySimpa false

def rowsText {α : Type} (T : α → List UInt8) : List α → List UInt8
  | [] => []
  | x :: r => T x ++ rowsText T r
theorem rowsText_snoc {α : Type} (T : α → List UInt8) : ∀ (xs : List α) (x : α), rowsText T (xs ++ [x]) = rowsText T xs ++ T x
  | [], x => by simp [rowsText]
  | y :: xs, x => by simp only [List.cons_append, rowsText, rowsText_snoc T xs x, List.append_assoc]
theorem rowsText_take {α : Type} (T : α → List UInt8) : ∀ (xs : List α) (k : Nat), (rowsText T (xs.take k)).length ≤ (rowsText T xs).length
  | [], k => by simp [rowsText]
  | x :: xs, 0 => by simp [rowsText]
  | x :: xs, k + 1 => by
    have := rowsText_take T xs k
    simp only [List.take_succ_cons, rowsText, List.length_append]
    omega
def pre1 (P : ProgD) : List UInt8 := []
def pre2 (P : ProgD) : List UInt8 := rowsText sigText P.sigs
def pre3 (P : ProgD) : List UInt8 := rowsText sigText P.sigs ++ rowsText classText P.classes
def progText (P : ProgD) : List UInt8 := rowsText sigText P.sigs ++ rowsText classText P.classes ++ rowsText funcText P.funcs
structure FitProg (P : ProgD) : Prop where
  sigs : ∀ y ∈ P.sigs, y.params.length ≤ 1048576
  fields : ∀ y ∈ P.classes, y.fields.length ≤ 1048576
  methods : ∀ y ∈ P.classes, y.methods.length ≤ 1048576
  funcs : ∀ y ∈ P.funcs, FitFunc y
  len : (progText P).length ≤ 1000000000000
/-- In a row of functions, each one's row of blocks is no longer than it may grow. -/
def CapsF (W : World) (v : Value) : Prop := ∀ h oo n c, v = .slice (some ⟨h, oo, none⟩) n c → ∀ i, i < n → ∀ ba bn bc, W.cell? ⟨h, oo + i * 2 + 1, none⟩ = some (.slice ba bn bc) → bn ≤ bc
theorem pre_len1 {P : ProgD} (h : FitProg P) (q : Nat) : (pre1 P ++ rowsText sigText (P.sigs.take q)).length ≤ 1000000000000 := by
  have h1 := h.len
  have h2 := rowsText_take sigText P.sigs q
  unfold progText at h1
  unfold pre1
  simp only [List.length_append, List.length_nil] at h1 ⊢
  omega
theorem pre_len2 {P : ProgD} (h : FitProg P) (q : Nat) : (pre2 P ++ rowsText classText (P.classes.take q)).length ≤ 1000000000000 := by
  have h1 := h.len
  have h2 := rowsText_take classText P.classes q
  unfold progText at h1
  unfold pre2
  simp only [List.length_append] at h1 ⊢
  omega
theorem pre_len3 {P : ProgD} (h : FitProg P) (q : Nat) : (pre3 P ++ rowsText funcText (P.funcs.take q)).length ≤ 1000000000000 := by
  have h1 := h.len
  have h2 := rowsText_take funcText P.funcs q
  unfold progText at h1
  unfold pre3
  simp only [List.length_append] at h1 ⊢
  omega

set_option maxRecDepth 100000 in
set_option maxHeartbeats 8000000 in
theorem prog_any (g off : Nat) (s c f : Value) (P : ProgD) (w : World) (hg : g < w.heap.size) (hc0 : w.cell? ⟨g, off, none⟩ = some s) (hc1 : w.cell? ⟨g, off + 1, none⟩ = some c) (hc2 : w.cell? ⟨g, off + 2, none⟩ = some f) (h : ProgQ w [s, c, f] P) (hcap : CapsF w f) (hfit : FitProg P) (ht : Tabs w) (hT : TN w) :
    Calls Tryd.prog 7 #[.pointer (some ⟨g, off, none⟩)] w fun e w' => e = .returned (.string (mk (progText P))) ∧ Below w.heap.size w w' := by
  obtain ⟨s1, c1, f1, he, hs, hc, hf⟩ := h
  simp only [List.cons.injEq, and_true] at he
  obtain ⟨rfl, rfl, rfl⟩ := he
  have hs' := hs
  have hc' := hc
  have hf' := hf
  obtain ⟨sa, sn, sc, rfl, hsl, _, hsm, _⟩ := hs'
  obtain ⟨ca, cn, cc, rfl, hcl, _, hcm, _⟩ := hc'
  obtain ⟨fa, fn, fc, rfl, hfl, _, hfm, _⟩ := hf'
  obtain ⟨X, hX⟩ : ∃ X, X = w.heap.size := ⟨_, rfl⟩
  obtain ⟨W2, hW2⟩ : ∃ W2, W2 = w.alloc (.cells #[.pointer none, .slice none 0 0] 55) := ⟨_, rfl⟩
  have HB2 : RowKit.Hid (Lib.IsBuilderF 55 5 X X (Lib.byteCells []) W2) := Lib.hid (by rw [hW2, hX]; exact Lib.IsBuilderF.of (Lib.fresh_isBuilder _ _ w))
  have HW2 : RowKit.Hid (Below X w W2) := Lib.hid (by rw [hW2, hX]; exact (Below.refl _ _).alloc (Nat.le_refl _) _)
  have HX := Lib.hid hX
  have HXZ : RowKit.Hid (X ≤ w.heap.size) := Lib.hid (by omega)
  have HW : RowKit.Hid (∀ u, Below X w u → Below w.heap.size w u) := Lib.hid fun u hb => by rw [← HX.out]; exact hb
  have HCE : RowKit.Hid (∀ u, Below X w u → u.cell? ⟨g, off, none⟩ = some (.slice sa sn sc) ∧ u.cell? ⟨g, off + 1, none⟩ = some (.slice ca cn cc) ∧ u.cell? ⟨g, off + 2, none⟩ = some (.slice fa fn fc)) := Lib.hid fun u hb =>
    ⟨((HW.out u hb).cell (p := ⟨g, off, none⟩) hg).trans hc0, ((HW.out u hb).cell (p := ⟨g, off + 1, none⟩) hg).trans hc1, ((HW.out u hb).cell (p := ⟨g, off + 2, none⟩) hg).trans hc2⟩
  have HS := Lib.hid hs
  have HC := Lib.hid hc
  have HF := Lib.hid hf
  have HSL := Lib.hid hsl
  have HCL := Lib.hid hcl
  have HFL := Lib.hid hfl
  have HFIT := Lib.hid hfit
  have HTB := Lib.hid ht
  have HTN := Lib.hid hT
  have HCAP := Lib.hid hcap
  have x0 := (HCE.out W2 HW2.out).1
  have HST : RowKit.Hid (Lib.IsBuilderF 55 5 X X (Lib.byteCells (pre1 P ++ rowsText sigText (P.sigs.take 0))) W2 ∧ Below X w W2) := Lib.hid ⟨HB2.out, HW2.out⟩
  clear hs hc hf hsl hcl hfl hfit ht hT hcap hc0 hc1 hc2
  go_enter Tryd.func7, Tryd.ntmps7
  go_upto_region 4 with fail
  rw [← hX, ← hW2]
  clear hW2 HB2 hX
  go_wp2_with fail
  go_loopw [17] (fun iv wr => ∃ k : Nat, k ≤ sn ∧ iv = .int .i64 (k : Int) ∧ RowKit.Hid (Lib.IsBuilderF 55 5 X X (Lib.byteCells (pre1 P ++ rowsText sigText (P.sigs.take k))) wr ∧ Below X w wr)) (fun iv _ => sn - (intOf iv).toNat)
  case atStart => exact ⟨0, Nat.zero_le _, rfl, HST⟩
  case round =>
    obtain ⟨k, hk, rfl, HI⟩ := hrel
    by_cases hlt : k < sn
    · have HLT := Lib.hid hlt
      have HKL : RowKit.Hid (k < P.sigs.length) := Lib.hid (by rw [HSL.out]; exact hlt)
      obtain ⟨h, oo, rfl, hh, hcs⟩ := rowV_at_ HS.out (by omega)
      obtain ⟨cs, hc8, hcell, hq⟩ := hcs k HKL.out
      obtain ⟨y, hye⟩ : ∃ y, y = P.sigs[k]'HKL.out := ⟨_, rfl⟩
      rw [← hye] at hq
      have HYE : RowKit.Hid (P.sigs[k]'HKL.out = y) := Lib.hid hye.symm
      have hym : y ∈ P.sigs := by rw [hye]; exact List.getElem_mem HKL.out
      have hq0 := hq
      obtain ⟨pv, rfl, ⟨pa, pn, pc, rfl, hpat, _⟩, _⟩ := hq0
      have hfy := HFIT.out.sigs y hym
      have hbw := HW.out wr HI.out.2
      have d0 : wr.cell? ⟨h, oo + k * 2, none⟩ = some (.slice pa pn pc) := (hbw.cell (p := ⟨h, oo + k * 2, none⟩) hh).trans (by have := hcell 0 (by simp); simpa using this)
      have e1 : w.cell? ⟨h, oo + k * 2 + 1, none⟩ = some (.int .i64 y.ret) := by have := hcell 1 (by simp); simpa using this
      have d1 := (hbw.cell (p := ⟨h, oo + k * 2 + 1, none⟩) hh).trans e1
      have HCB : RowKit.Hid (Says w 15 #[.agg #[.slice pa pn pc, .int .i64 y.ret]] (mk (sigText y))) := Lib.hid fun u hb => sig_any pa pn pc y u (SigQ.lasts _ _ _ _ hb hq) (by rw [← hpat.1]; exact hfy) (HTB.out.since hb).pow (StrTab.since HTN.out hb)
      have HTK : RowKit.Hid (rowsText sigText (P.sigs.take (k + 1)) = rowsText sigText (P.sigs.take k) ++ sigText y) := Lib.hid (by rw [List.take_succ_eq_append_getElem HKL.out, HYE.out, rowsText_snoc])
      have XB : RowKit.Hid (Txt (mk (sigText y)) (sigText y) 1000000000000) := Lib.hid ⟨rfl, by have h1 := pre_len1 HFIT.out (k + 1); rw [HTK.out] at h1; simp only [List.length_append] at h1; omega⟩
      obtain ⟨s1, hs1⟩ : ∃ s, s = mk (sigText y) := ⟨_, rfl⟩
      rw [← hs1] at HCB XB
      have zb := XB.out.size
      have HA : RowKit.Hid (∀ o, Below w.heap.size w (wr.alloc o)) := Lib.hid fun o => keepS hbw ((Below.refl _ _).alloc (Nat.le_refl _) o)
      have HXR : RowKit.Hid (X ≤ wr.heap.size) := Lib.hid (Nat.le_trans HXZ.out HI.out.2.size)
      clear hcell hcs hye hc8 hq hfy hym hbw hs1 e1 hh hpat
      go_wp2_with fail
      refine (HCB.out _ (HA.out _)).mono ?_
      rintro e w5 ⟨rfl, hb5⟩
      have hb5' := keepS ((Below.refl wr.heap.size wr).alloc (Nat.le_refl _) _) hb5
      have HB5 := Lib.hid (builder_news HI.out.1 hb5')
      have HC5 : RowKit.Hid (Below X w w5) := Lib.hid (HI.out.2.trans (hb5'.mono HXR.out))
      clear hb5 hb5' d0 d1
      go_wp2_with fail
      refine (write_text X X _ s1 w5 HB5.out (by rw [Lib.byteCells_length, XB.out.is, mkB_size]; have h1 := pre_len1 HFIT.out k; have h2 := XB.out.len; omega) (Nat.le_trans HXZ.out HC5.out.size)).mono ?_
      rintro e w6 ⟨rfl, h6, hb6, _⟩
      have HB6 := Lib.hid (builder_text XB.out.is h6)
      have HC6 : RowKit.Hid (Below X w w6) := Lib.hid (HC5.out.trans hb6)
      clear h6 hb6 zb
      go_wp2_with fail
      go_roundw
      case rel => exact ⟨k + 1, by have := HLT.out; omega, by go_num, Lib.hid ⟨by rw [HTK.out, ← List.append_assoc]; exact HB6.out, HC6.out⟩⟩
      case measure => simp [intOf]; omega
    · have HFULL : RowKit.Hid (pre1 P ++ rowsText sigText (P.sigs.take k) = pre2 P ++ rowsText classText (P.classes.take 0)) := Lib.hid (by rw [List.take_of_length_le (by rw [HSL.out]; omega)]; simp [pre1, pre2, pre3, rowsText])
      have HST : RowKit.Hid (Lib.IsBuilderF 55 5 X X (Lib.byteCells (pre2 P ++ rowsText classText (P.classes.take 0))) wr ∧ Below X w wr) := Lib.hid ⟨by rw [← HFULL.out]; exact HI.out.1, HI.out.2⟩
      have x1 := (HCE.out wr HI.out.2).2.1
      clear HI HFULL
      go_wp2_with fail
      go_loopw [30] (fun iv wr => ∃ k : Nat, k ≤ cn ∧ iv = .int .i64 (k : Int) ∧ RowKit.Hid (Lib.IsBuilderF 55 5 X X (Lib.byteCells (pre2 P ++ rowsText classText (P.classes.take k))) wr ∧ Below X w wr)) (fun iv _ => cn - (intOf iv).toNat)
      case atStart => exact ⟨0, Nat.zero_le _, rfl, HST⟩
      case round =>
        obtain ⟨k, hk, rfl, HI⟩ := hrel
        by_cases hlt : k < cn
        · have HLT := Lib.hid hlt
          have HKL : RowKit.Hid (k < P.classes.length) := Lib.hid (by rw [HCL.out]; exact hlt)
          obtain ⟨h, oo, rfl, hh, hcs⟩ := rowV_at_ HC.out (by omega)
          obtain ⟨cs, hc8, hcell, hq⟩ := hcs k HKL.out
          obtain ⟨y, hye⟩ : ∃ y, y = P.classes[k]'HKL.out := ⟨_, rfl⟩
          rw [← hye] at hq
          have HYE : RowKit.Hid (P.classes[k]'HKL.out = y) := Lib.hid hye.symm
          have hym : y ∈ P.classes := by rw [hye]; exact List.getElem_mem HKL.out
          have hq0 := hq
          obtain ⟨pv, qv, rfl, ⟨pa, pn, pc, rfl, hpat, _⟩, ⟨qa, qn, qc, rfl, hqat, _⟩⟩ := hq0
          have hfy := HFIT.out.fields y hym
          have hfz := HFIT.out.methods y hym
          have hbw := HW.out wr HI.out.2
          have d0 : wr.cell? ⟨h, oo + k * 2, none⟩ = some (.slice pa pn pc) := (hbw.cell (p := ⟨h, oo + k * 2, none⟩) hh).trans (by have := hcell 0 (by simp); simpa using this)
          have e1 : w.cell? ⟨h, oo + k * 2 + 1, none⟩ = some (.slice qa qn qc) := by have := hcell 1 (by simp); simpa using this
          have d1 := (hbw.cell (p := ⟨h, oo + k * 2 + 1, none⟩) hh).trans e1
          have HCB : RowKit.Hid (Says w 16 #[.agg #[.slice pa pn pc, .slice qa qn qc]] (mk (classText y))) := Lib.hid fun u hb => class_any pa qa pn pc qn qc y u (ClassQ.lasts _ _ _ _ hb hq) (by rw [← hpat.1]; exact hfy) (by rw [← hqat.1]; exact hfz) (HTB.out.since hb).pow (StrTab.since HTN.out hb)
          have HTK : RowKit.Hid (rowsText classText (P.classes.take (k + 1)) = rowsText classText (P.classes.take k) ++ classText y) := Lib.hid (by rw [List.take_succ_eq_append_getElem HKL.out, HYE.out, rowsText_snoc])
          have XB : RowKit.Hid (Txt (mk (classText y)) (classText y) 1000000000000) := Lib.hid ⟨rfl, by have h1 := pre_len2 HFIT.out (k + 1); rw [HTK.out] at h1; simp only [List.length_append] at h1; omega⟩
          obtain ⟨s1, hs1⟩ : ∃ s, s = mk (classText y) := ⟨_, rfl⟩
          rw [← hs1] at HCB XB
          have zb := XB.out.size
          have HA : RowKit.Hid (∀ o, Below w.heap.size w (wr.alloc o)) := Lib.hid fun o => keepS hbw ((Below.refl _ _).alloc (Nat.le_refl _) o)
          have HXR : RowKit.Hid (X ≤ wr.heap.size) := Lib.hid (Nat.le_trans HXZ.out HI.out.2.size)
          clear hcell hcs hye hc8 hq hfy hym hbw hs1 e1 hh hpat hqat hfz
          go_wp2_with fail
          refine (HCB.out _ (HA.out _)).mono ?_
          rintro e w5 ⟨rfl, hb5⟩
          have hb5' := keepS ((Below.refl wr.heap.size wr).alloc (Nat.le_refl _) _) hb5
          have HB5 := Lib.hid (builder_news HI.out.1 hb5')
          have HC5 : RowKit.Hid (Below X w w5) := Lib.hid (HI.out.2.trans (hb5'.mono HXR.out))
          clear hb5 hb5' d0 d1
          go_wp2_with fail
          refine (write_text X X _ s1 w5 HB5.out (by rw [Lib.byteCells_length, XB.out.is, mkB_size]; have h1 := pre_len2 HFIT.out k; have h2 := XB.out.len; omega) (Nat.le_trans HXZ.out HC5.out.size)).mono ?_
          rintro e w6 ⟨rfl, h6, hb6, _⟩
          have HB6 := Lib.hid (builder_text XB.out.is h6)
          have HC6 : RowKit.Hid (Below X w w6) := Lib.hid (HC5.out.trans hb6)
          clear h6 hb6 zb
          go_wp2_with fail
          go_roundw
          case rel => exact ⟨k + 1, by have := HLT.out; omega, by go_num, Lib.hid ⟨by rw [HTK.out, ← List.append_assoc]; exact HB6.out, HC6.out⟩⟩
          case measure => simp [intOf]; omega
        · have HFULL : RowKit.Hid (pre2 P ++ rowsText classText (P.classes.take k) = pre3 P ++ rowsText funcText (P.funcs.take 0)) := Lib.hid (by rw [List.take_of_length_le (by rw [HCL.out]; omega)]; simp [pre1, pre2, pre3, rowsText])
          have HST : RowKit.Hid (Lib.IsBuilderF 55 5 X X (Lib.byteCells (pre3 P ++ rowsText funcText (P.funcs.take 0))) wr ∧ Below X w wr) := Lib.hid ⟨by rw [← HFULL.out]; exact HI.out.1, HI.out.2⟩
          have x2 := (HCE.out wr HI.out.2).2.2
          clear HI HFULL
          go_wp2_with fail
          go_loopw [43] (fun iv wr => ∃ k : Nat, k ≤ fn ∧ iv = .int .i64 (k : Int) ∧ RowKit.Hid (Lib.IsBuilderF 55 5 X X (Lib.byteCells (pre3 P ++ rowsText funcText (P.funcs.take k))) wr ∧ Below X w wr)) (fun iv _ => fn - (intOf iv).toNat)
          case atStart => exact ⟨0, Nat.zero_le _, rfl, HST⟩
          case round =>
            obtain ⟨k, hk, rfl, HI⟩ := hrel
            by_cases hlt : k < fn
            · have HLT := Lib.hid hlt
              have HKL : RowKit.Hid (k < P.funcs.length) := Lib.hid (by rw [HFL.out]; exact hlt)
              obtain ⟨h, oo, rfl, hh, hcs⟩ := rowV_at_ HF.out (by omega)
              obtain ⟨cs, hc8, hcell, hq⟩ := hcs k HKL.out
              obtain ⟨y, hye⟩ : ∃ y, y = P.funcs[k]'HKL.out := ⟨_, rfl⟩
              rw [← hye] at hq
              have HYE : RowKit.Hid (P.funcs[k]'HKL.out = y) := Lib.hid hye.symm
              have hym : y ∈ P.funcs := by rw [hye]; exact List.getElem_mem HKL.out
              have hq0 := hq
              obtain ⟨bv, rfl, _, hbv⟩ := hq0
              obtain ⟨ba, bn, bc, rfl, _⟩ := hbv
              have hfy := HFIT.out.funcs y hym
              have hbw := HW.out wr HI.out.2
              have d0 : wr.cell? ⟨h, oo + k * 2, none⟩ = some (.int .i64 y.ret) := (hbw.cell (p := ⟨h, oo + k * 2, none⟩) hh).trans (by have := hcell 0 (by simp); simpa using this)
              have e1 : w.cell? ⟨h, oo + k * 2 + 1, none⟩ = some (.slice ba bn bc) := by have := hcell 1 (by simp); simpa using this
              have d1 := (hbw.cell (p := ⟨h, oo + k * 2 + 1, none⟩) hh).trans e1
              have hcp := HCAP.out h oo fn fc rfl k hlt ba bn bc e1
              have HCB : RowKit.Hid (Says w 9 #[.agg #[.int .i64 y.ret, .slice ba bn bc]] (mk (funcText y))) := Lib.hid fun u hb => func_any ba bn bc y u (FuncQ.lasts _ _ _ _ hb hq) hcp hfy (HTB.out.since hb) (StrTab.since HTN.out hb)
              have HTK : RowKit.Hid (rowsText funcText (P.funcs.take (k + 1)) = rowsText funcText (P.funcs.take k) ++ funcText y) := Lib.hid (by rw [List.take_succ_eq_append_getElem HKL.out, HYE.out, rowsText_snoc])
              have XB : RowKit.Hid (Txt (mk (funcText y)) (funcText y) 1000000000000) := Lib.hid ⟨rfl, by have h1 := pre_len3 HFIT.out (k + 1); rw [HTK.out] at h1; simp only [List.length_append] at h1; omega⟩
              obtain ⟨s1, hs1⟩ : ∃ s, s = mk (funcText y) := ⟨_, rfl⟩
              rw [← hs1] at HCB XB
              have zb := XB.out.size
              have HA : RowKit.Hid (∀ o, Below w.heap.size w (wr.alloc o)) := Lib.hid fun o => keepS hbw ((Below.refl _ _).alloc (Nat.le_refl _) o)
              have HXR : RowKit.Hid (X ≤ wr.heap.size) := Lib.hid (Nat.le_trans HXZ.out HI.out.2.size)
              clear hcell hcs hye hc8 hq hfy hym hbw hs1 e1 hh hcp
              go_wp2_with fail
              refine (HCB.out _ (HA.out _)).mono ?_
              rintro e w5 ⟨rfl, hb5⟩
              have hb5' := keepS ((Below.refl wr.heap.size wr).alloc (Nat.le_refl _) _) hb5
              have HB5 := Lib.hid (builder_news HI.out.1 hb5')
              have HC5 : RowKit.Hid (Below X w w5) := Lib.hid (HI.out.2.trans (hb5'.mono HXR.out))
              clear hb5 hb5' d0 d1
              go_wp2_with fail
              refine (write_text X X _ s1 w5 HB5.out (by rw [Lib.byteCells_length, XB.out.is, mkB_size]; have h1 := pre_len3 HFIT.out k; have h2 := XB.out.len; omega) (Nat.le_trans HXZ.out HC5.out.size)).mono ?_
              rintro e w6 ⟨rfl, h6, hb6, _⟩
              have HB6 := Lib.hid (builder_text XB.out.is h6)
              have HC6 : RowKit.Hid (Below X w w6) := Lib.hid (HC5.out.trans hb6)
              clear h6 hb6 zb
              go_wp2_with fail
              go_roundw
              case rel => exact ⟨k + 1, by have := HLT.out; omega, by go_num, Lib.hid ⟨by rw [HTK.out, ← List.append_assoc]; exact HB6.out, HC6.out⟩⟩
              case measure => simp [intOf]; omega
            · have HFULL : RowKit.Hid (pre3 P ++ rowsText funcText (P.funcs.take k) = progText P) := Lib.hid (by rw [List.take_of_length_le (by rw [HFL.out]; omega)]; rfl)
              have HB9 : RowKit.Hid (Lib.IsBuilderF 55 5 X X (Lib.byteCells (progText P)) wr) := Lib.hid (by rw [← HFULL.out]; exact HI.out.1)
              have HC9 := Lib.hid HI.out.2
              go_wp2_with fail
              refine (Tryd.Builder_String_any_k X X _ wr HB9.out (Nat.le_trans HXZ.out HC9.out.size)).mono ?_
              rintro e w7 ⟨rfl, _, hb7, _⟩
              have HD : RowKit.Hid (Below w.heap.size w w7) := Lib.hid (HW.out _ (HC9.out.trans hb7))
              clear hb7
              go_wp2_with fail
              go_ret
              exact ⟨rfl, HD.out⟩
end Go.Proofs.YtccajbgdlicbnaaDoor

/- Layer 6, P6.4, plain: two programs whose kinds are such as there are have one text just if they are the same, but for what plays no part. -/
namespace Go.Proofs.YtccajbgdlicbnaaDoor
set_option linter.unusedVariables false
set_option linter.unusedSimpArgs false

/-! ## Words -/
theorem name_word {ls : List (List UInt8)} (hl : ∀ x ∈ ls, Tok x) (hq : Tok [63]) (n : Int) : Tok (nameOf ls n) := by
  unfold nameOf
  split
  · exact hq
  · rename_i h
    have hk : n.toNat < ls.length := by omega
    rw [List.getD_eq_getElem?_getD, List.getElem?_eq_getElem hk]
    exact hl _ (List.getElem_mem hk)
theorem name_inj {ls : List (List UInt8)} (hn : ls.Nodup) {a b : Int} (ha0 : 0 ≤ a) (ha1 : a < ls.length) (hb0 : 0 ≤ b) (hb1 : b < ls.length) (h : nameOf ls a = nameOf ls b) : a = b := by
  unfold nameOf at h
  rw [if_neg (by omega), if_neg (by omega)] at h
  have hka : a.toNat < ls.length := by omega
  have hkb : b.toNat < ls.length := by omega
  rw [List.getD_eq_getElem?_getD, List.getD_eq_getElem?_getD, List.getElem?_eq_getElem hka, List.getElem?_eq_getElem hkb] at h
  have := (List.getElem_inj hn).1 h
  omega
instance (x : List UInt8) : Decidable (Tok x) := by unfold Tok; infer_instance
theorem tok_q : Tok [63] := by decide
theorem types_tok : ∀ x ∈ typeNames, Tok x := by decide
theorem steps_tok : ∀ x ∈ stepNames, Tok x := by decide
theorem signs_tok : ∀ x ∈ signNames, Tok x := by decide
theorem type_tok (t : Int) : Tok (typeText t) := by
  unfold typeText
  split
  · intro c hc
    rw [List.mem_cons] at hc
    rcases hc with rfl | hc
    · decide
    · exact itoa_tok _ c hc
  · exact name_word types_tok tok_q _
theorem types_no42 : ∀ x ∈ typeNames, x.head? ≠ some 42 := by decide
theorem type_inj {a b : Int} (ha : -1 ≤ a) (hb : -1 ≤ b) (h : typeText a = typeText b) : a = b := by
  have hl : (typeNames.length : Int) = 7 := rfl
  have hno : ∀ (n : Int) (t : List UInt8), nameOf typeNames n ≠ 42 :: t := by
    intro n t e
    unfold nameOf at e
    split at e
    · cases e
    · rename_i hn
      have hk : n.toNat < typeNames.length := by omega
      rw [List.getD_eq_getElem?_getD, List.getElem?_eq_getElem hk] at e
      have := types_no42 _ (List.getElem_mem hk)
      simp only [Option.getD_some] at e
      rw [e] at this
      exact this rfl
  unfold typeText at h
  split at h <;> split at h
  · have := itoa_inj (List.cons.inj h).2; omega
  · exact absurd h.symm (hno _ _)
  · exact absurd h (hno _ _)
  · have := name_inj (by decide) (by omega) (by omega) (by omega) (by omega) h; omega
theorem types_some : ∀ x ∈ typeNames, x ≠ [] := by decide
theorem type_some (t : Int) : typeText t ≠ [] := by
  unfold typeText
  split
  · simp
  · unfold nameOf
    split
    · simp
    · rename_i h
      have hk : (t + 1).toNat < typeNames.length := by omega
      rw [List.getD_eq_getElem?_getD, List.getElem?_eq_getElem hk]
      exact types_some _ (List.getElem_mem hk)
theorem value_tok (z : Int) : Tok (valueText z) := by
  intro c hc
  unfold valueText at hc
  rw [List.mem_cons] at hc
  rcases hc with rfl | hc
  · decide
  · exact itoa_tok _ c hc
theorem value_inj {a b : Int} (h : valueText a = valueText b) : a = b := itoa_inj (List.cons.inj h).2

/-! ## Lists -/
def From1 (z : Int) : Prop := -1 ≤ z
theorem listT_cut {Y Z : List Int} {r s : List UInt8} (hY : ∀ z ∈ Y, From1 z) (hZ : ∀ z ∈ Z, From1 z) (h : listT typeText Y ++ r = listT typeText Z ++ s) : Y = Z ∧ r = s := by
  unfold listT listText at h
  simp only [List.cons_append, List.append_assoc, List.cons.injEq, true_and, List.nil_append] at h
  obtain ⟨e1, e2⟩ := join_cut (T := typeText) (P := From1) (fun z _ => type_tok z) (fun a b ha hb e => type_inj ha hb e) (fun z _ => type_some z) hY hZ ⟨r, .inl rfl⟩ ⟨s, .inl rfl⟩ h
  exact ⟨e1, (List.cons.inj e2).2⟩
theorem listV_cut {Y Z : List Int} {r s : List UInt8} (h : listV Y ++ r = listV Z ++ s) : Y = Z ∧ r = s := by
  unfold listV listText at h
  simp only [List.cons_append, List.append_assoc, List.cons.injEq, true_and, List.nil_append] at h
  obtain ⟨e1, e2⟩ := join_cut (T := valueText) (P := fun _ => True) (fun z _ => value_tok z) (fun a b _ _ e => value_inj e) (fun z _ => by simp [valueText]) (fun _ _ => trivial) (fun _ _ => trivial) ⟨r, .inl rfl⟩ ⟨s, .inl rfl⟩ h
  exact ⟨e1, (List.cons.inj e2).2⟩
theorem listM_cut {Y Z : List Int} {r s : List UInt8} (h : listText Lib.itoa Y ++ 93 :: r = listText Lib.itoa Z ++ 93 :: s) : Y = Z ∧ r = s := by
  unfold listText at h
  obtain ⟨e1, e2⟩ := join_cut (T := Lib.itoa) (P := fun _ => True) (fun z _ => itoa_tok z) (fun a b _ _ e => itoa_inj e) (fun z _ => itoa_some z) (fun _ _ => trivial) (fun _ _ => trivial) ⟨r, .inr rfl⟩ ⟨s, .inr rfl⟩ h
  exact ⟨e1, (List.cons.inj e2).2⟩

/-! ## Steps -/
def Nl (r : List UInt8) : Prop := ∃ t, r = 10 :: t
theorem Nl.beh {r : List UInt8} (h : Nl r) : Beh r := by obtain ⟨t, rfl⟩ := h; exact beh_cons _ (by decide)
theorem fields_beh (F : UInt8 → List UInt8) : ∀ (fs : List UInt8) {r : List UInt8}, Nl r → Beh (fieldsText F fs ++ r)
  | [], r, h => h.beh
  | f :: fs, r, h => by
    have e : fieldsText F (f :: fs) ++ r = shownF F f ++ (fieldsText F fs ++ r) := by simp [fieldsText]
    rw [e]
    unfold shownF
    split
    · exact fields_beh F fs h
    · exact beh_cons _ (by decide)
/-- A field that stands ahead of others can be told from what is behind. -/
def FieldCut (F G : UInt8 → List UInt8) (f : UInt8) : Prop := ∀ r s, Beh r → Beh s → shownF F f ++ r = shownF G f ++ s → F f = G f ∧ r = s
def LastCut (F G : UInt8 → List UInt8) (f : UInt8) : Prop := ∀ r s, Nl r → Nl s → shownF F f ++ r = shownF G f ++ s → F f = G f ∧ r = s
theorem fields_cut {F G : UInt8 → List UInt8} (h1 : ∀ f, f ≠ 75 → f ∈ ([78, 83, 65, 66, 67, 76] : List UInt8) → FieldCut F G f) (h2 : LastCut F G 75) :
    ∀ (fs : List UInt8) {r s : List UInt8}, 75 ∉ fs.dropLast → (∀ f ∈ fs, f ∈ ([78, 83, 65, 66, 67, 76, 75] : List UInt8)) → Nl r → Nl s → fieldsText F fs ++ r = fieldsText G fs ++ s → (∀ f ∈ fs, F f = G f) ∧ r = s
  | [], r, s, _, _, _, _, h => ⟨fun f hf => absurd hf (by simp), h⟩
  | [f], r, s, hl, hm, hr, hs, h => by
    have e : ∀ F r, fieldsText F [f] ++ r = shownF F f ++ r := by intro F r; simp [fieldsText]
    rw [e, e] at h
    by_cases h75 : f = 75
    · subst h75
      obtain ⟨e1, e2⟩ := h2 r s hr hs h
      exact ⟨fun f hf => by simp at hf; subst hf; exact e1, e2⟩
    · have hf := hm f (by simp)
      simp only [List.mem_cons, List.not_mem_nil, or_false] at hf
      obtain ⟨e1, e2⟩ := h1 f h75 (by simp only [List.mem_cons, List.not_mem_nil, or_false]; rcases hf with h | h | h | h | h | h | h <;> simp_all) r s hr.beh hs.beh h
      exact ⟨fun f hf => by simp at hf; subst hf; exact e1, e2⟩
  | f :: g :: fs, r, s, hl, hm, hr, hs, h => by
    have e : ∀ F r, fieldsText F (f :: g :: fs) ++ r = shownF F f ++ (fieldsText F (g :: fs) ++ r) := by intro F r; simp [fieldsText]
    rw [e, e] at h
    have h75 : f ≠ 75 := fun e => hl (by simp [e])
    have hf := hm f (by simp)
    simp only [List.mem_cons, List.not_mem_nil, or_false] at hf
    obtain ⟨e1, e2⟩ := h1 f h75 (by simp only [List.mem_cons, List.not_mem_nil, or_false]; rcases hf with h | h | h | h | h | h | h <;> simp_all) _ _ (fields_beh F (g :: fs) hr) (fields_beh G (g :: fs) hs) h
    obtain ⟨e3, e4⟩ := fields_cut h1 h2 (g :: fs) (fun hx => hl (by simp only [List.dropLast_cons_cons] at hx ⊢; simp [hx])) (fun x hx => hm x (List.mem_cons_of_mem _ hx)) hr hs e2
    exact ⟨fun x hx => (List.mem_cons.1 hx).elim (fun e => by rw [e]; exact e1) (e3 x), e4⟩

def oF (o : OpD) : UInt8 → List UInt8 := fieldF o.K o.A o.B o.C o.N o.S o.L o.T
theorem field_tok {o p : OpD} {f : UInt8} (h1 : Tok (oF o f)) (h2 : Tok (oF p f)) (n1 : oF o f ≠ []) (n2 : oF p f ≠ []) : FieldCut (oF o) (oF p) f := by
  intro r s hr hs h
  unfold shownF at h
  rw [if_neg n1, if_neg n2] at h
  exact tok_cut h1 h2 hr hs (List.cons.inj h).2
theorem oF_78 (o : OpD) : oF o 78 = numberText o.K o.N := by simp [oF, fieldF, plainField]
theorem oF_65 (o : OpD) : oF o 65 = valueText o.A := by simp [oF, fieldF, plainField]
theorem oF_66 (o : OpD) : oF o 66 = valueText o.B := by simp [oF, fieldF, plainField]
theorem oF_67 (o : OpD) : oF o 67 = valueText o.C := by simp [oF, fieldF, plainField]
theorem oF_83 (o : OpD) : oF o 83 = quoteL o.S.data.toList := by simp [oF, fieldF]
theorem oF_76 (o : OpD) : oF o 76 = listV o.L := by simp [oF, fieldF]
theorem oF_75 (o : OpD) : oF o 75 = stackText o.T := by simp [oF, fieldF, plainField]
theorem number_tok (K N : Int) : Tok (numberText K N) := by
  unfold numberText
  split
  · exact name_word signs_tok tok_q _
  · exact itoa_tok _
theorem signs_some : ∀ x ∈ signNames, x ≠ [] := by decide
theorem name_some {ls : List (List UInt8)} (hl : ∀ x ∈ ls, x ≠ []) (n : Int) : nameOf ls n ≠ [] := by
  unfold nameOf
  split
  · simp
  · have hk : n.toNat < ls.length := by omega
    rw [List.getD_eq_getElem?_getD, List.getElem?_eq_getElem hk]
    exact hl _ (List.getElem_mem hk)
theorem number_some (K N : Int) : numberText K N ≠ [] := by
  unfold numberText
  split
  · exact name_some signs_some N
  · exact itoa_some _
theorem value_some (z : Int) : valueText z ≠ [] := by simp [valueText]
theorem op_cut1 (o p : OpD) (f : UInt8) (h : f ≠ 75) (hf : f ∈ ([78, 83, 65, 66, 67, 76] : List UInt8)) : FieldCut (oF o) (oF p) f := by
  simp only [List.mem_cons, List.not_mem_nil, or_false] at hf
  rcases hf with rfl | rfl | rfl | rfl | rfl | rfl
  · exact field_tok (by rw [oF_78]; exact number_tok _ _) (by rw [oF_78]; exact number_tok _ _) (by rw [oF_78]; exact number_some _ _) (by rw [oF_78]; exact number_some _ _)
  · intro r s hr hs h
    unfold shownF at h
    rw [oF_83, oF_83, if_neg (by simp [quoteL]), if_neg (by simp [quoteL])] at h
    obtain ⟨e1, e2⟩ := quote_cut (List.cons.inj h).2
    exact ⟨by rw [oF_83, oF_83, e1], e2⟩
  · exact field_tok (by rw [oF_65]; exact value_tok _) (by rw [oF_65]; exact value_tok _) (by rw [oF_65]; exact value_some _) (by rw [oF_65]; exact value_some _)
  · exact field_tok (by rw [oF_66]; exact value_tok _) (by rw [oF_66]; exact value_tok _) (by rw [oF_66]; exact value_some _) (by rw [oF_66]; exact value_some _)
  · exact field_tok (by rw [oF_67]; exact value_tok _) (by rw [oF_67]; exact value_tok _) (by rw [oF_67]; exact value_some _) (by rw [oF_67]; exact value_some _)
  · intro r s hr hs h
    unfold shownF at h
    rw [oF_76, oF_76, if_neg (by simp [listV]), if_neg (by simp [listV])] at h
    obtain ⟨e1, e2⟩ := listV_cut (List.cons.inj h).2
    exact ⟨by rw [oF_76, oF_76, e1], e2⟩
theorem op_cut2 (o p : OpD) : LastCut (oF o) (oF p) 75 := by
  intro r s ⟨t, hr⟩ ⟨u, hs⟩ h
  unfold shownF at h
  rw [oF_75, oF_75] at h ⊢
  unfold stackText at h ⊢
  subst hr hs
  generalize o.T = a at h ⊢
  generalize p.T = b at h ⊢
  cases a <;> cases b <;> simp at h ⊢ <;> simp [h]
theorem fields_last (K : Int) : 75 ∉ (fieldsL K).dropLast ∧ ∀ f ∈ fieldsL K, f ∈ ([78, 83, 65, 66, 67, 76, 75] : List UInt8) := by
  rcases kinds K with h | h
  · rcases h with rfl | rfl | rfl | rfl | rfl | rfl | rfl | rfl | rfl | rfl | rfl | rfl | rfl | rfl | rfl | rfl | rfl | rfl | rfl | rfl | rfl | rfl | rfl | rfl | rfl | rfl
    all_goals decide
  · rw [fields_none h]; decide
structure OkOp (o : OpD) : Prop where
  k0 : 0 ≤ o.K
  k1 : o.K < 26
  sign : o.K = 3 → 0 ≤ o.N ∧ o.N ≤ 13
theorem opT_cut {o p : OpD} {r s : List UInt8} (ho : OkOp o) (hp : OkOp p) (hr : Nl r) (hs : Nl s) (h : opT o ++ r = opT p ++ s) : plainOp o = plainOp p ∧ r = s := by
  have e : ∀ o : OpD, opT o = nameOf stepNames o.K ++ fieldsText (oF o) (fieldsL o.K) := fun o => rfl
  rw [e, e, List.append_assoc, List.append_assoc] at h
  obtain ⟨e1, e2⟩ := tok_cut (name_word steps_tok tok_q _) (name_word steps_tok tok_q _) (fields_beh _ _ hr) (fields_beh _ _ hs) h
  have hl : (stepNames.length : Int) = 26 := rfl
  have hK := name_inj (by decide) ho.k0 (by have := ho.k1; omega) hp.k0 (by have := hp.k1; omega) e1
  rw [← hK] at e2
  obtain ⟨e3, e4⟩ := fields_cut (op_cut1 o p) (op_cut2 o p) (fieldsL o.K) (fields_last _).1 (fields_last _).2 hr hs e2
  refine ⟨?_, e4⟩
  have hb : ∀ f, hasB o.K f = true → oF o f = oF p f := fun f hf => e3 f (by simpa [hasB] using hf)
  unfold plainOp
  rw [← hK]
  have hA : pickI (hasB o.K 65) o.A = pickI (hasB o.K 65) p.A := by
    unfold pickI; split
    · rename_i hf; have := hb 65 hf; rw [oF_65, oF_65] at this; exact value_inj this
    · rfl
  have hB : pickI (hasB o.K 66) o.B = pickI (hasB o.K 66) p.B := by
    unfold pickI; split
    · rename_i hf; have := hb 66 hf; rw [oF_66, oF_66] at this; exact value_inj this
    · rfl
  have hC : pickI (hasB o.K 67) o.C = pickI (hasB o.K 67) p.C := by
    unfold pickI; split
    · rename_i hf; have := hb 67 hf; rw [oF_67, oF_67] at this; exact value_inj this
    · rfl
  have hN : pickI (hasB o.K 78) o.N = pickI (hasB o.K 78) p.N := by
    unfold pickI; split
    · rename_i hf
      have := hb 78 hf
      rw [oF_78, oF_78, ← hK] at this
      unfold numberText at this
      split at this
      · rename_i h3
        have h1 := ho.sign h3
        have h2 := hp.sign (by omega)
        have hl : (signNames.length : Int) = 14 := rfl
        exact name_inj (by decide) h1.1 (by omega) h2.1 (by omega) this
      · exact itoa_inj this
    · rfl
  have hS : pickS (hasB o.K 83) o.S = pickS (hasB o.K 83) p.S := by
    unfold pickS; split
    · rename_i hf; have := hb 83 hf; rw [oF_83, oF_83] at this; rw [← mk_of o.S, ← mk_of p.S, quoteL_inj this]
    · rfl
  have hL : pickL (hasB o.K 76) o.L = pickL (hasB o.K 76) p.L := by
    unfold pickL; split
    · rename_i hf; have := hb 76 hf; rw [oF_76, oF_76] at this; exact (listV_cut (r := []) (s := []) (by simpa using this)).1
    · rfl
  have hT : (hasB o.K 75 && o.T) = (hasB o.K 75 && p.T) := by
    cases hf : hasB o.K 75
    · rfl
    · have := hb 75 hf
      rw [oF_75, oF_75] at this
      unfold stackText at this
      cases ho : o.T <;> cases hp : p.T <;> simp_all
  rw [hA, hB, hC, hN, hS, hL, hT]

/-! ## Ends, blocks, functions -/
theorem num_cut {a b : Int} {r s : List UInt8} (hr : Beh r) (hs : Beh s) (h : Lib.itoa a ++ r = Lib.itoa b ++ s) : a = b ∧ r = s := by
  obtain ⟨e1, e2⟩ := tok_cut (itoa_tok _) (itoa_tok _) hr hs h
  exact ⟨itoa_inj e1, e2⟩
theorem val_cut {a b : Int} {r s : List UInt8} (hr : Beh r) (hs : Beh s) (h : valueText a ++ r = valueText b ++ s) : a = b ∧ r = s := by
  obtain ⟨e1, e2⟩ := tok_cut (value_tok _) (value_tok _) hr hs h
  exact ⟨value_inj e1, e2⟩
theorem target_cut {a b : Int} {Y Z : List Int} {r s : List UInt8} (h : targetText a Y ++ r = targetText b Z ++ s) : a = b ∧ Y = Z ∧ r = s := by
  unfold targetText at h
  rw [List.append_assoc, List.append_assoc] at h
  have hb : ∀ (Y : List Int) (r : List UInt8), Beh (listV Y ++ r) := fun Y r => beh_cons (c := 40) _ (by decide)
  obtain ⟨e1, e2⟩ := num_cut (hb _ _) (hb _ _) h
  obtain ⟨e3, e4⟩ := listV_cut e2
  exact ⟨e1, e3, e4⟩
def OkEnd (e : EndD) : Prop := 0 ≤ e.K ∧ e.K < 4
theorem end_cut {x y : EndD} {r s : List UInt8} (hx : OkEnd x) (hy : OkEnd y) (hr : Nl r) (hs : Nl s) (h : endText x ++ r = endText y ++ s) : plainEnd x = plainEnd y ∧ r = s := by
  obtain ⟨xK, xA, xT, xE, xL, xM⟩ := x
  obtain ⟨yK, yA, yT, yE, yL, yM⟩ := y
  obtain ⟨hx0, hx1⟩ := hx
  obtain ⟨hy0, hy1⟩ := hy
  simp only at hx0 hx1 hy0 hy1
  have k1 : xK = 0 ∨ xK = 1 ∨ xK = 2 ∨ xK = 3 := by omega
  have k2 : yK = 0 ∨ yK = 1 ∨ yK = 2 ∨ yK = 3 := by omega
  rcases k1 with rfl | rfl | rfl | rfl <;> rcases k2 with rfl | rfl | rfl | rfl
  all_goals try (exfalso; simp [endText, valueText] at h; done)
  · have e : ∀ (a t e : Int) (l m : List Int) (r : List UInt8), endText ⟨0, a, t, e, l, m⟩ ++ r = 106 :: 117 :: 109 :: 112 :: 32 :: (targetText t l ++ r) := by intro a t e l m r; simp [endText]
    rw [e, e] at h
    simp only [List.cons.injEq, true_and] at h
    obtain ⟨rfl, rfl, e2⟩ := target_cut h
    exact ⟨rfl, e2⟩
  · have e : ∀ (a t e : Int) (l m : List Int) (r : List UInt8), endText ⟨1, a, t, e, l, m⟩ ++ r = 98 :: 114 :: 97 :: 110 :: 99 :: 104 :: 32 :: (valueText a ++ (32 :: (targetText t l ++ (32 :: (targetText e m ++ r))))) := by intro a t e l m r; simp [endText]
    rw [e, e] at h
    simp only [List.cons.injEq, true_and] at h
    obtain ⟨rfl, h2⟩ := val_cut (beh_cons _ (by decide)) (beh_cons _ (by decide)) h
    obtain ⟨rfl, rfl, h3⟩ := target_cut (List.cons.inj h2).2
    obtain ⟨rfl, rfl, h4⟩ := target_cut (List.cons.inj h3).2
    exact ⟨rfl, h4⟩
  · have e : ∀ (a t e : Int) (l m : List Int) (r : List UInt8), endText ⟨2, a, t, e, l, m⟩ ++ r = 114 :: 101 :: 116 :: 32 :: (valueText a ++ r) := by intro a t e l m r; simp [endText]
    rw [e, e] at h
    simp only [List.cons.injEq, true_and] at h
    obtain ⟨rfl, h2⟩ := val_cut hr.beh hs.beh h
    exact ⟨rfl, h2⟩
  · have e : ∀ (a t e : Int) (l m : List Int) (r : List UInt8), endText ⟨3, a, t, e, l, m⟩ ++ r = 115 :: 116 :: 111 :: 112 :: 32 :: (valueText a ++ r) := by intro a t e l m r; simp [endText]
    rw [e, e] at h
    simp only [List.cons.injEq, true_and] at h
    obtain ⟨rfl, h2⟩ := val_cut hr.beh hs.beh h
    exact ⟨rfl, h2⟩
theorem end_no118 (e : EndD) : ∀ t : List UInt8, ∃ c u, endText e ++ t = c :: u ∧ c ≠ 118 := by
  intro t
  unfold endText
  repeat' split
  all_goals exact ⟨_, _, rfl, by decide⟩

def endLine (e : EndD) : List UInt8 := [32, 32] ++ endText e ++ [10]
theorem steps_cut : ∀ (n : Nat) (xs ys : List OpD) (e g : EndD) (r s : List UInt8), (∀ o ∈ xs, OkOp o) → (∀ o ∈ ys, OkOp o) → OkEnd e → OkEnd g → stepsText n xs ++ (endLine e ++ r) = stepsText n ys ++ (endLine g ++ s) → xs.map plainOp = ys.map plainOp ∧ plainEnd e = plainEnd g ∧ r = s
  | n, [], [], e, g, r, s, _, _, he, hg, h => by
    have q : ∀ (e : EndD) (r : List UInt8), stepsText n [] ++ (endLine e ++ r) = 32 :: 32 :: (endText e ++ (10 :: r)) := by intro e r; simp [stepsText, endLine]
    rw [q, q] at h
    simp only [List.cons.injEq, true_and] at h
    obtain ⟨e1, e2⟩ := end_cut he hg ⟨_, rfl⟩ ⟨_, rfl⟩ h
    exact ⟨rfl, e1, (List.cons.inj e2).2⟩
  | n, [], o :: ys, e, g, r, s, _, _, he, hg, h => by
    have q1 : stepsText n [] ++ (endLine e ++ r) = 32 :: 32 :: (endText e ++ (10 :: r)) := by simp [stepsText, endLine]
    have q2 : stepsText n (o :: ys) ++ (endLine g ++ s) = 32 :: 32 :: 118 :: (Lib.itoa (n : Int) ++ ([32, 61, 32] ++ opT o ++ [10] ++ stepsText (n + 1) ys ++ (endLine g ++ s))) := by simp [stepsText, stepLine, valueText]
    rw [q1, q2] at h
    obtain ⟨c, u, hc, hn⟩ := end_no118 e (10 :: r)
    rw [hc] at h
    simp only [List.cons.injEq, true_and] at h
    exact absurd h.1 hn
  | n, o :: xs, [], e, g, r, s, _, _, he, hg, h => by
    have q1 : stepsText n [] ++ (endLine g ++ s) = 32 :: 32 :: (endText g ++ (10 :: s)) := by simp [stepsText, endLine]
    have q2 : stepsText n (o :: xs) ++ (endLine e ++ r) = 32 :: 32 :: 118 :: (Lib.itoa (n : Int) ++ ([32, 61, 32] ++ opT o ++ [10] ++ stepsText (n + 1) xs ++ (endLine e ++ r))) := by simp [stepsText, stepLine, valueText]
    rw [q1, q2] at h
    obtain ⟨c, u, hc, hn⟩ := end_no118 g (10 :: s)
    rw [hc] at h
    simp only [List.cons.injEq, true_and] at h
    exact absurd h.1.symm hn
  | n, o :: xs, p :: ys, e, g, r, s, hx, hy, he, hg, h => by
    have q : ∀ (o : OpD) (xs : List OpD) (t : List UInt8), stepsText n (o :: xs) ++ t = ([32, 32, 118] ++ Lib.itoa (n : Int) ++ [32, 61, 32]) ++ (opT o ++ (10 :: (stepsText (n + 1) xs ++ t))) := by intro o xs t; simp [stepsText, stepLine, valueText]
    rw [q, q] at h
    obtain ⟨e1, e2⟩ := opT_cut (hx o (by simp)) (hy p (by simp)) ⟨_, rfl⟩ ⟨_, rfl⟩ (List.append_cancel_left h)
    obtain ⟨e3, e4⟩ := steps_cut (n + 1) xs ys e g r s (fun o ho => hx o (by simp [ho])) (fun o ho => hy o (by simp [ho])) he hg (List.cons.inj e2).2
    exact ⟨by rw [List.map_cons, List.map_cons, e1, e3], e4⟩
structure OkBlock (b : BlockD) : Prop where
  params : ∀ z ∈ b.params, From1 z
  ops : ∀ o ∈ b.ops, OkOp o
  fin : OkEnd b.fin
/-- Behind all blocks: nothing, or what begins with neither digit nor dash. -/
def NoNum (r : List UInt8) : Prop := ∀ c t, r = c :: t → c ≠ 45 ∧ isD c = false
theorem head_cons (k : Nat) (y : BlockD) (t : List UInt8) : ∃ c u, headText k y ++ t = c :: u ∧ (c = 45 ∨ isD c = true) := by
  obtain ⟨c, u, h, hc⟩ := itoa_head (k : Int)
  exact ⟨c, _, by unfold headText; rw [h]; rfl, hc⟩
theorem blocks_cut : ∀ (n f : Nat) (xs ys : List BlockD) (r s : List UInt8), (∀ b ∈ xs, OkBlock b) → (∀ b ∈ ys, OkBlock b) → NoNum r → NoNum s → blocksText n f xs ++ r = blocksText n f ys ++ s → xs.map plainBlock = ys.map plainBlock ∧ r = s
  | n, f, [], [], r, s, _, _, _, _, h => ⟨rfl, h⟩
  | n, f, [], b :: ys, r, s, _, _, hr, _, h => by
    have q : blocksText n f (b :: ys) ++ s = headText n b ++ (stepsText (f + b.params.length) b.ops ++ (endLine b.fin ++ (blocksText (n + 1) (f + (b.params.length + b.ops.length)) ys ++ s))) := by simp [blocksText, blockText, endLine]
    rw [q] at h
    obtain ⟨c, u, hc, hn⟩ := head_cons n b (stepsText (f + b.params.length) b.ops ++ (endLine b.fin ++ (blocksText (n + 1) (f + (b.params.length + b.ops.length)) ys ++ s)))
    rw [hc] at h
    obtain ⟨h1, h2⟩ := hr c u h
    rcases hn with hn | hn
    · exact absurd hn h1
    · rw [h2] at hn; cases hn
  | n, f, b :: xs, [], r, s, _, _, _, hs, h => by
    have q : blocksText n f (b :: xs) ++ r = headText n b ++ (stepsText (f + b.params.length) b.ops ++ (endLine b.fin ++ (blocksText (n + 1) (f + (b.params.length + b.ops.length)) xs ++ r))) := by simp [blocksText, blockText, endLine]
    rw [q] at h
    obtain ⟨c, u, hc, hn⟩ := head_cons n b (stepsText (f + b.params.length) b.ops ++ (endLine b.fin ++ (blocksText (n + 1) (f + (b.params.length + b.ops.length)) xs ++ r)))
    rw [hc] at h
    obtain ⟨h1, h2⟩ := hs c u h.symm
    rcases hn with hn | hn
    · exact absurd hn h1
    · rw [h2] at hn; cases hn
  | n, f, b :: xs, d :: ys, r, s, hx, hy, hr, hs, h => by
    have q : ∀ (b : BlockD) (xs : List BlockD) (r : List UInt8), blocksText n f (b :: xs) ++ r = Lib.itoa (n : Int) ++ (listT typeText b.params ++ (10 :: (stepsText (f + b.params.length) b.ops ++ (endLine b.fin ++ (blocksText (n + 1) (f + (b.params.length + b.ops.length)) xs ++ r))))) := by intro b xs r; simp [blocksText, blockText, headText, endLine]
    rw [q, q] at h
    obtain ⟨e1, e2⟩ := listT_cut (hx b (by simp)).params (hy d (by simp)).params (List.append_cancel_left h)
    have e3 := (List.cons.inj e2).2
    rw [← e1] at e3
    obtain ⟨e4, e5, e6⟩ := steps_cut _ _ _ _ _ _ _ (hx b (by simp)).ops (hy d (by simp)).ops (hx b (by simp)).fin (hy d (by simp)).fin e3
    have hl : b.ops.length = d.ops.length := by have := congrArg List.length e4; simpa using this
    rw [← hl] at e6
    obtain ⟨e7, e8⟩ := blocks_cut _ _ _ _ _ _ (fun b hb => hx b (by simp [hb])) (fun b hb => hy b (by simp [hb])) hr hs e6
    refine ⟨?_, e8⟩
    rw [List.map_cons, List.map_cons, e7]
    unfold plainBlock
    rw [e1, e4, e5]
structure OkFunc (f : FuncD) : Prop where
  ret : From1 f.ret
  blocks : ∀ b ∈ f.blocks, OkBlock b
theorem nonum_c {c : UInt8} (t : List UInt8) (h : c ≠ 45 ∧ isD c = false) : NoNum (c :: t) := by
  intro d u e
  rw [List.cons.injEq] at e
  rw [← e.1]
  exact h
theorem funcs_nonum (fs : List FuncD) : NoNum (rowsText funcText fs) := by
  cases fs with
  | nil => intro c t e; cases e
  | cons f fs => exact nonum_c (c := 102) _ (by decide)
theorem funcs_cut : ∀ (xs ys : List FuncD), (∀ f ∈ xs, OkFunc f) → (∀ f ∈ ys, OkFunc f) → rowsText funcText xs = rowsText funcText ys → xs.map plainFunc = ys.map plainFunc
  | [], [], _, _, h => rfl
  | [], f :: ys, _, _, h => by simp [rowsText, funcText, funcHead] at h
  | f :: xs, [], _, _, h => by simp [rowsText, funcText, funcHead] at h
  | f :: xs, g :: ys, hx, hy, h => by
    have q : ∀ (f : FuncD) (xs : List FuncD), rowsText funcText (f :: xs) = 102 :: 117 :: 110 :: 99 :: 32 :: (typeText f.ret ++ (10 :: (blocksText 0 0 f.blocks ++ rowsText funcText xs))) := by intro f xs; simp [rowsText, funcText, funcHead]
    rw [q, q] at h
    simp only [List.cons.injEq, true_and] at h
    obtain ⟨e1, e2⟩ := tok_cut (type_tok _) (type_tok _) (beh_cons _ (by decide)) (beh_cons _ (by decide)) h
    obtain ⟨e3, e4⟩ := blocks_cut _ _ _ _ _ _ (hx f (by simp)).blocks (hy g (by simp)).blocks (funcs_nonum _) (funcs_nonum _) (List.cons.inj e2).2
    have e5 := funcs_cut xs ys (fun f hf => hx f (by simp [hf])) (fun f hf => hy f (by simp [hf])) e4
    rw [List.map_cons, List.map_cons, e5]
    unfold plainFunc
    rw [type_inj (hx f (by simp)).ret (hy g (by simp)).ret e1, e3]
structure OkSig (s : SigD) : Prop where
  params : ∀ z ∈ s.params, From1 z
  ret : From1 s.ret
def OkCls (c : ClassD) : Prop := ∀ z ∈ c.fields, From1 z
/-- What begins with no s; with neither s nor c. -/
def NoC (c : UInt8) (r : List UInt8) : Prop := ∀ t, r ≠ c :: t
theorem sigs_cut : ∀ (xs ys : List SigD) (r s : List UInt8), (∀ x ∈ xs, OkSig x) → (∀ x ∈ ys, OkSig x) → NoC 115 r → NoC 115 s → rowsText sigText xs ++ r = rowsText sigText ys ++ s → xs = ys ∧ r = s
  | [], [], r, s, _, _, _, _, h => ⟨rfl, h⟩
  | [], y :: ys, r, s, _, _, hr, _, h => by
    have q : rowsText sigText (y :: ys) ++ s = 115 :: ([105, 103, 32] ++ listT typeText y.params ++ [32] ++ typeText y.ret ++ [10] ++ rowsText sigText ys ++ s) := by simp [rowsText, sigText]
    rw [q] at h
    exact absurd h (hr _)
  | x :: xs, [], r, s, _, _, _, hs, h => by
    have q : rowsText sigText (x :: xs) ++ r = 115 :: ([105, 103, 32] ++ listT typeText x.params ++ [32] ++ typeText x.ret ++ [10] ++ rowsText sigText xs ++ r) := by simp [rowsText, sigText]
    rw [q] at h
    exact absurd h.symm (hs _)
  | x :: xs, y :: ys, r, s, hx, hy, hr, hs, h => by
    have q : ∀ (y : SigD) (ys : List SigD) (s : List UInt8), rowsText sigText (y :: ys) ++ s = 115 :: 105 :: 103 :: 32 :: (listT typeText y.params ++ (32 :: (typeText y.ret ++ (10 :: (rowsText sigText ys ++ s))))) := by intro y ys s; simp [rowsText, sigText]
    rw [q, q] at h
    simp only [List.cons.injEq, true_and] at h
    obtain ⟨e1, e2⟩ := listT_cut (hx x (by simp)).params (hy y (by simp)).params h
    obtain ⟨e3, e4⟩ := tok_cut (type_tok _) (type_tok _) (beh_cons _ (by decide)) (beh_cons _ (by decide)) (List.cons.inj e2).2
    obtain ⟨e5, e6⟩ := sigs_cut xs ys r s (fun f hf => hx f (by simp [hf])) (fun f hf => hy f (by simp [hf])) hr hs (List.cons.inj e4).2
    have e7 := type_inj (hx x (by simp)).ret (hy y (by simp)).ret e3
    obtain ⟨a, b⟩ := x
    obtain ⟨c, d⟩ := y
    simp only at e1 e7
    exact ⟨by rw [e1, e7, e5], e6⟩
theorem class_cut : ∀ (xs ys : List ClassD) (r s : List UInt8), (∀ x ∈ xs, OkCls x) → (∀ x ∈ ys, OkCls x) → NoC 99 r → NoC 99 s → rowsText classText xs ++ r = rowsText classText ys ++ s → xs = ys ∧ r = s
  | [], [], r, s, _, _, _, _, h => ⟨rfl, h⟩
  | [], y :: ys, r, s, _, _, hr, _, h => by
    have q : rowsText classText (y :: ys) ++ s = 99 :: ([108, 97, 115, 115, 32] ++ listT typeText y.fields ++ [32, 91] ++ listText Lib.itoa y.methods ++ [93, 10] ++ rowsText classText ys ++ s) := by simp [rowsText, classText]
    rw [q] at h
    exact absurd h (hr _)
  | x :: xs, [], r, s, _, _, _, hs, h => by
    have q : rowsText classText (x :: xs) ++ r = 99 :: ([108, 97, 115, 115, 32] ++ listT typeText x.fields ++ [32, 91] ++ listText Lib.itoa x.methods ++ [93, 10] ++ rowsText classText xs ++ r) := by simp [rowsText, classText]
    rw [q] at h
    exact absurd h.symm (hs _)
  | x :: xs, y :: ys, r, s, hx, hy, hr, hs, h => by
    have q : ∀ (y : ClassD) (ys : List ClassD) (s : List UInt8), rowsText classText (y :: ys) ++ s = 99 :: 108 :: 97 :: 115 :: 115 :: 32 :: (listT typeText y.fields ++ (32 :: 91 :: (listText Lib.itoa y.methods ++ (93 :: 10 :: (rowsText classText ys ++ s))))) := by intro y ys s; simp [rowsText, classText]
    rw [q, q] at h
    simp only [List.cons.injEq, true_and] at h
    obtain ⟨e1, e2⟩ := listT_cut (hx x (by simp)) (hy y (by simp)) h
    simp only [List.cons.injEq, true_and] at e2
    obtain ⟨e3, e4⟩ := listM_cut e2
    obtain ⟨e5, e6⟩ := class_cut xs ys r s (fun f hf => hx f (by simp [hf])) (fun f hf => hy f (by simp [hf])) hr hs (List.cons.inj e4).2
    obtain ⟨a, b⟩ := x
    obtain ⟨c, d⟩ := y
    simp only at e1 e3
    exact ⟨by rw [e1, e3, e5], e6⟩
structure OkProg (P : ProgD) : Prop where
  sigs : ∀ s ∈ P.sigs, OkSig s
  classes : ∀ c ∈ P.classes, OkCls c
  funcs : ∀ f ∈ P.funcs, OkFunc f
theorem noC_funcs {c : UInt8} (hc : c ≠ 102) (fs : List FuncD) : NoC c (rowsText funcText fs) := by
  intro t e
  cases fs with
  | nil => cases e
  | cons f fs => simp [rowsText, funcText, funcHead] at e; exact hc e.1.symm
theorem noC_classes (cs : List ClassD) (fs : List FuncD) : NoC 115 (rowsText classText cs ++ rowsText funcText fs) := by
  cases cs with
  | nil => exact noC_funcs (by decide) fs
  | cons c cs => intro t e; simp [rowsText, classText] at e
theorem prog_cut {P Q : ProgD} (hP : OkProg P) (hQ : OkProg Q) (h : progText P = progText Q) : plainProg P = plainProg Q := by
  unfold progText at h
  rw [List.append_assoc, List.append_assoc] at h
  obtain ⟨e1, e2⟩ := sigs_cut _ _ _ _ hP.sigs hQ.sigs (noC_classes _ _) (noC_classes _ _) h
  obtain ⟨e3, e4⟩ := class_cut _ _ _ _ hP.classes hQ.classes (noC_funcs (by decide) _) (noC_funcs (by decide) _) e2
  have e5 := funcs_cut _ _ hP.funcs hQ.funcs e4
  unfold plainProg
  rw [e1, e3, e5]

/-! ## What plays no part has no text -/
theorem plain_op (o : OpD) : opT (plainOp o) = opT o := by
  have e : ∀ o : OpD, opT o = nameOf stepNames o.K ++ fieldsText (oF o) (fieldsL o.K) := fun o => rfl
  rw [e, e]
  have hK : (plainOp o).K = o.K := rfl
  rw [hK]
  congr 1
  unfold fieldsText
  congr 1
  refine List.map_congr_left fun f hf => ?_
  have hb : hasB o.K f = true := by simpa [hasB] using hf
  have hf7 := (fields_last o.K).2 f hf
  have : oF (plainOp o) f = oF o f := by
    simp only [List.mem_cons, List.not_mem_nil, or_false] at hf7
    rcases hf7 with rfl | rfl | rfl | rfl | rfl | rfl | rfl
    · rw [oF_78, oF_78]; simp [plainOp, pickI, hb]
    · rw [oF_83, oF_83]; simp [plainOp, pickS, hb]
    · rw [oF_65, oF_65]; simp [plainOp, pickI, hb]
    · rw [oF_66, oF_66]; simp [plainOp, pickI, hb]
    · rw [oF_67, oF_67]; simp [plainOp, pickI, hb]
    · rw [oF_76, oF_76]; simp [plainOp, pickL, hb]
    · rw [oF_75, oF_75]; simp [plainOp, hb]
  unfold shownF
  rw [this]
theorem plain_end (e : EndD) : endText (plainEnd e) = endText e := by
  obtain ⟨K, A, T, E, L, M⟩ := e
  unfold plainEnd
  simp only
  split
  · rename_i h; subst h; rfl
  · split
    · rfl
    · split
      · rename_i h; rcases h with rfl | rfl <;> rfl
      · rename_i h0 h1 h2
        have h3 : K ≠ 2 := fun e => h2 (.inl e)
        have h4 : K ≠ 3 := fun e => h2 (.inr e)
        simp [endText, h0, h1, h3, h4]
theorem plain_steps : ∀ (n : Nat) (xs : List OpD), stepsText n (xs.map plainOp) = stepsText n xs
  | n, [] => rfl
  | n, o :: xs => by simp [stepsText, stepLine, plain_op, plain_steps (n + 1) xs]
theorem plain_blocks : ∀ (n f : Nat) (xs : List BlockD), blocksText n f (xs.map plainBlock) = blocksText n f xs
  | n, f, [] => rfl
  | n, f, b :: xs => by
    have h1 := plain_blocks (n + 1) (f + (b.params.length + b.ops.length)) xs
    have h2 : (plainBlock b).params = b.params := rfl
    have h3 : (plainBlock b).ops = b.ops.map plainOp := rfl
    have h4 : (plainBlock b).fin = plainEnd b.fin := rfl
    simp only [List.map_cons, blocksText, blockText, headText, h2, h3, h4, List.length_map, plain_steps, plain_end, h1]
theorem plain_func (f : FuncD) : funcText (plainFunc f) = funcText f := by
  unfold funcText funcHead plainFunc
  simp only [plain_blocks]
theorem rows_map {α : Type} {T : α → List UInt8} {g : α → α} (h : ∀ x, T (g x) = T x) : ∀ xs : List α, rowsText T (xs.map g) = rowsText T xs
  | [] => rfl
  | x :: xs => by simp [rowsText, h, rows_map h xs]
theorem plain_prog (P : ProgD) : progText (plainProg P) = progText P := by
  unfold progText plainProg
  simp only [rows_map plain_func]
/-- P6.4, plain. -/
theorem text_same {P Q : ProgD} (hP : OkProg P) (hQ : OkProg Q) : progText P = progText Q ↔ plainProg P = plainProg Q :=
  ⟨prog_cut hP hQ, fun h => by rw [← plain_prog P, h, plain_prog Q]⟩
end Go.Proofs.YtccajbgdlicbnaaDoor

/- Layer 5: the statements' own living call: a small program becomes bytes, and comes back. -/
namespace Go.Proofs.YtccajbgdlicbnaaDoor
open Go.RowKit (wrap64 intOf Below)
set_option linter.unusedVariables false
set_option linter.unusedSimpArgs false

/-- The small program. -/
def liveOp : OpD := ⟨0, 0, 0, 0, 7, ⟨#[]⟩, [], false⟩
def liveBlock : BlockD := ⟨[], [liveOp], ⟨2, 0, 0, 0, [], []⟩⟩
def liveFunc : FuncD := ⟨0, [liveBlock]⟩
def liveProg : ProgD := ⟨[], [], [liveFunc]⟩
/-- What the numbers that are read of a program are. -/
theorem ProgQ.rng {W : World} {cs : List Value} {P : ProgD} (h : ProgQ W cs P) : RngProg P := by
  have key : ∀ {α : Type} {Q : World → List Value → α → Prop} {k : Nat} {v : Value} {xs : List α} {R : α → Prop}, (∀ cs x, Q W cs x → R x) → RowV Q k W v xs → ∀ x ∈ xs, R x := by
    intro α Q k v xs R hR hrow x hx
    obtain ⟨a, n, c, _, hl, _, _, hpos⟩ := hrow
    obtain ⟨i, hi, rfl⟩ := List.getElem_of_mem hx
    obtain ⟨g, off, _, _, hcs⟩ := hpos (by omega)
    obtain ⟨cs, _, _, hq⟩ := hcs i hi
    exact hR _ _ hq
  have nums : ∀ {v : Value} {Z : List Int}, NumsV W v Z → ∀ z ∈ Z, InR z := fun ⟨_, _, _, _, _, _, _, h⟩ => h
  obtain ⟨s, c, f, rfl, hs, hc, hf⟩ := h
  refine ⟨key (fun cs x hx => ?_) hs, key (fun cs x hx => ?_) hc, key (fun cs x hx => ?_) hf⟩
  · obtain ⟨p, _, h1, h2⟩ := hx; exact ⟨nums h1, h2⟩
  · obtain ⟨p, q, _, h1, h2⟩ := hx; exact ⟨nums h1, nums h2⟩
  · obtain ⟨b, _, h1, h2⟩ := hx
    refine ⟨h1, key (fun cs x hx => ?_) h2⟩
    obtain ⟨p, o, es, _, h3, h4, l, m, _, r1, r2, r3, r4, h5, h6⟩ := hx
    refine ⟨nums h3, key (fun cs x hx => ?_) h4, r1, r2, r3, r4, nums h5, nums h6⟩
    obtain ⟨l, _, r1, r2, r3, r4, r5, _, h⟩ := hx
    exact ⟨r1, r2, r3, r4, r5, nums h⟩
theorem ProgQ.form {W : World} {s c f : Value} {P : ProgD} (h : ProgQ W [s, c, f] P) : ∃ sa sn sc ca cn cc fa fn fc, s = .slice sa sn sc ∧ c = .slice ca cn cc ∧ f = .slice fa fn fc := by
  obtain ⟨_, _, _, e, ⟨sa, sn, sc, rfl, _⟩, ⟨ca, cn, cc, rfl, _⟩, ⟨fa, fn, fc, rfl, _⟩⟩ := h
  simp only [List.cons.injEq, and_true] at e
  obtain ⟨rfl, rfl, rfl⟩ := e
  exact ⟨_, _, _, _, _, _, _, _, _, rfl, rfl, rfl⟩
/-- The bytes of a program are read as it, without what plays no part. -/
theorem in_out {P : ProgD} (hr : RngProg P) {l : List UInt8} (h : outBytes (encProg (plainProg P)) = .ok l) : inBytes l = .ok (plainProg P) [] ∧ l.length ≤ 65536 ∧ encProg (plainProg P) = .ok l := by
  have he : encProg (plainProg P) = .ok l ∧ l.length ≤ 65536 := by
    rcases out_or (encProg (plainProg P)) with ⟨m, hm⟩ | ⟨er, hm⟩
    · rw [hm] at h
      simp only [outBytes] at h
      split at h
      · cases h
      · cases h
        exact ⟨hm, by omega⟩
    · rw [hm] at h; cases h
  have ht := (takes_prog _ _ hr.plain he.1).1 []
  rw [List.append_nil, plainProg_twice] at ht
  refine ⟨?_, he.2, he.1⟩
  unfold inBytes
  rw [if_neg (by omega), ht]
  rfl
def liveBytes : List UInt8 := (match encProg liveProg with | .ok l => l | .no _ => [])
theorem live_out : outBytes (encProg (plainProg liveProg)) = .ok liveBytes := by kernel_rfl
theorem live_len : 6 < liveBytes.length := by decide +kernel
theorem live_vals : valuesOf liveFunc = 1 := by decide +kernel
theorem live_plain : plainProg liveProg = liveProg := by rfl
theorem live_sm : SmProg liveProg := by
  refine ⟨by decide, by decide, by decide, fun f hf => ?_⟩
  simp only [liveProg, List.mem_singleton] at hf
  subst hf
  refine ⟨by decide, fun b hb => ?_⟩
  simp only [liveFunc, List.mem_singleton] at hb
  subst hb
  show [liveOp].length ≤ 100000
  decide
/-- It lies in four blocks. -/
structure LiveAt (w W : World) : Prop where
  bel : Below w.heap.size w W
  size : W.heap.size = w.heap.size + 4
  prog : ProgQ W [.slice none 0 0, .slice none 0 0, .slice (some ⟨w.heap.size + 1 + 1, 0, none⟩) 1 1] liveProg
  func : FuncQ W [.int .i64 0, .slice (some ⟨w.heap.size + 1, 0, none⟩) 1 1] liveFunc
  b3 : W.heap[w.heap.size + 1 + 1 + 1]? = some (.cells #[.slice none 0 0, .slice none 0 0, .slice (some ⟨w.heap.size + 1 + 1, 0, none⟩) 1 1] 26 (0, 0))
  b2 : W.heap[w.heap.size + 1 + 1]? = some (.cells #[.int .i64 0, .slice (some ⟨w.heap.size + 1, 0, none⟩) 1 1] 34 (0, 0))
theorem live_laid (w : World) : LiveAt w ((((w.alloc (.cells #[.int .i64 0, .int .i64 0, .int .i64 0, .int .i64 0, .int .i64 7, .string ⟨#[]⟩, .slice none 0 0, .bool false] 50)).alloc (.cells #[.slice none 0 0, .slice (some ⟨w.heap.size, 0, none⟩) 1 1, .int .i64 2, .int .i64 0, .int .i64 0, .int .i64 0, .slice none 0 0, .slice none 0 0] 48)).alloc (.cells #[.int .i64 0, .slice (some ⟨w.heap.size + 1, 0, none⟩) 1 1] 34)).alloc (.cells #[.slice none 0 0, .slice none 0 0, .slice (some ⟨w.heap.size + 1 + 1, 0, none⟩) 1 1] 26)) := by
  have hbel : Below w.heap.size w ((((w.alloc (.cells #[.int .i64 0, .int .i64 0, .int .i64 0, .int .i64 0, .int .i64 7, .string ⟨#[]⟩, .slice none 0 0, .bool false] 50)).alloc (.cells #[.slice none 0 0, .slice (some ⟨w.heap.size, 0, none⟩) 1 1, .int .i64 2, .int .i64 0, .int .i64 0, .int .i64 0, .slice none 0 0, .slice none 0 0] 48)).alloc (.cells #[.int .i64 0, .slice (some ⟨w.heap.size + 1, 0, none⟩) 1 1] 34)).alloc (.cells #[.slice none 0 0, .slice none 0 0, .slice (some ⟨w.heap.size + 1 + 1, 0, none⟩) 1 1] 26)) := ((((Below.refl _ _).alloc (Nat.le_refl _) _).alloc (by simp) _).alloc (by simp <;> omega) _).alloc (by simp <;> omega) _
  have h3 : ((((w.alloc (.cells #[.int .i64 0, .int .i64 0, .int .i64 0, .int .i64 0, .int .i64 7, .string ⟨#[]⟩, .slice none 0 0, .bool false] 50)).alloc (.cells #[.slice none 0 0, .slice (some ⟨w.heap.size, 0, none⟩) 1 1, .int .i64 2, .int .i64 0, .int .i64 0, .int .i64 0, .slice none 0 0, .slice none 0 0] 48)).alloc (.cells #[.int .i64 0, .slice (some ⟨w.heap.size + 1, 0, none⟩) 1 1] 34)).alloc (.cells #[.slice none 0 0, .slice none 0 0, .slice (some ⟨w.heap.size + 1 + 1, 0, none⟩) 1 1] 26)).heap[w.heap.size + 1 + 1 + 1]? = some (.cells #[.slice none 0 0, .slice none 0 0, .slice (some ⟨w.heap.size + 1 + 1, 0, none⟩) 1 1] 26 (0, 0)) := by
    have := heap_alloc_new (((w.alloc (.cells #[.int .i64 0, .int .i64 0, .int .i64 0, .int .i64 0, .int .i64 7, .string ⟨#[]⟩, .slice none 0 0, .bool false] 50)).alloc (.cells #[.slice none 0 0, .slice (some ⟨w.heap.size, 0, none⟩) 1 1, .int .i64 2, .int .i64 0, .int .i64 0, .int .i64 0, .slice none 0 0, .slice none 0 0] 48)).alloc (.cells #[.int .i64 0, .slice (some ⟨w.heap.size + 1, 0, none⟩) 1 1] 34)) (.cells #[.slice none 0 0, .slice none 0 0, .slice (some ⟨w.heap.size + 1 + 1, 0, none⟩) 1 1] 26)
    simpa using this
  generalize hW : ((((w.alloc (.cells #[.int .i64 0, .int .i64 0, .int .i64 0, .int .i64 0, .int .i64 7, .string ⟨#[]⟩, .slice none 0 0, .bool false] 50)).alloc (.cells #[.slice none 0 0, .slice (some ⟨w.heap.size, 0, none⟩) 1 1, .int .i64 2, .int .i64 0, .int .i64 0, .int .i64 0, .slice none 0 0, .slice none 0 0] 48)).alloc (.cells #[.int .i64 0, .slice (some ⟨w.heap.size + 1, 0, none⟩) 1 1] 34)).alloc (.cells #[.slice none 0 0, .slice none 0 0, .slice (some ⟨w.heap.size + 1 + 1, 0, none⟩) 1 1] 26)) = W at hbel h3 ⊢
  have hs : W.heap.size = w.heap.size + 4 := by rw [← hW]; simp
  have h0 : W.heap[w.heap.size]? = some (.cells #[.int .i64 0, .int .i64 0, .int .i64 0, .int .i64 0, .int .i64 7, .string ⟨#[]⟩, .slice none 0 0, .bool false] 50 (0, 0)) := by
    rw [← hW]
    exact (heap_alloc_old _ _ (by simp <;> omega)).trans ((heap_alloc_old _ _ (by simp <;> omega)).trans ((heap_alloc_old _ _ (by simp)).trans (heap_alloc_new w _)))
  have h1 : W.heap[w.heap.size + 1]? = some (.cells #[.slice none 0 0, .slice (some ⟨w.heap.size, 0, none⟩) 1 1, .int .i64 2, .int .i64 0, .int .i64 0, .int .i64 0, .slice none 0 0, .slice none 0 0] 48 (0, 0)) := by
    rw [← hW]
    exact (heap_alloc_old _ _ (by simp <;> omega)).trans ((heap_alloc_old _ _ (by simp)).trans (by
      have := heap_alloc_new (w.alloc (.cells #[.int .i64 0, .int .i64 0, .int .i64 0, .int .i64 0, .int .i64 7, .string ⟨#[]⟩, .slice none 0 0, .bool false] 50)) (.cells #[.slice none 0 0, .slice (some ⟨w.heap.size, 0, none⟩) 1 1, .int .i64 2, .int .i64 0, .int .i64 0, .int .i64 0, .slice none 0 0, .slice none 0 0] 48)
      simpa using this))
  have h2 : W.heap[w.heap.size + 1 + 1]? = some (.cells #[.int .i64 0, .slice (some ⟨w.heap.size + 1, 0, none⟩) 1 1] 34 (0, 0)) := by
    rw [← hW]
    exact (heap_alloc_old _ _ (by simp)).trans (by
      have := heap_alloc_new ((w.alloc (.cells #[.int .i64 0, .int .i64 0, .int .i64 0, .int .i64 0, .int .i64 7, .string ⟨#[]⟩, .slice none 0 0, .bool false] 50)).alloc (.cells #[.slice none 0 0, .slice (some ⟨w.heap.size, 0, none⟩) 1 1, .int .i64 2, .int .i64 0, .int .i64 0, .int .i64 0, .slice none 0 0, .slice none 0 0] 48)) (.cells #[.int .i64 0, .slice (some ⟨w.heap.size + 1, 0, none⟩) 1 1] 34)
      simpa using this)
  clear hW
  have nil : ∀ (v : Value), v = .slice none 0 0 → NumsV W v [] := fun v hv => ⟨none, 0, 0, hv, NumsAt.nil _ _, fun _ => rfl, by decide, fun z hz => (by cases hz)⟩
  have one : ∀ {α : Type} {Q : World → List Value → α → Prop} {k b : Nat} {T : TypeId} {cur : Array Value} {x : α}, W.heap[b]? = some (.cells cur T (0, 0)) → cur.size = k → Q W cur.toList x → RowV Q k W (.slice (some ⟨b, 0, none⟩) 1 1) [x] := by
    intro α Q k b T cur x hb hk hq
    refine ⟨_, 1, 1, rfl, rfl, fun h => (by cases h), by decide, fun _ => ⟨b, 0, rfl, (Array.getElem?_eq_some_iff.1 hb).1, fun i hi => ?_⟩⟩
    have hi0 : i = 0 := by simpa using hi
    subst hi0
    refine ⟨cur.toList, by simpa using hk, fun j hj => ?_, hq⟩
    simp only [World.cell?, hb, Nat.zero_mul, Nat.zero_add]
    simp at hj ⊢
  have z0 : InR 0 := ⟨by decide, by decide⟩
  have hf : FuncQ W [.int .i64 0, .slice (some ⟨w.heap.size + 1, 0, none⟩) 1 1] liveFunc := by
    refine ⟨_, rfl, z0, one h1 rfl ?_⟩
    refine ⟨_, _, _, rfl, nil _ rfl, one h0 rfl ?_, _, _, rfl, ⟨by decide, by decide⟩, z0, z0, z0, nil _ rfl, nil _ rfl⟩
    exact ⟨_, rfl, z0, z0, z0, z0, ⟨by decide, by decide⟩, Nat.zero_le _, nil _ rfl⟩
  exact ⟨hbel, hs, ⟨_, _, _, rfl, ⟨none, 0, 0, rfl, rfl, fun _ => rfl, by decide, fun h => absurd h (by omega)⟩, ⟨none, 0, 0, rfl, rfl, fun _ => rfl, by decide, fun h => absurd h (by omega)⟩, one h2 rfl hf⟩, hf, h3, h2⟩
theorem DecPost.yes {p : PR ProgD} {P : ProgD} {w : World} {e : Ending} {w' : World} (h : DecPost p w e w') (hp : p = .ok P []) :
    ∃ g sa sn sc ca cn cc fa fn fc, e = .returned (.tuple #[.pointer (some ⟨g, 0, none⟩), .int .i64 0]) ∧ w.heap.size ≤ g ∧ WinAt w' g 0 [.slice sa sn sc, .slice ca cn cc, .slice fa fn fc] ∧ ProgQ w' [.slice sa sn sc, .slice ca cn cc, .slice fa fn fc] P ∧ Below w.heap.size w w' := by
  rcases h with ⟨P', g, s, c, f, h1, h2, h3, h4, h5, h6⟩ | ⟨er, h1, _⟩
  · rw [hp] at h1
    cases h1
    have hq := ProgO.reads _ _ _ _ h5
    obtain ⟨sa, sn, sc, ca, cn, cc, fa, fn, fc, rfl, rfl, rfl⟩ := hq.form
    exact ⟨g, sa, sn, sc, ca, cn, cc, fa, fn, fc, h2, h3, h4, hq, h6⟩
  · rw [hp] at h1; cases h1
theorem EncPost.yes {o : Out} {l : List UInt8} {w : World} {e : Ending} {w' : World} (h : EncPost o w e w') (ho : o = .ok l) :
    ∃ va vn vc, e = .returned (.tuple #[.slice va vn vc, .int .i64 0]) ∧ OwnsB w' w.heap.size 5 (.slice va vn vc) l ∧ Below w.heap.size w w' := by
  rcases h with ⟨l', va, vn, vc, h1, h2, h3, h4⟩ | ⟨er, h1, _⟩
  · rw [ho] at h1; cases h1; exact ⟨va, vn, vc, h2, h3, h4⟩
  · rw [ho] at h1; cases h1

end Go.Proofs.YtccajbgdlicbnaaDoor

/- Layer 5, plain: what a program's bytes are as an answer: no error is 0, there is a byte, of a beginning and with a byte more they are none (P5.5). -/
namespace Go.Proofs.YtccajbgdlicbnaaDoor
open Go.RowKit (wrap64 intOf Below)
set_option linter.unusedVariables false

/-- None of its errors is 0. -/
def OutNZ (o : Out) : Prop := ∀ e, o = .no e → e ≠ 0
theorem OutNZ.ok (l : List UInt8) : OutNZ (.ok l) := fun e h => by cases h
theorem OutNZ.and {a b : Out} (h : OutNZ a) (h' : OutNZ b) : OutNZ (a.and b) := by
  intro e he
  cases a with
  | no x => simp only [Out.no_and, Out.no.injEq] at he; subst he; exact h _ rfl
  | ok l => cases b with
    | no y => simp only [Out.and, Out.no.injEq] at he; subst he; exact h' _ rfl
    | ok m => simp only [Out.and] at he; cases he
theorem OutNZ.check (b : Bool) {e : Int} (h : e ≠ 0) : OutNZ (chk b e) := by
  intro x hx
  unfold chk at hx
  split at hx
  · cases hx
  · cases hx; exact h
theorem OutNZ.all {α : Type} {f : α → Out} (h : ∀ x, OutNZ (f x)) : ∀ xs, OutNZ (encAll f xs)
  | [] => OutNZ.ok _
  | x :: xs => (h x).and (OutNZ.all h xs)
theorem OutNZ.list {α : Type} {f : α → Out} (most : Nat) (h : ∀ x, OutNZ (f x)) (xs : List α) : OutNZ (encList most f xs) := ((OutNZ.ok _).and (OutNZ.check _ (by decide))).and (OutNZ.all h xs)
theorem OutNZ.num (z : Int) : OutNZ (encN z) := OutNZ.ok _
theorem OutNZ.nums (most : Nat) (Z : List Int) : OutNZ (encNums most Z) := OutNZ.list most OutNZ.num Z
theorem OutNZ.below (n b : Int) : OutNZ (outBelow n b) := (OutNZ.num n).and (OutNZ.check _ (by decide))
theorem OutNZ.op (o : OpD) : OutNZ (encOp o) := (OutNZ.below _ _).and (OutNZ.all (fun f => by
  unfold encField
  repeat' split
  all_goals first | exact OutNZ.num _ | exact OutNZ.nums _ _ | exact (OutNZ.check _ (by decide)).and (OutNZ.ok _)) _)
theorem OutNZ.fin (e : EndD) : OutNZ (encEnd e) := (OutNZ.below _ _).and (by
  unfold encRest
  repeat' split
  · exact (OutNZ.num _).and (OutNZ.nums _ _)
  · exact (OutNZ.num _).and ((OutNZ.num _).and ((OutNZ.nums _ _).and ((OutNZ.num _).and (OutNZ.nums _ _))))
  · exact OutNZ.num _)
theorem OutNZ.block (b : BlockD) : OutNZ (encBlock b) := (OutNZ.nums _ _).and ((OutNZ.list _ OutNZ.op _).and (OutNZ.fin _))
theorem OutNZ.func (f : FuncD) : OutNZ (encFunc f) := (OutNZ.num _).and (OutNZ.list _ OutNZ.block _)
theorem OutNZ.sig (s : SigD) : OutNZ (encSig s) := (OutNZ.nums _ _).and (OutNZ.num _)
theorem OutNZ.cls (s : ClassD) : OutNZ (encClass s) := (OutNZ.nums _ _).and (OutNZ.nums _ _)
theorem OutNZ.prog (p : ProgD) : OutNZ (encProg p) := (OutNZ.list _ OutNZ.sig _).and ((OutNZ.list _ OutNZ.cls _).and (OutNZ.list _ OutNZ.func _))
theorem out_nz (P : ProgD) : OutNZ (outBytes (encProg P)) := by
  intro e h
  unfold outBytes at h
  split at h
  · rename_i x hx
    cases h
    exact OutNZ.prog P _ hx
  · split at h
    · cases h; decide
    · cases h

/-- The bytes of a program: what is read of them, of a beginning, with a byte more. -/
theorem out_takes {P : ProgD} (hr : RngProg P) {l : List UInt8} (h : outBytes (encProg (plainProg P)) = .ok l) : Takes rdProg l (plainProg P) ∧ l.length ≤ 65536 := by
  obtain ⟨_, h2, h3⟩ := in_out hr h
  have ht := takes_prog _ _ hr.plain h3
  rw [plainProg_twice] at ht
  exact ⟨ht, h2⟩
theorem out_some {P : ProgD} (hr : RngProg P) {l : List UInt8} (h : outBytes (encProg (plainProg P)) = .ok l) : 0 < l.length := by
  have ht := (out_takes hr h).1.1 []
  match l, ht with
  | [], ht => simp [rdProg, rdList, rdCount, rdNum, takeL, PR.bind] at ht
  | c :: r, _ => simp
theorem in_cut {P : ProgD} (hr : RngProg P) {l : List UInt8} (h : outBytes (encProg (plainProg P)) = .ok l) (j : Nat) (hj : j < l.length) : inBytes (l.take j) = .no 3 := by
  obtain ⟨ht, hl⟩ := out_takes hr h
  unfold inBytes
  rw [if_neg (by rw [List.length_take]; omega), ht.2 j hj]
  rfl
theorem in_more {P : ProgD} (hr : RngProg P) {l : List UInt8} (h : outBytes (encProg (plainProg P)) = .ok l) : inBytes (l ++ [0]) = .no (if l.length = 65536 then 2 else 4) := by
  obtain ⟨ht, hl⟩ := out_takes hr h
  unfold inBytes
  by_cases h6 : l.length = 65536
  · rw [if_pos (by simp; omega), if_pos h6]
  · rw [if_neg (by simp; omega), if_neg h6, ht.1 [0]]
    rfl
theorem DecPost.no {p : PR ProgD} {er : Int} {w : World} {e : Ending} {w' : World} (h : DecPost p w e w') (hp : p = .no er) : e = .returned (.tuple #[.pointer none, .int .i64 er]) ∧ Below w.heap.size w w' := by
  rcases h with ⟨P', g, s, c, f, h1, _⟩ | ⟨er', h1, _, h3, h4⟩
  · rw [hp] at h1; cases h1
  · rw [hp] at h1; cases h1; exact ⟨h3, h4⟩
theorem EncPost.no {o : Out} {er : Int} {w : World} {e : Ending} {w' : World} (h : EncPost o w e w') (ho : o = .no er) : e = .returned (.tuple #[.slice none 0 0, .int .i64 er]) ∧ Below w.heap.size w w' := by
  rcases h with ⟨l', va, vn, vc, h1, _⟩ | ⟨er', h1, h2, h3⟩
  · rw [ho] at h1; cases h1
  · rw [ho] at h1; cases h1; exact ⟨h2, h3⟩
theorem OwnsB.before {w : World} {B : Nat} {e : TypeId} {a : Option Addr} {n c : Nat} {l : List UInt8} (h : OwnsB w B e (.slice a n c) l) : ∀ ad, a = some ad → ad.block < w.heap.size := by
  intro ad ha
  subst ha
  rcases h.2 with ⟨h1, _⟩ | ⟨g, cap, cur, h1, _, hg, _⟩
  · cases h1
  · cases h1
    exact (Array.getElem?_eq_some_iff.1 hg).1
end Go.Proofs.YtccajbgdlicbnaaDoor

/- Layer 5: the document's writer (W): where it stands, and its calls bad, num, list. -/
namespace Go.Proofs.YtccajbgdlicbnaaDoor
open Go.RowKit (wrap64 intOf Below)
set_option linter.unusedVariables false
set_option linter.unusedSimpArgs false
attribute [local go_sem ↓] Go.wp_at_zero Go.wp_at_succ

/-- The writer in block d has the bytes l (of its own, behind d), and what is wrong. -/
structure VSt (d : Nat) (va : Option Addr) (vn vc : Nat) (l : List UInt8) (w : World) (y : Int) : Prop where
  box : w.heap[d]? = some (.cells #[.slice va vn vc, .int .i64 y] 85 (0, 0))
  own : OwnsB w (d + 1) 5 (.slice va vn vc) l
section
variable {d : Nat} {va : Option Addr} {vn vc : Nat} {l : List UInt8} {w u : World} {y : Int}
theorem VSt.lt (h : VSt d va vn vc l w y) : d < w.heap.size := (Array.getElem?_eq_some_iff.1 h.box).1
theorem VSt.c0 (h : VSt d va vn vc l w y) : w.cell? ⟨d, 0, none⟩ = some (.slice va vn vc) := by simp [World.cell?, h.box]
theorem VSt.c1 (h : VSt d va vn vc l w y) : w.cell? ⟨d, 1, none⟩ = some (.int .i64 y) := by simp [World.cell?, h.box]
theorem VSt.free (h : VSt d va vn vc l w y) (j : Nat) : w.frozen? ⟨d, j, none⟩ = false := by simp [World.frozen?, h.box]
theorem VSt.since (h : VSt d va vn vc l w y) (hb : Below w.heap.size w u) : VSt d va vn vc l u y := ⟨(hb.block d h.lt).trans h.box, h.own.below hb⟩
theorem VSt.note (h : VSt d va vn vc l w y) (z : Int) : VSt d va vn vc l (w.setCell ⟨d, 1, none⟩ (.int .i64 z)) z :=
  ⟨by have := heap_setCell_same w d 1 _ _ (.int .i64 z) h.box; simpa using this, ownsRow_heap h.own (fun b hb hlt => Below.heap_setCell _ _ _ _ (fun he => by have := (h.own.lt b hb).1; simp only at he; omega))⟩
/-- New bytes. -/
theorem VSt.put {ua : Option Addr} {un uc : Nat} {m : List UInt8} (h : VSt d va vn vc l w y) (ho : OwnsB w (d + 1) 5 (.slice ua un uc) m) : VSt d ua un uc m (w.setCell ⟨d, 0, none⟩ (.slice ua un uc)) y :=
  ⟨by have := heap_setCell_same w d 0 _ _ (.slice ua un uc) h.box; simpa using this, ownsRow_heap ho (fun b hb hlt => Below.heap_setCell _ _ _ _ (fun he => by have := (ho.lt b hb).1; simp only at he; omega))⟩
end
/-- What a writer's call did. -/
def Wrote (o : Out) (l : List UInt8) (y : Int) (l' : List UInt8) (y' : Int) : Prop :=
  (y ≠ 0 → y' = y) ∧ (y = 0 → (∀ m, o = .ok m → y' = 0 ∧ l' = l ++ m) ∧ (∀ e, o = .no e → y' = e ∧ e ≠ 0))
section
variable {l l1 l2 : List UInt8} {y y1 y2 : Int} {a b : Out}
theorem Wrote.and (h : Wrote a l y l1 y1) (k : Wrote b l1 y1 l2 y2) : Wrote (a.and b) l y l2 y2 := by
  refine ⟨fun hy => (k.1 (by rw [h.1 hy]; exact hy)).trans (h.1 hy), fun hy => ?_⟩
  cases a with
  | no e =>
    obtain ⟨h1, h2⟩ := (h.2 hy).2 e rfl
    refine ⟨fun m hm => by simp at hm, fun e' he => ?_⟩
    simp only [Out.no_and, Out.no.injEq] at he
    subst he
    exact ⟨(k.1 (by rw [h1]; exact h2)).trans h1, h2⟩
  | ok m =>
    obtain ⟨h1, h2⟩ := (h.2 hy).1 m rfl
    cases b with
    | no e =>
      refine ⟨fun m hm => by simp [Out.and] at hm, fun e' he => ?_⟩
      simp only [Out.and, Out.no.injEq] at he
      subst he
      exact (k.2 h1).2 e rfl
    | ok m2 =>
      refine ⟨fun m' hm => ?_, fun e' he => by simp [Out.and] at he⟩
      simp only [Out.and, Out.ok.injEq] at hm
      subst hm
      obtain ⟨k1, k2⟩ := (k.2 h1).1 m2 rfl
      exact ⟨k1, by rw [k2, h2, List.append_assoc]⟩
theorem Wrote.none_ : Wrote (.ok []) l y l y := ⟨fun _ => rfl, fun hy => ⟨fun m hm => by cases hm; exact ⟨hy, by simp⟩, fun e he => by cases he⟩⟩
theorem Wrote.went (h : Wrote a l y l1 y1) (h1 : y1 = 0) : y = 0 ∧ ∃ m, a = .ok m ∧ l1 = l ++ m := by
  have hy : y = 0 := Classical.byContradiction fun hy => hy ((h.1 hy).symm.trans h1)
  refine ⟨hy, ?_⟩
  cases a with
  | no e => obtain ⟨e1, e2⟩ := (h.2 hy).2 e rfl; exact absurd (e1.symm.trans h1) e2
  | ok m => exact ⟨m, rfl, ((h.2 hy).1 m rfl).2⟩
theorem Wrote.len {k : Nat} (h : Wrote a l y l1 y1) (h1 : y1 = 0) (hu : Upto a k) : l1.length ≤ l.length + k := by
  obtain ⟨_, m, rfl, rfl⟩ := h.went h1
  rw [List.length_append]
  have := hu m rfl
  omega
theorem Wrote.of (h : Wrote a l y l1 y1) (he : a = b) : Wrote b l y l1 y1 := he ▸ h
theorem Wrote.all0 {α : Type} {f : α → Out} (xs : List α) : Wrote (encAll f (xs.take 0)) l y l y := Wrote.none_
theorem Wrote.more {α : Type} {f : α → Out} {xs : List α} {i : Nat} (hi : i < xs.length) (h : Wrote (encAll f (xs.take i)) l y l1 y1) (k : Wrote (f xs[i]) l1 y1 l2 y2) : Wrote (encAll f (xs.take (i + 1))) l y l2 y2 :=
  (h.and k).of (encAll_take f xs i hi).symm
theorem Wrote.enough {α : Type} {f : α → Out} {xs : List α} {i : Nat} (h : Wrote (encAll f (xs.take i)) l y l1 y1) (hn : xs.length ≤ i ∨ y1 ≠ 0) : Wrote (encAll f xs) l y l1 y1 := by
  rcases hn with hn | hn
  · rwa [List.take_of_length_le hn] at h
  · refine ⟨h.1, fun hy => ?_⟩
    have hx : ∃ e, encAll f (xs.take i) = .no e := by
      cases ho : encAll f (xs.take i) with
      | no e => exact ⟨e, rfl⟩
      | ok m => exact absurd ((h.2 hy).1 m ho).1 hn
    obtain ⟨e, he⟩ := hx
    have hall : encAll f xs = .no e := by
      conv => lhs; rw [← List.take_append_drop i xs]
      rw [encAll_append, he, Out.no_and]
    rw [hall]
    exact ⟨fun m hm => (by cases hm), fun e' he' => by cases he'; exact (h.2 hy).2 e he⟩
end
theorem chk_num (b : Bool) (e : Int) (m : List UInt8) : (chk b e).and (.ok m) = (Out.ok m).and (chk b e) := by
  unfold chk
  cases b
  · simp [Out.and]
  · simp
def VPost (d : Nat) (l : List UInt8) (y : Int) (o : Out) (w : World) (e : Ending) (w' : World) : Prop :=
  ∃ ua un uc l' y', e = .returned (.tuple #[]) ∧ VSt d ua un uc l' w' y' ∧ Off (fun k => k = d) w w' ∧ Wrote o l y l' y'

set_option maxRecDepth 100000 in
set_option maxHeartbeats 2000000 in
theorem w_bad (d : Nat) (va : Option Addr) (vn vc : Nat) (l : List UInt8) (y : Int) (is : Bool) (er : Int) (her : er ≠ 0) (w : World) (h : VSt d va vn vc l w y) :
    Calls Tryd.prog 45 #[.pointer (some ⟨d, 0, none⟩), .bool is, .int .i64 er] w (VPost d l y (chk (!is) er) w) := by
  have hc1 := h.c1
  have hfr := h.free 1
  have H := Lib.hid h
  have HER := Lib.hid her
  clear h her
  cases is
  · go_enter Tryd.func45, Tryd.ntmps45
    go_wp2_with fail
    go_end0
    exact ⟨_, _, _, l, y, rfl, H.out, Off.refl _ _, Wrote.none_⟩
  by_cases hy : y = 0
  · subst hy
    go_enter Tryd.func45, Tryd.ntmps45
    go_wp2_with fail
    go_end0
    exact ⟨_, _, _, l, er, rfl, H.out.note er, Off.setCell (p := ⟨d, 1, none⟩) (Off.refl (fun k => k = d) w) (.inl rfl) _, fun hh => absurd rfl hh, fun _ => ⟨fun m hm => (by cases hm), fun e he => by cases he; exact ⟨rfl, HER.out⟩⟩⟩
  · have hyb : (y == 0) = false := by rw [beq_eq_false_iff_ne]; exact hy
    have HY := Lib.hid hy
    clear hy
    go_enter Tryd.func45, Tryd.ntmps45
    go_wp2_with fail
    go_end0
    exact ⟨_, _, _, l, y, rfl, H.out, Off.refl _ _, fun _ => rfl, fun hh => absurd hh HY.out⟩
set_option maxRecDepth 100000 in
set_option maxHeartbeats 2000000 in
theorem w_num (d : Nat) (va : Option Addr) (vn vc : Nat) (l : List UInt8) (y : Int) (z : Int) (hz : InR z) (w : World) (h : VSt d va vn vc l w y) (hl : y = 0 → l.length ≤ 100000000000000) :
    Calls Tryd.prog 46 #[.pointer (some ⟨d, 0, none⟩), .int .i64 z] w (VPost d l y (encN z) w) := by
  have hc0 := h.c0
  have hc1 := h.c1
  have hfr := h.free 0
  have H := Lib.hid h
  by_cases hy : y = 0
  · subst hy
    have hlen := h.own.len
    have hll := hl rfl
    have CP := Lib.hid (ref_put va vn vc l z w h.own.read (by omega) hz.1 hz.2)
    clear h hl hz hlen hll
    go_enter Tryd.func46, Tryd.ntmps46
    go_wp2_with fail
    refine CP.out.mono ?_
    rintro e w1 ⟨ua, un, uc, rfl, hown, hb⟩
    have H1 := Lib.hid (H.out.since hb)
    have HO := Lib.hid (hown.mono (B' := d + 1) H.out.lt)
    have HB := Lib.hid hb
    have f1 := H1.out.free 0
    have x1 := H1.out.c0
    clear hown hb hc0 hc1 hfr
    go_wp2_with fail
    go_end0
    exact ⟨_, _, _, l ++ putL z, 0, rfl, H1.out.put HO.out, Off.setCell (p := ⟨d, 0, none⟩) (Off.since (X := fun k => k = d) HB.out) (.inl rfl) _, fun hh => absurd rfl hh, fun _ => ⟨fun m hm => by cases hm; exact ⟨rfl, rfl⟩, fun e he => by cases he⟩⟩
  · have hyb : (y == 0) = false := by rw [beq_eq_false_iff_ne]; exact hy
    have HY := Lib.hid hy
    clear hy h hl
    go_enter Tryd.func46, Tryd.ntmps46
    go_wp2_with fail
    go_end0
    exact ⟨_, _, _, l, y, rfl, H.out, Off.refl _ _, fun _ => rfl, fun hh => absurd hh HY.out⟩
set_option maxRecDepth 100000 in
set_option maxHeartbeats 4000000 in
theorem w_list (d : Nat) (va : Option Addr) (vn vc : Nat) (l : List UInt8) (y : Int) (a : Option Addr) (n c : Nat) (Z : List Int) (most : Nat) (hmo : most ≤ 1000) (w : World) (h : VSt d va vn vc l w y) (hZ : NumsAt w a n Z) (hn : n ≤ 140737488355328) (hr : ∀ z ∈ Z, InR z) (hd : 0 < n → ∀ ad, a = some ad → ad.block ≠ d) (hl : y = 0 → l.length ≤ 90000000000000) :
    Calls Tryd.prog 47 #[.pointer (some ⟨d, 0, none⟩), .slice a n c, .int .i64 (most : Int)] w (VPost d l y (encNums most Z) w) := by
  have CB := Lib.hid (w_bad d va vn vc l y (decide (most < n)) 2 (by decide) w h)
  have HLN : RowKit.Hid (Z.length = n) := Lib.hid hZ.1
  have HRG := Lib.hid hr
  have HL := Lib.hid hl
  have HZ := Lib.hid hZ.2
  have HDD := Lib.hid hd
  have HN : RowKit.Hid (InR (n : Int)) := Lib.hid ⟨by omega, by omega⟩
  clear h hZ hr hl hd
  go_enter Tryd.func47, Tryd.ntmps47
  go_wp2_with fail
  refine CB.out.mono ?_
  rintro e w1 ⟨ua, un, uc, l1, y1, rfl, hv1, ho1, hw1⟩
  have HV1 := Lib.hid hv1
  have HO1 := Lib.hid ho1
  have HW1 := Lib.hid hw1
  clear CB hv1 ho1 hw1
  go_wp2_with fail
  refine (w_num d ua un uc l1 y1 (n : Int) HN.out w1 HV1.out (fun h0 => by have := HW1.out.len h0 (Upto.check _ _); have := HL.out (HW1.out.went h0).1; omega)).mono ?_
  rintro e w2 ⟨ub, um, ud, l2, y2, rfl, hv2, ho2, hw2⟩
  have HW2 : RowKit.Hid (Wrote (outCount n most) l y l2 y2) := Lib.hid ((HW1.out.and hw2).of (by unfold outCount encN; rw [chk_num]; congr 2; by_cases hh : most < n; rw [decide_eq_true hh, decide_eq_false (show ¬ n ≤ most by omega)]; rfl; rw [decide_eq_false hh, decide_eq_true (show n ≤ most by omega)]; rfl))
  have HO2 := Lib.hid (HO1.out.trans ho2)
  have HV2 := Lib.hid hv2
  clear hv2 ho2 hw2
  go_wp2_with fail
  go_loopw [6] (fun iv wr => ∃ (i : Nat) (ua : Option Addr) (un uc : Nat) (l3 : List UInt8) (y3 : Int), i ≤ n ∧ iv = .int .i64 (i : Int) ∧ wr.cell? ⟨d, 1, none⟩ = some (.int .i64 y3) ∧ RowKit.Hid (VSt d ua un uc l3 wr y3 ∧ Off (fun k => k = d) w wr ∧ Wrote (encAll encN (Z.take i)) l2 y2 l3 y3)) (fun iv _ => n - (intOf iv).toNat)
  case atStart => exact ⟨0, ub, um, ud, l2, y2, Nat.zero_le _, rfl, HV2.out.c1, Lib.hid ⟨HV2.out, HO2.out, Wrote.all0 Z⟩⟩
  case round =>
    obtain ⟨i, ua, un, uc, l3, y3, hi, rfl, hc1, HI⟩ := hrel
    have HFIN : RowKit.Hid (n ≤ i ∨ y3 ≠ 0 → Wrote (encNums most Z) l y l3 y3) := Lib.hid fun hn => by
      unfold encNums encList
      rw [HLN.out]
      exact HW2.out.and (HI.out.2.2.enough (by rw [HLN.out]; exact hn))
    by_cases hlt : i < n
    · by_cases hy : y3 = 0
      · subst hy
        obtain ⟨g, off, rfl, hg, hcell⟩ := HZ.out (by omega)
        have hil : i < Z.length := by rw [HLN.out]; exact hlt
        obtain ⟨z, hz⟩ : ∃ z, z = Z[i] := ⟨_, rfl⟩
        have hne := HDD.out (by omega) _ rfl
        have hcz : wr.cell? ⟨g, off + i, none⟩ = some (.int .i64 z) := (HI.out.2.1.cell (p := ⟨g, off + i, none⟩) hg hne).trans (by rw [hcell i hil, hz]; rfl)
        have HZI : RowKit.Hid (z = Z[i]) := Lib.hid hz
        have HIR : RowKit.Hid (InR z) := Lib.hid (by rw [hz]; exact HRG.out _ (List.getElem_mem hil))
        have HIL := Lib.hid hil
        have HLB : RowKit.Hid (l3.length ≤ 100000000000000) := Lib.hid (by
          obtain ⟨h2, m, hm, h3⟩ := HI.out.2.2.went rfl
          obtain ⟨h0, m0, hm0, h4⟩ := HW2.out.went h2
          have hu := (Upto.all (f := encN) (n := 10) (Z.take i) (fun z _ => Upto.num z)) m hm
          have hu0 := ((Upto.num (n : Int)).and (Upto.check (decide (n ≤ most)) 2)) m0 hm0
          have hnm : n ≤ most := Classical.byContradiction fun hh => by rw [outCount_no (by omega)] at hm0; cases hm0
          have := HL.out h0
          rw [h3, h4, List.length_append, List.length_append]
          rw [List.length_take] at hu
          have : min i Z.length ≤ 1000 := by omega
          omega)
        clear hz hcell
        go_wp2_with fail
        refine (w_num d ua un uc l3 0 z HIR.out wr HI.out.1 (fun _ => HLB.out)).mono ?_
        rintro e w5 ⟨ub5, um5, ud5, l5, y5, rfl, hv5, ho5, hw5⟩
        have HV5 := Lib.hid hv5
        have HO5 := Lib.hid (HI.out.2.1.trans ho5)
        have HW5 := Lib.hid (HI.out.2.2.more HIL.out (by rw [← HZI.out]; exact hw5))
        clear hv5 ho5 hw5
        go_wp2_with fail
        go_roundw
        case rel => exact ⟨i + 1, ub5, um5, ud5, l5, y5, by omega, by go_num, HV5.out.c1, Lib.hid ⟨HV5.out, HO5.out, HW5.out⟩⟩
        case measure => simp [intOf]; omega
      · have hyb : (y3 == 0) = false := by rw [beq_eq_false_iff_ne]; exact hy
        have HY := Lib.hid hy
        clear hy
        go_wp2_with fail
        go_end0
        exact ⟨_, _, _, l3, y3, rfl, HI.out.1, HI.out.2.1, HFIN.out (.inr HY.out)⟩
    · obtain rfl : i = n := by omega
      go_wp2_with fail
      go_end0
      exact ⟨_, _, _, l3, y3, rfl, HI.out.1, HI.out.2.1, HFIN.out (.inl (Nat.le_refl _))⟩
end Go.Proofs.YtccajbgdlicbnaaDoor

/- Layer 5: the document's Small: a program that it calls small has no list that is too long for a copy. -/
namespace Go.Proofs.YtccajbgdlicbnaaDoor
open Go.RowKit (wrap64 intOf Below)
set_option linter.unusedVariables false
set_option linter.unusedSimpArgs false

def SmallPost (P : ProgD) (w : World) (e : Ending) (w' : World) : Prop := ∃ b : Bool, e = .returned (.bool b) ∧ (b = true → SmProg P) ∧ Below w.heap.size w w'
theorem all_take {α : Type} {R : α → Prop} {xs : List α} {i : Nat} (h : i < xs.length) (h1 : ∀ x ∈ xs.take i, R x) (h2 : R xs[i]) : ∀ x ∈ xs.take (i + 1), R x := by
  intro x hx
  rw [List.take_succ_eq_append_getElem h] at hx
  rcases List.mem_append.1 hx with h' | h'
  · exact h1 x h'
  · simp only [List.mem_singleton] at h'; subst h'; exact h2
set_option maxRecDepth 100000 in
set_option maxHeartbeats 8000000 in
theorem ref_small (g off : Nat) (sa : Option Addr) (sn sc : Nat) (ca : Option Addr) (cn cc : Nat) (fa : Option Addr) (fn fc : Nat) (P : ProgD) (w : World) (hg : g < w.heap.size)
    (hc0 : w.cell? ⟨g, off, none⟩ = some (.slice sa sn sc)) (hc1 : w.cell? ⟨g, off + 1, none⟩ = some (.slice ca cn cc)) (hc2 : w.cell? ⟨g, off + 2, none⟩ = some (.slice fa fn fc))
    (hP : ProgQ w [.slice sa sn sc, .slice ca cn cc, .slice fa fn fc] P) :
    Calls Tryd.prog 5 #[.pointer (some ⟨g, off, none⟩), .int .i64 4000] w (SmallPost P w) := by
  obtain ⟨_, _, _, he, hS, hC, hF⟩ := hP
  simp only [List.cons.injEq, and_true] at he
  obtain ⟨rfl, rfl, rfl⟩ := he
  obtain ⟨hsl, hsm⟩ := rowV_len' hS
  obtain ⟨hcl, hcm⟩ := rowV_len' hC
  obtain ⟨hfl, hfm⟩ := rowV_len' hF
  have HS := Lib.hid hS
  have HC := Lib.hid hC
  have HF := Lib.hid hF
  have HSL := Lib.hid hsl
  have HCL := Lib.hid hcl
  have HFL := Lib.hid hfl
  clear hS hC hF hsl hcl hfl
  go_enter Tryd.func5, Tryd.ntmps5
  go_wp2_with fail
  go_quiet (fail)
  go_wp2_with fail
  go_loopw [5, 6] (fun nv iv wr => ∃ n i : Nat, i ≤ sn ∧ sn + cn + fn ≤ n ∧ n ≤ 1000000000000000 ∧ nv = .int .i64 (n : Int) ∧ iv = .int .i64 (i : Int) ∧ ∃ q, wr = w.drewN q) (fun _ iv _ => sn - (intOf iv).toNat)
  case atStart => exact ⟨sn + cn + fn, 0, Nat.zero_le _, Nat.le_refl _, by omega, by go_num, rfl, _, rfl⟩
  case round =>
    obtain ⟨n, i, hi, hn0, hn1, rfl, rfl, q, rfl⟩ := hrel
    by_cases hlt : i < sn
    · by_cases hn4 : n ≤ 4000
      · have hn4' : (n : Int) ≤ 4000 := by omega
        obtain ⟨g1, o1, rfl, hg1, hcs1⟩ := rowV_at HS.out (by omega)
        have hi1 : i < P.sigs.length := by rw [HSL.out]; exact hlt
        obtain ⟨cs1, hc21, hcell1, hq1⟩ := hcs1 i hi1
        obtain ⟨v1, rfl, ⟨pa, pn, pc, rfl, hpat, _, hpm, _⟩, _⟩ := hq1
        have hd0 := hcell1 0 (by simp)
        simp only [Nat.add_zero, List.getElem_cons_zero] at hd0
        clear hcell1 hcs1 hpat
        go_wp2_with fail
        go_roundw
        case rel => exact ⟨n + pn, i + 1, by omega, by omega, by omega, by go_num, by go_num, _, rfl⟩
        case measure => simp [intOf]; omega
      · have hn4' : ¬ (n : Int) ≤ 4000 := by omega
        go_wp2_with fail
        go_loopw [5, 7] (fun nv iv wr => nv = .int .i64 (n : Int) ∧ iv = .int .i64 0 ∧ ∃ q, wr = w.drewN q) (fun _ _ _ => 0)
        case atStart => exact ⟨rfl, rfl, _, rfl⟩
        case round =>
          obtain ⟨rfl, rfl, q, rfl⟩ := hrel
          by_cases hlt2 : 0 < cn
          · go_wp2_with fail
            go_loopw [5, 8] (fun nv iv wr => nv = .int .i64 (n : Int) ∧ iv = .int .i64 0 ∧ ∃ q, wr = w.drewN q) (fun _ _ _ => 0)
            case atStart => exact ⟨rfl, rfl, _, rfl⟩
            case round =>
              obtain ⟨rfl, rfl, q, rfl⟩ := hrel
              by_cases hlt3 : 0 < fn
              · go_wp2_with fail
                go_ret
                exact ⟨_, rfl, fun h => absurd h (by first | (simp; done) | (simp; omega)), below_drewN _ (Below.refl _ _)⟩
              · obtain rfl : fn = 0 := by omega
                go_wp2_with fail
                go_ret
                exact ⟨_, rfl, fun h => absurd h (by first | (simp; done) | (simp; omega)), below_drewN _ (Below.refl _ _)⟩
          · obtain rfl : cn = 0 := by omega
            go_wp2_with fail
            go_loopw [5, 8] (fun nv iv wr => nv = .int .i64 (n : Int) ∧ iv = .int .i64 0 ∧ ∃ q, wr = w.drewN q) (fun _ _ _ => 0)
            case atStart => exact ⟨rfl, rfl, _, rfl⟩
            case round =>
              obtain ⟨rfl, rfl, q, rfl⟩ := hrel
              by_cases hlt3 : 0 < fn
              · go_wp2_with fail
                go_ret
                exact ⟨_, rfl, fun h => absurd h (by first | (simp; done) | (simp; omega)), below_drewN _ (Below.refl _ _)⟩
              · obtain rfl : fn = 0 := by omega
                go_wp2_with fail
                go_ret
                exact ⟨_, rfl, fun h => absurd h (by first | (simp; done) | (simp; omega)), below_drewN _ (Below.refl _ _)⟩
    · go_wp2_with fail
      go_loopw [5, 7] (fun nv iv wr => ∃ n i : Nat, i ≤ cn ∧ sn + cn + fn ≤ n ∧ n ≤ 1000000000000000 ∧ nv = .int .i64 (n : Int) ∧ iv = .int .i64 (i : Int) ∧ ∃ q, wr = w.drewN q) (fun _ iv _ => cn - (intOf iv).toNat)
      case atStart => exact ⟨n, 0, Nat.zero_le _, by omega, by omega, rfl, rfl, _, rfl⟩
      case round =>
        clear hi hn0 hn1
        obtain ⟨n, i, hi, hn0, hn1, rfl, rfl, q, rfl⟩ := hrel
        by_cases hlt : i < cn
        · by_cases hn4 : n ≤ 4000
          · have hn4' : (n : Int) ≤ 4000 := by omega
            obtain ⟨g1, o1, rfl, hg1, hcs1⟩ := rowV_at HC.out (by omega)
            have hi1 : i < P.classes.length := by rw [HCL.out]; exact hlt
            obtain ⟨cs1, hc21, hcell1, hq1⟩ := hcs1 i hi1
            obtain ⟨v1, v2, rfl, ⟨pa, pn, pc, rfl, hpat, _, hpm, _⟩, ⟨ma, mn, mc, rfl, hmat, _, hmm, _⟩⟩ := hq1
            have hd0 := hcell1 0 (by simp)
            have hd1 := hcell1 1 (by simp)
            simp only [Nat.add_zero, List.getElem_cons_zero, List.getElem_cons_succ] at hd0 hd1
            clear hcell1 hcs1 hpat hmat
            go_wp2_with fail
            go_quiet (fail)
            go_wp2_with fail
            go_roundw
            case rel => exact ⟨n + pn + mn, i + 1, by omega, by omega, by omega, by go_num, by go_num, _, rfl⟩
            case measure => simp [intOf]; omega
          · have hn4' : ¬ (n : Int) ≤ 4000 := by omega
            go_wp2_with fail
            go_loopw [5, 8] (fun nv iv wr => nv = .int .i64 (n : Int) ∧ iv = .int .i64 0 ∧ ∃ q, wr = w.drewN q) (fun _ _ _ => 0)
            case atStart => exact ⟨rfl, rfl, _, rfl⟩
            case round =>
              obtain ⟨rfl, rfl, q, rfl⟩ := hrel
              by_cases hlt3 : 0 < fn
              · go_wp2_with fail
                go_ret
                exact ⟨_, rfl, fun h => absurd h (by first | (simp; done) | (simp; omega)), below_drewN _ (Below.refl _ _)⟩
              · obtain rfl : fn = 0 := by omega
                go_wp2_with fail
                go_ret
                exact ⟨_, rfl, fun h => absurd h (by first | (simp; done) | (simp; omega)), below_drewN _ (Below.refl _ _)⟩
        · go_wp2_with fail
          go_loopw [5, 8] (fun nv iv wr => ∃ n i : Nat, i ≤ fn ∧ sn + cn + fn ≤ n ∧ n ≤ 1000000000000000 ∧ nv = .int .i64 (n : Int) ∧ iv = .int .i64 (i : Int) ∧ RowKit.Hid ((n ≤ 4000 → ∀ f ∈ P.funcs.take i, SmFunc f) ∧ Below w.heap.size w wr)) (fun _ iv _ => fn - (intOf iv).toNat)
          case atStart => exact ⟨n, 0, Nat.zero_le _, by omega, by omega, rfl, rfl, Lib.hid ⟨fun _ x hx => by simp at hx, below_drewN _ (Below.refl _ _)⟩⟩
          case round =>
            clear hi hn0 hn1
            obtain ⟨n, i, hi, hn0, hn1, rfl, rfl, HI⟩ := hrel
            have hb0 := (HI.out.2.cell (p := ⟨g, off, none⟩) hg).trans hc0
            have hb1 := (HI.out.2.cell (p := ⟨g, off + 1, none⟩) hg).trans hc1
            have hb2 := (HI.out.2.cell (p := ⟨g, off + 2, none⟩) hg).trans hc2
            by_cases hlt : i < fn
            · by_cases hn4 : n ≤ 4000
              · have hn4' : (n : Int) ≤ 4000 := by omega
                obtain ⟨g1, o1, rfl, hg1, hcs1⟩ := rowV_at (HF.out.since FuncQ.lasts HI.out.2) (by omega)
                have hi1 : i < P.funcs.length := by rw [HFL.out]; exact hlt
                obtain ⟨cs1, hc21, hcell1, hq1⟩ := hcs1 i hi1
                obtain ⟨X, hX⟩ : ∃ X, X = P.funcs[i] := ⟨_, rfl⟩
                rw [← hX] at hq1
                obtain ⟨v1, rfl, _, hrow⟩ := hq1
                obtain ⟨ba, bn, bc, rfl, hbl, _⟩ := id hrow
                have hbm := (rowV_len' hrow).2
                have hd1 := hcell1 1 (by simp)
                simp only [List.getElem_cons_zero, List.getElem_cons_succ] at hd1
                have HR := Lib.hid hrow
                have HX := Lib.hid hX
                have HBL := Lib.hid hbl
                clear hcell1 hcs1 hrow hX hbl hc21
                go_wp2_with fail
                obtain ⟨w3, rfl⟩ : ∃ u, u = wr := ⟨wr, rfl⟩
                go_loopw [5, 9] (fun nv kv wk => ∃ n2 k : Nat, k ≤ bn ∧ n + bn ≤ n2 ∧ n2 ≤ 1000000000000000 ∧ nv = .int .i64 (n2 : Int) ∧ kv = .int .i64 (k : Int) ∧ RowKit.Hid ((n2 ≤ 4000 → ∀ b ∈ X.blocks.take k, SmBlock b) ∧ Below w3.heap.size w3 wk)) (fun _ kv _ => bn - (intOf kv).toNat)
                case atStart => exact ⟨n + bn, 0, Nat.zero_le _, Nat.le_refl _, by omega, by go_num, rfl, Lib.hid ⟨fun _ x hx => by simp at hx, Below.refl _ _⟩⟩
                case round =>
                  obtain ⟨n2, k, hk, hk0, hk9, rfl, rfl, HK⟩ := hrel
                  have hw0 : g < w3.heap.size := Nat.lt_of_lt_of_le hg HI.out.2.size
                  have hf2 := (HK.out.2.cell (p := ⟨g, off + 2, none⟩) hw0).trans hb2
                  have hfd := (HK.out.2.cell (p := ⟨g1, o1 + i * 2 + 1, none⟩) hg1).trans hd1
                  by_cases hlk : k < bn
                  · by_cases hn5 : n2 ≤ 4000
                    · have hn5' : (n2 : Int) ≤ 4000 := by omega
                      obtain ⟨g2, o2, rfl, hg2, hcs2⟩ := rowV_at (HR.out.since BlockQ.lasts HK.out.2) (by omega)
                      have hk1 : k < X.blocks.length := by rw [HBL.out]; exact hlk
                      obtain ⟨cs2, hc82, hcell2, hbq2⟩ := hcs2 k hk1
                      obtain ⟨Y, hY⟩ : ∃ Y, Y = X.blocks[k] := ⟨_, rfl⟩
                      rw [← hY] at hbq2
                      obtain ⟨pa, pn, pc, oa, on, oc, la, ln, lc, ma, mn, mc, rfl, hon⟩ := hbq2.form
                      have hpm := hbq2.params.2
                      have hom := (rowV_len' hbq2.ops).2
                      have hlm : ln ≤ 140737488351232 := by obtain ⟨_, _, e, _, _, _, _, ⟨_, _, _, rfl, _, _, h, _⟩, _⟩ := hbq2.fin; simp only [List.cons.injEq, Value.slice.injEq] at e; omega
                      have hmm : mn ≤ 140737488351232 := by obtain ⟨_, _, e, _, _, _, _, _, ⟨_, _, _, rfl, _, _, h, _⟩⟩ := hbq2.fin; simp only [List.cons.injEq, Value.slice.injEq] at e; omega
                      have hd10 := hcell2 0 (by simp)
                      have hd11 := hcell2 1 (by simp)
                      have hd12 := hcell2 2 (by simp)
                      have hd13 := hcell2 3 (by simp)
                      have hd14 := hcell2 4 (by simp)
                      have hd15 := hcell2 5 (by simp)
                      have hd16 := hcell2 6 (by simp)
                      have hd17 := hcell2 7 (by simp)
                      simp only [Nat.add_zero, List.getElem_cons_zero, List.getElem_cons_succ] at hd10 hd11 hd12 hd13 hd14 hd15 hd16 hd17
                      have HOY := Lib.hid hbq2.ops
                      have HYL := Lib.hid hon
                      have HY := Lib.hid hY
                      clear hcell2 hcs2 hbq2 hY hon hc82
                      go_wp2_with fail
                      have hal : Below wr.heap.size wr (wr.alloc (.cells #[.slice pa pn pc, .slice oa on oc, .int .i64 Y.fin.K, .int .i64 Y.fin.A, .int .i64 Y.fin.To, .int .i64 Y.fin.Else, .slice la ln lc, .slice ma mn mc] 48)) := (Below.refl _ _).alloc (Nat.le_refl _) _
                      have hblk := heap_alloc_new wr (.cells #[.slice pa pn pc, .slice oa on oc, .int .i64 Y.fin.K, .int .i64 Y.fin.A, .int .i64 Y.fin.To, .int .i64 Y.fin.Else, .slice la ln lc, .slice ma mn mc] 48)
                      obtain ⟨w4, rfl⟩ : ∃ u, u = wr := ⟨wr, rfl⟩
                      generalize (w4.alloc (.cells #[.slice pa pn pc, .slice oa on oc, .int .i64 Y.fin.K, .int .i64 Y.fin.A, .int .i64 Y.fin.To, .int .i64 Y.fin.Else, .slice la ln lc, .slice ma mn mc] 48)) = wy at hal hblk ⊢
                      have hby1 : wy.cell? ⟨w4.heap.size, 1, none⟩ = some (.slice oa on oc) := by simp [World.cell?, hblk]
                      have hby : w4.heap.size < wy.heap.size := (Array.getElem?_eq_some_iff.1 hblk).1
                      have HBY := Lib.hid hal
                      clear hal hblk hd10 hd11 hd12 hd13 hd14 hd15 hd16 hd17
                      go_loopw [5, 11] (fun nv jv wj => ∃ n3 j : Nat, j ≤ on ∧ n2 + pn + on + ln + mn ≤ n3 ∧ n3 ≤ 1000000000000000 ∧ nv = .int .i64 (n3 : Int) ∧ jv = .int .i64 (j : Int) ∧ RowKit.Hid (Below wy.heap.size wy wj)) (fun _ jv _ => on - (intOf jv).toNat)
                      case atStart => exact ⟨n2 + pn + on + ln + mn, 0, Nat.zero_le _, Nat.le_refl _, by omega, by go_num, rfl, Lib.hid (Below.refl _ _)⟩
                      case round =>
                        obtain ⟨n3, j, hj, hj0, hj1, rfl, rfl, HJ⟩ := hrel
                        have hy1 := (HJ.out.cell (p := ⟨w4.heap.size, 1, none⟩) hby).trans hby1
                        by_cases hlj : j < on
                        · by_cases hn6 : n3 ≤ 4000
                          · have hn6' : (n3 : Int) ≤ 4000 := by omega
                            obtain ⟨g3, o3, rfl, hg3, hcs3⟩ := rowV_at ((HOY.out.since OpQ.lasts HBY.out).since OpQ.lasts HJ.out) (by omega)
                            have hj9 : j < Y.ops.length := by rw [HYL.out]; exact hlj
                            obtain ⟨cs3, hc83, hcell3, hoq3⟩ := hcs3 j hj9
                            obtain ⟨O, hO⟩ : ∃ O, O = Y.ops[j] := ⟨_, rfl⟩
                            rw [← hO] at hoq3
                            obtain ⟨l3, rfl, _, _, _, _, _, hos, ⟨la3, ln3, lc3, rfl, hlat, _, hlm, _⟩⟩ := hoq3
                            have hm5 := hcell3 5 (by simp)
                            have hm6 := hcell3 6 (by simp)
                            simp only [List.getElem_cons_zero, List.getElem_cons_succ] at hm5 hm6
                            have hq8 : ((O.S.size : Nat) : Int).tdiv 8 = ((O.S.size / 8 : Nat) : Int) := rfl
                            have hs8 : O.S.size / 8 ≤ 140737488351232 := by omega
                            clear hcell3 hcs3 hlat hO hc83
                            go_wp2_with fail
                            go_quiet (fail)
                            go_wp2_with fail
                            go_roundw
                            case rel => exact ⟨n3 + ln3 + O.S.size / 8, j + 1, by omega, by omega, by omega, by go_num, by go_num, Lib.hid (below_drewN _ HJ.out)⟩
                            case measure => simp [intOf]; omega
                          · have hn6' : ¬ (n3 : Int) ≤ 4000 := by omega
                            go_wp2_with fail
                            go_roundw
                            case rel => exact ⟨n3, k + 1, by omega, by omega, by omega, rfl, by go_num, Lib.hid ⟨fun h4 => all_take hk1 (HK.out.1 (by omega)) (by have h6 := HYL.out; have h5 : SmBlock Y := (by unfold SmBlock; omega); exact HY.out ▸ h5), keepB HK.out.2 (keepB HBY.out HJ.out)⟩⟩
                            case measure => simp [intOf]; omega
                        · obtain rfl : j = on := by omega
                          go_wp2_with fail
                          go_roundw
                          case rel => exact ⟨n3, k + 1, by omega, by omega, by omega, rfl, by go_num, Lib.hid ⟨fun h4 => all_take hk1 (HK.out.1 (by omega)) (by have h6 := HYL.out; have h5 : SmBlock Y := (by unfold SmBlock; omega); exact HY.out ▸ h5), keepB HK.out.2 (keepB HBY.out HJ.out)⟩⟩
                          case measure => simp [intOf]; omega
                    · have hn5' : ¬ (n2 : Int) ≤ 4000 := by omega
                      go_wp2_with fail
                      go_roundw
                      case rel => exact ⟨n2, i + 1, by omega, by omega, by omega, rfl, by go_num, Lib.hid ⟨fun h4 => all_take hi1 (HI.out.1 (by omega)) (by exact absurd h4 hn5), keepB HI.out.2 HK.out.2⟩⟩
                      case measure => simp [intOf]; omega
                  · obtain rfl : k = bn := by omega
                    go_wp2_with fail
                    go_roundw
                    case rel => exact ⟨n2, i + 1, by omega, by omega, by omega, rfl, by go_num, Lib.hid ⟨fun h4 => all_take hi1 (HI.out.1 (by omega)) (by have h5 : SmFunc X := ⟨by have := HBL.out; omega, fun b hb => HK.out.1 h4 b (by rw [List.take_of_length_le (by have := HBL.out; omega)]; exact hb)⟩; exact HX.out ▸ h5), keepB HI.out.2 HK.out.2⟩⟩
                    case measure => simp [intOf]; omega
              · have hn4' : ¬ (n : Int) ≤ 4000 := by omega
                go_wp2_with fail
                go_ret
                exact ⟨_, rfl, fun h => absurd h (by first | (simp; done) | (simp; omega)), HI.out.2⟩
            · obtain rfl : i = fn := by omega
              go_wp2_with fail
              go_ret
              refine ⟨_, rfl, fun h => ?_, HI.out.2⟩
              have h4 : n ≤ 4000 := by simp at h; omega
              exact ⟨by have := HSL.out; omega, by have := HCL.out; omega, by have := HFL.out; omega, fun f hf => HI.out.1 h4 f (by rw [List.take_of_length_le (by rw [HFL.out]; exact Nat.le_refl _)]; exact hf)⟩
end Go.Proofs.YtccajbgdlicbnaaDoor
