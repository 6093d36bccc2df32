/- Layer 6: a function's lines: package show's Func, walked (mk_fn.py). -/
import Derived.Test.YtnapechlgjcpbaaDoorQCodeFi
import Derived.Test.YtnapechlgjcpbaaDoorQT0
import Derived.Test.YtnapechlgjcpbaaDoorQT5

namespace Go.Proofs.YtnapechlgjcpbaaDoor
open Go.RowKit (wrap64 intOf Below)
set_option linter.unusedVariables false
set_option linter.unusedSimpArgs false

def valsN : List BlockD → Nat
  | [] => 0
  | b :: r => b.params.length + b.ops.length + valsN r
theorem valsN_snoc : ∀ (xs : List BlockD) (b : BlockD), valsN (xs ++ [b]) = valsN xs + (b.params.length + b.ops.length)
  | [], b => by simp [valsN]
  | x :: xs, b => by simp only [List.cons_append, valsN, valsN_snoc xs b]; omega
theorem valsN_take : ∀ (xs : List BlockD) (k : Nat), valsN (xs.take k) ≤ valsN xs
  | [], k => by simp [valsN]
  | x :: xs, 0 => by simp [valsN]
  | x :: xs, k + 1 => by have := valsN_take xs k; simp only [List.take_succ_cons, valsN]; omega
def blocksText : Nat → Nat → List BlockD → List UInt8
  | _, _, [] => []
  | n, f, b :: r => blockText n f b ++ blocksText (n + 1) (f + (b.params.length + b.ops.length)) r
theorem blocksText_snoc : ∀ (n f : Nat) (xs : List BlockD) (b : BlockD), blocksText n f (xs ++ [b]) = blocksText n f xs ++ blockText (n + xs.length) (f + valsN xs) b
  | n, f, [], b => by simp [blocksText, valsN]
  | n, f, x :: xs, b => by
    simp only [List.cons_append, blocksText, blocksText_snoc (n + 1) _ xs b, List.length_cons, List.append_assoc, valsN]
    rw [show n + 1 + xs.length = n + (xs.length + 1) by omega, show f + (x.params.length + x.ops.length) + valsN xs = f + (x.params.length + x.ops.length + valsN xs) by omega]
theorem blocksText_take : ∀ (n f : Nat) (xs : List BlockD) (k : Nat), (blocksText n f (xs.take k)).length ≤ (blocksText n f xs).length
  | n, f, [], k => by simp [blocksText]
  | n, f, x :: xs, 0 => by simp [blocksText]
  | n, f, x :: xs, k + 1 => by
    have := blocksText_take (n + 1) (f + (x.params.length + x.ops.length)) xs k
    simp only [List.take_succ_cons, blocksText, List.length_append]
    omega
def funcHead (x : FuncD) : List UInt8 := [102, 117, 110, 99, 32] ++ typeText x.ret ++ [10]
def funcText (x : FuncD) : List UInt8 := funcHead x ++ blocksText 0 0 x.blocks
structure FitBlock (b : BlockD) : Prop where
  ps : b.params.length ≤ 1048576
  ls : b.fin.L.length ≤ 1048576
  ms : b.fin.M.length ≤ 1048576
  ops : ∀ o ∈ b.ops, FitOp o
structure FitFunc (x : FuncD) : Prop where
  blocks : ∀ b ∈ x.blocks, FitBlock b
  vals : valsN x.blocks ≤ 1000000000
  many : x.blocks.length ≤ 1000000000
  len : (funcText x).length ≤ 1000000000000
theorem wrap_small (z : Int) (h0 : 0 ≤ z) (h1 : z ≤ 1000000000) : RowKit.wrap64 z = z := by
  unfold RowKit.wrap64
  omega
theorem vals_one (b : BlockD) : valuesOf ⟨0, [b]⟩ = RowKit.wrap64 (0 + ((b.params.length : Int) + (b.ops.length : Int))) := by
  have e1 : valuesOf ⟨0, [b]⟩ = valsOf ([b].take (0 + 1)) := by
    simp only [valuesOf, firstOf, List.length_cons, List.length_nil, Int.toNat_natCast]
  have e2 := valsOf_more [b] 0 (Nat.lt_add_one 0)
  have e3 : valsOf ([b].take 0) = 0 := by simp only [List.take_zero, valsOf, List.foldl_nil]
  rw [e1, e2, e3, List.getElem_cons_zero]
theorem one_vals (b : BlockD) (h : b.params.length + b.ops.length ≤ 1000000000) : valuesOf ⟨0, [b]⟩ = ((b.params.length + b.ops.length : Nat) : Int) := by
  have e := vals_one b
  have e2 := wrap_small (0 + ((b.params.length : Int) + (b.ops.length : Int))) (by omega) (by omega)
  have e3 : (0 + ((b.params.length : Int) + (b.ops.length : Int))) = ((b.params.length + b.ops.length : Nat) : Int) := by omega
  exact e.trans (e2.trans e3)
theorem size_blk : ∀ w, (sizeOf 48).run Tryd.prog w = .ok 8 w := fun w => by
  have h : (Tryd.prog.info? 48).map (fun i => i.size) = some 8 := by kernel_rfl
  cases hi : Tryd.prog.info? 48 with
  | none => rw [hi] at h; cases h
  | some i =>
    rw [hi] at h
    have h8 : i.size = 8 := by simpa using h
    simp [sizeOf, typeInfo, hi, h8]
theorem slice_blk (h oo n c k : Nat) (hk : k < n) (hc : n ≤ c) (u : World) : (Instr.slice 32 (.slice (some ⟨h, oo, none⟩) n c) (some (.int .i64 (k : Int))) (some (.int .i64 ((k : Int) + 1))) none).run Tryd.prog u = .ok (.slice (some ⟨h, oo + k * 8, none⟩) 1 (c - k)) u := by
  have e1 : ((k : Int) + 1) = ((k + 1 : Nat) : Int) := by omega
  rw [e1, run_slice_lh u 32 (some ⟨h, oo, none⟩) n c (under_elem Tryd.underlying32) .i64 .i64 k ((k + 1 : Nat) : Int) (by omega) (by omega) (by omega), elem_is Tryd.underlying32, size_blk u]
  have e2 : ¬ c = k := by omega
  have e3 : k + 1 - k = 1 := by omega
  simp [Result.andThen, sliced, e2, e3, Addr.add]

set_option maxRecDepth 100000 in
set_option maxHeartbeats 8000000 in
theorem func_any (ba : Option Addr) (bn bc : Nat) (x : FuncD) (w : World) (h : FuncQ w [.int .i64 x.ret, .slice ba bn bc] x) (hcap : bn ≤ bc) (hfit : FitFunc x) (ht : Tabs w) (hT : TN w) :
    Calls Tryd.prog 9 #[.agg #[.int .i64 x.ret, .slice ba bn bc]] w fun e w' => e = .returned (.string (mk (funcText x))) ∧ Below w.heap.size w w' := by
  obtain ⟨bv, he, hret, hbv⟩ := h
  cases he
  have hblen := (rowV_len_ hbv).1
  have hbn := (rowV_len_ hbv).2
  obtain ⟨X, hX⟩ : ∃ X, X = w.heap.size := ⟨_, rfl⟩
  obtain ⟨W1, hW1⟩ : ∃ W1, W1 = w.alloc (.cells #[.int .i64 x.ret, .slice ba bn bc] 34) := ⟨_, rfl⟩
  have hbx : W1.heap[X]? = some (.cells #[.int .i64 x.ret, .slice ba bn bc] 34 (0, 0)) := by rw [hW1, hX]; exact heap_alloc_new w _
  have hz1 : W1.heap.size = X + 1 := by rw [hW1, hX]; simp
  have hb1 : Below w.heap.size w W1 := by rw [hW1]; exact (Below.refl _ _).alloc (Nat.le_refl _) _
  obtain ⟨W2, hW2⟩ : ∃ W2, W2 = W1.alloc (.cells #[.pointer none, .slice none 0 0] 55) := ⟨_, rfl⟩
  have HB2 : RowKit.Hid (Lib.IsBuilderF 55 5 (X + 1) (X + 1) (Lib.byteCells []) W2) := Lib.hid (by rw [hW2, ← hz1]; exact Lib.IsBuilderF.of (Lib.fresh_isBuilder _ _ W1))
  have hb2 : Below W1.heap.size W1 W2 := by rw [hW2]; exact (Below.refl _ _).alloc (Nat.le_refl _) _
  have HXZ : RowKit.Hid (X + 1 ≤ W2.heap.size) := Lib.hid (by rw [hW2]; simp; omega)
  have HW2 : RowKit.Hid (Below w.heap.size w W2) := Lib.hid (keepS hb1 hb2)
  have HBX : RowKit.Hid (∀ u, Below (X + 1) W2 u → Below w.heap.size w u ∧ (∀ j, u.cell? ⟨X, j, none⟩ = (#[.int .i64 x.ret, .slice ba bn bc] : Array Value)[j]?)) := Lib.hid fun u hb =>
    ⟨HW2.out.trans (hb.mono (by omega)), fun j => by
      have : u.heap[X]? = _ := (hb.block X (by omega)).trans ((hb2.block X (by omega)).trans hbx)
      simp [World.cell?, this]⟩
  have HX := Lib.hid hX
  have HO := Lib.hid hbv
  have HOL := Lib.hid hblen
  have HFIT := Lib.hid hfit
  have HTB := Lib.hid ht
  have HTN := Lib.hid hT
  have hmany : bn ≤ 1000000000 := by have := hfit.many; omega
  have X1 := Lib.hid (type_txt hret)
  have C1 := Lib.hid (says_type (W := W2) hret (ht.since HW2.out).pow (StrTab.since hT HW2.out))
  obtain ⟨t1, h1⟩ : ∃ t, t = mk (typeText x.ret) := ⟨_, rfl⟩
  rw [← h1] at X1 C1
  have z1 := X1.out.size
  have x0 := (HBX.out W2 (Below.refl _ _)).2 0
  clear hbv hblen hfit ht hT hb1 hb2 hbx h1 hret
  go_enter Tryd.func9, Tryd.ntmps9
  go_upto_region 2 with fail
  rw [← hX, ← hW1]
  try rw [hz1]
  rw [← hW2]
  clear hW2 hW1 hX hz1
  go_wp2_with fail
  refine (C1.out.go (Below.refl _ _)).mono ?_
  rintro e w1 ⟨rfl, hb1⟩
  have HB1 := Lib.hid (builder_news HB2.out hb1)
  have HC1 : RowKit.Hid (Below (X + 1) W2 w1) := Lib.hid (hb1.mono HXZ.out)
  clear hb1 x0
  go_wp2_with fail
  refine (write_text (X + 1) (X + 1) _ (mkB [102, 117, 110, 99, 32] ++ t1 ++ mkB [10]) w1 HB1.out (by rw [Lib.byteCells_length, (((Txt.lit [102, 117, 110, 99, 32]).app X1.out).app (Txt.lit [10])).is, mkB_size]; have h1 := X1.out.len; simp only [List.length_append, List.length_cons, List.length_nil]; omega) (Nat.le_trans HXZ.out HC1.out.size)).mono ?_
  rintro e w3 ⟨rfl, h3, hb3, _⟩
  have HB3 := Lib.hid (builder_text (l := []) (((Txt.lit [102, 117, 110, 99, 32]).app X1.out).app (Txt.lit [10])).is h3)
  have HC3 : RowKit.Hid (Below (X + 1) W2 w3) := Lib.hid (HC1.out.trans hb3)
  clear h3 hb3 z1
  have x1 := (HBX.out w3 HC3.out).2 1
  have HST : RowKit.Hid (Lib.IsBuilderF 55 5 (X + 1) (X + 1) (Lib.byteCells (funcHead x ++ blocksText 0 0 (x.blocks.take 0))) w3 ∧ Below (X + 1) W2 w3) := Lib.hid ⟨by simpa [funcHead, blocksText] using HB3.out, HC3.out⟩
  clear HB3 HC3 HB1 HC1
  go_wp2_with fail
  go_loopw [4, 15] (fun nv iv wr => ∃ k : Nat, k ≤ bn ∧ iv = .int .i64 (k : Int) ∧ nv = .int .i64 ((valsN (x.blocks.take k) : Nat) : Int) ∧ wr.cell? ⟨X, 1, none⟩ = some (.slice ba bn bc) ∧ RowKit.Hid (Lib.IsBuilderF 55 5 (X + 1) (X + 1) (Lib.byteCells (funcHead x ++ blocksText 0 0 (x.blocks.take k))) wr ∧ Below (X + 1) W2 wr)) (fun _ iv _ => bn - (intOf iv).toNat)
  case atStart => exact ⟨0, Nat.zero_le _, rfl, by simp [valsN], x1, HST⟩
  case round =>
    obtain ⟨k, hk, rfl, rfl, hx1, HI⟩ := hrel
    have HPRE : RowKit.Hid (∀ q, (funcHead x ++ blocksText 0 0 (x.blocks.take q)).length ≤ 1000000000000) := Lib.hid fun q => by
      have h1 := HFIT.out.len
      have h2 := blocksText_take 0 0 x.blocks q
      unfold funcText at h1
      simp only [List.length_append] at h1 ⊢
      omega
    by_cases hlt : k < bn
    · have HLT := Lib.hid hlt
      have HKL : RowKit.Hid (k < x.blocks.length) := Lib.hid (by rw [HOL.out]; exact hlt)
      obtain ⟨h, oo, rfl, hh, hcs⟩ := rowV_at_ HO.out (by omega)
      obtain ⟨cs, hc8, hcell, hq⟩ := hcs k HKL.out
      obtain ⟨y, hye⟩ : ∃ y, y = x.blocks[k]'HKL.out := ⟨_, rfl⟩
      rw [← hye] at hq
      have HYE : RowKit.Hid (x.blocks[k]'HKL.out = y) := Lib.hid hye.symm
      have hfy : FitBlock y := by rw [hye]; exact HFIT.out.blocks _ (List.getElem_mem HKL.out)
      have hq0 := hq
      obtain ⟨pv, ov, es, rfl, ⟨pa, pn, pc, rfl, hpat, _⟩, hov, l1, m1, rfl, _, _, _, _, ⟨la, ln, lc, rfl, hlat, _⟩, ⟨ma, mn, mc, rfl, hmat, _⟩⟩ := hq0
      have hov' := hov
      obtain ⟨oa, on, oc, rfl, hol, _⟩ := hov'
      have hbw := (HBX.out wr HI.out.2).1
      have HQ : RowKit.Hid (∀ u, Below w.heap.size w u → BlockQ u [.slice pa pn pc, .slice oa on oc, .int .i64 y.fin.K, .int .i64 y.fin.A, .int .i64 y.fin.To, .int .i64 y.fin.Else, .slice la ln lc, .slice ma mn mc] y) := Lib.hid fun u hb => BlockQ.lasts _ _ _ _ hb hq
      have HCELL : RowKit.Hid (∀ u, Below w.heap.size w u → ∀ j (hj : j < ([.slice pa pn pc, .slice oa on oc, .int .i64 y.fin.K, .int .i64 y.fin.A, .int .i64 y.fin.To, .int .i64 y.fin.Else, .slice la ln lc, .slice ma mn mc] : List Value).length), u.cell? ⟨h, oo + k * 8 + j, none⟩ = some ([.slice pa pn pc, .slice oa on oc, .int .i64 y.fin.K, .int .i64 y.fin.A, .int .i64 y.fin.To, .int .i64 y.fin.Else, .slice la ln lc, .slice ma mn mc] : List Value)[j]) := Lib.hid fun u hb j hj => (hb.cell (p := ⟨h, oo + k * 8 + j, none⟩) hh).trans (hcell j hj)
      have HHH := Lib.hid hh
      have HVT : RowKit.Hid (valsN (x.blocks.take (k + 1)) = valsN (x.blocks.take k) + (pn + on)) := Lib.hid (by rw [List.take_succ_eq_append_getElem HKL.out, HYE.out, valsN_snoc, hpat.1, hol])
      have HVB : RowKit.Hid (valsN (x.blocks.take (k + 1)) ≤ 1000000000) := Lib.hid (Nat.le_trans (valsN_take _ _) HFIT.out.vals)
      have hv1 : valsN (x.blocks.take k) + (pn + on) ≤ 1000000000 := by rw [← HVT.out]; exact HVB.out
      have HTK : RowKit.Hid (blocksText 0 0 (x.blocks.take (k + 1)) = blocksText 0 0 (x.blocks.take k) ++ blockText k (valsN (x.blocks.take k)) y) := Lib.hid (by rw [List.take_succ_eq_append_getElem HKL.out, HYE.out, blocksText_snoc, List.length_take, Nat.min_eq_left (Nat.le_of_lt HKL.out), Nat.zero_add, Nat.zero_add])
      have HLB : RowKit.Hid ((blockText k (valsN (x.blocks.take k)) y).length ≤ 1000000000000) := Lib.hid (by have h1 := HPRE.out (k + 1); rw [HTK.out] at h1; simp only [List.length_append] at h1; omega)
      have HONE : RowKit.Hid (valuesOf ⟨0, [y]⟩ = ((pn + on : Nat) : Int)) := Lib.hid (by rw [one_vals y (by rw [hpat.1, hol]; omega), hpat.1, hol])
      have HCB := Lib.hid (block_any k (valsN (x.blocks.take k)) pa oa la ma pn pc on oc ln lc mn mc y wr (HQ.out wr hbw) (by rw [← hpat.1]; exact hfy.ps) (by rw [← hlat.1]; exact hfy.ls) (by rw [← hmat.1]; exact hfy.ms) hfy.ops (by omega) (by omega) HLB.out (HTB.out.since hbw) (StrTab.since HTN.out hbw))
      have XB : RowKit.Hid (Txt (mk (blockText k (valsN (x.blocks.take k)) y)) (blockText k (valsN (x.blocks.take k)) y) 1000000000000) := Lib.hid ⟨rfl, HLB.out⟩
      obtain ⟨s1, hs1⟩ : ∃ s, s = mk (blockText k (valsN (x.blocks.take k)) y) := ⟨_, rfl⟩
      rw [← hs1] at HCB XB
      have zb := XB.out.size
      obtain ⟨V, hV⟩ : ∃ V, V = valsN (x.blocks.take k) := ⟨_, rfl⟩
      have HV := Lib.hid hV
      rw [← hV] at hv1 HCB HVT ⊢
      have d0 := HCELL.out wr hbw 0 (by simp)
      have d1 := HCELL.out wr hbw 1 (by simp)
      have d2 := HCELL.out wr hbw 2 (by simp)
      have d3 := HCELL.out wr hbw 3 (by simp)
      have d4 := HCELL.out wr hbw 4 (by simp)
      have d5 := HCELL.out wr hbw 5 (by simp)
      have d6 := HCELL.out wr hbw 6 (by simp)
      have d7 := HCELL.out wr hbw 7 (by simp)
      simp only [Nat.add_zero, List.getElem_cons_zero, List.getElem_cons_succ] at d0 d1 d2 d3 d4 d5 d6 d7
      clear hcell hcs hye hc8 hq hpat hlat hmat hol hov hfy hbw hs1 hV
      go_wp2_with fail
      refine HCB.out.mono ?_
      rintro e w5 ⟨rfl, hb5⟩
      have HB5 := Lib.hid (builder_news HI.out.1 hb5)
      have HC5 : RowKit.Hid (Below (X + 1) W2 w5) := Lib.hid (HI.out.2.trans (hb5.mono (Nat.le_trans HXZ.out HI.out.2.size)))
      clear hb5 d0 d1 d2 d3 d4 d5 d6 d7 hx1
      go_wp2_with fail
      refine (write_text (X + 1) (X + 1) _ s1 w5 HB5.out (by rw [Lib.byteCells_length, XB.out.is, mkB_size]; have h1 := HPRE.out k; have h2 := XB.out.len; omega) (Nat.le_trans HXZ.out HC5.out.size)).mono ?_
      rintro e w6 ⟨rfl, h6, hb6, _⟩
      have HB6 := Lib.hid (builder_text XB.out.is h6)
      have HC6 : RowKit.Hid (Below (X + 1) W2 w6) := Lib.hid (HC5.out.trans hb6)
      clear h6 hb6 zb
      have hbw6 := (HBX.out w6 HC6.out).1
      have hx1 := (HBX.out w6 HC6.out).2 1
      have HFQ : RowKit.Hid (FuncQ w6 [.int .i64 0, .slice (some ⟨h, oo + k * 8, none⟩) 1 (bc - k)] ⟨0, [y]⟩) := Lib.hid ⟨_, rfl, ⟨show (-9223372036854775808 : Int) ≤ 0 by decide, show (0 : Int) ≤ 9223372036854775807 by decide⟩, _, _, _, rfl, rfl, (fun hh => by cases hh), by omega, fun _ => ⟨h, oo + k * 8, rfl, Nat.lt_of_lt_of_le HHH.out hbw6.size, fun i hi => by
        obtain rfl : i = 0 := by simpa using hi
        exact ⟨_, rfl, fun j hj => by rw [Nat.zero_mul, Nat.add_zero]; exact HCELL.out w6 hbw6 j hj, HQ.out w6 hbw6⟩⟩⟩
      have HCV := Lib.hid (code_values 0 (some ⟨h, oo + k * 8, none⟩) 1 (bc - k) ⟨0, [y]⟩ w6 HFQ.out)
      rw [HONE.out] at HCV
      rw [show ((pn + on : Nat) : Int) = (pn : Int) + (on : Int) by omega] at HCV
      have hsl := slice_blk h oo bn bc k HLT.out hcap
      clear hbw6
      go_wp2_with fail
      refine HCV.out.mono ?_
      rintro e w7 ⟨rfl, hb7⟩
      have HB7 := Lib.hid (builder_news HB6.out hb7)
      have HC7 : RowKit.Hid (Below (X + 1) W2 w7) := Lib.hid (HC6.out.trans (hb7.mono (Nat.le_trans HXZ.out HC6.out.size)))
      clear hb7 hx1
      go_wp2_with fail
      go_roundw
      case rel => exact ⟨k + 1, by have := HLT.out; omega, by go_num, by rw [HVT.out]; go_num, (HBX.out w7 HC7.out).2 1, Lib.hid ⟨by rw [HTK.out, ← List.append_assoc]; exact HB7.out, HC7.out⟩⟩
      case measure => simp [intOf]; omega
    · have HFULL : RowKit.Hid (funcHead x ++ blocksText 0 0 (x.blocks.take k) = funcText x) := Lib.hid (by rw [List.take_of_length_le (by rw [HOL.out]; omega)]; rfl)
      have HB9 : RowKit.Hid (Lib.IsBuilderF 55 5 (X + 1) (X + 1) (Lib.byteCells (funcText x)) wr) := Lib.hid (by rw [← HFULL.out]; exact HI.out.1)
      have HC9 := Lib.hid HI.out.2
      go_wp2_with fail
      refine (Tryd.Builder_String_any_k (X + 1) (X + 1) _ wr HB9.out (Nat.le_trans HXZ.out HC9.out.size)).mono ?_
      rintro e w7 ⟨rfl, _, hb7, _⟩
      have HD : RowKit.Hid (Below w.heap.size w w7) := Lib.hid ((HBX.out wr HC9.out).1.trans (hb7.mono (by have := HX.out; omega)))
      clear hb7
      go_wp2_with fail
      go_ret
      exact ⟨rfl, HD.out⟩
end Go.Proofs.YtnapechlgjcpbaaDoor

/- Layer 6: a program's text: package show's Prog, walked (mk_pg.py). -/
namespace Go.Proofs.YtnapechlgjcpbaaDoor
open Go.RowKit (wrap64 intOf Below)
set_option linter.unusedVariables false
set_option linter.unusedSimpArgs false
set_option linter.unnecessarySimpa false

def rowsText {α : Type} (T : α → List UInt8) : List α → List UInt8
  | [] => []
  | x :: r => T x ++ rowsText T r
theorem rowsText_snoc {α : Type} (T : α → List UInt8) : ∀ (xs : List α) (x : α), rowsText T (xs ++ [x]) = rowsText T xs ++ T x
  | [], x => by simp [rowsText]
  | y :: xs, x => by simp only [List.cons_append, rowsText, rowsText_snoc T xs x, List.append_assoc]
theorem rowsText_take {α : Type} (T : α → List UInt8) : ∀ (xs : List α) (k : Nat), (rowsText T (xs.take k)).length ≤ (rowsText T xs).length
  | [], k => by simp [rowsText]
  | x :: xs, 0 => by simp [rowsText]
  | x :: xs, k + 1 => by
    have := rowsText_take T xs k
    simp only [List.take_succ_cons, rowsText, List.length_append]
    omega
def pre1 (P : ProgD) : List UInt8 := []
def pre2 (P : ProgD) : List UInt8 := rowsText sigText P.sigs
def pre3 (P : ProgD) : List UInt8 := rowsText sigText P.sigs ++ rowsText classText P.classes
def progText (P : ProgD) : List UInt8 := rowsText sigText P.sigs ++ rowsText classText P.classes ++ rowsText funcText P.funcs
structure FitProg (P : ProgD) : Prop where
  sigs : ∀ y ∈ P.sigs, y.params.length ≤ 1048576
  fields : ∀ y ∈ P.classes, y.fields.length ≤ 1048576
  methods : ∀ y ∈ P.classes, y.methods.length ≤ 1048576
  funcs : ∀ y ∈ P.funcs, FitFunc y
  len : (progText P).length ≤ 1000000000000
/-- In a row of functions, each one's row of blocks is no longer than it may grow. -/
def CapsF (W : World) (v : Value) : Prop := ∀ h oo n c, v = .slice (some ⟨h, oo, none⟩) n c → ∀ i, i < n → ∀ ba bn bc, W.cell? ⟨h, oo + i * 2 + 1, none⟩ = some (.slice ba bn bc) → bn ≤ bc
theorem pre_len1 {P : ProgD} (h : FitProg P) (q : Nat) : (pre1 P ++ rowsText sigText (P.sigs.take q)).length ≤ 1000000000000 := by
  have h1 := h.len
  have h2 := rowsText_take sigText P.sigs q
  unfold progText at h1
  unfold pre1
  simp only [List.length_append, List.length_nil] at h1 ⊢
  omega
theorem pre_len2 {P : ProgD} (h : FitProg P) (q : Nat) : (pre2 P ++ rowsText classText (P.classes.take q)).length ≤ 1000000000000 := by
  have h1 := h.len
  have h2 := rowsText_take classText P.classes q
  unfold progText at h1
  unfold pre2
  simp only [List.length_append] at h1 ⊢
  omega
theorem pre_len3 {P : ProgD} (h : FitProg P) (q : Nat) : (pre3 P ++ rowsText funcText (P.funcs.take q)).length ≤ 1000000000000 := by
  have h1 := h.len
  have h2 := rowsText_take funcText P.funcs q
  unfold progText at h1
  unfold pre3
  simp only [List.length_append] at h1 ⊢
  omega

set_option maxRecDepth 100000 in
set_option maxHeartbeats 8000000 in
theorem prog_any (g off : Nat) (s c f : Value) (P : ProgD) (w : World) (hg : g < w.heap.size) (hc0 : w.cell? ⟨g, off, none⟩ = some s) (hc1 : w.cell? ⟨g, off + 1, none⟩ = some c) (hc2 : w.cell? ⟨g, off + 2, none⟩ = some f) (h : ProgQ w [s, c, f] P) (hcap : CapsF w f) (hfit : FitProg P) (ht : Tabs w) (hT : TN w) :
    Calls Tryd.prog 7 #[.pointer (some ⟨g, off, none⟩)] w fun e w' => e = .returned (.string (mk (progText P))) ∧ Below w.heap.size w w' := by
  obtain ⟨s1, c1, f1, he, hs, hc, hf⟩ := h
  simp only [List.cons.injEq, and_true] at he
  obtain ⟨rfl, rfl, rfl⟩ := he
  have hs' := hs
  have hc' := hc
  have hf' := hf
  obtain ⟨sa, sn, sc, rfl, hsl, _, hsm, _⟩ := hs'
  obtain ⟨ca, cn, cc, rfl, hcl, _, hcm, _⟩ := hc'
  obtain ⟨fa, fn, fc, rfl, hfl, _, hfm, _⟩ := hf'
  obtain ⟨X, hX⟩ : ∃ X, X = w.heap.size := ⟨_, rfl⟩
  obtain ⟨W2, hW2⟩ : ∃ W2, W2 = w.alloc (.cells #[.pointer none, .slice none 0 0] 55) := ⟨_, rfl⟩
  have HB2 : RowKit.Hid (Lib.IsBuilderF 55 5 X X (Lib.byteCells []) W2) := Lib.hid (by rw [hW2, hX]; exact Lib.IsBuilderF.of (Lib.fresh_isBuilder _ _ w))
  have HW2 : RowKit.Hid (Below X w W2) := Lib.hid (by rw [hW2, hX]; exact (Below.refl _ _).alloc (Nat.le_refl _) _)
  have HX := Lib.hid hX
  have HXZ : RowKit.Hid (X ≤ w.heap.size) := Lib.hid (by omega)
  have HW : RowKit.Hid (∀ u, Below X w u → Below w.heap.size w u) := Lib.hid fun u hb => by rw [← HX.out]; exact hb
  have HCE : RowKit.Hid (∀ u, Below X w u → u.cell? ⟨g, off, none⟩ = some (.slice sa sn sc) ∧ u.cell? ⟨g, off + 1, none⟩ = some (.slice ca cn cc) ∧ u.cell? ⟨g, off + 2, none⟩ = some (.slice fa fn fc)) := Lib.hid fun u hb =>
    ⟨((HW.out u hb).cell (p := ⟨g, off, none⟩) hg).trans hc0, ((HW.out u hb).cell (p := ⟨g, off + 1, none⟩) hg).trans hc1, ((HW.out u hb).cell (p := ⟨g, off + 2, none⟩) hg).trans hc2⟩
  have HS := Lib.hid hs
  have HC := Lib.hid hc
  have HF := Lib.hid hf
  have HSL := Lib.hid hsl
  have HCL := Lib.hid hcl
  have HFL := Lib.hid hfl
  have HFIT := Lib.hid hfit
  have HTB := Lib.hid ht
  have HTN := Lib.hid hT
  have HCAP := Lib.hid hcap
  have x0 := (HCE.out W2 HW2.out).1
  have HST : RowKit.Hid (Lib.IsBuilderF 55 5 X X (Lib.byteCells (pre1 P ++ rowsText sigText (P.sigs.take 0))) W2 ∧ Below X w W2) := Lib.hid ⟨HB2.out, HW2.out⟩
  clear hs hc hf hsl hcl hfl hfit ht hT hcap hc0 hc1 hc2
  go_enter Tryd.func7, Tryd.ntmps7
  go_upto_region 4 with fail
  rw [← hX, ← hW2]
  clear hW2 HB2 hX
  go_wp2_with fail
  go_loopw [17] (fun iv wr => ∃ k : Nat, k ≤ sn ∧ iv = .int .i64 (k : Int) ∧ RowKit.Hid (Lib.IsBuilderF 55 5 X X (Lib.byteCells (pre1 P ++ rowsText sigText (P.sigs.take k))) wr ∧ Below X w wr)) (fun iv _ => sn - (intOf iv).toNat)
  case atStart => exact ⟨0, Nat.zero_le _, rfl, HST⟩
  case round =>
    obtain ⟨k, hk, rfl, HI⟩ := hrel
    by_cases hlt : k < sn
    · have HLT := Lib.hid hlt
      have HKL : RowKit.Hid (k < P.sigs.length) := Lib.hid (by rw [HSL.out]; exact hlt)
      obtain ⟨h, oo, rfl, hh, hcs⟩ := rowV_at_ HS.out (by omega)
      obtain ⟨cs, hc8, hcell, hq⟩ := hcs k HKL.out
      obtain ⟨y, hye⟩ : ∃ y, y = P.sigs[k]'HKL.out := ⟨_, rfl⟩
      rw [← hye] at hq
      have HYE : RowKit.Hid (P.sigs[k]'HKL.out = y) := Lib.hid hye.symm
      have hym : y ∈ P.sigs := by rw [hye]; exact List.getElem_mem HKL.out
      have hq0 := hq
      obtain ⟨pv, rfl, ⟨pa, pn, pc, rfl, hpat, _⟩, _⟩ := hq0
      have hfy := HFIT.out.sigs y hym
      have hbw := HW.out wr HI.out.2
      have d0 : wr.cell? ⟨h, oo + k * 2, none⟩ = some (.slice pa pn pc) := (hbw.cell (p := ⟨h, oo + k * 2, none⟩) hh).trans (by have := hcell 0 (by simp); simpa using this)
      have e1 : w.cell? ⟨h, oo + k * 2 + 1, none⟩ = some (.int .i64 y.ret) := by have := hcell 1 (by simp); simpa using this
      have d1 := (hbw.cell (p := ⟨h, oo + k * 2 + 1, none⟩) hh).trans e1
      have HCB : RowKit.Hid (Says w 15 #[.agg #[.slice pa pn pc, .int .i64 y.ret]] (mk (sigText y))) := Lib.hid fun u hb => sig_any pa pn pc y u (SigQ.lasts _ _ _ _ hb hq) (by rw [← hpat.1]; exact hfy) (HTB.out.since hb).pow (StrTab.since HTN.out hb)
      have HTK : RowKit.Hid (rowsText sigText (P.sigs.take (k + 1)) = rowsText sigText (P.sigs.take k) ++ sigText y) := Lib.hid (by rw [List.take_succ_eq_append_getElem HKL.out, HYE.out, rowsText_snoc])
      have XB : RowKit.Hid (Txt (mk (sigText y)) (sigText y) 1000000000000) := Lib.hid ⟨rfl, by have h1 := pre_len1 HFIT.out (k + 1); rw [HTK.out] at h1; simp only [List.length_append] at h1; omega⟩
      obtain ⟨s1, hs1⟩ : ∃ s, s = mk (sigText y) := ⟨_, rfl⟩
      rw [← hs1] at HCB XB
      have zb := XB.out.size
      have HA : RowKit.Hid (∀ o, Below w.heap.size w (wr.alloc o)) := Lib.hid fun o => keepS hbw ((Below.refl _ _).alloc (Nat.le_refl _) o)
      have HXR : RowKit.Hid (X ≤ wr.heap.size) := Lib.hid (Nat.le_trans HXZ.out HI.out.2.size)
      clear hcell hcs hye hc8 hq hfy hym hbw hs1 e1 hh hpat
      go_wp2_with fail
      refine (HCB.out _ (HA.out _)).mono ?_
      rintro e w5 ⟨rfl, hb5⟩
      have hb5' := keepS ((Below.refl wr.heap.size wr).alloc (Nat.le_refl _) _) hb5
      have HB5 := Lib.hid (builder_news HI.out.1 hb5')
      have HC5 : RowKit.Hid (Below X w w5) := Lib.hid (HI.out.2.trans (hb5'.mono HXR.out))
      clear hb5 hb5' d0 d1
      go_wp2_with fail
      refine (write_text X X _ s1 w5 HB5.out (by rw [Lib.byteCells_length, XB.out.is, mkB_size]; have h1 := pre_len1 HFIT.out k; have h2 := XB.out.len; omega) (Nat.le_trans HXZ.out HC5.out.size)).mono ?_
      rintro e w6 ⟨rfl, h6, hb6, _⟩
      have HB6 := Lib.hid (builder_text XB.out.is h6)
      have HC6 : RowKit.Hid (Below X w w6) := Lib.hid (HC5.out.trans hb6)
      clear h6 hb6 zb
      go_wp2_with fail
      go_roundw
      case rel => exact ⟨k + 1, by have := HLT.out; omega, by go_num, Lib.hid ⟨by rw [HTK.out, ← List.append_assoc]; exact HB6.out, HC6.out⟩⟩
      case measure => simp [intOf]; omega
    · have HFULL : RowKit.Hid (pre1 P ++ rowsText sigText (P.sigs.take k) = pre2 P ++ rowsText classText (P.classes.take 0)) := Lib.hid (by rw [List.take_of_length_le (by rw [HSL.out]; omega)]; simp [pre1, pre2, pre3, rowsText])
      have HST : RowKit.Hid (Lib.IsBuilderF 55 5 X X (Lib.byteCells (pre2 P ++ rowsText classText (P.classes.take 0))) wr ∧ Below X w wr) := Lib.hid ⟨by rw [← HFULL.out]; exact HI.out.1, HI.out.2⟩
      have x1 := (HCE.out wr HI.out.2).2.1
      clear HI HFULL
      go_wp2_with fail
      go_loopw [30] (fun iv wr => ∃ k : Nat, k ≤ cn ∧ iv = .int .i64 (k : Int) ∧ RowKit.Hid (Lib.IsBuilderF 55 5 X X (Lib.byteCells (pre2 P ++ rowsText classText (P.classes.take k))) wr ∧ Below X w wr)) (fun iv _ => cn - (intOf iv).toNat)
      case atStart => exact ⟨0, Nat.zero_le _, rfl, HST⟩
      case round =>
        obtain ⟨k, hk, rfl, HI⟩ := hrel
        by_cases hlt : k < cn
        · have HLT := Lib.hid hlt
          have HKL : RowKit.Hid (k < P.classes.length) := Lib.hid (by rw [HCL.out]; exact hlt)
          obtain ⟨h, oo, rfl, hh, hcs⟩ := rowV_at_ HC.out (by omega)
          obtain ⟨cs, hc8, hcell, hq⟩ := hcs k HKL.out
          obtain ⟨y, hye⟩ : ∃ y, y = P.classes[k]'HKL.out := ⟨_, rfl⟩
          rw [← hye] at hq
          have HYE : RowKit.Hid (P.classes[k]'HKL.out = y) := Lib.hid hye.symm
          have hym : y ∈ P.classes := by rw [hye]; exact List.getElem_mem HKL.out
          have hq0 := hq
          obtain ⟨pv, qv, rfl, ⟨pa, pn, pc, rfl, hpat, _⟩, ⟨qa, qn, qc, rfl, hqat, _⟩⟩ := hq0
          have hfy := HFIT.out.fields y hym
          have hfz := HFIT.out.methods y hym
          have hbw := HW.out wr HI.out.2
          have d0 : wr.cell? ⟨h, oo + k * 2, none⟩ = some (.slice pa pn pc) := (hbw.cell (p := ⟨h, oo + k * 2, none⟩) hh).trans (by have := hcell 0 (by simp); simpa using this)
          have e1 : w.cell? ⟨h, oo + k * 2 + 1, none⟩ = some (.slice qa qn qc) := by have := hcell 1 (by simp); simpa using this
          have d1 := (hbw.cell (p := ⟨h, oo + k * 2 + 1, none⟩) hh).trans e1
          have HCB : RowKit.Hid (Says w 16 #[.agg #[.slice pa pn pc, .slice qa qn qc]] (mk (classText y))) := Lib.hid fun u hb => class_any pa qa pn pc qn qc y u (ClassQ.lasts _ _ _ _ hb hq) (by rw [← hpat.1]; exact hfy) (by rw [← hqat.1]; exact hfz) (HTB.out.since hb).pow (StrTab.since HTN.out hb)
          have HTK : RowKit.Hid (rowsText classText (P.classes.take (k + 1)) = rowsText classText (P.classes.take k) ++ classText y) := Lib.hid (by rw [List.take_succ_eq_append_getElem HKL.out, HYE.out, rowsText_snoc])
          have XB : RowKit.Hid (Txt (mk (classText y)) (classText y) 1000000000000) := Lib.hid ⟨rfl, by have h1 := pre_len2 HFIT.out (k + 1); rw [HTK.out] at h1; simp only [List.length_append] at h1; omega⟩
          obtain ⟨s1, hs1⟩ : ∃ s, s = mk (classText y) := ⟨_, rfl⟩
          rw [← hs1] at HCB XB
          have zb := XB.out.size
          have HA : RowKit.Hid (∀ o, Below w.heap.size w (wr.alloc o)) := Lib.hid fun o => keepS hbw ((Below.refl _ _).alloc (Nat.le_refl _) o)
          have HXR : RowKit.Hid (X ≤ wr.heap.size) := Lib.hid (Nat.le_trans HXZ.out HI.out.2.size)
          clear hcell hcs hye hc8 hq hfy hym hbw hs1 e1 hh hpat hqat hfz
          go_wp2_with fail
          refine (HCB.out _ (HA.out _)).mono ?_
          rintro e w5 ⟨rfl, hb5⟩
          have hb5' := keepS ((Below.refl wr.heap.size wr).alloc (Nat.le_refl _) _) hb5
          have HB5 := Lib.hid (builder_news HI.out.1 hb5')
          have HC5 : RowKit.Hid (Below X w w5) := Lib.hid (HI.out.2.trans (hb5'.mono HXR.out))
          clear hb5 hb5' d0 d1
          go_wp2_with fail
          refine (write_text X X _ s1 w5 HB5.out (by rw [Lib.byteCells_length, XB.out.is, mkB_size]; have h1 := pre_len2 HFIT.out k; have h2 := XB.out.len; omega) (Nat.le_trans HXZ.out HC5.out.size)).mono ?_
          rintro e w6 ⟨rfl, h6, hb6, _⟩
          have HB6 := Lib.hid (builder_text XB.out.is h6)
          have HC6 : RowKit.Hid (Below X w w6) := Lib.hid (HC5.out.trans hb6)
          clear h6 hb6 zb
          go_wp2_with fail
          go_roundw
          case rel => exact ⟨k + 1, by have := HLT.out; omega, by go_num, Lib.hid ⟨by rw [HTK.out, ← List.append_assoc]; exact HB6.out, HC6.out⟩⟩
          case measure => simp [intOf]; omega
        · have HFULL : RowKit.Hid (pre2 P ++ rowsText classText (P.classes.take k) = pre3 P ++ rowsText funcText (P.funcs.take 0)) := Lib.hid (by rw [List.take_of_length_le (by rw [HCL.out]; omega)]; simp [pre1, pre2, pre3, rowsText])
          have HST : RowKit.Hid (Lib.IsBuilderF 55 5 X X (Lib.byteCells (pre3 P ++ rowsText funcText (P.funcs.take 0))) wr ∧ Below X w wr) := Lib.hid ⟨by rw [← HFULL.out]; exact HI.out.1, HI.out.2⟩
          have x2 := (HCE.out wr HI.out.2).2.2
          clear HI HFULL
          go_wp2_with fail
          go_loopw [43] (fun iv wr => ∃ k : Nat, k ≤ fn ∧ iv = .int .i64 (k : Int) ∧ RowKit.Hid (Lib.IsBuilderF 55 5 X X (Lib.byteCells (pre3 P ++ rowsText funcText (P.funcs.take k))) wr ∧ Below X w wr)) (fun iv _ => fn - (intOf iv).toNat)
          case atStart => exact ⟨0, Nat.zero_le _, rfl, HST⟩
          case round =>
            obtain ⟨k, hk, rfl, HI⟩ := hrel
            by_cases hlt : k < fn
            · have HLT := Lib.hid hlt
              have HKL : RowKit.Hid (k < P.funcs.length) := Lib.hid (by rw [HFL.out]; exact hlt)
              obtain ⟨h, oo, rfl, hh, hcs⟩ := rowV_at_ HF.out (by omega)
              obtain ⟨cs, hc8, hcell, hq⟩ := hcs k HKL.out
              obtain ⟨y, hye⟩ : ∃ y, y = P.funcs[k]'HKL.out := ⟨_, rfl⟩
              rw [← hye] at hq
              have HYE : RowKit.Hid (P.funcs[k]'HKL.out = y) := Lib.hid hye.symm
              have hym : y ∈ P.funcs := by rw [hye]; exact List.getElem_mem HKL.out
              have hq0 := hq
              obtain ⟨bv, rfl, _, hbv⟩ := hq0
              obtain ⟨ba, bn, bc, rfl, _⟩ := hbv
              have hfy := HFIT.out.funcs y hym
              have hbw := HW.out wr HI.out.2
              have d0 : wr.cell? ⟨h, oo + k * 2, none⟩ = some (.int .i64 y.ret) := (hbw.cell (p := ⟨h, oo + k * 2, none⟩) hh).trans (by have := hcell 0 (by simp); simpa using this)
              have e1 : w.cell? ⟨h, oo + k * 2 + 1, none⟩ = some (.slice ba bn bc) := by have := hcell 1 (by simp); simpa using this
              have d1 := (hbw.cell (p := ⟨h, oo + k * 2 + 1, none⟩) hh).trans e1
              have hcp := HCAP.out h oo fn fc rfl k hlt ba bn bc e1
              have HCB : RowKit.Hid (Says w 9 #[.agg #[.int .i64 y.ret, .slice ba bn bc]] (mk (funcText y))) := Lib.hid fun u hb => func_any ba bn bc y u (FuncQ.lasts _ _ _ _ hb hq) hcp hfy (HTB.out.since hb) (StrTab.since HTN.out hb)
              have HTK : RowKit.Hid (rowsText funcText (P.funcs.take (k + 1)) = rowsText funcText (P.funcs.take k) ++ funcText y) := Lib.hid (by rw [List.take_succ_eq_append_getElem HKL.out, HYE.out, rowsText_snoc])
              have XB : RowKit.Hid (Txt (mk (funcText y)) (funcText y) 1000000000000) := Lib.hid ⟨rfl, by have h1 := pre_len3 HFIT.out (k + 1); rw [HTK.out] at h1; simp only [List.length_append] at h1; omega⟩
              obtain ⟨s1, hs1⟩ : ∃ s, s = mk (funcText y) := ⟨_, rfl⟩
              rw [← hs1] at HCB XB
              have zb := XB.out.size
              have HA : RowKit.Hid (∀ o, Below w.heap.size w (wr.alloc o)) := Lib.hid fun o => keepS hbw ((Below.refl _ _).alloc (Nat.le_refl _) o)
              have HXR : RowKit.Hid (X ≤ wr.heap.size) := Lib.hid (Nat.le_trans HXZ.out HI.out.2.size)
              clear hcell hcs hye hc8 hq hfy hym hbw hs1 e1 hh hcp
              go_wp2_with fail
              refine (HCB.out _ (HA.out _)).mono ?_
              rintro e w5 ⟨rfl, hb5⟩
              have hb5' := keepS ((Below.refl wr.heap.size wr).alloc (Nat.le_refl _) _) hb5
              have HB5 := Lib.hid (builder_news HI.out.1 hb5')
              have HC5 : RowKit.Hid (Below X w w5) := Lib.hid (HI.out.2.trans (hb5'.mono HXR.out))
              clear hb5 hb5' d0 d1
              go_wp2_with fail
              refine (write_text X X _ s1 w5 HB5.out (by rw [Lib.byteCells_length, XB.out.is, mkB_size]; have h1 := pre_len3 HFIT.out k; have h2 := XB.out.len; omega) (Nat.le_trans HXZ.out HC5.out.size)).mono ?_
              rintro e w6 ⟨rfl, h6, hb6, _⟩
              have HB6 := Lib.hid (builder_text XB.out.is h6)
              have HC6 : RowKit.Hid (Below X w w6) := Lib.hid (HC5.out.trans hb6)
              clear h6 hb6 zb
              go_wp2_with fail
              go_roundw
              case rel => exact ⟨k + 1, by have := HLT.out; omega, by go_num, Lib.hid ⟨by rw [HTK.out, ← List.append_assoc]; exact HB6.out, HC6.out⟩⟩
              case measure => simp [intOf]; omega
            · have HFULL : RowKit.Hid (pre3 P ++ rowsText funcText (P.funcs.take k) = progText P) := Lib.hid (by rw [List.take_of_length_le (by rw [HFL.out]; omega)]; rfl)
              have HB9 : RowKit.Hid (Lib.IsBuilderF 55 5 X X (Lib.byteCells (progText P)) wr) := Lib.hid (by rw [← HFULL.out]; exact HI.out.1)
              have HC9 := Lib.hid HI.out.2
              go_wp2_with fail
              refine (Tryd.Builder_String_any_k X X _ wr HB9.out (Nat.le_trans HXZ.out HC9.out.size)).mono ?_
              rintro e w7 ⟨rfl, _, hb7, _⟩
              have HD : RowKit.Hid (Below w.heap.size w w7) := Lib.hid (HW.out _ (HC9.out.trans hb7))
              clear hb7
              go_wp2_with fail
              go_ret
              exact ⟨rfl, HD.out⟩
end Go.Proofs.YtnapechlgjcpbaaDoor
