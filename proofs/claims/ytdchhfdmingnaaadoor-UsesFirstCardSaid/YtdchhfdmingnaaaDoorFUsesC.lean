/- Layer 13: package uses' iterator: its contract. -/
import Derived.Test.YtdchhfdmingnaaaDoorFCodeFi
import Derived.Test.YtdchhfdmingnaaaDoorFT4
import Derived.Sort.CutIn
namespace Go.Proofs.YtdchhfdmingnaaaDoor
open Go.RowKit
set_option linter.unusedVariables false
set_option linter.unusedSimpArgs false
attribute [local go_sem] Oper.semAt_some
structure SmU (f : FuncD) : Prop where
  blocks : f.blocks.length ≤ 100000
  vals : valU f ≤ 100000
  l : ∀ p, (theEnd f p).L.length ≤ 100000
  m : ∀ p, (theEnd f p).M.length ≤ 100000
theorem valsOf_small {f : FuncD} (h : valU f ≤ 1000000) : ∀ i, i ≤ f.blocks.length → valsOf (f.blocks.take i) = (fstU f i : Int)
  | 0, _ => by simp [valsOf, fstU]
  | i + 1, hi => by
    have hb : i < f.blocks.length := by omega
    have h1 := fstU_le f (i + 1)
    have h2 := fstU_more hb
    rw [valsOf_more _ _ hb, valsOf_small h i (by omega), h2]
    unfold wrap64
    omega
theorem valuesOf_small {f : FuncD} (h : valU f ≤ 1000000) : valuesOf f = (valU f : Int) := by
  unfold valuesOf firstOf
  rw [show (f.blocks.length : Int).toNat = f.blocks.length by omega]
  exact valsOf_small h _ (Nat.le_refl _)
theorem block_atO {W : World} {a : Option Addr} {n c : Nat} {f : FuncD} (h : RowV BlockQ 8 W (.slice a n c) f.blocks) {p : Nat} (hp : p < n) : ∃ g off pa pn pc oa on oc la ln lc ma mn mc, a = some ⟨g, off, none⟩ ∧ g < W.heap.size ∧ (∀ u, Below W.heap.size W u → BlockAt u g off p (theEnd f p) pa pn pc oa on oc la ln lc ma mn mc) ∧ RowV OpQ 8 W (.slice oa on oc) (blkU f p).ops ∧ ListAt W la ln lc (theEnd f p).L ∧ ListAt W ma mn mc (theEnd f p).M := by
  obtain ⟨a', n', c', e, hl, _, _, hrow⟩ := h
  cases e
  obtain ⟨g, off, rfl, hg, hcs⟩ := hrow (by omega)
  obtain ⟨cs, h8, hc, pv, ov, es, rfl, hpv, hov, l, m, rfl, _, _, _, _, hL, hM⟩ := hcs p (by omega)
  obtain ⟨pa, pn, pc, rfl, _⟩ := hpv
  have hov2 := hov
  obtain ⟨oa, on, oc, rfl, _⟩ := hov
  obtain ⟨la, ln, lc, rfl, hl1, hl2, hl3, _⟩ := hL
  obtain ⟨ma, mn, mc, rfl, hm1, hm2, hm3, _⟩ := hM
  rw [theEnd_at (by omega), blkU_at (by omega)]
  refine ⟨g, off, pa, pn, pc, oa, on, oc, la, ln, lc, ma, mn, mc, rfl, hg, fun u hb => ?_, hov2, ⟨hl1, hl2, hl3⟩, ⟨hm1, hm2, hm3⟩⟩
  have hk : ∀ j (hj : j < 8), u.cell? ⟨g, off + p * 8 + j, none⟩ = _ := fun j hj => (hb.cell (p := ⟨g, off + p * 8 + j, none⟩) hg).trans (hc j hj)
  exact ⟨hk 0 (by omega), hk 1 (by omega), hk 2 (by omega), hk 3 (by omega), hk 4 (by omega), hk 5 (by omega), hk 6 (by omega), hk 7 (by omega)⟩
theorem op_atO {W : World} {oa : Option Addr} {on oc : Nat} {xs : List OpD} (h : RowV OpQ 8 W (.slice oa on oc) xs) {k : Nat} (hk : k < on) : ∃ (hx : k < xs.length) (g off : Nat) (la : Option Addr) (ln lc : Nat), oa = some ⟨g, off, none⟩ ∧ g < W.heap.size ∧
    (∀ j, j < 8 → W.cell? ⟨g, off + k * 8 + j, none⟩ = (#[.int .i64 xs[k].K, .int .i64 xs[k].A, .int .i64 xs[k].B, .int .i64 xs[k].C, .int .i64 xs[k].N, .string xs[k].S, .slice la ln lc, .bool xs[k].T] : Array Value)[j]?) ∧ ListAt W la ln lc xs[k].L := by
  obtain ⟨a', n', c', e, hl, _, _, hrow⟩ := h
  cases e
  obtain ⟨g, off, rfl, hg, hcs⟩ := hrow (by omega)
  have hx : k < xs.length := by omega
  obtain ⟨cs, h8, hc, l, rfl, _, _, _, _, _, _, la, ln, lc, rfl, h1, h2, h3, _⟩ := hcs k hx
  refine ⟨hx, g, off, la, ln, lc, rfl, hg, fun j hj => ?_, ⟨h1, h2, h3⟩⟩
  have hj' : j = 0 ∨ j = 1 ∨ j = 2 ∨ j = 3 ∨ j = 4 ∨ j = 5 ∨ j = 6 ∨ j = 7 := by omega
  rcases hj' with rfl | rfl | rfl | rfl | rfl | rfl | rfl | rfl <;> exact hc _ (by simp)
theorem endU_len (r : Int) {e : EndD} (hl : e.L.length ≤ 100000) (hm : e.M.length ≤ 100000) : (endU r e).length ≤ 200001 := by
  unfold endU
  rw [List.length_append]
  have h1 : (endA r e).length ≤ 1 := by unfold endA; split <;> simp
  have h2 := flatMap_len (tgts e) (tgts_lists hl hm) (tgts_two e) 2
  rw [List.take_of_length_le (tgts_two e)] at h2
  omega
theorem usesL_len (K A B C : Int) (L : List Int) : (usesL K A B C L).length ≤ 3 + L.length := by
  unfold usesL
  have h1 := oneL_len (hasB K 65) A
  have h2 := oneL_len (hasB K 66) B
  have h3 := oneL_len (hasB K 67) C
  have h4 : (pickL (hasB K 76) L).length ≤ L.length := by unfold pickL; split <;> simp
  simp only [List.length_append]
  omega
structure LiveO (O : World → Nat → Prop) (J : List UseU → World → Prop) (W : World) (s : List UseU) (u : World) : Prop where
  keep : KeepO O W u
  lies : LiesO O u
  st : J s u
theorem LiveO.below {O : World → Nat → Prop} {J : List UseU → World → Prop} {W u u' : World} {s : List UseU} {m : Nat} (h : LiveO O J W s u) (hO : SteadyO O) (hJ : AbidesO m O J) (hb : Below u.heap.size u u') : LiveO O J W s u' :=
  ⟨h.keep.trans (KeepO.grown hO (grownBy_of_below hb) h.lies (fun r e => by cases e)), h.lies.step hO (grownBy_of_below hb) (fun r e => by cases e), hJ s u u' none h.st (grownBy_of_below hb) (fun r e => by cases e)⟩
theorem LiveO.alloc {O : World → Nat → Prop} {J : List UseU → World → Prop} {W u : World} {s : List UseU} {m : Nat} (h : LiveO O J W s u) (hO : SteadyO O) (hJ : AbidesO m O J) (o : Obj) : LiveO O J W s (u.alloc o) :=
  h.below hO hJ ((Below.refl _ u).alloc (Nat.le_refl _) o)
theorem LiveO.fresh {O : World → Nat → Prop} {J : List UseU → World → Prop} {W u u' : World} {s : List UseU} (h : LiveO O J W s u) (hO : SteadyO O) (hb : Below u.heap.size u u') {k : Nat} (hk : u.heap.size ≤ k) : ¬ O u' k := fun e =>
  h.lies.free hk ((hO u u' none (grownBy_of_below hb) h.lies (fun r e => by cases e) k).1 e)
theorem LiveO.since {O : World → Nat → Prop} {J : List UseU → World → Prop} {W u u' : World} {s : List UseU} (h : LiveO O J W s u) (hO : SteadyO O) (hb : Below u.heap.size u u') : KeepO O u u' := KeepO.grown hO (grownBy_of_below hb) h.lies (fun r e => by cases e)
theorem flatMap_range_len {α : Type} (g : Nat → List α) {i j : Nat} (h : i ≤ j) : ((List.range i).flatMap g).length ≤ ((List.range j).flatMap g).length := by
  induction h with
  | refl => exact Nat.le_refl _
  | step _ ih => rw [List.range_succ, List.flatMap_append, List.length_append]; omega
theorem uses_len {f : FuncD} {i k : Nat} (hi : i < f.blocks.length) (hk : k ≤ lenU f i) : (allU f i ++ partU f i k).length + (siteU f i k).length ≤ (usesU f).length := by
  have h1 : (allU f (i + 1)).length ≤ (usesU f).length := flatMap_range_len _ (by omega)
  rw [allU_more, List.length_append] at h1
  have h2 : (partU f i (k + 1)).length ≤ (partU f i (lenU f i + 1)).length := flatMap_range_len _ (by omega)
  rw [partU_more, List.length_append] at h2
  rw [List.length_append]
  omega
theorem uses_mem {f : FuncD} {i k : Nat} (hi : i < f.blocks.length) (hk : k ≤ lenU f i) : ∀ x ∈ siteU f i k, x ∈ usesU f := fun x hx => by
  obtain ⟨h1, h2, h3⟩ := mem_siteU.1 hx
  exact mem_usesU.2 ⟨by rw [h1]; exact hi, by rw [h1]; exact hk, by rw [h1]; exact h2, h3⟩
set_option maxRecDepth 100000 in
set_option maxHeartbeats 8000000 in
theorem uses_seq {O : World → Nat → Prop} (hO : SteadyO O) (r : Int) (a : Option Addr) (n c : Nat) (f : FuncD) (b : Nat) (w0 w : World) (hq : FuncQ w0 [.int .i64 r, .slice a n c] f) (hft : FT w0) (hsm : SmU f)
    (hd : Below w0.heap.size w0 w) (hb : ∀ j, w.cell? ⟨b, j, none⟩ = (#[.int .i64 r, .slice a n c] : Array Value)[j]?) (hbO : ¬ O w b) (hOw : ∀ i, O w i → w0.heap.size ≤ i) (hLw : LiesO O w) (dd : Nat) :
    SeqO Fence.wide dd 2 Tryd.prog 36 #[.pointer (some ⟨b, 0, none⟩)] encU O (fun xs => xs = usesU f) (fun x => x ∈ usesU f) (usesU f).length w := by
  intro l J W hW hL hJ hY h0
  have hblt : b < w.heap.size := World.block_lt_of_cell? (a := ⟨b, 0, none⟩) _ (hb 0)
  have hOi : ∀ i, O W i ↔ O w i := hO w W none (grownBy_of_below hW) hLw (fun r e => by cases e)
  have HD : RowKit.Hid (∀ u, KeepO O W u → Below w0.heap.size w0 u) := Lib.hid fun u hu => (hd.trans (hW.mono hd.size)).trans (hu.below (fun i hi => hOw i ((hOi i).1 hi)) (Nat.le_trans hd.size hW.size))
  have HBF : RowKit.Hid (∀ u, KeepO O W u → ∀ j, u.cell? ⟨b, j, none⟩ = (#[.int .i64 r, .slice a n c] : Array Value)[j]?) := Lib.hid fun u hu j =>
    (hu.cell (p := ⟨b, j, none⟩) (Nat.lt_of_lt_of_le hblt hW.size) (fun e => hbO ((hOi b).1 e))).trans ((hW.cell (p := ⟨b, j, none⟩) hblt).trans (hb j))
  have HQ : RowKit.Hid (∀ u, KeepO O W u → FuncQ u [.int .i64 r, .slice a n c] f) := Lib.hid fun u hu => FuncQ.lasts _ _ _ _ (HD.out u hu) hq
  have HFT : RowKit.Hid (∀ u, KeepO O W u → FT u) := Lib.hid fun u hu => hft.since (HD.out u hu)
  have HRW : RowKit.Hid (∀ u, KeepO O W u → RowV BlockQ 8 u (.slice a n c) f.blocks) := Lib.hid fun u hu => by
    obtain ⟨bv, he, _, hr⟩ := HQ.out u hu
    simp only [List.cons.injEq, and_true] at he
    obtain ⟨_, rfl⟩ := he
    exact hr
  have hn : n = f.blocks.length := by obtain ⟨_, _, _, e, h, _⟩ := HRW.out W (KeepO.refl _ _); cases e; exact h.symm
  have HN := Lib.hid hn
  have HSM := Lib.hid hsm
  have hnb : n ≤ 100000 := by rw [hn]; exact hsm.blocks
  have HVAL : RowKit.Hid (valuesOf f = (valU f : Int)) := Lib.hid (valuesOf_small (by have := hsm.vals; omega))
  have HRET : RowKit.Hid (f.ret = r) := Lib.hid (by
    obtain ⟨bv, he, _, _⟩ := hq
    simp only [List.cons.injEq, Value.int.injEq, true_and, and_true] at he
    exact he.1.symm)
  have HRW0 : RowKit.Hid (RowV BlockQ 8 w0 (.slice a n c) f.blocks) := Lib.hid (by
    obtain ⟨bv, he, _, hr⟩ := hq
    simp only [List.cons.injEq, and_true] at he
    obtain ⟨_, rfl⟩ := he
    exact hr)
  have HO := Lib.hid hO
  have HJ := Lib.hid hJ
  have HY := Lib.hid hY
  have HLW := Lib.hid hL
  have HJ0 := Lib.hid h0
  clear hq hft hsm hd hb hbO hOw hLw hblt hOi hn hL hJ hY h0 hW
  have b0 := HBF.out W (KeepO.refl _ _) 0
  refine callsIn_of_wp Tryd.func36 rfl trivial ?_ rfl
  simp only [Tryd.ntmps36, List.size_toArray, List.length_cons, List.length_nil, Nat.reduceAdd, Nat.reduceSub, Array.replicate_succ, Array.replicate_zero, List.push_toArray, List.append_toArray, List.nil_append, List.cons_append]
  obtain ⟨X0, hX0⟩ : ∃ u, u = W.alloc (.cells #[.func (.yield l) #[] #[]] 76) := ⟨_, rfl⟩
  have HLV0 : RowKit.Hid (LiveO O J W [] X0) := Lib.hid (by rw [hX0]; exact LiveO.alloc ⟨KeepO.refl _ _, HLW.out, HJ0.out⟩ HO.out HJ.out _)
  have HC0 : RowKit.Hid (X0.cell? ⟨W.heap.size, 0, none⟩ = some (.func (.yield l) #[] #[]) ∧ X0.heap.size = W.heap.size + 1 ∧ ¬ O X0 W.heap.size) := Lib.hid
    ⟨by rw [hX0]; exact World.cell?_alloc_mark _ _ _ _ _, by rw [hX0]; simp, by rw [hX0]; exact LiveO.fresh (J := J) (W := W) (s := []) ⟨KeepO.refl _ _, HLW.out, HJ0.out⟩ HO.out ((Below.refl _ W).alloc (Nat.le_refl _) _) (Nat.le_refl _)⟩
  gi_upto_region 1 with fail
  rw [← hX0]
  clear hX0
  have b0 := HBF.out X0 HLV0.out.keep 0
  have b1 := HBF.out X0 HLV0.out.keep 1
  gi_wp2_with (refine ⟨trivial, (fun h => (nomatch h)), ?_⟩; gi_at_call 24; refine (callsIn_wide.2 (code_values r a n c f _ (HQ.out _ HLV0.out.keep))).mono ?_; rintro e w1 ⟨rfl, hb1⟩; have HLV1 := Lib.hid (HLV0.out.below HO.out HJ.out hb1); have HB1 := Lib.hid hb1; have b1 := HBF.out (w1.alloc (.cells #[.int .i64 (valU f : Int)] 3)) (HLV1.out.alloc HO.out HJ.out _).keep 1; clear hb1; rw [HVAL.out])
  obtain ⟨X2, hX2⟩ : ∃ u, u = w1.alloc (.cells #[.int .i64 (valU f : Int)] 3) := ⟨_, rfl⟩
  rw [← hX2]
  have HLV2 : RowKit.Hid (LiveO O J W [] X2) := Lib.hid (by rw [hX2]; exact HLV1.out.alloc HO.out HJ.out _)
  have HBX : RowKit.Hid (∀ u, KeepO O X2 u → u.cell? ⟨w1.heap.size, 0, none⟩ = some (.int .i64 (valU f : Int)) ∧ u.cell? ⟨W.heap.size, 0, none⟩ = some (.func (.yield l) #[] #[]) ∧ ¬ O u w1.heap.size ∧ ¬ O u W.heap.size) := Lib.hid (by
    have h12 : Below w1.heap.size w1 X2 := by rw [hX2]; exact (Below.refl _ w1).alloc (Nat.le_refl _) _
    have hs2 : X2.heap.size = w1.heap.size + 1 := by rw [hX2]; simp
    have hf1 : ¬ O X2 w1.heap.size := HLV1.out.fresh HO.out h12 (Nat.le_refl _)
    have hk02 : KeepO O X0 X2 := HLV0.out.since HO.out (HB1.out.trans (h12.mono HB1.out.size))
    have hlt : W.heap.size < X0.heap.size := by rw [HC0.out.2.1]; omega
    have hlt2 : W.heap.size < X2.heap.size := Nat.lt_of_lt_of_le hlt hk02.size
    have hf0 : ¬ O X2 W.heap.size := hk02.free hlt HC0.out.2.2
    have hc1 : X2.cell? ⟨w1.heap.size, 0, none⟩ = some (.int .i64 (valU f : Int)) := by rw [hX2]; exact World.cell?_alloc_mark _ _ _ _ _
    have hc0 : X2.cell? ⟨W.heap.size, 0, none⟩ = some (.func (.yield l) #[] #[]) := (hk02.cell (p := ⟨W.heap.size, 0, none⟩) hlt HC0.out.2.2).trans HC0.out.1
    intro u hu
    exact ⟨(hu.cell (p := ⟨w1.heap.size, 0, none⟩) (by show w1.heap.size < _; omega) hf1).trans hc1, (hu.cell (p := ⟨W.heap.size, 0, none⟩) hlt2 hf0).trans hc0, hu.free (by omega) hf1, hu.free hlt2 hf0⟩)
  clear hX2 HLV1 HB1 HLV0 HC0 b0 b1 HLW HJ0
  gi_loopw [15] (fun iv wr => ∃ i : Nat, i ≤ n ∧ iv = .int .i64 (i : Int) ∧ RowKit.Hid (LiveO O J W (allU f i) wr ∧ KeepO O X2 wr)) (fun iv _ => n - (intOf iv).toNat)
  case atStart => exact ⟨0, Nat.zero_le _, rfl, Lib.hid ⟨HLV2.out, KeepO.refl _ _⟩⟩
  case round =>
    obtain ⟨i, hi, rfl, HI⟩ := hrel
    clear HLV2
    obtain ⟨wo, hwo⟩ : ∃ u, u = wr := ⟨_, rfl⟩
    rw [← hwo] at HI ⊢
    clear hwo
    by_cases hlt : i < n
    · obtain ⟨g, off, pa, pn, pc, oa, on, oc, la, ln, lc, ma, mn, mc, rfl, hg, hblk, hops, hla, hma⟩ := block_atO HRW0.out hlt
      obtain ⟨b0, b1, b2, b3, b4, b5, b6, b7⟩ := hblk wo (HD.out wo HI.out.1.keep)
      have HOPS := Lib.hid hops
      have HLA := Lib.hid hla
      have HMA := Lib.hid hma
      have HIN : RowKit.Hid (i < f.blocks.length) := Lib.hid (by rw [← HN.out]; exact hlt)
      have HFIN : RowKit.Hid ((blkU f i).fin = theEnd f i) := Lib.hid (blkU_end f i)
      have HON : RowKit.Hid (on = lenU f i) := Lib.hid (by obtain ⟨_, _, _, e, h, _⟩ := hops; cases e; exact h.symm)
      have hon : on ≤ 140737488351232 := by obtain ⟨_, _, _, e, _, _, h, _⟩ := hops; cases e; exact h
      have CE : RowKit.Hid (∀ kk, kk ≤ lenU f i → ∀ u u5 ua un uc, LiveO O J W (allU f i ++ partU f i kk) u → KeepO O X2 u → OwnsI u5 u.heap.size 3 (.slice ua un uc) (atU f i kk) → Below u.heap.size u u5 → (atU f i kk).length ≤ 140737488355328 →
          CallsIn Fence.wide (dd - 1) Tryd.prog 37 #[.agg #[.int .i64 0, .int .i64 (i : Int), .int .i64 (kk : Int)], .slice ua un uc, .pointer (some ⟨w1.heap.size, 0, none⟩), .pointer (some ⟨W.heap.size, 0, none⟩)] u5
            fun e W' => e = .returned (.bool true) ∧ LiveO O J W (allU f i ++ partU f i (kk + 1)) W' ∧ KeepO O u W') := Lib.hid (by
        intro kk hkk u u5 ua un uc hlv hk2 ho5 hb5 hun
        have HY2 : ∀ pre x W1, J pre W1 → x ∈ usesU f → pre.length < (usesU f).length → YieldAt Fence.wide (dd - 1 - 1) Tryd.prog l (encU x) W1 fun e W' => e = .returned (.bool true) ∧ J (pre ++ [x]) W' ∧ KeepO O W1 W' ∧ LiesO O W' := by
          rw [show dd - 1 - 1 = dd - 2 by omega]
          exact HY.out
        have h5 := hlv.below HO.out HJ.out hb5
        have hk5 := hlv.since HO.out hb5
        obtain ⟨z0, y0, f1, f0⟩ := HBX.out u5 (hk2.trans hk5)
        refine (eachU_in (O := O) (J := J) (Vp := fun x => x ∈ usesU f) (N := (usesU f).length) HO.out HJ.out HY2 (i, kk) (valU f) ua un uc (atU f i kk) (allU f i ++ partU f i kk) u5 z0 f1 y0 f0 ho5.read (by rw [← ho5.read.1]; exact hun) (fun g off e _ => ?_) h5.lies h5.st (uses_mem HIN.out hkk) (uses_len HIN.out hkk)).mono ?_
        · exact hlv.fresh HO.out hb5 (ho5.lt g (by rw [e]; rfl)).1
        · rintro e W' ⟨he, hJ', hk', hl'⟩
          exact ⟨he, ⟨h5.keep.trans hk', hl', by rw [partU_more, ← List.append_assoc]; exact hJ'⟩, hk5.trans hk'⟩)
      clear hblk hops hla hma hg
      gi_wp2
      clear b0 b1 b2 b3 b4 b5 b6 b7
      obtain ⟨X3, hX3⟩ : ∃ u, u = wo.alloc (.cells #[.slice pa pn pc, .slice oa on oc, .int .i64 (theEnd f i).K, .int .i64 (theEnd f i).A, .int .i64 (theEnd f i).To, .int .i64 (theEnd f i).Else, .slice la ln lc, .slice ma mn mc] 57) := ⟨_, rfl⟩
      rw [← hX3]
      have h03 : Below wo.heap.size wo X3 := by rw [hX3]; exact (Below.refl _ wo).alloc (Nat.le_refl _) _
      have HLV3 : RowKit.Hid (LiveO O J W (allU f i) X3) := Lib.hid (HI.out.1.below HO.out HJ.out h03)
      have HK23 : RowKit.Hid (KeepO O X2 X3) := Lib.hid (HI.out.2.trans (HI.out.1.since HO.out h03))
      have HX3 : RowKit.Hid (∀ u, KeepO O X3 u → (∀ j, u.cell? ⟨wo.heap.size, j, none⟩ = (#[.slice pa pn pc, .slice oa on oc, .int .i64 (theEnd f i).K, .int .i64 (theEnd f i).A, .int .i64 (theEnd f i).To, .int .i64 (theEnd f i).Else, .slice la ln lc, .slice ma mn mc] : Array Value)[j]?) ∧ ¬ O u wo.heap.size ∧ wo.heap.size < u.heap.size) := Lib.hid (by
        have hs : X3.heap.size = wo.heap.size + 1 := by rw [hX3]; simp
        have hf := HI.out.1.fresh HO.out h03 (Nat.le_refl _)
        have hc : ∀ j, X3.cell? ⟨wo.heap.size, j, none⟩ = (#[.slice pa pn pc, .slice oa on oc, .int .i64 (theEnd f i).K, .int .i64 (theEnd f i).A, .int .i64 (theEnd f i).To, .int .i64 (theEnd f i).Else, .slice la ln lc, .slice ma mn mc] : Array Value)[j]? := fun j => by rw [hX3]; exact World.cell?_alloc_mark _ _ _ _ _
        intro u hu
        exact ⟨fun j => (hu.cell (p := ⟨wo.heap.size, j, none⟩) (by show wo.heap.size < _; omega) hf).trans (hc j), hu.free (by omega) hf, Nat.lt_of_lt_of_le (by omega) hu.size⟩)
      clear hX3 h03 HI
      gi_loopw [23] (fun iv wr => ∃ k : Nat, k ≤ on ∧ iv = .int .i64 (k : Int) ∧ RowKit.Hid (LiveO O J W (allU f i ++ partU f i k) wr ∧ KeepO O X2 wr ∧ KeepO O X3 wr)) (fun iv _ => on - (intOf iv).toNat)
      case atStart => exact ⟨0, Nat.zero_le _, rfl, Lib.hid ⟨by simpa [partU] using HLV3.out, HK23.out, KeepO.refl _ _⟩⟩
      case round =>
        obtain ⟨k, hk, rfl, HI⟩ := hrel
        clear HLV3 HK23
        obtain ⟨wi, hwi⟩ : ∃ u, u = wr := ⟨_, rfl⟩
        rw [← hwi] at HI ⊢
        clear hwi
        by_cases hlk : k < on
        · obtain ⟨hx, go, oo, ka, kn, kc, rfl, hgo, hoc, hka⟩ := op_atO HOPS.out hlk
          have hcw : ∀ j, j < 8 → wi.cell? ⟨go, oo + k * 8 + j, none⟩ = _ := fun j hj => ((HD.out wi HI.out.1.keep).cell (p := ⟨go, oo + k * 8 + j, none⟩) hgo).trans (hoc j hj)
          have o0 := hcw 0 (by omega)
          have o1 := hcw 1 (by omega)
          have o2 := hcw 2 (by omega)
          have o3 := hcw 3 (by omega)
          have o4 := hcw 4 (by omega)
          have o5 := hcw 5 (by omega)
          have o6 := hcw 6 (by omega)
          have o7 := hcw 7 (by omega)
          obtain ⟨X, hX⟩ : ∃ X, X = (blkU f i).ops[k] := ⟨_, rfl⟩
          have HAT : RowKit.Hid (atU f i k = usesL X.K X.A X.B X.C X.L) := Lib.hid (by rw [atU_op hx, hX]; rfl)
          rw [← hX] at hka o0 o1 o2 o3 o4 o5 o6 o7
          have HKA := Lib.hid hka
          have HKL : RowKit.Hid (k ≤ lenU f i) := Lib.hid (by have := HON.out; omega)
          clear hcw hoc hka hX hx hgo
          obtain ⟨XK, XA, XB, XC, XN, XS, XL, XT⟩ := X
          simp only [Nat.add_zero] at o0
          have H4 : RowKit.Hid (∀ o : Obj, LiveO O J W (allU f i ++ partU f i k) (wi.alloc o) ∧ KeepO O X2 (wi.alloc o) ∧ KeepO O X3 (wi.alloc o)) := Lib.hid fun o => by
            have hb : Below wi.heap.size wi (wi.alloc o) := (Below.refl _ wi).alloc (Nat.le_refl _) _
            have hk := HI.out.1.since HO.out hb
            exact ⟨HI.out.1.below HO.out HJ.out hb, HI.out.2.1.trans hk, HI.out.2.2.trans hk⟩
          have HKN : RowKit.Hid (kn ≤ 17592186044000) := Lib.hid (by have := HKA.out.2.2; omega)
          have HUN : RowKit.Hid ((atU f i k).length ≤ 140737488355328) := Lib.hid (by rw [HAT.out]; have h1 := usesL_len XK XA XB XC XL; have h2 := HKN.out; have h3 : XL.length = kn := HKA.out.1.1; show (usesL XK XA XB XC XL).length ≤ _; omega)
          gi_wp2_with (first
            | (refine ⟨trivial, (fun h => (nomatch h)), ?_⟩; gi_at_call 38; refine (callsIn_wide.2 (kuses_any XK XA XB XC XN XS ka kn kc XT XL _ (HFT.out _ (H4.out _).1.keep) (HKA.out.1.since (HD.out _ (H4.out _).1.keep)) HKA.out.2.1 HKN.out)).mono ?_; rintro e w5 ⟨ua, un, uc, rfl, ho5, hb5⟩; rw [← HAT.out] at ho5; have HC6 := Lib.hid (CE.out k HKL.out _ w5 ua un uc (H4.out _).1 (H4.out _).2.1 ho5 hb5 HUN.out); clear ho5 hb5)
            | (refine ⟨trivial, (fun h => (nomatch h)), ?_⟩; gi_at_call 37; refine HC6.out.mono ?_; rintro e w6 ⟨rfl, hlv, hk6⟩; have HLV6 := Lib.hid hlv; have HK6 := Lib.hid hk6; clear hlv hk6))
          go_roundw
          case rel => exact ⟨k + 1, by omega, by go_num, Lib.hid ⟨HLV6.out, (H4.out _).2.1.trans HK6.out, (H4.out _).2.2.trans HK6.out⟩⟩
          case measure => simp [intOf]; omega
        · obtain rfl : k = on := by omega
          obtain ⟨t6, ht6, _⟩ := HX3.out wi HI.out.2.2
          have x0 := t6 0
          have x1 := t6 1
          have x2 := t6 2
          have x3 := t6 3
          have x4 := t6 4
          have x5 := t6 5
          have x6 := t6 6
          have x7 := t6 7
          have b0 := HBF.out wi HI.out.1.keep 0
          have b1 := HBF.out wi HI.out.1.keep 1
          have HEND : RowKit.Hid (atU f i k = endU r (theEnd f i)) := Lib.hid (by rw [atU_end f i k (by rw [HON.out]; exact Nat.le_refl _), HRET.out, HFIN.out])
          have CEN : RowKit.Hid (∀ u, Below w0.heap.size w0 u → Calls Tryd.prog 39 #[.agg #[.int .i64 r, .slice (some ⟨g, off, none⟩) n c], .agg #[.int .i64 (theEnd f i).K, .int .i64 (theEnd f i).A, .int .i64 (theEnd f i).To, .int .i64 (theEnd f i).Else, .slice la ln lc, .slice ma mn mc]] u (ListPostU (atU f i k) u)) := Lib.hid fun u hb => by
            rw [HEND.out]
            exact ended_any r _ n c la ln lc ma mn mc (theEnd f i) u (HLA.out.since hb) (HMA.out.since hb) (HSM.out.l i) (HSM.out.m i)
          have HUN : RowKit.Hid ((atU f i k).length ≤ 140737488355328) := Lib.hid (by rw [HEND.out]; have := endU_len r (HSM.out.l i) (HSM.out.m i); omega)
          have HKL : RowKit.Hid (k ≤ lenU f i) := Lib.hid (by rw [HON.out]; exact Nat.le_refl _)
          have HLD : RowKit.Hid (LiveO O J W (allU f i ++ partU f i k) wi.drew ∧ KeepO O X2 wi.drew) := Lib.hid (by
            have hb : Below wi.heap.size wi wi.drew := (Below.refl _ wi).drew
            exact ⟨HI.out.1.below HO.out HJ.out hb, HI.out.2.1.trans (HI.out.1.since HO.out hb)⟩)
          have HMORE : RowKit.Hid (allU f i ++ partU f i (k + 1) = allU f (i + 1)) := Lib.hid (by rw [allU_more, HON.out])
          have HB0 : RowKit.Hid (∀ u, KeepO O W u → u.cell? ⟨b, 0, none⟩ = some (.int .i64 r) ∧ u.cell? ⟨b, 1, none⟩ = some (.slice (some ⟨g, off, none⟩) n c)) := Lib.hid fun u hu => ⟨HBF.out u hu 0, HBF.out u hu 1⟩
          have HX0 : RowKit.Hid (∀ u, Below wi.heap.size wi u → u.cell? ⟨wo.heap.size, 0, none⟩ = some (.slice pa pn pc) ∧ u.cell? ⟨wo.heap.size, 1, none⟩ = some (.slice oa k oc) ∧ u.cell? ⟨wo.heap.size, 2, none⟩ = some (.int .i64 (theEnd f i).K)) := Lib.hid fun u hu =>
            ⟨(hu.cell (p := ⟨wo.heap.size, 0, none⟩) (HX3.out wi HI.out.2.2).2.2).trans ((HX3.out wi HI.out.2.2).1 0), (hu.cell (p := ⟨wo.heap.size, 1, none⟩) (HX3.out wi HI.out.2.2).2.2).trans ((HX3.out wi HI.out.2.2).1 1), (hu.cell (p := ⟨wo.heap.size, 2, none⟩) (HX3.out wi HI.out.2.2).2.2).trans ((HX3.out wi HI.out.2.2).1 2)⟩
          clear t6 ht6
          gi_wp2_with fail
          gi_region_with (first
            | (refine ⟨trivial, (fun h => (nomatch h)), ?_⟩; gi_at_call 39; refine (callsIn_wide.2 (CEN.out _ (HD.out _ HLD.out.1.keep))).mono ?_; rintro e w5 ⟨ua, un, uc, rfl, ho5, hb5⟩; have x1 := (HX0.out w5 (((Below.refl _ wi).drew).trans hb5)).2.1; have HC6 := Lib.hid (CE.out k HKL.out wi.drew w5 ua un uc HLD.out.1 HLD.out.2 ho5 hb5 HUN.out); clear ho5 hb5)
            | (refine ⟨trivial, (fun h => (nomatch h)), ?_⟩; gi_at_call 37; refine HC6.out.mono ?_; rintro e w6 ⟨rfl, hlv, hk6⟩; have HLV6 := Lib.hid hlv; have HK6 := Lib.hid hk6; clear hlv hk6))
          all_goals
            gi_wp2_with fail
            go_roundw
            case rel => exact ⟨i + 1, by omega, by go_num, Lib.hid ⟨by rw [← HMORE.out]; exact HLV6.out, HLD.out.2.trans HK6.out⟩⟩
            case measure => simp [intOf]; omega
    · obtain rfl : i = n := by omega
      have HU : RowKit.Hid (usesU f = allU f i) := Lib.hid (by unfold usesU; rw [HN.out])
      gi_wp2_with fail
      go_end0
      exact ⟨⟨_, rfl⟩, _, HU.out.symm, HI.out.1.st⟩
end Go.Proofs.YtdchhfdmingnaaaDoor
