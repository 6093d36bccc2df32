/- Layer 6: a block's lines: package show's block, walked (mk_bl.py). -/
import Derived.Test.YtccajbgdlicbnaaDoorQShowEn
import Derived.Test.YtccajbgdlicbnaaDoorQT4
import Derived.Deep.RegionHeld3
namespace Go.Proofs.YtccajbgdlicbnaaDoor
open Go.RowKit (wrap64 intOf Below)
set_option linter.unusedVariables false
set_option linter.unusedSimpArgs false

def opT (o : OpD) : List UInt8 := opText o.K (fieldF o.K o.A o.B o.C o.N o.S o.L o.T)
def stepLine (n : Nat) (o : OpD) : List UInt8 := [32, 32] ++ valueText (n : Int) ++ [32, 61, 32] ++ opT o ++ [10]
def stepsText : Nat → List OpD → List UInt8
  | _, [] => []
  | n, o :: r => stepLine n o ++ stepsText (n + 1) r
theorem stepsText_snoc : ∀ (n : Nat) (xs : List OpD) (o : OpD), stepsText n (xs ++ [o]) = stepsText n xs ++ stepLine (n + xs.length) o
  | n, [], o => by simp [stepsText]
  | n, x :: xs, o => by
    simp only [List.cons_append, stepsText, stepsText_snoc (n + 1) xs o, List.length_cons, List.append_assoc]
    rw [show n + 1 + xs.length = n + (xs.length + 1) by omega]
theorem stepsText_take : ∀ (n : Nat) (xs : List OpD) (k : Nat), (stepsText n (xs.take k)).length ≤ (stepsText n xs).length
  | n, [], k => by simp [stepsText]
  | n, x :: xs, 0 => by simp [stepsText]
  | n, x :: xs, k + 1 => by
    have := stepsText_take (n + 1) xs k
    simp only [List.take_succ_cons, stepsText, List.length_append]
    omega
def headText (at' : Nat) (y : BlockD) : List UInt8 := Lib.itoa (at' : Int) ++ listT typeText y.params ++ [10]
def blockText (at' first : Nat) (y : BlockD) : List UInt8 := headText at' y ++ stepsText (first + y.params.length) y.ops ++ ([32, 32] ++ endText y.fin ++ [10])
/-- A step's strings and lists are small. -/
def FitOp (o : OpD) : Prop := o.S.size ≤ 1048576 ∧ o.L.length ≤ 1048576
theorem says_op {W : World} {o : OpD} {la : Option Addr} {ln lc : Nat} (h : OpQ W [.int .i64 o.K, .int .i64 o.A, .int .i64 o.B, .int .i64 o.C, .int .i64 o.N, .string o.S, .slice la ln lc, .bool o.T] o) (hf : FitOp o) (ht : Tabs W) :
    Says W 13 #[.agg #[.int .i64 o.K, .int .i64 o.A, .int .i64 o.B, .int .i64 o.C, .int .i64 o.N, .string o.S, .slice la ln lc, .bool o.T]] (mk (opT o)) := by
  obtain ⟨l, he, _, hA, hB, hC, hN, _, a', n', c', hl, hat, hnil, hm, hr⟩ := h
  simp only [List.cons.injEq, true_and, and_true] at he
  rw [← he] at hl
  cases hl
  intro u hb
  exact show_op o.K o.A o.B o.C o.N o.S la ln lc o.T _ 200000000 (by decide) u (ht.since hb).fields (ht.since hb).steps (fields6 o.K o.A o.B o.C o.N o.S la ln lc o.L o.T u hA hB hC hN hf.1 (hat.below hb (Nat.le_refl _)) (by rw [← hat.1]; exact hf.2) hr (ht.since hb))
theorem builder_text {B b : Nat} {l : List UInt8} {s : ByteArray} {x : List UInt8} {w : World} (hs : s = mkB x) (h : Lib.BuilderAtF 55 5 B b (.pointer (some ⟨b, 0, none⟩)) (Lib.byteCells l ++ Lib.strCells s) w) : Lib.IsBuilderF 55 5 B b (Lib.byteCells (l ++ x)) w := by
  rw [hs, Lib.strCells_eq, show (mkB x).data.toList = x from mk_list x, ← Lib.byteCells_append] at h
  exact .inr h
theorem kept_block {b k : Nat} {C : Array Value} {T : TypeId} {w w' : World} (h : Lib.OthersKept 5 (some b) w w') (hk : w.heap[k]? = some (.cells C T (0, 0))) (hkb : k ≠ b) (hT : T ≠ 5) : w'.heap[k]? = some (.cells C T (0, 0)) :=
  h k _ hk (fun e1 => hkb (Option.some.inj e1)) (fun _ _ e1 => by injection e1 with _ h2 _; exact hT h2)

theorem rowV_len_ {α : Type} {Q : World → List Value → α → Prop} {k : Nat} {W : World} {a : Option Addr} {n c : Nat} {xs : List α} (h : RowV Q k W (.slice a n c) xs) : xs.length = n ∧ n ≤ 140737488351232 := by
  obtain ⟨_, _, _, e, h1, _, h2, _⟩ := h
  cases e
  exact ⟨h1, h2⟩
theorem rowV_at_ {α : Type} {Q : World → List Value → α → Prop} {k : Nat} {W : World} {a : Option Addr} {n c : Nat} {xs : List α} (h : RowV Q k W (.slice a n c) xs) (hn : 0 < n) :
    ∃ g off, a = some ⟨g, off, none⟩ ∧ g < W.heap.size ∧ ∀ i (h : i < xs.length), ∃ cs, cs.length = k ∧ (∀ j (hj : j < cs.length), W.cell? ⟨g, off + i * k + j, none⟩ = some cs[j]) ∧ Q W cs xs[i] := by
  obtain ⟨a', n', c', e, _, _, _, h⟩ := h
  cases e
  exact h hn
theorem opQ_form {W : World} {cs : List Value} {y : OpD} (h : OpQ W cs y) : ∃ a n c, cs = [.int .i64 y.K, .int .i64 y.A, .int .i64 y.B, .int .i64 y.C, .int .i64 y.N, .string y.S, .slice a n c, .bool y.T] := by
  obtain ⟨l, rfl, _, _, _, _, _, _, a, n, c, rfl, _⟩ := h
  exact ⟨a, n, c, rfl⟩
set_option maxRecDepth 100000 in
set_option maxHeartbeats 8000000 in
theorem block_any (at' first : Nat) (pa oa la ma : Option Addr) (pn pc on oc ln lc mn mc : Nat) (y : BlockD) (w : World) (h : BlockQ w [.slice pa pn pc, .slice oa on oc, .int .i64 y.fin.K, .int .i64 y.fin.A, .int .i64 y.fin.To, .int .i64 y.fin.Else, .slice la ln lc, .slice ma mn mc] y)
    (hpn : pn ≤ 1048576) (hln : ln ≤ 1048576) (hmn : mn ≤ 1048576) (hops : ∀ o ∈ y.ops, FitOp o) (hat' : at' ≤ 1000000000) (hfirst : first + pn + on ≤ 1000000000) (hlen : (blockText at' first y).length ≤ 1000000000000) (ht : Tabs w) (hT : TN w) :
    Calls Tryd.prog 21 #[.int .i64 (at' : Int), .int .i64 (first : Int), .agg #[.slice pa pn pc, .slice oa on oc, .int .i64 y.fin.K, .int .i64 y.fin.A, .int .i64 y.fin.To, .int .i64 y.fin.Else, .slice la ln lc, .slice ma mn mc]] w fun e w' => e = .returned (.string (mk (blockText at' first y))) ∧ Below w.heap.size w w' := by
  obtain ⟨pv, ov, es, he, ⟨a1, n1, c1, hp1, hpat, hpnil, hpm, hpr⟩, hov, hend⟩ := h
  simp only [List.cons.injEq, true_and, and_true] at he
  obtain ⟨rfl, rfl, rfl⟩ := he
  cases hp1
  have hplen : y.params.length = pn := hpat.1
  have holen := (rowV_len_ hov).1
  have hon := (rowV_len_ hov).2
  obtain ⟨X, hX⟩ : ∃ X, X = w.heap.size := ⟨_, rfl⟩
  obtain ⟨W1, hW1⟩ : ∃ W1, W1 = w.alloc (.cells #[.slice pa pn pc, .slice oa on oc, .int .i64 y.fin.K, .int .i64 y.fin.A, .int .i64 y.fin.To, .int .i64 y.fin.Else, .slice la ln lc, .slice ma mn mc] 48) := ⟨_, rfl⟩
  have hbx : W1.heap[X]? = some (.cells #[.slice pa pn pc, .slice oa on oc, .int .i64 y.fin.K, .int .i64 y.fin.A, .int .i64 y.fin.To, .int .i64 y.fin.Else, .slice la ln lc, .slice ma mn mc] 48 (0, 0)) := by rw [hW1, hX]; exact heap_alloc_new w _
  have hz1 : W1.heap.size = X + 1 := by rw [hW1, hX]; simp
  have hb1 : Below w.heap.size w W1 := by rw [hW1]; exact (Below.refl _ _).alloc (Nat.le_refl _) _
  obtain ⟨W2, hW2⟩ : ∃ W2, W2 = W1.alloc (.cells #[.pointer none, .slice none 0 0] 55) := ⟨_, rfl⟩
  have HB2 : RowKit.Hid (Lib.IsBuilderF 55 5 (X + 1) (X + 1) (Lib.byteCells []) W2) := Lib.hid (by rw [hW2, ← hz1]; exact Lib.IsBuilderF.of (Lib.fresh_isBuilder _ _ W1))
  have hb2 : Below W1.heap.size W1 W2 := by rw [hW2]; exact (Below.refl _ _).alloc (Nat.le_refl _) _
  have HZ2 : RowKit.Hid (W2.heap.size = X + 2) := Lib.hid (by rw [hW2]; simp; omega)
  have HW2 : RowKit.Hid (Below w.heap.size w W2) := Lib.hid (keepS hb1 hb2)
  have HBX : RowKit.Hid (∀ u, Below (X + 1) W2 u → Below w.heap.size w u ∧ (∀ j, u.cell? ⟨X, j, none⟩ = (#[.slice pa pn pc, .slice oa on oc, .int .i64 y.fin.K, .int .i64 y.fin.A, .int .i64 y.fin.To, .int .i64 y.fin.Else, .slice la ln lc, .slice ma mn mc] : Array Value)[j]?)) := Lib.hid fun u hb =>
    ⟨HW2.out.trans (hb.mono (by omega)), fun j => by
      have : u.heap[X]? = _ := (hb.block X (by omega)).trans ((hb2.block X (by omega)).trans hbx)
      simp [World.cell?, this]⟩
  have HX := Lib.hid hX
  have HO := Lib.hid hov
  have HOL := Lib.hid holen
  have HFIT := Lib.hid hops
  have HPL := Lib.hid hplen
  have HEND := Lib.hid hend
  have HLEN := Lib.hid hlen
  have HTB := Lib.hid ht
  have HTN := Lib.hid hT
  have ht2 := ht.since HW2.out
  have hatr : InR (at' : Int) := ⟨by omega, by omega⟩
  have X1 := Lib.hid (itoa_txt hatr)
  have C1 := Lib.hid (says_digits (W := W2) hatr ht2.pow)
  obtain ⟨t1, h1⟩ : ∃ t, t = mkB (Lib.itoa (at' : Int)) := ⟨_, rfl⟩
  rw [← h1] at X1 C1
  have z1 := X1.out.size
  have X2 := Lib.hid (listT_txt type_len (by rw [hplen]; exact hpn) hpr)
  have C2 := Lib.hid (Says.since (says_types (c := pc) hpat hpn hpr ht.pow hT) HW2.out)
  obtain ⟨t2, h2⟩ : ∃ t, t = mk (listT typeText y.params) := ⟨_, rfl⟩
  rw [← h2] at X2 C2
  have z2 := X2.out.size
  clear hov holen hops hplen hend hlen ht hT ht2 hb1 hb2 hbx hpat hpr h1 h2 hatr
  have HKS : RowKit.Hid (∀ u, Below (X + 1) W2 u → (fun u => u.cell? ⟨X, 0, none⟩ = some (.slice pa pn pc)) u) := Lib.hid fun u hb => (HBX.out u hb).2 0
  have hk0 : Below W2.heap.size W2 W2.drew := (Below.refl _ _).drew
  have HXZ : RowKit.Hid (X + 1 ≤ W2.heap.size) := Lib.hid (by have := HZ2.out; omega)
  go_enter Tryd.func21, Tryd.ntmps21
  go_upto_region 2 with fail
  rw [← hX, ← hW1]
  try rw [hz1]
  rw [← hW2]
  clear hW2 hW1 hX hz1
  refine wp_region_held_drew (S := (fun u => u.cell? ⟨X, 0, none⟩ = some (.slice pa pn pc))) (by kernel_rfl) (HKS.out _ (hk0.mono HXZ.out)) (fun hHeld => ?_)
  refine wpAnyH_take (i := 0) (oi := ⟨some 11, _, _, _, _, _⟩) (v := ?_) rfl (by kernel_rfl) (by kernel_rfl) (by kernel_rfl) (fun _ _ _ h => h) (Or.inl ⟨by rfl, ?_⟩) (by assumption) ?_
  rotate_left
  · ((intro w hSw; (try dsimp only at hSw); go_simp); try with_reducible rfl)
  (try simp only [Act.put, List.setIfInBounds_toArray, List.set_cons_zero, List.set_cons_succ])
  refine wpAnyH_take (i := 2) (oi := ⟨some 13, _, _, _, _, _⟩) (v := ?_) rfl (by kernel_rfl) (by kernel_rfl) (by kernel_rfl) (fun _ _ _ h => h) (Or.inl ⟨by rfl, ?_⟩) (by assumption) ?_
  rotate_left
  · ((intro w hSw; (try dsimp only at hSw); go_simp); try with_reducible rfl)
  (try simp only [Act.put, List.setIfInBounds_toArray, List.set_cons_zero, List.set_cons_succ])
  refine wpAnyH_take (i := 3) (oi := ⟨some 14, _, _, _, _, _⟩) (v := ?_) rfl (by kernel_rfl) (by kernel_rfl) (by kernel_rfl) (fun _ _ _ h => h) (Or.inl ⟨by rfl, ?_⟩) (by assumption) ?_
  rotate_left
  · ((intro w hSw; (try dsimp only at hSw); go_simp); try with_reducible rfl)
  (try simp only [Act.put, List.setIfInBounds_toArray, List.set_cons_zero, List.set_cons_succ])
  refine wpAnyH_ready (rs := [1]) (by kernel_rfl) (by simp) (AllReadyH.cons rfl (fun K hK => ?_) AllReadyH.nil)
  rw [if_pos (by rfl)]
  go_simp
  go_at_call 37
  (with_reducible refine (C1.out.go hk0).mono ?_)
  rintro e w1 ⟨rfl, hb1⟩
  have hk1 := keepS hk0 hb1
  clear hb1
  refine hK.out _ _ (HKS.out _ (hk1.mono HXZ.out)) (fun hHeld => ?_)
  clear hK K
  (try simp only [Act.put, List.setIfInBounds_toArray, List.set_cons_zero, List.set_cons_succ])
  refine wpAnyH_ready (rs := [4]) (by kernel_rfl) (by simp) (AllReadyH.cons rfl (fun K hK => ?_) AllReadyH.nil)
  rw [if_pos (by rfl)]
  go_simp
  go_at_call 34
  (with_reducible refine (C2.out.go hk1).mono ?_)
  rintro e w2 ⟨rfl, hb2⟩
  have hk2 := keepS hk1 hb2
  clear hb2
  refine hK.out _ _ (HKS.out _ (hk2.mono HXZ.out)) (fun hHeld => ?_)
  clear hK K
  (try simp only [Act.put, List.setIfInBounds_toArray, List.set_cons_zero, List.set_cons_succ])
  refine wpAnyH_take (i := 5) (oi := ⟨some 16, _, _, _, _, _⟩) (v := ?_) rfl (by kernel_rfl) (by kernel_rfl) (by kernel_rfl) (fun _ _ _ h => h) (Or.inl ⟨by rfl, ?_⟩) (by assumption) ?_
  rotate_left
  · ((intro w hSw; (try dsimp only at hSw); go_simp; rw [if_neg (by omega)]); try with_reducible rfl)
  (try simp only [Act.put, List.setIfInBounds_toArray, List.set_cons_zero, List.set_cons_succ])
  refine wpAnyH_take (i := 6) (oi := ⟨some 17, _, _, _, _, _⟩) (v := ?_) rfl (by kernel_rfl) (by kernel_rfl) (by kernel_rfl) (fun _ _ _ h => h) (Or.inl ⟨by rfl, ?_⟩) (by assumption) ?_
  rotate_left
  · ((intro w hSw; (try dsimp only at hSw); go_simp; rw [if_neg (by omega)]); try with_reducible rfl)
  (try simp only [Act.put, List.setIfInBounds_toArray, List.set_cons_zero, List.set_cons_succ])
  refine wpAnyH_ready (rs := [7]) (by kernel_rfl) (by simp) (AllReadyH.cons rfl (fun K hK => ?_) AllReadyH.nil)
  rw [if_pos (by rfl)]
  go_simp
  go_at_call 14
  refine (write_text (X + 1) (X + 1) _ (t1 ++ t2 ++ mkB [10]) w2 (builder_news HB2.out hk2) (by rw [Lib.byteCells_length, ((X1.out.app X2.out).app (Txt.lit [10])).is, mkB_size]; have h1 := X1.out.len; have h2 := X2.out.len; simp only [List.length_append, List.length_cons, List.length_nil]; omega) (Nat.le_trans HXZ.out hk2.size)).mono ?_
  rintro e w3 ⟨rfl, h3, hb3, _⟩
  have HC3 : RowKit.Hid (Below (X + 1) W2 w3) := Lib.hid ((hk2.mono HXZ.out).trans hb3)
  have HB3 := Lib.hid (builder_text (l := []) ((X1.out.app X2.out).app (Txt.lit [10])).is h3)
  clear h3 hb3
  refine hK.out _ _ (HKS.out _ HC3.out) (fun hHeld => ?_)
  clear hK K
  (try simp only [Act.put, List.setIfInBounds_toArray, List.set_cons_zero, List.set_cons_succ])
  refine wpAnyH_done (by kernel_rfl) ?_ _
  clear hk0 hk1 hk2 z1 z2 C1 C2
  have hx := (HBX.out w3 HC3.out).2
  have x0 := hx 0
  have x1 := hx 1
  clear hx
  have HST : RowKit.Hid (Lib.IsBuilderF 55 5 (X + 1) (X + 1) (Lib.byteCells (headText at' y ++ stepsText (first + pn) (y.ops.take 0))) w3 ∧ Below (X + 1) W2 w3) := Lib.hid ⟨by simpa [headText, stepsText] using HB3.out, HC3.out⟩
  clear HB3 HC3
  go_wp2_with fail
  clear x0 x1
  go_loopw [8, 27] (fun nv iv wr => ∃ k : Nat, k ≤ on ∧ iv = .int .i64 (k : Int) ∧ nv = .int .i64 ((first + pn + k : Nat) : Int) ∧ RowKit.Hid (Lib.IsBuilderF 55 5 (X + 1) (X + 1) (Lib.byteCells (headText at' y ++ stepsText (first + pn) (y.ops.take k))) wr ∧ Below (X + 1) W2 wr)) (fun _ iv _ => on - (intOf iv).toNat)
  case atStart => exact ⟨0, Nat.zero_le _, rfl, by go_num, HST⟩
  case round =>
    obtain ⟨k, hk, rfl, rfl, HI⟩ := hrel
    have HPRE : RowKit.Hid (∀ q, (headText at' y ++ stepsText (first + pn) (y.ops.take q)).length ≤ 1000000000000) := Lib.hid fun q => by
      have h1 := HLEN.out
      have h2 := stepsText_take (first + pn) y.ops q
      unfold blockText at h1
      rw [HPL.out] at h1
      simp only [List.length_append] at h1 ⊢
      omega
    by_cases hlt : k < on
    · have HLT := Lib.hid hlt
      have HKL : RowKit.Hid (k < y.ops.length) := Lib.hid (by rw [HOL.out]; exact hlt)
      obtain ⟨h, oo, rfl, hh, hcs⟩ := rowV_at_ HO.out (by omega)
      obtain ⟨cs, hc8, hcell, hq⟩ := hcs k HKL.out
      obtain ⟨t, hte⟩ : ∃ t, t = y.ops[k]'HKL.out := ⟨_, rfl⟩
      rw [← hte] at hq
      have HTE : RowKit.Hid (y.ops[k]'HKL.out = t) := Lib.hid hte.symm
      obtain ⟨ea, en, ec, rfl⟩ := opQ_form hq
      have hbw := (HBX.out wr HI.out.2).1
      have HSO := Lib.hid (says_op (OpQ.lasts _ _ _ _ hbw hq) (by rw [hte]; exact HFIT.out _ (List.getElem_mem HKL.out)) (HTB.out.since hbw))
      have d0 := (hbw.cell (p := ⟨h, oo + k * 8 + 0, none⟩) hh).trans (hcell 0 (by simp))
      have d1 := (hbw.cell (p := ⟨h, oo + k * 8 + 1, none⟩) hh).trans (hcell 1 (by simp))
      have d2 := (hbw.cell (p := ⟨h, oo + k * 8 + 2, none⟩) hh).trans (hcell 2 (by simp))
      have d3 := (hbw.cell (p := ⟨h, oo + k * 8 + 3, none⟩) hh).trans (hcell 3 (by simp))
      have d4 := (hbw.cell (p := ⟨h, oo + k * 8 + 4, none⟩) hh).trans (hcell 4 (by simp))
      have d5 := (hbw.cell (p := ⟨h, oo + k * 8 + 5, none⟩) hh).trans (hcell 5 (by simp))
      have d6 := (hbw.cell (p := ⟨h, oo + k * 8 + 6, none⟩) hh).trans (hcell 6 (by simp))
      have d7 := (hbw.cell (p := ⟨h, oo + k * 8 + 7, none⟩) hh).trans (hcell 7 (by simp))
      simp only [Nat.add_zero, List.getElem_cons_zero, List.getElem_cons_succ] at d0 d1 d2 d3 d4 d5 d6 d7
      obtain ⟨Z, hZ⟩ : ∃ Z, Z = wr.heap.size := ⟨_, rfl⟩
      have HZB : RowKit.Hid ((wr.alloc (.cells #[.int .i64 t.K, .int .i64 t.A, .int .i64 t.B, .int .i64 t.C, .int .i64 t.N, .string t.S, .slice ea en ec, .bool t.T] 50)).heap[Z]? = some (.cells #[.int .i64 t.K, .int .i64 t.A, .int .i64 t.B, .int .i64 t.C, .int .i64 t.N, .string t.S, .slice ea en ec, .bool t.T] 50 (0, 0))) := Lib.hid (by rw [hZ]; exact heap_alloc_new wr _)
      have HBW : RowKit.Hid (Below wr.heap.size wr (wr.alloc (.cells #[.int .i64 t.K, .int .i64 t.A, .int .i64 t.B, .int .i64 t.C, .int .i64 t.N, .string t.S, .slice ea en ec, .bool t.T] 50))) := Lib.hid ((Below.refl _ _).alloc (Nat.le_refl _) _)
      have HZE := Lib.hid hZ
      have hnr : InR ((first + pn + k : Nat) : Int) := ⟨by omega, by omega⟩
      have HCV := Lib.hid (says_value (W := wr) hnr (HTB.out.since hbw).pow)
      have XV := Lib.hid (value_txt hnr)
      obtain ⟨s1, hs1⟩ : ∃ s, s = mk (valueText ((first + pn + k : Nat) : Int)) := ⟨_, rfl⟩
      rw [← hs1] at HCV XV
      rw [show ((first + pn + k : Nat) : Int) = (first : Int) + (pn : Int) + (k : Int) by omega] at HCV
      have zv := XV.out.size
      have HLN : RowKit.Hid ((opT t).length ≤ 1000000000000) := Lib.hid (by
        have h1 := HPRE.out (k + 1)
        rw [List.take_succ_eq_append_getElem HKL.out, HTE.out, stepsText_snoc] at h1
        unfold stepLine at h1
        simp only [List.length_append] at h1
        omega)
      have XO : RowKit.Hid (Txt (mk (opT t)) (opT t) 1000000000000) := Lib.hid ⟨rfl, HLN.out⟩
      obtain ⟨s2, hs2⟩ : ∃ s, s = mk (opT t) := ⟨_, rfl⟩
      rw [← hs2] at HSO XO
      have zo := XO.out.size
      have HTK : RowKit.Hid (stepsText (first + pn) (y.ops.take (k + 1)) = stepsText (first + pn) (y.ops.take k) ++ stepLine (first + pn + k) t) := Lib.hid (by rw [List.take_succ_eq_append_getElem HKL.out, HTE.out, stepsText_snoc, List.length_take, Nat.min_eq_left (Nat.le_of_lt HKL.out)])
      clear hcell hcs hte hc8 hq hbw hs1 hs2 hnr
      go_upto_region 7 with fail
      rw [← hZ]
      generalize hW6 : wr.alloc (.cells #[.int .i64 t.K, .int .i64 t.A, .int .i64 t.B, .int .i64 t.C, .int .i64 t.N, .string t.S, .slice ea en ec, .bool t.T] 50) = W6 at HZB HBW ⊢
      clear hW6 hZ d0 d1 d2 d3 d4 d5 d6 d7
      have HKZ : RowKit.Hid (∀ u : World, u.heap[Z]? = some (.cells #[.int .i64 t.K, .int .i64 t.A, .int .i64 t.B, .int .i64 t.C, .int .i64 t.N, .string t.S, .slice ea en ec, .bool t.T] 50 (0, 0)) → (fun u => u.cell? ⟨Z, 0, none⟩ = some (.int .i64 t.K) ∧ u.cell? ⟨Z, 1, none⟩ = some (.int .i64 t.A) ∧ u.cell? ⟨Z, 2, none⟩ = some (.int .i64 t.B) ∧ u.cell? ⟨Z, 3, none⟩ = some (.int .i64 t.C) ∧ u.cell? ⟨Z, 4, none⟩ = some (.int .i64 t.N) ∧ u.cell? ⟨Z, 5, none⟩ = some (.string t.S) ∧ u.cell? ⟨Z, 6, none⟩ = some (.slice ea en ec) ∧ u.cell? ⟨Z, 7, none⟩ = some (.bool t.T)) u) := Lib.hid fun u hb => ⟨by simp [World.cell?, hb], by simp [World.cell?, hb], by simp [World.cell?, hb], by simp [World.cell?, hb], by simp [World.cell?, hb], by simp [World.cell?, hb], by simp [World.cell?, hb], by simp [World.cell?, hb]⟩
      have HZL : RowKit.Hid (Z < W6.heap.size) := Lib.hid (Array.getElem?_eq_some_iff.1 HZB.out).1
      have hk0 : Below W6.heap.size W6 W6.drew := (Below.refl _ _).drew
      have hj0 := keepS HBW.out hk0
      refine wp_region_held_drew (S := (fun u => u.cell? ⟨Z, 0, none⟩ = some (.int .i64 t.K) ∧ u.cell? ⟨Z, 1, none⟩ = some (.int .i64 t.A) ∧ u.cell? ⟨Z, 2, none⟩ = some (.int .i64 t.B) ∧ u.cell? ⟨Z, 3, none⟩ = some (.int .i64 t.C) ∧ u.cell? ⟨Z, 4, none⟩ = some (.int .i64 t.N) ∧ u.cell? ⟨Z, 5, none⟩ = some (.string t.S) ∧ u.cell? ⟨Z, 6, none⟩ = some (.slice ea en ec) ∧ u.cell? ⟨Z, 7, none⟩ = some (.bool t.T))) (by kernel_rfl) (HKZ.out _ HZB.out) (fun hHeld => ?_)
      refine wpAnyH_take (i := 0) (oi := ⟨some 31, _, _, _, _, _⟩) (v := ?_) rfl (by kernel_rfl) (by kernel_rfl) (by kernel_rfl) (fun _ _ _ h => h) (Or.inl ⟨by rfl, ?_⟩) (by assumption) ?_
      rotate_left
      · ((intro w hSw; (try dsimp only at hSw); go_simp); try with_reducible rfl)
      (try simp only [Act.put, List.setIfInBounds_toArray, List.set_cons_zero, List.set_cons_succ])
      refine wpAnyH_take (i := 4) (oi := ⟨some 35, _, _, _, _, _⟩) (v := ?_) rfl (by kernel_rfl) (by kernel_rfl) (by kernel_rfl) (fun _ _ _ h => h) (Or.inl ⟨by rfl, ?_⟩) (by assumption) ?_
      rotate_left
      · ((intro w hSw; (try dsimp only at hSw); go_simp); try with_reducible rfl)
      (try simp only [Act.put, List.setIfInBounds_toArray, List.set_cons_zero, List.set_cons_succ])
      refine wpAnyH_ready (rs := [1]) (by kernel_rfl) (by simp) (AllReadyH.cons rfl (fun K hK => ?_) AllReadyH.nil)
      rw [if_pos (by rfl)]
      go_simp
      go_at_call 39
      (with_reducible refine (HCV.out.go hj0).mono ?_)
      rintro e w7 ⟨rfl, hb7⟩
      have hk7 := keepS hk0 hb7
      have hj7 := keepS hj0 hb7
      clear hb7
      refine hK.out _ _ (HKZ.out _ ((hk7.block Z HZL.out).trans HZB.out)) (fun hHeld => ?_)
      clear hK K
      (try simp only [Act.put, List.setIfInBounds_toArray, List.set_cons_zero, List.set_cons_succ])
      refine wpAnyH_take (i := 2) (oi := ⟨some 33, _, _, _, _, _⟩) (v := ?_) rfl (by kernel_rfl) (by kernel_rfl) (by kernel_rfl) (fun _ _ _ h => h) (Or.inl ⟨by rfl, ?_⟩) (by assumption) ?_
      rotate_left
      · ((intro w hSw; (try dsimp only at hSw); go_simp; rw [if_neg (by omega)]); try with_reducible rfl)
      (try simp only [Act.put, List.setIfInBounds_toArray, List.set_cons_zero, List.set_cons_succ])
      refine wpAnyH_take (i := 3) (oi := ⟨some 34, _, _, _, _, _⟩) (v := ?_) rfl (by kernel_rfl) (by kernel_rfl) (by kernel_rfl) (fun _ _ _ h => h) (Or.inl ⟨by rfl, ?_⟩) (by assumption) ?_
      rotate_left
      · ((intro w hSw; (try dsimp only at hSw); go_simp; rw [if_neg (by omega)]); try with_reducible rfl)
      (try simp only [Act.put, List.setIfInBounds_toArray, List.set_cons_zero, List.set_cons_succ])
      refine wpAnyH_ready (rs := [5]) (by kernel_rfl) (by simp) (AllReadyH.cons rfl (fun K hK => ?_) AllReadyH.nil)
      rw [if_pos (by rfl)]
      go_simp
      go_at_call 13
      (with_reducible refine (HSO.out.go hj7).mono ?_)
      rintro e w8 ⟨rfl, hb8⟩
      have hk8 := keepS hk7 hb8
      have hj8 := keepS hj7 hb8
      clear hb8
      refine hK.out _ _ (HKZ.out _ ((hk8.block Z HZL.out).trans HZB.out)) (fun hHeld => ?_)
      clear hK K
      (try simp only [Act.put, List.setIfInBounds_toArray, List.set_cons_zero, List.set_cons_succ])
      refine wpAnyH_take (i := 6) (oi := ⟨some 37, _, _, _, _, _⟩) (v := ?_) rfl (by kernel_rfl) (by kernel_rfl) (by kernel_rfl) (fun _ _ _ h => h) (Or.inl ⟨by rfl, ?_⟩) (by assumption) ?_
      rotate_left
      · ((intro w hSw; (try dsimp only at hSw); go_simp; rw [if_neg (by omega)]); try with_reducible rfl)
      (try simp only [Act.put, List.setIfInBounds_toArray, List.set_cons_zero, List.set_cons_succ])
      refine wpAnyH_take (i := 7) (oi := ⟨some 38, _, _, _, _, _⟩) (v := ?_) rfl (by kernel_rfl) (by kernel_rfl) (by kernel_rfl) (fun _ _ _ h => h) (Or.inl ⟨by rfl, ?_⟩) (by assumption) ?_
      rotate_left
      · ((intro w hSw; (try dsimp only at hSw); go_simp; rw [if_neg (by omega)]); try with_reducible rfl)
      (try simp only [Act.put, List.setIfInBounds_toArray, List.set_cons_zero, List.set_cons_succ])
      refine wpAnyH_ready (rs := [8]) (by kernel_rfl) (by simp) (AllReadyH.cons rfl (fun K hK => ?_) AllReadyH.nil)
      rw [if_pos (by rfl)]
      go_simp
      go_at_call 14
      refine (write_text (X + 1) (X + 1) _ (mkB [32, 32] ++ s1 ++ mkB [32, 61, 32] ++ s2 ++ mkB [10]) w8 (builder_news HI.out.1 hj8) (by rw [Lib.byteCells_length, (((((Txt.lit [32, 32]).app XV.out).app (Txt.lit [32, 61, 32])).app XO.out).app (Txt.lit [10])).is, mkB_size]; have h1 := HPRE.out k; have h2 := XV.out.len; have h3 := XO.out.len; simp only [List.length_append, List.length_cons, List.length_nil] at h1 ⊢; omega) (Nat.le_trans HXZ.out (Nat.le_trans HI.out.2.size hj8.size))).mono ?_
      rintro e w9 ⟨rfl, h9, hb9, ho9⟩
      have HC9 : RowKit.Hid (Below (X + 1) W2 w9) := Lib.hid ((HI.out.2.trans (hj8.mono (Nat.le_trans HXZ.out HI.out.2.size))).trans hb9)
      have HB9 := Lib.hid (builder_text (((((Txt.lit [32, 32]).app XV.out).app (Txt.lit [32, 61, 32])).app XO.out).app (Txt.lit [10])).is h9)
      have HZ9 := Lib.hid (kept_block ho9 ((hk8.block Z HZL.out).trans HZB.out) (by have h1 := HZE.out; have h2 := HI.out.2.size; have h3 := HZ2.out; omega) (by decide))
      clear h9 hb9 ho9
      refine hK.out _ _ (HKZ.out _ HZ9.out) (fun hHeld => ?_)
      clear hK K
      (try simp only [Act.put, List.setIfInBounds_toArray, List.set_cons_zero, List.set_cons_succ])
      refine wpAnyH_done (by kernel_rfl) ?_ _
      clear hk0 hk7 hk8 hj0 hj7 hj8 zv zo
      go_wp2_with fail
      go_roundw
      case rel => exact ⟨k + 1, by have := HLT.out; omega, by go_num, by go_num, Lib.hid ⟨by rw [HTK.out, ← List.append_assoc]; exact HB9.out, HC9.out⟩⟩
      case measure => simp [intOf]; omega
    · have HFULL : RowKit.Hid (stepsText (first + pn) (y.ops.take k) = stepsText (first + pn) y.ops) := Lib.hid (by rw [List.take_of_length_le (by rw [HOL.out]; omega)])
      have hbw := (HBX.out wr HI.out.2).1
      have hx := (HBX.out wr HI.out.2).2
      have x2 := hx 2
      have x3 := hx 3
      have x4 := hx 4
      have x5 := hx 5
      have x6 := hx 6
      have x7 := hx 7
      clear hx
      have HCE := Lib.hid (end_any la ma ln lc mn mc y.fin wr (EndQ.lasts _ _ _ _ hbw HEND.out) hln hmn (HTB.out.since hbw).pow)
      have HLE : RowKit.Hid ((endText y.fin).length ≤ 1000000000000) := Lib.hid (by have h1 := HLEN.out; unfold blockText at h1; simp only [List.length_append] at h1; omega)
      have XE : RowKit.Hid (Txt (mk (endText y.fin)) (endText y.fin) 1000000000000) := Lib.hid ⟨rfl, HLE.out⟩
      obtain ⟨s3, hs3⟩ : ∃ s, s = mk (endText y.fin) := ⟨_, rfl⟩
      rw [← hs3] at HCE XE
      have ze := XE.out.size
      clear hs3 hbw
      go_wp2_with fail
      refine HCE.out.mono ?_
      rintro e w5 ⟨rfl, hb5⟩
      have HB5 := Lib.hid (builder_news HI.out.1 hb5)
      have HC5 : RowKit.Hid (Below (X + 1) W2 w5) := Lib.hid (HI.out.2.trans (hb5.mono (Nat.le_trans HXZ.out HI.out.2.size)))
      clear hb5 x2 x3 x4 x5 x6 x7
      go_wp2_with fail
      refine (write_text (X + 1) (X + 1) _ (mkB [32, 32] ++ s3 ++ mkB [10]) w5 HB5.out (by rw [Lib.byteCells_length, (((Txt.lit [32, 32]).app XE.out).app (Txt.lit [10])).is, mkB_size]; have h1 := HPRE.out k; have h2 := XE.out.len; simp only [List.length_append, List.length_cons, List.length_nil] at h1 ⊢; omega) (Nat.le_trans HXZ.out HC5.out.size)).mono ?_
      rintro e w6 ⟨rfl, h6, hb6, _⟩
      have HB6 := Lib.hid (builder_text (((Txt.lit [32, 32]).app XE.out).app (Txt.lit [10])).is h6)
      have HC6 : RowKit.Hid (Below (X + 1) W2 w6) := Lib.hid (HC5.out.trans hb6)
      clear h6 hb6
      go_wp2_with fail
      refine (Tryd.Builder_String_any_k (X + 1) (X + 1) _ w6 HB6.out (Nat.le_trans HXZ.out HC6.out.size)).mono ?_
      rintro e w7 ⟨rfl, _, hb7, _⟩
      have HD : RowKit.Hid (Below w.heap.size w w7) := Lib.hid ((HBX.out w6 HC6.out).1.trans (hb7.mono (by have := HX.out; omega)))
      clear hb7
      go_wp2_with fail
      go_ret
      refine ⟨?_, HD.out⟩
      rw [HFULL.out]
      unfold blockText
      rw [HPL.out]
      simp [mk]
end Go.Proofs.YtccajbgdlicbnaaDoor
