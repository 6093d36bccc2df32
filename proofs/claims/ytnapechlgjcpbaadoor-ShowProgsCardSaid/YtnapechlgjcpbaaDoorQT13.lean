/- Layer 6: a program of not more than 1500 parts has a text of not more than so many bytes: it fits. -/
import Derived.Test.YtnapechlgjcpbaaDoorQShowRp
import Derived.Test.YtnapechlgjcpbaaDoorQShowSm
import Derived.Deep.RegionHeld3
namespace Go.Proofs.YtnapechlgjcpbaaDoor
open Go.RowKit (wrap64 intOf Below)
set_option linter.unusedVariables false
set_option linter.unusedSimpArgs false

theorem sumN_mem {α : Type} (f : α → Nat) : ∀ {xs : List α} {x : α}, x ∈ xs → f x ≤ sumN f xs
  | y :: xs, x, h => by
    simp only [sumN]
    rcases List.mem_cons.1 h with rfl | h'
    · omega
    · have := sumN_mem f h'; omega
def InAll (L : List Int) : Prop := ∀ z ∈ L, InR z
structure InOp (o : OpD) : Prop where
  A : InR o.A
  B : InR o.B
  C : InR o.C
  N : InR o.N
  L : InAll o.L
structure InEnd (e : EndD) : Prop where
  A : InR e.A
  To : InR e.To
  Else : InR e.Else
  L : InAll e.L
  M : InAll e.M
structure InBlock (b : BlockD) : Prop where
  ps : InAll b.params
  ops : ∀ o ∈ b.ops, InOp o
  fin : InEnd b.fin
structure InFunc (x : FuncD) : Prop where
  ret : InR x.ret
  blocks : ∀ b ∈ x.blocks, InBlock b
structure InSig (y : SigD) : Prop where
  ret : InR y.ret
  ps : InAll y.params
structure InCls (y : ClassD) : Prop where
  fs : InAll y.fields
  ms : InAll y.methods
structure InProg (P : ProgD) : Prop where
  sigs : ∀ y ∈ P.sigs, InSig y
  classes : ∀ y ∈ P.classes, InCls y
  funcs : ∀ y ∈ P.funcs, InFunc y
theorem rowV_all {α : Type} {Q : World → List Value → α → Prop} {R : α → Prop} (hR : ∀ W cs x, Q W cs x → R x) {k : Nat} {W : World} {v : Value} {xs : List α} (h : RowV Q k W v xs) : ∀ x ∈ xs, R x := by
  intro x hx
  obtain ⟨a, n, c, rfl, hl, _, _, hr⟩ := h
  obtain ⟨i, hi, rfl⟩ := List.getElem_of_mem hx
  obtain ⟨g, off, _, _, hcs⟩ := hr (by omega)
  obtain ⟨cs, _, _, hq⟩ := hcs i hi
  exact hR _ _ _ hq
theorem numsV_all {W : World} {v : Value} {Z : List Int} (h : NumsV W v Z) : InAll Z := by
  obtain ⟨_, _, _, _, _, _, _, hr⟩ := h
  exact hr
theorem in_op (W : World) (cs : List Value) (x : OpD) (h : OpQ W cs x) : InOp x := by
  obtain ⟨_, _, _, hA, hB, hC, hN, _, hl⟩ := h
  exact ⟨hA, hB, hC, hN, numsV_all hl⟩
theorem in_end (W : World) (cs : List Value) (x : EndD) (h : EndQ W cs x) : InEnd x := by
  obtain ⟨_, _, _, _, hA, hT, hE, hl, hm⟩ := h
  exact ⟨hA, hT, hE, numsV_all hl, numsV_all hm⟩
theorem in_block (W : World) (cs : List Value) (x : BlockD) (h : BlockQ W cs x) : InBlock x := by
  obtain ⟨_, _, _, _, hp, ho, he⟩ := h
  exact ⟨numsV_all hp, rowV_all in_op ho, in_end _ _ _ he⟩
theorem in_func (W : World) (cs : List Value) (x : FuncD) (h : FuncQ W cs x) : InFunc x := by
  obtain ⟨_, _, hr, hb⟩ := h
  exact ⟨hr, rowV_all in_block hb⟩
theorem in_sig (W : World) (cs : List Value) (x : SigD) (h : SigQ W cs x) : InSig x := by
  obtain ⟨_, _, hp, hr⟩ := h
  exact ⟨hr, numsV_all hp⟩
theorem in_cls (W : World) (cs : List Value) (x : ClassD) (h : ClassQ W cs x) : InCls x := by
  obtain ⟨_, _, _, hf, hm⟩ := h
  exact ⟨numsV_all hf, numsV_all hm⟩
theorem in_prog {W : World} {cs : List Value} {P : ProgD} (h : ProgQ W cs P) : InProg P := by
  obtain ⟨_, _, _, _, hs, hc, hf⟩ := h
  exact ⟨rowV_all in_sig hs, rowV_all in_cls hc, rowV_all in_func hf⟩

theorem list_len23 {T : Int → List UInt8} (hT : ∀ z, InR z → (T z).length ≤ 22) {L : List Int} (hr : InAll L) : (listText T L).length ≤ 23 * L.length := by
  have h1 := listText_len (M := 22) L (fun x hx => hT x (hr x hx))
  omega
theorem fields_three (K : Int) : (fieldsL K).length ≤ 3 := by
  rcases kinds K with h | h
  · rcases h with rfl | rfl | rfl | rfl | rfl | rfl | rfl | rfl | rfl | rfl | rfl | rfl | rfl | rfl | rfl | rfl | rfl | rfl | rfl | rfl | rfl | rfl | rfl | rfl | rfl | rfl
    all_goals decide
  · rw [fields_none h]; decide
theorem opT_len {o : OpD} (h : InOp o) : (opT o).length ≤ 400 + 400 * pOp o := by
  have h1 := names_len o.K
  have h2 : ∀ c, (fieldF o.K o.A o.B o.C o.N o.S o.L o.T c).length ≤ 50 + 24 * pOp o := by
    intro c
    have hv := value_len
    have hl := list_len23 value_len h.L
    have hS := list_len o.S
    have he := (encs_len o.S.data.toList).2
    have hs := sign_len o.N
    have hn := itoa_len o.N h.N
    have hA := value_len o.A h.A
    have hB := value_len o.B h.B
    have hC := value_len o.C h.C
    have hsz : 3 * o.S.size ≤ 24 * (o.S.size / 8) + 24 := by omega
    unfold fieldF pOp
    split
    · rw [quoteL_len]; omega
    · split
      · unfold listV; simp only [List.length_cons, List.length_append, List.length_nil]; omega
      · unfold plainField numberText stackText
        repeat' split
        all_goals (first | omega | (simp only [List.length_cons, List.length_nil]; omega))
  have h3 := fieldsText_len (M := 50 + 24 * pOp o) (fieldsL o.K) (fun c _ => h2 c)
  have h4 := fields_three o.K
  have h5 : (fieldsL o.K).length * (50 + 24 * pOp o + 1) ≤ 3 * (50 + 24 * pOp o + 1) := Nat.mul_le_mul_right _ h4
  unfold opT opText
  simp only [List.length_append]
  omega
theorem steps_len : ∀ (n : Nat) (xs : List OpD), n + xs.length ≤ 1000000000 → (∀ o ∈ xs, InOp o) → (stepsText n xs).length ≤ 500 * (xs.length + sumN pOp xs)
  | n, [], _, _ => by simp [stepsText]
  | n, o :: xs, hn, h => by
    simp only [List.length_cons] at hn
    have h1 := steps_len (n + 1) xs (by omega) (fun x hx => h x (List.mem_cons_of_mem _ hx))
    have h2 := opT_len (h o (List.mem_cons_self ..))
    have h3 := value_len (n : Int) ⟨by omega, by omega⟩
    simp only [stepsText, List.length_append, List.length_cons, sumN, stepLine, List.length_nil]
    omega
theorem end_len {e : EndD} (h : InEnd e) : (endText e).length ≤ 100 + 23 * (e.L.length + e.M.length) := by
  have h1 := itoa_len e.To h.To
  have h2 := itoa_len e.Else h.Else
  have h3 := value_len e.A h.A
  have h4 := list_len23 value_len h.L
  have h5 := list_len23 value_len h.M
  unfold endText targetText listV
  repeat' split
  all_goals (simp only [List.length_append, List.length_cons, List.length_nil]; omega)
theorem block_len (n f : Nat) {b : BlockD} (hn : n ≤ 1000000000) (hf : f + b.params.length + b.ops.length ≤ 1000000000) (h : InBlock b) : (blockText n f b).length ≤ 200 + 500 * pBlock b := by
  have h1 := itoa_len (n : Int) ⟨by omega, by omega⟩
  have h2 := list_len23 type_len h.ps
  have h3 := steps_len (f + b.params.length) b.ops (by omega) h.ops
  have h4 := end_len h.fin
  unfold blockText headText pBlock listT
  simp only [List.length_append, List.length_cons, List.length_nil]
  omega
theorem blocks_len : ∀ (n f : Nat) (xs : List BlockD), n + xs.length ≤ 1000000000 → f + valsN xs ≤ 1000000000 → (∀ b ∈ xs, InBlock b) → (blocksText n f xs).length ≤ 500 * (xs.length + sumN pBlock xs)
  | n, f, [], _, _, _ => by simp [blocksText]
  | n, f, b :: xs, hn, hf, h => by
    simp only [List.length_cons, valsN] at hn hf
    have h1 := blocks_len (n + 1) (f + (b.params.length + b.ops.length)) xs (by omega) (by omega) (fun x hx => h x (List.mem_cons_of_mem _ hx))
    have h2 := block_len n f (by omega) (by omega) (h b (List.mem_cons_self ..))
    simp only [blocksText, List.length_append, List.length_cons, sumN]
    omega
theorem vals_parts : ∀ xs : List BlockD, valsN xs ≤ sumN pBlock xs
  | [] => Nat.le_refl _
  | b :: xs => by have := vals_parts xs; simp only [valsN, sumN, pBlock]; omega
theorem func_len {x : FuncD} (h : InFunc x) (hp : pFunc x ≤ 1500) : (funcText x).length ≤ 100 + 500 * pFunc x := by
  unfold pFunc at hp
  have hv := vals_parts x.blocks
  have h1 := blocks_len 0 0 x.blocks (by omega) (by omega) h.blocks
  have h2 := type_len x.ret h.ret
  unfold funcText funcHead pFunc
  simp only [List.length_append, List.length_cons, List.length_nil]
  omega
theorem fit_func {x : FuncD} (h : InFunc x) (hp : pFunc x ≤ 1500) : FitFunc x := by
  have hl := func_len h hp
  unfold pFunc at hp
  have hv := vals_parts x.blocks
  refine ⟨fun b hb => ?_, by omega, by omega, by unfold pFunc at hl; omega⟩
  have h1 := sumN_mem pBlock hb
  have h2 : pBlock b ≤ 1500 := by omega
  unfold pBlock at h2
  refine ⟨by omega, by omega, by omega, fun o ho => ?_⟩
  have h3 := sumN_mem pOp ho
  have h4 : pOp o = o.L.length + o.S.size / 8 := rfl
  exact ⟨by omega, by omega⟩
theorem rows_len {α : Type} (T : α → List UInt8) (p : α → Nat) (R : α → Prop) (hT : ∀ x, R x → (T x).length ≤ 100 + 500 * p x) : ∀ xs : List α, (∀ x ∈ xs, R x) → (rowsText T xs).length ≤ 500 * (xs.length + sumN p xs)
  | [], _ => by simp [rowsText]
  | x :: xs, h => by
    have h1 := rows_len T p R hT xs (fun y hy => h y (List.mem_cons_of_mem _ hy))
    have h2 := hT x (h x (List.mem_cons_self ..))
    simp only [rowsText, List.length_append, List.length_cons, sumN]
    omega
theorem sig_len (y : SigD) (h : InSig y) : (sigText y).length ≤ 100 + 500 * pSig y := by
  have h1 := type_len y.ret h.ret
  have h2 := list_len23 type_len h.ps
  unfold sigText listT pSig
  simp only [List.length_append, List.length_cons, List.length_nil]
  omega
theorem class_len (y : ClassD) (h : InCls y) : (classText y).length ≤ 100 + 500 * pCls y := by
  have h1 := list_len23 type_len h.fs
  have h2 := list_len23 itoa_len h.ms
  unfold classText listT pCls
  simp only [List.length_append, List.length_cons, List.length_nil]
  omega
theorem fit_prog {P : ProgD} (h : InProg P) (hp : partsP P ≤ 1500) : FitProg P := by
  have hq := hp
  unfold partsP at hp
  have hf : ∀ x ∈ P.funcs, pFunc x ≤ 1500 := fun x hx => by have := sumN_mem pFunc hx; omega
  have l1 := rows_len sigText pSig InSig sig_len P.sigs h.sigs
  have l2 := rows_len classText pCls InCls class_len P.classes h.classes
  have l3 := rows_len funcText pFunc (fun x => InFunc x ∧ pFunc x ≤ 1500) (fun x hx => func_len hx.1 hx.2) P.funcs (fun x hx => ⟨h.funcs x hx, hf x hx⟩)
  refine ⟨fun y hy => ?_, fun y hy => ?_, fun y hy => ?_, fun y hy => fit_func (h.funcs y hy) (hf y hy), ?_⟩
  · have h1 := sumN_mem pSig hy; have h2 : pSig y = y.params.length := rfl; omega
  · have h1 := sumN_mem pCls hy; have h2 : pCls y = y.fields.length + y.methods.length := rfl; omega
  · have h1 := sumN_mem pCls hy; have h2 : pCls y = y.fields.length + y.methods.length := rfl; omega
  · unfold progText
    simp only [List.length_append]
    omega
end Go.Proofs.YtnapechlgjcpbaaDoor

/- Layer 6, P6.3: the statement ShowProgs, walked (mk_prl.py). -/
namespace Go.Proofs.YtnapechlgjcpbaaDoor
open Go.RowKit (wrap64 intOf Below)
set_option linter.unusedVariables false
set_option linter.unusedSimpArgs false
set_option linter.unnecessarySimpa false

theorem CapsF.since {W u : World} {v : Value} {xs : List FuncD} (hr : RowV FuncQ 2 W v xs) (h : CapsF W v) (hb : Below W.heap.size W u) : CapsF u v := by
  intro g oo n c e i hi ba bn bc hcell
  obtain ⟨a, n', c', rfl, hl, _, _, hrow⟩ := hr
  cases e
  obtain ⟨g', off', e', hg, _⟩ := hrow (by omega)
  cases e'
  exact h g oo n c rfl i hi ba bn bc ((hb.cell (p := ⟨g, oo + i * 2 + 1, none⟩) hg).symm.trans hcell)
set_option maxRecDepth 100000 in
set_option maxHeartbeats 8000000 in
theorem showprogs_walk (sa : Option Addr) (sn sc : Nat) (ca : Option Addr) (cn cc : Nat) (fa : Option Addr) (fn fc : Nat) (P : ProgD) (w : World) (hT : Tabs w ∧ TN w)
    (hP : ProgQ w [.slice sa sn sc, .slice ca cn cc, .slice fa fn fc] P) (hcap : CapsF w (.slice fa fn fc)) :
    Calls Tryd.prog 3 #[.agg #[.slice sa sn sc, .slice ca cn cc, .slice fa fn fc]] w fun e w' => e = .returned (.bool true) ∧ Below w.heap.size w w' := by
  obtain ⟨X, hX⟩ : ∃ X, X = w.heap.size := ⟨_, rfl⟩
  obtain ⟨W, hW⟩ : ∃ W, W = w.alloc (.cells #[.slice sa sn sc, .slice ca cn cc, .slice fa fn fc] 26) := ⟨_, rfl⟩
  have hbx : W.heap[X]? = some (.cells #[.slice sa sn sc, .slice ca cn cc, .slice fa fn fc] 26 (0, 0)) := by rw [hW, hX]; exact heap_alloc_new w _
  have HB0 : RowKit.Hid (Below w.heap.size w W) := Lib.hid (by rw [hW]; exact (Below.refl _ _).alloc (Nat.le_refl _) _)
  have hlt0 : X < W.heap.size := (Array.getElem?_eq_some_iff.1 hbx).1
  have HBX : RowKit.Hid (∀ u, Below W.heap.size W u → ∀ j, u.cell? ⟨X, j, none⟩ = (#[.slice sa sn sc, .slice ca cn cc, .slice fa fn fc] : Array Value)[j]?) := Lib.hid fun u hb j => by
    have : u.heap[X]? = _ := (hb.block X hlt0).trans hbx
    simp [World.cell?, this]
  have HLT := Lib.hid hlt0
  have hF : RowV FuncQ 2 w (.slice fa fn fc) P.funcs := by
    obtain ⟨_, _, _, he, _, _, hf⟩ := hP
    simp only [List.cons.injEq, and_true] at he
    obtain ⟨rfl, rfl, rfl⟩ := he
    exact hf
  have hlen := (rowV_len_ hF).1
  have hnm := (rowV_len_ hF).2
  have HP := Lib.hid hP
  have HF := Lib.hid hF
  have HL := Lib.hid hlen
  have HT := Lib.hid hT.1
  have HN := Lib.hid hT.2
  have HCP := Lib.hid hcap
  have CSM := Lib.hid (ref_small15 X 0 sa sn sc ca cn cc fa fn fc P W hlt0 (HBX.out W (Below.refl _ _) 0) (HBX.out W (Below.refl _ _) 1) (HBX.out W (Below.refl _ _) 2) (ProgQ.lasts _ _ _ _ HB0.out hP))
  clear hbx hlt0 hP hF hT hcap hlen
  go_enter Tryd.func3, Tryd.ntmps3
  go_upto_region 2 with fail
  rw [← hX, ← hW]
  clear hW hX
  go_wp2_with fail
  refine CSM.out.mono ?_
  rintro e w1 ⟨b, rfl, hsm, hb1⟩
  have HB1 := Lib.hid hb1
  clear hb1
  cases b
  · clear hsm
    go_wp2_with fail
    refine (lives6 w1 (HT.out.since (keepS HB0.out HB1.out))).mono ?_
    rintro e w2 ⟨rfl, hb2⟩
    have HB2 := Lib.hid (keepS HB0.out (keepS HB1.out hb2))
    clear hb2
    go_wp2_with fail
    go_ret
    exact ⟨rfl, HB2.out⟩
  · have HFIT := Lib.hid (fit_prog (in_prog HP.out) (hsm rfl))
    clear hsm
    have CA : RowKit.Hid (∀ u, Below W.heap.size W u → Calls Tryd.prog 7 #[.pointer (some ⟨X, 0, none⟩)] u fun e u' => e = .returned (.string (mk (progText P))) ∧ Below u.heap.size u u') := Lib.hid fun u hb => prog_any X 0 _ _ _ P u (Nat.lt_of_lt_of_le HLT.out hb.size) (HBX.out u hb 0) (HBX.out u hb 1) (HBX.out u hb 2) (ProgQ.lasts _ _ _ _ (keepS HB0.out hb) HP.out) (CapsF.since HF.out HCP.out (keepS HB0.out hb)) HFIT.out (HT.out.since (keepS HB0.out hb)) (StrTab.since HN.out (keepS HB0.out hb))
    have CB : RowKit.Hid (∀ u, Below W.heap.size W u → Calls Tryd.prog 8 #[.pointer (some ⟨X, 0, none⟩)] u fun e u' => e = .returned (.string (mk (progText P))) ∧ Below u.heap.size u u') := Lib.hid fun u hb => prog_ref X 0 _ _ _ P u (Nat.lt_of_lt_of_le HLT.out hb.size) (HBX.out u hb 0) (HBX.out u hb 1) (HBX.out u hb 2) (ProgQ.lasts _ _ _ _ (keepS HB0.out hb) HP.out) HFIT.out
    obtain ⟨t0, ht0⟩ : ∃ t, t = mk (progText P) := ⟨_, rfl⟩
    rw [← ht0] at CA CB
    clear ht0
    go_wp2_with fail
    refine (CA.out w1 HB1.out).mono ?_
    rintro e w2 ⟨rfl, hb2⟩
    have HB2 := Lib.hid (keepS HB1.out hb2)
    clear hb2
    go_wp2_with fail
    refine (CB.out w2 HB2.out).mono ?_
    rintro e w3 ⟨rfl, hb3⟩
    have HB3 := Lib.hid (keepS HB2.out hb3)
    clear hb3
    go_wp2_with fail
    go_loopw [4] (fun iv wr => ∃ k : Nat, k ≤ fn ∧ iv = .int .i64 (k : Int) ∧ RowKit.Hid (Below W.heap.size W wr)) (fun iv _ => fn - (intOf iv).toNat)
    case atStart => exact ⟨0, Nat.zero_le _, rfl, HB3⟩
    case round =>
      obtain ⟨k, hk, rfl, HI⟩ := hrel
      obtain ⟨wo, hwo⟩ : ∃ u, u = wr := ⟨_, rfl⟩
      rw [← hwo] at HI ⊢
      clear hwo
      have x2 := HBX.out wo HI.out 2
      by_cases hlt : k < fn
      · have HLK := Lib.hid hlt
        have HKL : RowKit.Hid (k < P.funcs.length) := Lib.hid (by rw [HL.out]; exact hlt)
        obtain ⟨h, oo, rfl, hh, hcs⟩ := rowV_at_ HF.out (by omega)
        obtain ⟨cs, hc8, hcell, hq⟩ := hcs k HKL.out
        obtain ⟨y, hye⟩ : ∃ y, y = P.funcs[k]'HKL.out := ⟨_, rfl⟩
        rw [← hye] at hq
        have hfy := HFIT.out.funcs y (by rw [hye]; exact List.getElem_mem HKL.out)
        have hq0 := hq
        obtain ⟨bv, rfl, _, hbv⟩ := hq0
        obtain ⟨ba, bn, bc, rfl, _⟩ := hbv
        have e0 : w.cell? ⟨h, oo + k * 2, none⟩ = some (.int .i64 y.ret) := by have := hcell 0 (by simp); simpa using this
        have e1 : w.cell? ⟨h, oo + k * 2 + 1, none⟩ = some (.slice ba bn bc) := by have := hcell 1 (by simp); simpa using this
        have hcp := HCP.out h oo fn fc rfl k hlt ba bn bc e1
        have CF : RowKit.Hid (Says w 9 #[.agg #[.int .i64 y.ret, .slice ba bn bc]] (mk (funcText y))) := Lib.hid fun u hb => func_any ba bn bc y u (FuncQ.lasts _ _ _ _ hb hq) hcp hfy (HT.out.since hb) (StrTab.since HN.out hb)
        have CR := Lib.hid (says_rfunc hq hfy)
        obtain ⟨s0, hs0⟩ : ∃ s, s = mk (funcText y) := ⟨_, rfl⟩
        rw [← hs0] at CF CR
        have HKT : RowKit.Hid (∀ u, Below wo.heap.size wo u → (fun u => u.cell? ⟨X, 2, none⟩ = some (.slice (some ⟨h, oo, none⟩) fn fc) ∧ u.cell? ⟨h, oo + k * 2, none⟩ = some (.int .i64 y.ret) ∧ u.cell? ⟨h, oo + k * 2 + 1, none⟩ = some (.slice ba bn bc)) u) := Lib.hid fun u hb => ⟨HBX.out u (keepS HI.out hb) 2, ((keepS (keepS HB0.out HI.out) hb).cell (p := ⟨h, oo + k * 2, none⟩) hh).trans e0, ((keepS (keepS HB0.out HI.out) hb).cell (p := ⟨h, oo + k * 2 + 1, none⟩) hh).trans e1⟩
        have HWI := Lib.hid (keepS HB0.out HI.out)
        clear hcell hcs hye hc8 hq hfy e0 e1 hh hcp hs0
        go_upto_region 9 with fail
        have hk0 : Below wo.heap.size wo wo.drew := (Below.refl _ _).drew
        refine wp_region_held_drew (S := (fun u => u.cell? ⟨X, 2, none⟩ = some (.slice (some ⟨h, oo, none⟩) fn fc) ∧ u.cell? ⟨h, oo + k * 2, none⟩ = some (.int .i64 y.ret) ∧ u.cell? ⟨h, oo + k * 2 + 1, none⟩ = some (.slice ba bn bc))) (by kernel_rfl) (HKT.out _ hk0) (fun hHeld => ?_)
        refine wpAnyH_take (i := 0) (oi := ⟨some 27, _, _, _, _, _⟩) (v := ?_) rfl (by kernel_rfl) (by kernel_rfl) (by kernel_rfl) (fun _ _ _ h => h) (Or.inl ⟨by rfl, ?_⟩) (by assumption) ?_
        rotate_left
        · ((intro w hSw; (try dsimp only at hSw); go_simp); try with_reducible rfl)
        (try simp only [Act.put, List.setIfInBounds_toArray, List.set_cons_zero, List.set_cons_succ])
        refine wpAnyH_take (i := 1) (oi := ⟨some 28, _, _, _, _, _⟩) (v := ?_) rfl (by kernel_rfl) (by kernel_rfl) (by kernel_rfl) (fun _ _ _ h => h) (Or.inl ⟨by rfl, ?_⟩) (by assumption) ?_
        rotate_left
        · ((intro w hSw; (try dsimp only at hSw); go_simp); try with_reducible rfl)
        (try simp only [Act.put, List.setIfInBounds_toArray, List.set_cons_zero, List.set_cons_succ])
        refine wpAnyH_take (i := 2) (oi := ⟨some 29, _, _, _, _, _⟩) (v := ?_) rfl (by kernel_rfl) (by kernel_rfl) (by kernel_rfl) (fun _ _ _ h => h) (Or.inl ⟨by rfl, ?_⟩) (by assumption) ?_
        rotate_left
        · ((intro w hSw; (try dsimp only at hSw); go_simp); try with_reducible rfl)
        (try simp only [Act.put, List.setIfInBounds_toArray, List.set_cons_zero, List.set_cons_succ])
        refine wpAnyH_take (i := 3) (oi := ⟨some 30, _, _, _, _, _⟩) (v := ?_) rfl (by kernel_rfl) (by kernel_rfl) (by kernel_rfl) (fun _ _ _ h => h) (Or.inl ⟨by rfl, ?_⟩) (by assumption) ?_
        rotate_left
        · ((intro w hSw; (try dsimp only at hSw); go_simp); try with_reducible rfl)
        (try simp only [Act.put, List.setIfInBounds_toArray, List.set_cons_zero, List.set_cons_succ])
        refine wpAnyH_take (i := 4) (oi := ⟨some 31, _, _, _, _, _⟩) (v := ?_) rfl (by kernel_rfl) (by kernel_rfl) (by kernel_rfl) (fun _ _ _ h => h) (Or.inl ⟨by rfl, ?_⟩) (by assumption) ?_
        rotate_left
        · ((intro w hSw; (try dsimp only at hSw); go_simp); try with_reducible rfl)
        (try simp only [Act.put, List.setIfInBounds_toArray, List.set_cons_zero, List.set_cons_succ])
        refine wpAnyH_take (i := 5) (oi := ⟨some 32, _, _, _, _, _⟩) (v := ?_) rfl (by kernel_rfl) (by kernel_rfl) (by kernel_rfl) (fun _ _ _ h => h) (Or.inl ⟨by rfl, ?_⟩) (by assumption) ?_
        rotate_left
        · ((intro w hSw; (try dsimp only at hSw); go_simp); try with_reducible rfl)
        (try simp only [Act.put, List.setIfInBounds_toArray, List.set_cons_zero, List.set_cons_succ])
        refine wpAnyH_take (i := 6) (oi := ⟨some 33, _, _, _, _, _⟩) (v := ?_) rfl (by kernel_rfl) (by kernel_rfl) (by kernel_rfl) (fun _ _ _ h => h) (Or.inl ⟨by rfl, ?_⟩) (by assumption) ?_
        rotate_left
        · ((intro w hSw; (try dsimp only at hSw); go_simp); try with_reducible rfl)
        (try simp only [Act.put, List.setIfInBounds_toArray, List.set_cons_zero, List.set_cons_succ])
        refine wpAnyH_take (i := 8) (oi := ⟨some 35, _, _, _, _, _⟩) (v := ?_) rfl (by kernel_rfl) (by kernel_rfl) (by kernel_rfl) (fun _ _ _ h => h) (Or.inl ⟨by rfl, ?_⟩) (by assumption) ?_
        rotate_left
        · ((intro w hSw; (try dsimp only at hSw); go_simp); try with_reducible rfl)
        (try simp only [Act.put, List.setIfInBounds_toArray, List.set_cons_zero, List.set_cons_succ])
        refine wpAnyH_take (i := 9) (oi := ⟨some 36, _, _, _, _, _⟩) (v := ?_) rfl (by kernel_rfl) (by kernel_rfl) (by kernel_rfl) (fun _ _ _ h => h) (Or.inl ⟨by rfl, ?_⟩) (by assumption) ?_
        rotate_left
        · ((intro w hSw; (try dsimp only at hSw); go_simp); try with_reducible rfl)
        (try simp only [Act.put, List.setIfInBounds_toArray, List.set_cons_zero, List.set_cons_succ])
        refine wpAnyH_take (i := 10) (oi := ⟨some 37, _, _, _, _, _⟩) (v := ?_) rfl (by kernel_rfl) (by kernel_rfl) (by kernel_rfl) (fun _ _ _ h => h) (Or.inl ⟨by rfl, ?_⟩) (by assumption) ?_
        rotate_left
        · ((intro w hSw; (try dsimp only at hSw); go_simp); try with_reducible rfl)
        (try simp only [Act.put, List.setIfInBounds_toArray, List.set_cons_zero, List.set_cons_succ])
        refine wpAnyH_take (i := 11) (oi := ⟨some 38, _, _, _, _, _⟩) (v := ?_) rfl (by kernel_rfl) (by kernel_rfl) (by kernel_rfl) (fun _ _ _ h => h) (Or.inl ⟨by rfl, ?_⟩) (by assumption) ?_
        rotate_left
        · ((intro w hSw; (try dsimp only at hSw); go_simp); try with_reducible rfl)
        (try simp only [Act.put, List.setIfInBounds_toArray, List.set_cons_zero, List.set_cons_succ])
        refine wpAnyH_take (i := 12) (oi := ⟨some 39, _, _, _, _, _⟩) (v := ?_) rfl (by kernel_rfl) (by kernel_rfl) (by kernel_rfl) (fun _ _ _ h => h) (Or.inl ⟨by rfl, ?_⟩) (by assumption) ?_
        rotate_left
        · ((intro w hSw; (try dsimp only at hSw); go_simp); try with_reducible rfl)
        (try simp only [Act.put, List.setIfInBounds_toArray, List.set_cons_zero, List.set_cons_succ])
        refine wpAnyH_take (i := 13) (oi := ⟨some 40, _, _, _, _, _⟩) (v := ?_) rfl (by kernel_rfl) (by kernel_rfl) (by kernel_rfl) (fun _ _ _ h => h) (Or.inl ⟨by rfl, ?_⟩) (by assumption) ?_
        rotate_left
        · ((intro w hSw; (try dsimp only at hSw); go_simp); try with_reducible rfl)
        (try simp only [Act.put, List.setIfInBounds_toArray, List.set_cons_zero, List.set_cons_succ])
        refine wpAnyH_take (i := 14) (oi := ⟨some 41, _, _, _, _, _⟩) (v := ?_) rfl (by kernel_rfl) (by kernel_rfl) (by kernel_rfl) (fun _ _ _ h => h) (Or.inl ⟨by rfl, ?_⟩) (by assumption) ?_
        rotate_left
        · ((intro w hSw; (try dsimp only at hSw); go_simp); try with_reducible rfl)
        (try simp only [Act.put, List.setIfInBounds_toArray, List.set_cons_zero, List.set_cons_succ])
        refine wpAnyH_ready (rs := [7]) (by kernel_rfl) (by simp) (AllReadyH.cons rfl (fun K hK => ?_) AllReadyH.nil)
        rw [if_pos (by rfl)]
        go_simp
        go_at_call 9
        (with_reducible refine (CF.out.go (keepS HWI.out hk0)).mono ?_)
        rintro e v1 ⟨rfl, hb1⟩
        have hk1 := keepS hk0 hb1
        clear hb1
        refine hK.out _ _ (HKT.out _ hk1) (fun hHeld => ?_)
        clear hK K
        (try simp only [Act.put, List.setIfInBounds_toArray, List.set_cons_zero, List.set_cons_succ])
        refine wpAnyH_ready (rs := [15]) (by kernel_rfl) (by simp) (AllReadyH.cons rfl (fun K hK => ?_) AllReadyH.nil)
        rw [if_pos (by rfl)]
        go_simp
        go_at_call 10
        (with_reducible refine (CR.out.go (keepS HWI.out hk1)).mono ?_)
        rintro e v2 ⟨rfl, hb2⟩
        have hk2 := keepS hk1 hb2
        have HKA := Lib.hid (keepS HI.out hk2)
        clear hb2
        refine hK.out _ _ (HKT.out _ hk2) (fun hHeld => ?_)
        clear hK K
        (try simp only [Act.put, List.setIfInBounds_toArray, List.set_cons_zero, List.set_cons_succ])
        refine wpAnyH_take (i := 16) (oi := ⟨some 43, _, _, _, _, _⟩) (v := ?_) rfl (by kernel_rfl) (by kernel_rfl) (by kernel_rfl) (fun _ _ _ h => h) (Or.inl ⟨by rfl, ?_⟩) (by assumption) ?_
        rotate_left
        · ((intro w hSw; (try dsimp only at hSw); go_simp); try with_reducible rfl)
        (try simp only [Act.put, List.setIfInBounds_toArray, List.set_cons_zero, List.set_cons_succ])
        refine wpAnyH_done (by kernel_rfl) ?_ _
        clear hk0 hk1 hk2 x2
        go_wp2_with fail
        go_roundw
        case rel => exact ⟨k + 1, by have := HLK.out; omega, by go_num, HKA⟩
        case measure => simp [intOf]; omega
      · obtain rfl : k = fn := by omega
        go_wp2_with fail
        refine (lives6 wo (HT.out.since (keepS HB0.out HI.out))).mono ?_
        rintro e w5 ⟨rfl, hb5⟩
        have HB5 := Lib.hid (keepS HB0.out (keepS HI.out hb5))
        clear hb5
        go_wp2_with fail
        go_ret
        exact ⟨rfl, HB5.out⟩
end Go.Proofs.YtnapechlgjcpbaaDoor
