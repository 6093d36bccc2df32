/- Layer 6: a program of not more than 1500 parts has a text of not more than so many bytes: it fits. -/
import Derived.Test.YtccajbgdlicbnaaDoorQShowRp
import Derived.Test.YtccajbgdlicbnaaDoorQShowSm

namespace Go.Proofs.YtccajbgdlicbnaaDoor
open Go.RowKit (wrap64 intOf Below)
set_option linter.unusedVariables false
set_option linter.unusedSimpArgs false

theorem sumN_mem {α : Type} (f : α → Nat) : ∀ {xs : List α} {x : α}, x ∈ xs → f x ≤ sumN f xs
  | y :: xs, x, h => by
    simp only [sumN]
    rcases List.mem_cons.1 h with rfl | h'
    · omega
    · have := sumN_mem f h'; omega
def InAll (L : List Int) : Prop := ∀ z ∈ L, InR z
structure InOp (o : OpD) : Prop where
  A : InR o.A
  B : InR o.B
  C : InR o.C
  N : InR o.N
  L : InAll o.L
structure InEnd (e : EndD) : Prop where
  A : InR e.A
  To : InR e.To
  Else : InR e.Else
  L : InAll e.L
  M : InAll e.M
structure InBlock (b : BlockD) : Prop where
  ps : InAll b.params
  ops : ∀ o ∈ b.ops, InOp o
  fin : InEnd b.fin
structure InFunc (x : FuncD) : Prop where
  ret : InR x.ret
  blocks : ∀ b ∈ x.blocks, InBlock b
structure InSig (y : SigD) : Prop where
  ret : InR y.ret
  ps : InAll y.params
structure InCls (y : ClassD) : Prop where
  fs : InAll y.fields
  ms : InAll y.methods
structure InProg (P : ProgD) : Prop where
  sigs : ∀ y ∈ P.sigs, InSig y
  classes : ∀ y ∈ P.classes, InCls y
  funcs : ∀ y ∈ P.funcs, InFunc y
theorem rowV_all {α : Type} {Q : World → List Value → α → Prop} {R : α → Prop} (hR : ∀ W cs x, Q W cs x → R x) {k : Nat} {W : World} {v : Value} {xs : List α} (h : RowV Q k W v xs) : ∀ x ∈ xs, R x := by
  intro x hx
  obtain ⟨a, n, c, rfl, hl, _, _, hr⟩ := h
  obtain ⟨i, hi, rfl⟩ := List.getElem_of_mem hx
  obtain ⟨g, off, _, _, hcs⟩ := hr (by omega)
  obtain ⟨cs, _, _, hq⟩ := hcs i hi
  exact hR _ _ _ hq
theorem numsV_all {W : World} {v : Value} {Z : List Int} (h : NumsV W v Z) : InAll Z := by
  obtain ⟨_, _, _, _, _, _, _, hr⟩ := h
  exact hr
theorem in_op (W : World) (cs : List Value) (x : OpD) (h : OpQ W cs x) : InOp x := by
  obtain ⟨_, _, _, hA, hB, hC, hN, _, hl⟩ := h
  exact ⟨hA, hB, hC, hN, numsV_all hl⟩
theorem in_end (W : World) (cs : List Value) (x : EndD) (h : EndQ W cs x) : InEnd x := by
  obtain ⟨_, _, _, _, hA, hT, hE, hl, hm⟩ := h
  exact ⟨hA, hT, hE, numsV_all hl, numsV_all hm⟩
theorem in_block (W : World) (cs : List Value) (x : BlockD) (h : BlockQ W cs x) : InBlock x := by
  obtain ⟨_, _, _, _, hp, ho, he⟩ := h
  exact ⟨numsV_all hp, rowV_all in_op ho, in_end _ _ _ he⟩
theorem in_func (W : World) (cs : List Value) (x : FuncD) (h : FuncQ W cs x) : InFunc x := by
  obtain ⟨_, _, hr, hb⟩ := h
  exact ⟨hr, rowV_all in_block hb⟩
theorem in_sig (W : World) (cs : List Value) (x : SigD) (h : SigQ W cs x) : InSig x := by
  obtain ⟨_, _, hp, hr⟩ := h
  exact ⟨hr, numsV_all hp⟩
theorem in_cls (W : World) (cs : List Value) (x : ClassD) (h : ClassQ W cs x) : InCls x := by
  obtain ⟨_, _, _, hf, hm⟩ := h
  exact ⟨numsV_all hf, numsV_all hm⟩
theorem in_prog {W : World} {cs : List Value} {P : ProgD} (h : ProgQ W cs P) : InProg P := by
  obtain ⟨_, _, _, _, hs, hc, hf⟩ := h
  exact ⟨rowV_all in_sig hs, rowV_all in_cls hc, rowV_all in_func hf⟩

theorem list_len23 {T : Int → List UInt8} (hT : ∀ z, InR z → (T z).length ≤ 22) {L : List Int} (hr : InAll L) : (listText T L).length ≤ 23 * L.length := by
  have h1 := listText_len (M := 22) L (fun x hx => hT x (hr x hx))
  omega
theorem fields_three (K : Int) : (fieldsL K).length ≤ 3 := by
  rcases kinds K with h | h
  · rcases h with rfl | rfl | rfl | rfl | rfl | rfl | rfl | rfl | rfl | rfl | rfl | rfl | rfl | rfl | rfl | rfl | rfl | rfl | rfl | rfl | rfl | rfl | rfl | rfl | rfl | rfl
    all_goals decide
  · rw [fields_none h]; decide
theorem opT_len {o : OpD} (h : InOp o) : (opT o).length ≤ 400 + 400 * pOp o := by
  have h1 := names_len o.K
  have h2 : ∀ c, (fieldF o.K o.A o.B o.C o.N o.S o.L o.T c).length ≤ 50 + 24 * pOp o := by
    intro c
    have hv := value_len
    have hl := list_len23 value_len h.L
    have hS := list_len o.S
    have he := (encs_len o.S.data.toList).2
    have hs := sign_len o.N
    have hn := itoa_len o.N h.N
    have hA := value_len o.A h.A
    have hB := value_len o.B h.B
    have hC := value_len o.C h.C
    have hsz : 3 * o.S.size ≤ 24 * (o.S.size / 8) + 24 := by omega
    unfold fieldF pOp
    split
    · rw [quoteL_len]; omega
    · split
      · unfold listV; simp only [List.length_cons, List.length_append, List.length_nil]; omega
      · unfold plainField numberText stackText
        repeat' split
        all_goals (first | omega | (simp only [List.length_cons, List.length_nil]; omega))
  have h3 := fieldsText_len (M := 50 + 24 * pOp o) (fieldsL o.K) (fun c _ => h2 c)
  have h4 := fields_three o.K
  have h5 : (fieldsL o.K).length * (50 + 24 * pOp o + 1) ≤ 3 * (50 + 24 * pOp o + 1) := Nat.mul_le_mul_right _ h4
  unfold opT opText
  simp only [List.length_append]
  omega
theorem steps_len : ∀ (n : Nat) (xs : List OpD), n + xs.length ≤ 1000000000 → (∀ o ∈ xs, InOp o) → (stepsText n xs).length ≤ 500 * (xs.length + sumN pOp xs)
  | n, [], _, _ => by simp [stepsText]
  | n, o :: xs, hn, h => by
    simp only [List.length_cons] at hn
    have h1 := steps_len (n + 1) xs (by omega) (fun x hx => h x (List.mem_cons_of_mem _ hx))
    have h2 := opT_len (h o (List.mem_cons_self ..))
    have h3 := value_len (n : Int) ⟨by omega, by omega⟩
    simp only [stepsText, List.length_append, List.length_cons, sumN, stepLine, List.length_nil]
    omega
theorem end_len {e : EndD} (h : InEnd e) : (endText e).length ≤ 100 + 23 * (e.L.length + e.M.length) := by
  have h1 := itoa_len e.To h.To
  have h2 := itoa_len e.Else h.Else
  have h3 := value_len e.A h.A
  have h4 := list_len23 value_len h.L
  have h5 := list_len23 value_len h.M
  unfold endText targetText listV
  repeat' split
  all_goals (simp only [List.length_append, List.length_cons, List.length_nil]; omega)
theorem block_len (n f : Nat) {b : BlockD} (hn : n ≤ 1000000000) (hf : f + b.params.length + b.ops.length ≤ 1000000000) (h : InBlock b) : (blockText n f b).length ≤ 200 + 500 * pBlock b := by
  have h1 := itoa_len (n : Int) ⟨by omega, by omega⟩
  have h2 := list_len23 type_len h.ps
  have h3 := steps_len (f + b.params.length) b.ops (by omega) h.ops
  have h4 := end_len h.fin
  unfold blockText headText pBlock listT
  simp only [List.length_append, List.length_cons, List.length_nil]
  omega
theorem blocks_len : ∀ (n f : Nat) (xs : List BlockD), n + xs.length ≤ 1000000000 → f + valsN xs ≤ 1000000000 → (∀ b ∈ xs, InBlock b) → (blocksText n f xs).length ≤ 500 * (xs.length + sumN pBlock xs)
  | n, f, [], _, _, _ => by simp [blocksText]
  | n, f, b :: xs, hn, hf, h => by
    simp only [List.length_cons, valsN] at hn hf
    have h1 := blocks_len (n + 1) (f + (b.params.length + b.ops.length)) xs (by omega) (by omega) (fun x hx => h x (List.mem_cons_of_mem _ hx))
    have h2 := block_len n f (by omega) (by omega) (h b (List.mem_cons_self ..))
    simp only [blocksText, List.length_append, List.length_cons, sumN]
    omega
theorem vals_parts : ∀ xs : List BlockD, valsN xs ≤ sumN pBlock xs
  | [] => Nat.le_refl _
  | b :: xs => by have := vals_parts xs; simp only [valsN, sumN, pBlock]; omega
theorem func_len {x : FuncD} (h : InFunc x) (hp : pFunc x ≤ 1500) : (funcText x).length ≤ 100 + 500 * pFunc x := by
  unfold pFunc at hp
  have hv := vals_parts x.blocks
  have h1 := blocks_len 0 0 x.blocks (by omega) (by omega) h.blocks
  have h2 := type_len x.ret h.ret
  unfold funcText funcHead pFunc
  simp only [List.length_append, List.length_cons, List.length_nil]
  omega
theorem fit_func {x : FuncD} (h : InFunc x) (hp : pFunc x ≤ 1500) : FitFunc x := by
  have hl := func_len h hp
  unfold pFunc at hp
  have hv := vals_parts x.blocks
  refine ⟨fun b hb => ?_, by omega, by omega, by unfold pFunc at hl; omega⟩
  have h1 := sumN_mem pBlock hb
  have h2 : pBlock b ≤ 1500 := by omega
  unfold pBlock at h2
  refine ⟨by omega, by omega, by omega, fun o ho => ?_⟩
  have h3 := sumN_mem pOp ho
  have h4 : pOp o = o.L.length + o.S.size / 8 := rfl
  exact ⟨by omega, by omega⟩
theorem rows_len {α : Type} (T : α → List UInt8) (p : α → Nat) (R : α → Prop) (hT : ∀ x, R x → (T x).length ≤ 100 + 500 * p x) : ∀ xs : List α, (∀ x ∈ xs, R x) → (rowsText T xs).length ≤ 500 * (xs.length + sumN p xs)
  | [], _ => by simp [rowsText]
  | x :: xs, h => by
    have h1 := rows_len T p R hT xs (fun y hy => h y (List.mem_cons_of_mem _ hy))
    have h2 := hT x (h x (List.mem_cons_self ..))
    simp only [rowsText, List.length_append, List.length_cons, sumN]
    omega
theorem sig_len (y : SigD) (h : InSig y) : (sigText y).length ≤ 100 + 500 * pSig y := by
  have h1 := type_len y.ret h.ret
  have h2 := list_len23 type_len h.ps
  unfold sigText listT pSig
  simp only [List.length_append, List.length_cons, List.length_nil]
  omega
theorem class_len (y : ClassD) (h : InCls y) : (classText y).length ≤ 100 + 500 * pCls y := by
  have h1 := list_len23 type_len h.fs
  have h2 := list_len23 itoa_len h.ms
  unfold classText listT pCls
  simp only [List.length_append, List.length_cons, List.length_nil]
  omega
theorem fit_prog {P : ProgD} (h : InProg P) (hp : partsP P ≤ 1500) : FitProg P := by
  have hq := hp
  unfold partsP at hp
  have hf : ∀ x ∈ P.funcs, pFunc x ≤ 1500 := fun x hx => by have := sumN_mem pFunc hx; omega
  have l1 := rows_len sigText pSig InSig sig_len P.sigs h.sigs
  have l2 := rows_len classText pCls InCls class_len P.classes h.classes
  have l3 := rows_len funcText pFunc (fun x => InFunc x ∧ pFunc x ≤ 1500) (fun x hx => func_len hx.1 hx.2) P.funcs (fun x hx => ⟨h.funcs x hx, hf x hx⟩)
  refine ⟨fun y hy => ?_, fun y hy => ?_, fun y hy => ?_, fun y hy => fit_func (h.funcs y hy) (hf y hy), ?_⟩
  · have h1 := sumN_mem pSig hy; have h2 : pSig y = y.params.length := rfl; omega
  · have h1 := sumN_mem pCls hy; have h2 : pCls y = y.fields.length + y.methods.length := rfl; omega
  · have h1 := sumN_mem pCls hy; have h2 : pCls y = y.fields.length + y.methods.length := rfl; omega
  · unfold progText
    simp only [List.length_append]
    omega
end Go.Proofs.YtccajbgdlicbnaaDoor
