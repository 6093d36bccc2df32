/- Layer 5, plain: which bytes a program is, or why none (P5.1, P5.2). Nothing of the program is named here. -/
import Derived.Test.YtdchhfdmingnaaaDoorFT0

namespace Go.Proofs.YtdchhfdmingnaaaDoor
set_option linter.unusedVariables false
inductive Out where
  | ok (l : List UInt8)
  | no (e : Int)
def Out.and : Out → Out → Out
  | .no e, _ => .no e
  | .ok _, .no e => .no e
  | .ok l, .ok m => .ok (l ++ m)
@[simp] theorem Out.no_and (e : Int) (b : Out) : (Out.no e).and b = .no e := by cases b <;> rfl
theorem Out.ok_no (l : List UInt8) (e : Int) : (Out.ok l).and (.no e) = .no e := rfl
@[simp] theorem Out.nil_and (b : Out) : (Out.ok []).and b = b := by cases b <;> rfl
@[simp] theorem Out.and_nil (a : Out) : a.and (.ok []) = a := by cases a <;> simp [Out.and]
theorem Out.and_assoc (a b c : Out) : (a.and b).and c = a.and (b.and c) := by
  cases a <;> cases b <;> cases c <;> simp [Out.and]
def chk (b : Bool) (e : Int) : Out := if b then .ok [] else .no e
def encN (z : Int) : Out := .ok (putL z)
def encAll {α : Type} (f : α → Out) : List α → Out
  | [] => .ok []
  | x :: r => (f x).and (encAll f r)
theorem encAll_append {α : Type} (f : α → Out) : ∀ a b : List α, encAll f (a ++ b) = (encAll f a).and (encAll f b)
  | [], b => by simp [encAll]
  | x :: a, b => by simp [encAll, encAll_append f a b, Out.and_assoc]
theorem encAll_take {α : Type} (f : α → Out) (xs : List α) (k : Nat) (h : k < xs.length) : encAll f (xs.take (k + 1)) = (encAll f (xs.take k)).and (f xs[k]) := by
  rw [List.take_succ_eq_append_getElem h, encAll_append]
  simp [encAll]
def outCount (n most : Nat) : Out := (encN n).and (chk (decide (n ≤ most)) 2)
def encList {α : Type} (most : Nat) (f : α → Out) (xs : List α) : Out := (outCount xs.length most).and (encAll f xs)
def encNums (most : Nat) (Z : List Int) : Out := encList most encN Z
def putS (s : ByteArray) : List UInt8 := putL (s.size : Int) ++ s.data.toList
def encField (o : OpD) (f : UInt8) : Out :=
  if f = 78 then encN o.N else if f = 83 then (chk (decide (o.S.size ≤ 64)) 2).and (.ok (putS o.S)) else if f = 65 then encN o.A else if f = 66 then encN o.B else if f = 67 then encN o.C else
  if f = 76 then encNums 8 o.L else encN (if o.T then 1 else 0)
def inB (n bound : Int) : Bool := decide (0 ≤ n ∧ n < bound)
def outBelow (n bound : Int) : Out := (encN n).and (chk (inB n bound) 4)
theorem outBelow_no {n bound : Int} (h : n < 0 ∨ bound ≤ n) : outBelow n bound = .no 4 := by
  unfold outBelow inB; rw [decide_eq_false (by omega)]; rfl
theorem outCount_no {n most : Nat} (h : most < n) : outCount n most = .no 2 := by
  unfold outCount; rw [decide_eq_false (by omega)]; rfl
def encOp (o : OpD) : Out := (outBelow o.K 26).and (encAll (encField o) (fieldsL o.K))
def encRest (e : EndD) : Out :=
  if e.K = 0 then (encN e.To).and (encNums 8 e.L) else if e.K = 1 then (encN e.A).and ((encN e.To).and ((encNums 8 e.L).and ((encN e.Else).and (encNums 8 e.M)))) else encN e.A
def encEnd (e : EndD) : Out := (outBelow e.K 4).and (encRest e)
def encBlock (b : BlockD) : Out := (encNums 8 b.params).and ((encList 700 encOp b.ops).and (encEnd b.fin))
def encFunc (f : FuncD) : Out := (encN f.ret).and (encList 40 encBlock f.blocks)
def encSig (s : SigD) : Out := (encNums 8 s.params).and (encN s.ret)
def encClass (c : ClassD) : Out := (encNums 8 c.fields).and (encNums 4 c.methods)
def encProg (p : ProgD) : Out := (encList 4 encSig p.sigs).and ((encList 8 encClass p.classes).and (encList 16 encFunc p.funcs))
def Upto (o : Out) (n : Nat) : Prop := ∀ l, o = .ok l → l.length ≤ n
theorem Upto.and {a b : Out} {n m : Nat} (h1 : Upto a n) (h2 : Upto b m) : Upto (a.and b) (n + m) := by
  intro l h
  cases a with
  | no e => simp at h
  | ok x =>
    cases b with
    | no e => simp [Out.and] at h
    | ok y =>
      simp only [Out.and, Out.ok.injEq] at h
      subst h
      have := h1 x rfl
      have := h2 y rfl
      simp; omega
theorem Upto.mono {a : Out} {n m : Nat} (h : Upto a n) (hm : n ≤ m) : Upto a m := fun l hl => Nat.le_trans (h l hl) hm
theorem Upto.check (b : Bool) (e : Int) : Upto (chk b e) 0 := by
  intro l h
  unfold chk at h
  split at h
  · simp only [Out.ok.injEq] at h; subst h; simp
  · cases h
theorem Upto.num (z : Int) : Upto (encN z) 10 := by
  intro l h
  simp only [encN, Out.ok.injEq] at h
  subst h
  exact putL_len z
theorem Upto.all {α : Type} {f : α → Out} {n : Nat} : ∀ (xs : List α), (∀ x ∈ xs, Upto (f x) n) → Upto (encAll f xs) (xs.length * n)
  | [], _ => by intro l h; simp only [encAll, Out.ok.injEq] at h; subst h; simp
  | x :: xs, h => by
    have h1 := (h x (by simp)).and (Upto.all xs (fun y hy => h y (by simp [hy])))
    simp only [encAll]
    exact h1.mono (by simp only [List.length_cons, Nat.succ_mul]; omega)
theorem Upto.list {α : Type} {f : α → Out} {n most : Nat} (xs : List α) (h : ∀ x ∈ xs, Upto (f x) n) : Upto (encList most f xs) (10 + most * n) := by
  unfold encList
  by_cases hm : xs.length ≤ most
  · refine (((Upto.num _).and (Upto.check _ _)).and (Upto.all xs h)).mono ?_
    have : xs.length * n ≤ most * n := Nat.mul_le_mul_right _ hm
    omega
  · intro l hl
    simp only [outCount, chk, decide_eq_true_eq, if_neg hm, encN, Out.and] at hl
    cases hl
theorem Upto.nums (most : Nat) (Z : List Int) : Upto (encNums most Z) (10 + most * 10) := Upto.list Z (fun z _ => Upto.num z)
theorem fields_le (K : Int) : (fieldsL K).length ≤ 3 := by
  unfold fieldsL
  repeat (first | (split; · decide) | decide)
theorem Upto.op (o : OpD) : Upto (encOp o) 300 := by
  unfold encOp outBelow
  refine (((Upto.num _).and (Upto.check _ _)).and (Upto.all (n := 90) _ fun f _ => ?_)).mono (by have := fields_le o.K; omega)
  unfold encField
  repeat' split
  · exact (Upto.num _).mono (by omega)
  · by_cases hs : o.S.size ≤ 64
    · refine ((Upto.check _ _).and (b := .ok (putS o.S)) (m := 90) ?_).mono (by omega)
      intro l h
      simp only [Out.ok.injEq] at h
      subst h
      have := putL_len (o.S.size : Int)
      have hl : o.S.data.toList.length = o.S.size := by rw [Array.length_toList]; rfl
      simp only [putS, List.length_append, hl]
      omega
    · intro l h
      simp only [chk, hs, decide_false, Bool.false_eq_true, if_false, Out.no_and] at h
      cases h
  · exact (Upto.num _).mono (by omega)
  · exact (Upto.num _).mono (by omega)
  · exact (Upto.num _).mono (by omega)
  · exact (Upto.nums _ _).mono (by omega)
  all_goals exact (Upto.num _).mono (by omega)
theorem Upto.fin (e : EndD) : Upto (encEnd e) 300 := by
  unfold encEnd encRest outBelow
  refine (((Upto.num _).and (Upto.check _ _)).and (m := 280) ?_).mono (by omega)
  repeat' split
  · exact ((Upto.num _).and (Upto.nums _ _)).mono (by omega)
  · exact ((Upto.num _).and ((Upto.num _).and ((Upto.nums _ _).and ((Upto.num _).and (Upto.nums _ _))))).mono (by omega)
  · exact (Upto.num _).mono (by omega)
theorem Upto.block (b : BlockD) : Upto (encBlock b) 220000 := ((Upto.nums _ _).and ((Upto.list _ fun o _ => Upto.op o).and (Upto.fin _))).mono (by omega)
theorem Upto.func (f : FuncD) : Upto (encFunc f) 9000000 := ((Upto.num _).and (Upto.list _ fun b _ => Upto.block b)).mono (by omega)
theorem Upto.sig (s : SigD) : Upto (encSig s) 200 := ((Upto.nums _ _).and (Upto.num _)).mono (by omega)
theorem Upto.cls (c : ClassD) : Upto (encClass c) 200 := ((Upto.nums _ _).and (Upto.nums _ _)).mono (by omega)
theorem Upto.prog (p : ProgD) : Upto (encProg p) 200000000 := ((Upto.list _ fun s _ => Upto.sig s).and ((Upto.list _ fun s _ => Upto.cls s).and (Upto.list _ fun s _ => Upto.func s))).mono (by omega)
def plainEnd (e : EndD) : EndD :=
  if e.K = 0 then ⟨e.K, 0, e.To, 0, e.L, []⟩ else if e.K = 1 then e else if e.K = 2 ∨ e.K = 3 then ⟨e.K, e.A, 0, 0, [], []⟩ else ⟨e.K, 0, 0, 0, [], []⟩
def plainOp (o : OpD) : OpD :=
  ⟨o.K, pickI (hasB o.K 65) o.A, pickI (hasB o.K 66) o.B, pickI (hasB o.K 67) o.C, pickI (hasB o.K 78) o.N, pickS (hasB o.K 83) o.S, pickL (hasB o.K 76) o.L, hasB o.K 75 && o.T⟩
def plainBlock (b : BlockD) : BlockD := ⟨b.params, b.ops.map plainOp, plainEnd b.fin⟩
def plainFunc (f : FuncD) : FuncD := ⟨f.ret, f.blocks.map plainBlock⟩
def plainProg (p : ProgD) : ProgD := ⟨p.sigs, p.classes, p.funcs.map plainFunc⟩
end Go.Proofs.YtdchhfdmingnaaaDoor
