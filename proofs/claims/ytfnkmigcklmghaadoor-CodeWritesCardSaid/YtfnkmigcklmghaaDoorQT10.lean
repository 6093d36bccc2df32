/- Layer 5, plain: which block, function, program bytes begin with (P5.1, P5.2). -/
import Derived.Test.YtfnkmigcklmghaaDoorQCodeRj

namespace Go.Proofs.YtfnkmigcklmghaaDoor
set_option linter.unusedVariables false

def rdBlock (L : List UInt8) : PR BlockD := (rdNums 8 L).bind fun ps r => (rdList 700 rdOp r).bind fun os r' => (rdEnd r').bind fun e r2 => .ok ⟨ps, os, e⟩ r2
def rdFunc (L : List UInt8) : PR FuncD := (rdNum L).bind fun t r => (rdList 40 rdBlock r).bind fun bs r' => .ok ⟨t, bs⟩ r'
def rdProg (L : List UInt8) : PR ProgD := (rdList 4 rdSig L).bind fun ss r => (rdList 8 rdClass r).bind fun cs r' => (rdList 16 rdFunc r').bind fun fs r2 => .ok ⟨ss, cs, fs⟩ r2
end Go.Proofs.YtfnkmigcklmghaaDoor

/- Layer 5, plain: a program's bytes are read as it, without what plays no part (P5.4); without the last ones they are none (P5.5); what is read is written as what was read. Nothing of the program is named here. -/
namespace Go.Proofs.YtfnkmigcklmghaaDoor
set_option linter.unusedVariables false

/-- A reader takes just these bytes, whatever stands behind, and of a beginning it says that there are too few (3). -/
def Takes {α : Type} (p : List UInt8 → PR α) (l : List UInt8) (x : α) : Prop :=
  (∀ X, p (l ++ X) = .ok x X) ∧ ∀ j, j < l.length → p (l.take j) = .no 3
section
variable {α β : Type}
theorem Takes.bind {p : List UInt8 → PR α} {f : α → List UInt8 → PR β} {l m : List UInt8} {x : α} {y : β} (h : Takes p l x) (h' : Takes (f x) m y) : Takes (fun L => (p L).bind f) (l ++ m) y := by
  constructor
  · intro X
    simp only [List.append_assoc]
    rw [h.1]
    exact h'.1 X
  · intro j hj
    by_cases hl : j < l.length
    · have e : (l ++ m).take j = l.take j := List.take_append_of_le_length (by omega)
      simp only [e, h.2 j hl, PR.bind]
    · have e : (l ++ m).take j = l ++ m.take (j - l.length) := by rw [List.take_append, List.take_of_length_le (by omega)]
      simp only [e]
      rw [h.1]
      exact h'.2 _ (by simp at hj; omega)
theorem Takes.pure (x : α) : Takes (fun L => .ok x L) [] x := ⟨fun X => rfl, fun j hj => absurd hj (by simp)⟩
theorem Takes.map {p : List UInt8 → PR α} {l : List UInt8} {x : α} (g : α → β) (h : Takes p l x) : Takes (fun L => (p L).bind fun x r => .ok (g x) r) l (g x) := by
  have := h.bind (f := fun x r => .ok (g x) r) (m := []) (y := g x) (Takes.pure _)
  simpa using this
theorem Takes.guard {p : List UInt8 → PR α} {f : α → List UInt8 → PR β} {l : List UInt8} {x : α} {y : β} (h : Takes p l x) (h' : ∀ r, f x r = .ok y r) : Takes (fun L => (p L).bind f) l y := by
  have := h.bind (f := f) (m := []) (y := y) ⟨fun X => h' X, fun j hj => absurd hj (by simp)⟩
  simpa using this
theorem ok_and {a b : Out} {l : List UInt8} (h : a.and b = .ok l) : ∃ x y, a = .ok x ∧ b = .ok y ∧ l = x ++ y := by
  cases a with
  | no e => simp at h
  | ok x => cases b with
    | no e => simp [Out.and] at h
    | ok y => simp only [Out.and, Out.ok.injEq] at h; exact ⟨x, y, rfl, rfl, h.symm⟩
theorem ok_chk {b : Bool} {e : Int} {l : List UInt8} (h : chk b e = .ok l) : b = true ∧ l = [] := by
  unfold chk at h
  split at h
  · rename_i hb; exact ⟨hb, by simpa using h.symm⟩
  · cases h
theorem takes_num {z : Int} (h : InR z) : Takes rdNum (putL z) z := by
  refine ⟨fun X => ?_, fun j hj => rdNum_no (fails_cut h.1 h.2 j hj)⟩
  rw [rdNum_yes (gives_put h.1 h.2 X)]
  simp
theorem takes_enc {z : Int} (h : InR z) {l : List UInt8} (he : encN z = .ok l) : Takes rdNum l z := by
  simp only [encN, Out.ok.injEq] at he
  subst he
  exact takes_num h
theorem takes_below {n b : Int} (h : InR n) {l : List UInt8} (he : outBelow n b = .ok l) : Takes (rdBelow b) l n := by
  obtain ⟨x, y, h1, h2, rfl⟩ := ok_and he
  obtain ⟨hb, rfl⟩ := ok_chk h2
  rw [List.append_nil]
  simp only [inB, decide_eq_true_eq] at hb
  exact (takes_enc h h1).guard fun r => by rw [if_pos hb]
theorem takes_count {n most : Nat} (hm : most ≤ 1000) {l : List UInt8} (he : outCount n most = .ok l) : Takes (rdCount most) l n := by
  obtain ⟨x, y, h1, h2, rfl⟩ := ok_and he
  obtain ⟨hb, rfl⟩ := ok_chk h2
  rw [List.append_nil]
  simp only [decide_eq_true_eq] at hb
  exact (takes_enc (z := (n : Int)) ⟨by omega, by omega⟩ h1).guard fun r => by rw [if_neg (by omega), if_neg (by omega)]; rfl
/-- What is read of an encoded thing. -/
def Reads1 (p : List UInt8 → PR α) (enc : α → Out) (norm : α → α) (good : α → Prop) : Prop := ∀ x l, good x → enc x = .ok l → Takes p l (norm x)
theorem takes_times {p : List UInt8 → PR α} {enc : α → Out} {norm : α → α} {good : α → Prop} (h : Reads1 p enc norm good) : ∀ (xs : List α) (l : List UInt8), (∀ x ∈ xs, good x) → encAll enc xs = .ok l → Takes (rdTimes p xs.length) l (xs.map norm)
  | [], l, _, he => by simp only [encAll, Out.ok.injEq] at he; subst he; exact Takes.pure _
  | x :: xs, l, hg, he => by
    obtain ⟨a, b, h1, h2, rfl⟩ := ok_and he
    exact (h x a (hg x (by simp)) h1).bind (f := fun x r => (rdTimes p xs.length r).bind fun xs r' => .ok (x :: xs) r') ((takes_times h xs b (fun y hy => hg y (by simp [hy])) h2).map (fun ys => norm x :: ys))
theorem takes_list {p : List UInt8 → PR α} {enc : α → Out} {norm : α → α} {good : α → Prop} (most : Nat) (hm : most ≤ 1000) (h : Reads1 p enc norm good) (xs : List α) (l : List UInt8) (hg : ∀ x ∈ xs, good x) (he : encList most enc xs = .ok l) : Takes (rdList most p) l (xs.map norm) := by
  obtain ⟨a, b, h1, h2, rfl⟩ := ok_and he
  exact (takes_count hm h1).bind (f := fun n r => rdTimes p n r) (takes_times h xs b hg h2)
theorem takes_nums (most : Nat) (hm : most ≤ 1000) {Z : List Int} (hg : ∀ z ∈ Z, InR z) {l : List UInt8} (he : encNums most Z = .ok l) : Takes (rdNums most) l Z := by
  have := takes_list (p := rdNum) (enc := encN) (norm := id) (good := InR) most hm (fun z l hz h => takes_enc hz h) Z l hg he
  rw [List.map_id] at this
  exact this
theorem takes_text {s : ByteArray} (hs : s.size ≤ 64) : Takes rdText (putS s) s := by
  have hl := list_len s
  unfold putS
  refine (takes_count (n := s.size) (most := 64) (by omega) (outCount_yes hs)).bind (f := fun m r => if m ≤ r.length then .ok (mk (r.take m)) (r.drop m) else .no 3) ⟨fun X => ?_, fun j hj => ?_⟩
  · show (if s.size ≤ (s.data.toList ++ X).length then PR.ok (mk ((s.data.toList ++ X).take s.size)) ((s.data.toList ++ X).drop s.size) else .no 3) = _
    rw [if_pos (by rw [List.length_append]; omega), List.take_append_of_le_length (by omega), List.take_of_length_le (by omega), List.drop_append_of_le_length (by omega), List.drop_of_length_le (by omega), mk_of]
    rfl
  · show (if s.size ≤ (s.data.toList.take j).length then PR.ok (mk ((s.data.toList.take j).take s.size)) ((s.data.toList.take j).drop s.size) else .no 3) = _
    rw [if_neg (by rw [List.length_take]; omega)]
theorem takes_truth {b : Bool} {l : List UInt8} (he : encN (if b then 1 else 0) = .ok l) : Takes rdTruth l b := by
  have h : Takes (rdBelow 2) l (if b then 1 else 0) := by
    simp only [encN, Out.ok.injEq] at he
    subst he
    exact (takes_num (z := if b then 1 else 0) (by cases b <;> exact ⟨by decide, by decide⟩)).guard fun r => by rw [if_pos (by cases b <;> decide)]
  have := h.map (fun n => n == 1)
  have e : ((if b then (1 : Int) else 0) == 1) = b := by cases b <;> rfl
  rw [e] at this
  exact this
end

/-- The numbers of a program are such as there are. -/
def RngOp (o : OpD) : Prop := InR o.K ∧ InR o.A ∧ InR o.B ∧ InR o.C ∧ InR o.N ∧ ∀ z ∈ o.L, InR z
def RngEnd (e : EndD) : Prop := InR e.K ∧ InR e.A ∧ InR e.To ∧ InR e.Else ∧ (∀ z ∈ e.L, InR z) ∧ ∀ z ∈ e.M, InR z
def RngBlock (b : BlockD) : Prop := (∀ z ∈ b.params, InR z) ∧ (∀ o ∈ b.ops, RngOp o) ∧ RngEnd b.fin
def RngFunc (f : FuncD) : Prop := InR f.ret ∧ ∀ b ∈ f.blocks, RngBlock b
def RngSig (s : SigD) : Prop := (∀ z ∈ s.params, InR z) ∧ InR s.ret
def RngClass (c : ClassD) : Prop := (∀ z ∈ c.fields, InR z) ∧ ∀ z ∈ c.methods, InR z
def RngProg (p : ProgD) : Prop := (∀ s ∈ p.sigs, RngSig s) ∧ (∀ c ∈ p.classes, RngClass c) ∧ ∀ f ∈ p.funcs, RngFunc f

def setF (a o : OpD) (f : UInt8) : OpD :=
  if f = 78 then { a with N := o.N } else if f = 83 then { a with S := o.S } else if f = 65 then { a with A := o.A } else if f = 66 then { a with B := o.B } else if f = 67 then { a with C := o.C } else
  if f = 76 then { a with L := o.L } else { a with T := o.T }
theorem takes_field (a o : OpD) (f : UInt8) (hr : RngOp o) {l : List UInt8} (he : encField o f = .ok l) : Takes (rdField a f) l (setF a o f) := by
  unfold encField at he
  unfold setF
  by_cases h1 : f = 78
  · subst h1
    rw [if_pos rfl] at he ⊢
    exact (takes_enc hr.2.2.2.2.1 he).map (fun n => { a with N := n })
  · rw [if_neg h1] at he ⊢
    by_cases h2 : f = 83
    · subst h2
      rw [if_pos rfl] at he ⊢
      obtain ⟨x, y, e1, e2, rfl⟩ := ok_and he
      obtain ⟨hb, rfl⟩ := ok_chk e1
      simp only [Out.ok.injEq] at e2
      subst e2
      rw [List.nil_append]
      exact (takes_text (by simpa using hb)).map (fun s => { a with S := s })
    · rw [if_neg h2] at he ⊢
      by_cases h3 : f = 65
      · subst h3
        rw [if_pos rfl] at he ⊢
        exact (takes_enc hr.2.1 he).map (fun n => { a with A := n })
      · rw [if_neg h3] at he ⊢
        by_cases h4 : f = 66
        · subst h4
          rw [if_pos rfl] at he ⊢
          exact (takes_enc hr.2.2.1 he).map (fun n => { a with B := n })
        · rw [if_neg h4] at he ⊢
          by_cases h5 : f = 67
          · subst h5
            rw [if_pos rfl] at he ⊢
            exact (takes_enc hr.2.2.2.1 he).map (fun n => { a with C := n })
          · rw [if_neg h5] at he ⊢
            by_cases h6 : f = 76
            · subst h6
              rw [if_pos rfl] at he ⊢
              exact (takes_nums 8 (by omega) hr.2.2.2.2.2 he).map (fun l => { a with L := l })
            · rw [if_neg h6] at he ⊢
              have h := (takes_truth he).map (fun t => { a with T := t })
              have e : rdField a f = fun L => (rdTruth L).bind fun t r => .ok { a with T := t } r := by
                funext L
                unfold rdField
                rw [if_neg h1, if_neg h2, if_neg h3, if_neg h4, if_neg h5, if_neg h6]
              rw [e]
              exact h
theorem takes_fields (o : OpD) (hr : RngOp o) : ∀ (fs : List UInt8) (a : OpD) (l : List UInt8), encAll (encField o) fs = .ok l → Takes (rdFields a fs) l (fs.foldl (fun a f => setF a o f) a)
  | [], a, l, he => by simp only [encAll, Out.ok.injEq] at he; subst he; exact Takes.pure _
  | f :: fs, a, l, he => by
    obtain ⟨x, y, h1, h2, rfl⟩ := ok_and he
    exact (takes_field a o f hr h1).bind (f := fun o' r => rdFields o' fs r) (takes_fields o hr fs _ y h2)
theorem set_all (o : OpD) : (fieldsL o.K).foldl (fun a f => setF a o f) (opZero o.K) = plainOp o := by
  obtain ⟨K, A, B, C, N, S, L, T⟩ := o
  rcases kinds K with h | h
  · rcases h with rfl | rfl | rfl | rfl | rfl | rfl | rfl | rfl | rfl | rfl | rfl | rfl | rfl | rfl | rfl | rfl | rfl | rfl | rfl | rfl | rfl | rfl | rfl | rfl | rfl | rfl
    all_goals rfl
  · simp [plainOp, hasB, fields_none h, opZero, pickI, pickS, pickL]
theorem takes_op : Reads1 rdOp encOp plainOp RngOp := by
  intro o l hr he
  obtain ⟨x, y, h1, h2, rfl⟩ := ok_and he
  have h := takes_fields o hr (fieldsL o.K) (opZero o.K) y h2
  rw [set_all] at h
  exact (takes_below hr.1 h1).bind (f := fun k r => rdFields (opZero k) (fieldsL k) r) h
theorem takes_target {t : Int} {Z : List Int} (ht : InR t) (hz : ∀ z ∈ Z, InR z) {x y : List UInt8} (h1 : encN t = .ok x) (h2 : encNums 8 Z = .ok y) : Takes rdTarget (x ++ y) (t, Z) :=
  (takes_enc ht h1).bind (f := fun t r => (rdNums 8 r).bind fun Z r' => .ok (t, Z) r') ((takes_nums 8 (by omega) hz h2).map (fun Z => (t, Z)))
theorem takes_end : Reads1 rdEnd encEnd plainEnd RngEnd := by
  intro e l hr he
  obtain ⟨K, A, To, El, L, M⟩ := e
  obtain ⟨r1, r2, r3, r4, r5, r6⟩ := hr
  obtain ⟨x, y, h1, h2, rfl⟩ := ok_and he
  have hK : 0 ≤ K ∧ K < 4 := by
    obtain ⟨_, _, _, h3, _⟩ := ok_and h1
    simpa [inB] using (ok_chk h3).1
  refine (takes_below r1 h1).bind ?_
  simp only [encRest] at h2
  simp only [plainEnd]
  by_cases h0 : K = 0
  · subst h0
    simp only [if_true] at h2 ⊢
    obtain ⟨a, b, e1, e2, rfl⟩ := ok_and h2
    exact (takes_target r3 r5 e1 e2).map (fun p => (⟨0, 0, p.1, 0, p.2, []⟩ : EndD))
  · simp only [if_neg h0] at h2 ⊢
    by_cases h1 : K = 1
    · subst h1
      simp only [if_true] at h2 ⊢
      obtain ⟨a, b, e1, e2, rfl⟩ := ok_and h2
      obtain ⟨c, d, e3, e4, rfl⟩ := ok_and e2
      obtain ⟨f, g, e5, e6, rfl⟩ := ok_and e4
      obtain ⟨i, j, e7, e8, rfl⟩ := ok_and e6
      have h := (takes_enc r2 e1).bind (f := fun a r1 => (rdTarget r1).bind fun p r2 => (rdTarget r2).bind fun q r3 => .ok (⟨1, a, p.1, q.1, p.2, q.2⟩ : EndD) r3)
        ((takes_target r3 r5 e3 e5).bind (f := fun p r2 => (rdTarget r2).bind fun q r3 => .ok (⟨1, A, p.1, q.1, p.2, q.2⟩ : EndD) r3) ((takes_target r4 r6 e7 e8).map (fun q => (⟨1, A, To, q.1, L, q.2⟩ : EndD))))
      simpa [List.append_assoc] using h
    · simp only [if_neg h1] at h2 ⊢
      rw [if_pos (by omega)]
      exact (takes_enc r2 h2).map (fun a => (⟨K, a, 0, 0, [], []⟩ : EndD))
theorem takes_block : Reads1 rdBlock encBlock plainBlock RngBlock := by
  intro b l hr he
  obtain ⟨x, y, h1, h2, rfl⟩ := ok_and he
  obtain ⟨u, v, h3, h4, rfl⟩ := ok_and h2
  exact (takes_nums 8 (by omega) hr.1 h1).bind (f := fun ps r => (rdList 700 rdOp r).bind fun os r' => (rdEnd r').bind fun e r2 => .ok (⟨ps, os, e⟩ : BlockD) r2)
    ((takes_list 700 (by omega) takes_op b.ops u hr.2.1 h3).bind (f := fun os r' => (rdEnd r').bind fun e r2 => .ok (⟨b.params, os, e⟩ : BlockD) r2) ((takes_end b.fin v hr.2.2 h4).map (fun e => (⟨b.params, b.ops.map plainOp, e⟩ : BlockD))))
theorem takes_func : Reads1 rdFunc encFunc plainFunc RngFunc := by
  intro f l hr he
  obtain ⟨x, y, h1, h2, rfl⟩ := ok_and he
  exact (takes_enc hr.1 h1).bind (f := fun t r => (rdList 40 rdBlock r).bind fun bs r' => .ok (⟨t, bs⟩ : FuncD) r') ((takes_list 40 (by omega) takes_block f.blocks y hr.2 h2).map (fun bs => (⟨f.ret, bs⟩ : FuncD)))
theorem takes_sig : Reads1 rdSig encSig id RngSig := by
  intro s l hr he
  obtain ⟨x, y, h1, h2, rfl⟩ := ok_and he
  exact (takes_nums 8 (by omega) hr.1 h1).bind (f := fun ps r => (rdNum r).bind fun t r' => .ok (⟨ps, t⟩ : SigD) r') ((takes_enc hr.2 h2).map (fun t => (⟨s.params, t⟩ : SigD)))
theorem takes_class : Reads1 rdClass encClass id RngClass := by
  intro s l hr he
  obtain ⟨x, y, h1, h2, rfl⟩ := ok_and he
  exact (takes_nums 8 (by omega) hr.1 h1).bind (f := fun fs r => (rdNums 4 r).bind fun ms r' => .ok (⟨fs, ms⟩ : ClassD) r') ((takes_nums 4 (by omega) hr.2 h2).map (fun ms => (⟨s.fields, ms⟩ : ClassD)))
/-- A program's bytes are read as it, without what plays no part; without the last ones they are too few. -/
theorem takes_prog : Reads1 rdProg encProg plainProg RngProg := by
  intro p l hr he
  obtain ⟨x, y, h1, h2, rfl⟩ := ok_and he
  obtain ⟨u, v, h3, h4, rfl⟩ := ok_and h2
  have e1 := takes_list 4 (by omega) takes_sig p.sigs x hr.1 h1
  have e2 := takes_list 8 (by omega) takes_class p.classes u hr.2.1 h3
  rw [List.map_id] at e1 e2
  exact e1.bind (f := fun ss r => (rdList 8 rdClass r).bind fun cs r' => (rdList 16 rdFunc r').bind fun fs r2 => .ok (⟨ss, cs, fs⟩ : ProgD) r2)
    (e2.bind (f := fun cs r' => (rdList 16 rdFunc r').bind fun fs r2 => .ok (⟨p.sigs, cs, fs⟩ : ProgD) r2) ((takes_list 16 (by omega) takes_func p.funcs v hr.2.2 h4).map (fun fs => (⟨p.sigs, p.classes, fs⟩ : ProgD))))

/-- What is plain stays as it is; its numbers are such as there are. -/
theorem plainOp_twice (o : OpD) : plainOp (plainOp o) = plainOp o := by
  unfold plainOp
  simp only [pickI, pickS, pickL]
  congr 1 <;> (try split <;> rfl)
  cases hasB o.K 75 <;> rfl
theorem plainEnd_twice (e : EndD) : plainEnd (plainEnd e) = plainEnd e := by
  obtain ⟨K, A, To, El, L, M⟩ := e
  simp only [plainEnd]
  by_cases h0 : K = 0
  · simp [h0]
  · by_cases h1 : K = 1
    · simp [h1]
    · by_cases h2 : K = 2 ∨ K = 3
      · simp [h0, h1, h2]
      · simp [h0, h1, h2]
theorem plainBlock_twice (b : BlockD) : plainBlock (plainBlock b) = plainBlock b := by
  simp [plainBlock, plainEnd_twice, Function.comp_def, plainOp_twice]
theorem plainFunc_twice (f : FuncD) : plainFunc (plainFunc f) = plainFunc f := by
  simp [plainFunc, Function.comp_def, plainBlock_twice]
theorem plainProg_twice (p : ProgD) : plainProg (plainProg p) = plainProg p := by
  simp [plainProg, Function.comp_def, plainFunc_twice]
theorem inR_zero : InR 0 := ⟨by decide, by decide⟩
theorem rng_pick {b : Bool} {z : Int} (h : InR z) : InR (pickI b z) := by unfold pickI; split; exact h; exact inR_zero
theorem RngOp.plain {o : OpD} (h : RngOp o) : RngOp (plainOp o) :=
  ⟨h.1, rng_pick h.2.1, rng_pick h.2.2.1, rng_pick h.2.2.2.1, rng_pick h.2.2.2.2.1, fun z hz => by
    simp only [plainOp, pickL] at hz
    split at hz
    · exact h.2.2.2.2.2 z hz
    · cases hz⟩
theorem RngEnd.plain {e : EndD} (h : RngEnd e) : RngEnd (plainEnd e) := by
  obtain ⟨r1, r2, r3, r4, r5, r6⟩ := h
  unfold plainEnd
  split
  · exact ⟨r1, inR_zero, r3, inR_zero, r5, fun z hz => by cases hz⟩
  · split
    · exact ⟨r1, r2, r3, r4, r5, r6⟩
    · split
      · exact ⟨r1, r2, inR_zero, inR_zero, fun z hz => (by cases hz), fun z hz => (by cases hz)⟩
      · exact ⟨r1, inR_zero, inR_zero, inR_zero, fun z hz => (by cases hz), fun z hz => (by cases hz)⟩
theorem RngProg.plain {p : ProgD} (h : RngProg p) : RngProg (plainProg p) := by
  refine ⟨h.1, h.2.1, fun f hf => ?_⟩
  obtain ⟨f', hf', rfl⟩ := List.mem_map.1 hf
  have h1 := h.2.2 f' hf'
  refine ⟨h1.1, fun b hb => ?_⟩
  obtain ⟨b', hb', rfl⟩ := List.mem_map.1 hb
  have h2 := h1.2 b' hb'
  refine ⟨h2.1, fun o ho => ?_, h2.2.2.plain⟩
  obtain ⟨o', ho', rfl⟩ := List.mem_map.1 ho
  exact (h2.2.1 o' ho').plain

/-- What was read is written as what was read (P5.4); and it is plain. -/
def Backs {α : Type} (p : List UInt8 → PR α) (enc : α → Out) (good : α → Prop) : Prop := ∀ L x X, p L = .ok x X → ∃ l, enc x = .ok l ∧ L = l ++ X ∧ good x
theorem bind_ok {α β : Type} {p : PR α} {f : α → List UInt8 → PR β} {y : β} {X : List UInt8} (h : p.bind f = .ok y X) : ∃ x r, p = .ok x r ∧ f x r = .ok y X := by
  cases p with
  | no e => cases h
  | ok x r => exact ⟨x, r, rfl, h⟩
theorem backs_num : Backs rdNum encN InR := by
  intro L x X h
  rcases gives_or_fails L with ⟨m, k, hg⟩ | ⟨er, hf⟩
  · rw [rdNum_yes hg] at h
    cases h
    have hp := hg.put
    exact ⟨_, rfl, by rw [← hp.2.2.2.1, List.take_append_drop], hp.2.2.2.2⟩
  · rw [rdNum_no hf] at h; cases h
theorem backs_below (b : Int) : Backs (rdBelow b) (fun n => outBelow n b) (fun n => 0 ≤ n ∧ n < b) := by
  intro L x X h
  obtain ⟨n, r, h1, h2⟩ := bind_ok h
  split at h2
  · rename_i hb
    cases h2
    obtain ⟨l, e1, e2, _⟩ := backs_num _ _ _ h1
    simp only [encN, Out.ok.injEq] at e1
    subst e1
    exact ⟨_, outBelow_yes hb.1 hb.2, e2, hb⟩
  · cases h2
theorem backs_count (most : Nat) : Backs (rdCount most) (fun n => outCount n most) (fun n => n ≤ most) := by
  intro L x X h
  obtain ⟨n, r, h1, h2⟩ := bind_ok h
  split at h2
  · cases h2
  · split at h2
    · cases h2
    · cases h2
      obtain ⟨l, e1, e2, _⟩ := backs_num _ _ _ h1
      simp only [encN, Out.ok.injEq] at e1
      subst e1
      refine ⟨_, outCount_yes (by omega), ?_, by omega⟩
      rw [Int.toNat_of_nonneg (by omega)]
      exact e2
theorem backs_times {α : Type} {p : List UInt8 → PR α} {enc : α → Out} {good : α → Prop} (h : Backs p enc good) : ∀ (n : Nat) (L : List UInt8) (xs : List α) (X : List UInt8), rdTimes p n L = .ok xs X → ∃ l, encAll enc xs = .ok l ∧ L = l ++ X ∧ xs.length = n ∧ ∀ x ∈ xs, good x
  | 0, L, xs, X, e => by cases e; exact ⟨[], rfl, rfl, rfl, fun x hx => by cases hx⟩
  | n + 1, L, xs, X, e => by
    obtain ⟨x, r, h1, h2⟩ := bind_ok e
    obtain ⟨ys, r', h3, h4⟩ := bind_ok h2
    cases h4
    obtain ⟨l, e1, rfl, g1⟩ := h _ _ _ h1
    obtain ⟨m, e2, rfl, e3, g2⟩ := backs_times h n _ _ _ h3
    refine ⟨l ++ m, by simp only [encAll, e1, e2]; rfl, by rw [List.append_assoc], by simp [e3], fun y hy => ?_⟩
    rcases List.mem_cons.1 hy with rfl | hy
    · exact g1
    · exact g2 y hy
theorem backs_list {α : Type} {p : List UInt8 → PR α} {enc : α → Out} {good : α → Prop} (most : Nat) (h : Backs p enc good) : Backs (rdList most p) (encList most enc) (fun xs => ∀ x ∈ xs, good x) := by
  intro L xs X e
  obtain ⟨n, r, h1, h2⟩ := bind_ok e
  obtain ⟨l, e1, rfl, g1⟩ := backs_count most _ _ _ h1
  obtain ⟨m, e2, rfl, e3, g2⟩ := backs_times h n _ _ _ h2
  subst e3
  exact ⟨l ++ m, by simp only [encList, e1, e2]; rfl, by rw [List.append_assoc], g2⟩
theorem backs_nums (most : Nat) : Backs (rdNums most) (encNums most) (fun Z => ∀ z ∈ Z, InR z) := backs_list most backs_num
theorem backs_text : Backs rdText (fun s => (chk (decide (s.size ≤ 64)) 2).and (.ok (putS s))) (fun _ => True) := by
  intro L s X h
  obtain ⟨m, r, h1, h2⟩ := bind_ok h
  obtain ⟨l, e1, rfl, g1⟩ := backs_count 64 _ _ _ h1
  split at h2
  · rename_i hm
    cases h2
    have hs : (mk (r.take m)).size = m := by rw [mk_size, List.length_take]; omega
    simp only [outCount_yes g1, Out.ok.injEq] at e1
    subst e1
    refine ⟨putS (mk (r.take m)), ?_, ?_, trivial⟩
    · simp only [hs, chk, decide_eq_true g1, if_true, Out.nil_and]
    · unfold putS
      rw [hs, mk_list, List.append_assoc, List.take_append_drop]
  · cases h2
theorem backs_truth : Backs rdTruth (fun b => encN (if b then 1 else 0)) (fun _ => True) := by
  intro L b X h
  obtain ⟨n, r, h1, h2⟩ := bind_ok h
  cases h2
  obtain ⟨l, e1, rfl, g1⟩ := backs_below 2 _ _ _ h1
  simp only [outBelow_yes g1.1 g1.2, Out.ok.injEq] at e1
  subst e1
  refine ⟨_, ?_, rfl, trivial⟩
  have : n = 0 ∨ n = 1 := by omega
  rcases this with rfl | rfl <;> rfl
def sevenL : List UInt8 := [78, 83, 65, 66, 67, 76, 75]
theorem sevenL_of (K : Int) : (fieldsL K).Nodup ∧ ∀ f ∈ fieldsL K, f ∈ sevenL := by
  rcases kinds K with h | h
  · rcases h with rfl | rfl | rfl | rfl | rfl | rfl | rfl | rfl | rfl | rfl | rfl | rfl | rfl | rfl | rfl | rfl | rfl | rfl | rfl | rfl | rfl | rfl | rfl | rfl | rfl | rfl
    all_goals decide
  · rw [fields_none h]
    decide
/-- What is read of one field sets it alone, and is written as it was read. -/
theorem back_field {a o : OpD} {f : UInt8} (hf : f ∈ sevenL) {L X : List UInt8} (h : rdField a f L = .ok o X) :
    (∃ l, encField o f = .ok l ∧ L = l ++ X) ∧ o.K = a.K ∧ (∀ g ∈ sevenL, g ≠ f → encField o g = encField a g) ∧ (f ≠ 78 → o.N = a.N) ∧ (f ≠ 83 → o.S = a.S) ∧ (f ≠ 65 → o.A = a.A) ∧ (f ≠ 66 → o.B = a.B) ∧ (f ≠ 67 → o.C = a.C) ∧ (f ≠ 76 → o.L = a.L) ∧ (f ≠ 75 → o.T = a.T) := by
  simp only [sevenL, List.mem_cons, List.not_mem_nil, or_false] at hf
  rcases hf with rfl | rfl | rfl | rfl | rfl | rfl | rfl
  · obtain ⟨n, r, h1, h2⟩ := bind_ok (p := rdNum L) h
    cases h2
    obtain ⟨l, e1, rfl, _⟩ := backs_num _ _ _ h1
    refine ⟨⟨l, e1, rfl⟩, rfl, ?_, by simp, by simp, by simp, by simp, by simp, by simp, by simp⟩
    intro g hg hne
    simp only [sevenL, List.mem_cons, List.not_mem_nil, or_false] at hg
    rcases hg with rfl | rfl | rfl | rfl | rfl | rfl | rfl <;> first | exact absurd rfl hne | rfl
  · obtain ⟨n, r, h1, h2⟩ := bind_ok (p := rdText L) h
    cases h2
    obtain ⟨l, e1, rfl, _⟩ := backs_text _ _ _ h1
    refine ⟨⟨l, e1, rfl⟩, rfl, ?_, by simp, by simp, by simp, by simp, by simp, by simp, by simp⟩
    intro g hg hne
    simp only [sevenL, List.mem_cons, List.not_mem_nil, or_false] at hg
    rcases hg with rfl | rfl | rfl | rfl | rfl | rfl | rfl <;> first | exact absurd rfl hne | rfl
  · obtain ⟨n, r, h1, h2⟩ := bind_ok (p := rdNum L) h
    cases h2
    obtain ⟨l, e1, rfl, _⟩ := backs_num _ _ _ h1
    refine ⟨⟨l, e1, rfl⟩, rfl, ?_, by simp, by simp, by simp, by simp, by simp, by simp, by simp⟩
    intro g hg hne
    simp only [sevenL, List.mem_cons, List.not_mem_nil, or_false] at hg
    rcases hg with rfl | rfl | rfl | rfl | rfl | rfl | rfl <;> first | exact absurd rfl hne | rfl
  · obtain ⟨n, r, h1, h2⟩ := bind_ok (p := rdNum L) h
    cases h2
    obtain ⟨l, e1, rfl, _⟩ := backs_num _ _ _ h1
    refine ⟨⟨l, e1, rfl⟩, rfl, ?_, by simp, by simp, by simp, by simp, by simp, by simp, by simp⟩
    intro g hg hne
    simp only [sevenL, List.mem_cons, List.not_mem_nil, or_false] at hg
    rcases hg with rfl | rfl | rfl | rfl | rfl | rfl | rfl <;> first | exact absurd rfl hne | rfl
  · obtain ⟨n, r, h1, h2⟩ := bind_ok (p := rdNum L) h
    cases h2
    obtain ⟨l, e1, rfl, _⟩ := backs_num _ _ _ h1
    refine ⟨⟨l, e1, rfl⟩, rfl, ?_, by simp, by simp, by simp, by simp, by simp, by simp, by simp⟩
    intro g hg hne
    simp only [sevenL, List.mem_cons, List.not_mem_nil, or_false] at hg
    rcases hg with rfl | rfl | rfl | rfl | rfl | rfl | rfl <;> first | exact absurd rfl hne | rfl
  · obtain ⟨n, r, h1, h2⟩ := bind_ok (p := rdNums 8 L) h
    cases h2
    obtain ⟨l, e1, rfl, _⟩ := backs_nums 8 _ _ _ h1
    refine ⟨⟨l, e1, rfl⟩, rfl, ?_, by simp, by simp, by simp, by simp, by simp, by simp, by simp⟩
    intro g hg hne
    simp only [sevenL, List.mem_cons, List.not_mem_nil, or_false] at hg
    rcases hg with rfl | rfl | rfl | rfl | rfl | rfl | rfl <;> first | exact absurd rfl hne | rfl
  · obtain ⟨n, r, h1, h2⟩ := bind_ok (p := rdTruth L) h
    cases h2
    obtain ⟨l, e1, rfl, _⟩ := backs_truth _ _ _ h1
    refine ⟨⟨l, e1, rfl⟩, rfl, ?_, by simp, by simp, by simp, by simp, by simp, by simp, by simp⟩
    intro g hg hne
    simp only [sevenL, List.mem_cons, List.not_mem_nil, or_false] at hg
    rcases hg with rfl | rfl | rfl | rfl | rfl | rfl | rfl <;> first | exact absurd rfl hne | rfl
theorem back_fields : ∀ (fs : List UInt8) (a o : OpD) (L X : List UInt8), (∀ f ∈ fs, f ∈ sevenL) → fs.Nodup → rdFields a fs L = .ok o X →
    (∃ l, encAll (encField o) fs = .ok l ∧ L = l ++ X) ∧ o.K = a.K ∧ (∀ g ∈ sevenL, g ∉ fs → encField o g = encField a g) ∧ (78 ∉ fs → o.N = a.N) ∧ (83 ∉ fs → o.S = a.S) ∧ (65 ∉ fs → o.A = a.A) ∧ (66 ∉ fs → o.B = a.B) ∧ (67 ∉ fs → o.C = a.C) ∧ (76 ∉ fs → o.L = a.L) ∧ (75 ∉ fs → o.T = a.T)
  | [], a, o, L, X, _, _, h => by
    cases h
    exact ⟨⟨[], rfl, rfl⟩, rfl, fun _ _ _ => rfl, fun _ => rfl, fun _ => rfl, fun _ => rfl, fun _ => rfl, fun _ => rfl, fun _ => rfl, fun _ => rfl⟩
  | f :: fs, a, o, L, X, hf, hn, h => by
    obtain ⟨a', r, h1, h2⟩ := bind_ok h
    obtain ⟨⟨l1, e1, rfl⟩, k1, g1, n1, s1, a1, b1, c1, t1, u1⟩ := back_field (hf f (by simp)) h1
    obtain ⟨⟨l2, e2, rfl⟩, k2, g2, n2, s2, a2, b2, c2, t2, u2⟩ := back_fields fs a' o r X (fun g hg => hf g (by simp [hg])) (List.nodup_cons.1 hn).2 h2
    have hfo : encField o f = .ok l1 := (g2 f (hf f (by simp)) (List.nodup_cons.1 hn).1).trans e1
    refine ⟨⟨l1 ++ l2, by simp only [encAll, hfo, e2]; rfl, by rw [List.append_assoc]⟩, k2.trans k1, ?_, ?_, ?_, ?_, ?_, ?_, ?_, ?_⟩
    · intro g hg hn
      simp only [List.mem_cons, not_or] at hn
      exact (g2 g hg hn.2).trans (g1 g hg hn.1)
    all_goals
      intro hn
      simp only [List.mem_cons, not_or] at hn
    · exact (n2 hn.2).trans (n1 (fun e => hn.1 e.symm))
    · exact (s2 hn.2).trans (s1 (fun e => hn.1 e.symm))
    · exact (a2 hn.2).trans (a1 (fun e => hn.1 e.symm))
    · exact (b2 hn.2).trans (b1 (fun e => hn.1 e.symm))
    · exact (c2 hn.2).trans (c1 (fun e => hn.1 e.symm))
    · exact (t2 hn.2).trans (t1 (fun e => hn.1 e.symm))
    · exact (u2 hn.2).trans (u1 (fun e => hn.1 e.symm))
theorem backs_op : Backs rdOp encOp (fun o => plainOp o = o) := by
  intro L o X h
  obtain ⟨k, r, h1, h2⟩ := bind_ok h
  obtain ⟨l1, e1, rfl, g1⟩ := backs_below 26 _ _ _ h1
  obtain ⟨⟨l2, e2, rfl⟩, hk, _, n2, s2, a2, b2, c2, t2, u2⟩ := back_fields _ _ _ _ _ (sevenL_of k).2 (sevenL_of k).1 h2
  have hk' : o.K = k := hk
  refine ⟨l1 ++ l2, by simp only [encOp, hk', e1, e2]; rfl, by rw [List.append_assoc], ?_⟩
  obtain ⟨K, A, B, C, N, S, Lo, T⟩ := o
  dsimp only at hk' n2 s2 a2 b2 c2 t2 u2 ⊢
  subst hk'
  have hb : ∀ f : UInt8, f ∉ fieldsL K ∨ hasB K f = true := fun f => by
    by_cases h : f ∈ fieldsL K
    · exact .inr (by simpa [hasB] using h)
    · exact .inl h
  have hbf : ∀ f : UInt8, f ∉ fieldsL K → hasB K f = false := fun f h => by simpa [hasB] using h
  simp only [plainOp, pickI, pickS, pickL, OpD.mk.injEq, true_and]
  refine ⟨?_, ?_, ?_, ?_, ?_, ?_, ?_⟩
  · rcases hb 65 with h | h
    · rw [hbf _ h, a2 h]; rfl
    · rw [h]; rfl
  · rcases hb 66 with h | h
    · rw [hbf _ h, b2 h]; rfl
    · rw [h]; rfl
  · rcases hb 67 with h | h
    · rw [hbf _ h, c2 h]; rfl
    · rw [h]; rfl
  · rcases hb 78 with h | h
    · rw [hbf _ h, n2 h]; rfl
    · rw [h]; rfl
  · rcases hb 83 with h | h
    · rw [hbf _ h, s2 h]; rfl
    · rw [h]; rfl
  · rcases hb 76 with h | h
    · rw [hbf _ h, t2 h]; rfl
    · rw [h]; rfl
  · rcases hb 75 with h | h
    · rw [hbf _ h, u2 h]; rfl
    · rw [h]; rfl
theorem back_target {L X : List UInt8} {t : Int} {Z : List Int} (h : rdTarget L = .ok (t, Z) X) : ∃ l, (encN t).and (encNums 8 Z) = .ok l ∧ L = l ++ X := by
  obtain ⟨n, r, h1, h2⟩ := bind_ok h
  obtain ⟨Z', r', h3, h4⟩ := bind_ok h2
  cases h4
  obtain ⟨l1, e1, rfl, _⟩ := backs_num _ _ _ h1
  obtain ⟨l2, e2, rfl, _⟩ := backs_nums 8 _ _ _ h3
  exact ⟨l1 ++ l2, by rw [e1, e2]; rfl, by rw [List.append_assoc]⟩
theorem backs_end : Backs rdEnd encEnd (fun e => plainEnd e = e) := by
  intro L e X h
  obtain ⟨k, r, h1, h2⟩ := bind_ok h
  obtain ⟨l1, e1, rfl, g1⟩ := backs_below 4 _ _ _ h1
  by_cases h0 : k = 0
  · subst h0
    simp only [if_true] at h2
    obtain ⟨⟨t, Z⟩, r', h3, h4⟩ := bind_ok h2
    cases h4
    obtain ⟨l2, e2, rfl⟩ := back_target h3
    exact ⟨l1 ++ l2, by simp only [encEnd, encRest, if_true, e1, e2]; rfl, by rw [List.append_assoc], by simp [plainEnd]⟩
  · simp only [if_neg h0] at h2
    by_cases h1' : k = 1
    · subst h1'
      simp only [if_true] at h2
      obtain ⟨a, r', h3, h4⟩ := bind_ok h2
      obtain ⟨⟨t, Z⟩, r2, h5, h6⟩ := bind_ok h4
      obtain ⟨⟨t2, Z2⟩, r3, h7, h8⟩ := bind_ok h6
      cases h8
      obtain ⟨l2, e2, rfl, _⟩ := backs_num _ _ _ h3
      obtain ⟨l3, e3, rfl⟩ := back_target h5
      obtain ⟨l4, e4, rfl⟩ := back_target h7
      refine ⟨l1 ++ (l2 ++ (l3 ++ l4)), ?_, by simp only [List.append_assoc], by simp [plainEnd]⟩
      simp only [encEnd, encRest, if_neg h0, if_true, e1, e2, ← Out.and_assoc (encN t) _ _, e3, e4]
      rfl
    · simp only [if_neg h1'] at h2
      obtain ⟨a, r', h3, h4⟩ := bind_ok h2
      cases h4
      obtain ⟨l2, e2, rfl, _⟩ := backs_num _ _ _ h3
      refine ⟨l1 ++ l2, by simp only [encEnd, encRest, if_neg h0, if_neg h1', e1, e2]; rfl, by rw [List.append_assoc], ?_⟩
      simp only [plainEnd, if_neg h0, if_neg h1']
      rw [if_pos (by omega)]
theorem backs_block : Backs rdBlock encBlock (fun b => plainBlock b = b) := by
  intro L b X h
  obtain ⟨ps, r, h1, h2⟩ := bind_ok h
  obtain ⟨os, r', h3, h4⟩ := bind_ok h2
  obtain ⟨e, r2, h5, h6⟩ := bind_ok h4
  cases h6
  obtain ⟨l1, e1, rfl, _⟩ := backs_nums 8 _ _ _ h1
  obtain ⟨l2, e2, rfl, g2⟩ := backs_list 700 backs_op _ _ _ h3
  obtain ⟨l3, e3, rfl, g3⟩ := backs_end _ _ _ h5
  refine ⟨l1 ++ (l2 ++ l3), by simp only [encBlock, e1, e2, e3]; rfl, by simp only [List.append_assoc], ?_⟩
  simp only [plainBlock, g3]
  rw [show os.map plainOp = os from by conv => rhs; rw [← List.map_id os]
                                       exact List.map_congr_left g2]
theorem backs_func : Backs rdFunc encFunc (fun f => plainFunc f = f) := by
  intro L f X h
  obtain ⟨t, r, h1, h2⟩ := bind_ok h
  obtain ⟨bs, r', h3, h4⟩ := bind_ok h2
  cases h4
  obtain ⟨l1, e1, rfl, _⟩ := backs_num _ _ _ h1
  obtain ⟨l2, e2, rfl, g2⟩ := backs_list 40 backs_block _ _ _ h3
  refine ⟨l1 ++ l2, by simp only [encFunc, e1, e2]; rfl, by simp only [List.append_assoc], ?_⟩
  simp only [plainFunc]
  rw [show bs.map plainBlock = bs from by conv => rhs; rw [← List.map_id bs]
                                          exact List.map_congr_left g2]
theorem backs_sig : Backs rdSig encSig (fun _ => True) := by
  intro L s X h
  obtain ⟨ps, r, h1, h2⟩ := bind_ok h
  obtain ⟨t, r', h3, h4⟩ := bind_ok h2
  cases h4
  obtain ⟨l1, e1, rfl, _⟩ := backs_nums 8 _ _ _ h1
  obtain ⟨l2, e2, rfl, g2⟩ := backs_num _ _ _ h3
  exact ⟨l1 ++ l2, by simp only [encSig, e1, e2]; rfl, by simp only [List.append_assoc], trivial⟩
theorem backs_class : Backs rdClass encClass (fun _ => True) := by
  intro L s X h
  obtain ⟨ps, r, h1, h2⟩ := bind_ok h
  obtain ⟨t, r', h3, h4⟩ := bind_ok h2
  cases h4
  obtain ⟨l1, e1, rfl, _⟩ := backs_nums 8 _ _ _ h1
  obtain ⟨l2, e2, rfl, g2⟩ := backs_nums 4 _ _ _ h3
  exact ⟨l1 ++ l2, by simp only [encClass, e1, e2]; rfl, by simp only [List.append_assoc], trivial⟩
/-- The program that bytes are is written as these bytes. -/
theorem backs_prog : Backs rdProg encProg (fun p => plainProg p = p) := by
  intro L s X h
  obtain ⟨ss, r, h1, h2⟩ := bind_ok h
  obtain ⟨cs, r', h3, h4⟩ := bind_ok h2
  obtain ⟨fs, r2, h5, h6⟩ := bind_ok h4
  cases h6
  obtain ⟨l1, e1, rfl, _⟩ := backs_list 4 backs_sig _ _ _ h1
  obtain ⟨l2, e2, rfl, _⟩ := backs_list 8 backs_class _ _ _ h3
  obtain ⟨l3, e3, rfl, g3⟩ := backs_list 16 backs_func _ _ _ h5
  refine ⟨l1 ++ (l2 ++ l3), by simp only [encProg, e1, e2, e3]; rfl, by simp only [List.append_assoc], ?_⟩
  simp only [plainProg]
  rw [show fs.map plainFunc = fs from by conv => rhs; rw [← List.map_id fs]
                                         exact List.map_congr_left g3]
end Go.Proofs.YtfnkmigcklmghaaDoor

/- Layer 5: what is written of a program is what is written of it without what plays no part (P5.3). Nothing of the program is named here. -/
namespace Go.Proofs.YtfnkmigcklmghaaDoor
set_option linter.unusedVariables false
set_option linter.unusedSimpArgs false

theorem encField_plain (o : OpD) (f : UInt8) (hf : f ∈ fieldsL o.K) : encField (plainOp o) f = encField o f := by
  have hb : hasB o.K f = true := by simpa [hasB] using hf
  have h7 := (sevenL_of o.K).2 f hf
  simp only [sevenL, List.mem_cons, List.not_mem_nil, or_false] at h7
  rcases h7 with rfl | rfl | rfl | rfl | rfl | rfl | rfl
  all_goals simp [encField, plainOp, pickI, pickS, pickL, hb]
theorem encAll_same {α : Type} {f g : α → Out} : ∀ xs : List α, (∀ x ∈ xs, f x = g x) → encAll f xs = encAll g xs
  | [], _ => rfl
  | x :: xs, h => by rw [encAll, encAll, h x (by simp), encAll_same xs fun y hy => h y (by simp [hy])]
theorem encOp_plain (o : OpD) : encOp (plainOp o) = encOp o := by
  show (outBelow o.K 26).and (encAll (encField (plainOp o)) (fieldsL o.K)) = _
  rw [encAll_same (fieldsL o.K) (encField_plain o)]
  rfl
theorem encEnd_plain (e : EndD) : encEnd (plainEnd e) = encEnd e := by
  obtain ⟨K, A, To, El, L, M⟩ := e
  by_cases h0 : K = 0
  · subst h0; rfl
  · by_cases h1 : K = 1
    · subst h1; rfl
    · by_cases h2 : K = 2 ∨ K = 3
      · simp only [encEnd, encRest, plainEnd, h0, h1, h2, if_true, if_false]
      · have hn : outBelow K 4 = .no 4 := outBelow_no (by omega)
        simp only [encEnd, encRest, plainEnd, h0, h1, h2, if_true, if_false, hn, Out.and]
theorem encAll_map {α β : Type} (f : β → Out) (g : α → β) : ∀ xs : List α, encAll f (xs.map g) = encAll (fun x => f (g x)) xs
  | [] => rfl
  | x :: xs => by rw [List.map_cons, encAll, encAll, encAll_map f g xs]
theorem encList_map {α : Type} (most : Nat) {f : α → Out} {g : α → α} (h : ∀ x, f (g x) = f x) (xs : List α) : encList most f (xs.map g) = encList most f xs := by
  unfold encList
  rw [List.length_map, encAll_map, funext h]
theorem encBlock_plain (b : BlockD) : encBlock (plainBlock b) = encBlock b := by
  unfold encBlock plainBlock
  simp only [encList_map 700 encOp_plain, encEnd_plain]
theorem encFunc_plain (f : FuncD) : encFunc (plainFunc f) = encFunc f := by
  unfold encFunc plainFunc
  simp only [encList_map 40 encBlock_plain]
/-- W writes the program itself; the document's Encode is handed its own copy of it. -/
theorem encProg_plain (p : ProgD) : encProg (plainProg p) = encProg p := by
  unfold encProg plainProg
  simp only [encList_map 16 encFunc_plain]
end Go.Proofs.YtfnkmigcklmghaaDoor
