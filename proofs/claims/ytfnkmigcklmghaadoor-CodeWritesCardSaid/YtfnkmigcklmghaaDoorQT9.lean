/- Layer 5: a step, read field by field (P5.1, P5.2); where a reader's walk through the fields stands. -/
import Derived.Test.YtfnkmigcklmghaaDoorQCodeCd
import Derived.Test.YtfnkmigcklmghaaDoorQCodeRh
import Derived.Test.YtfnkmigcklmghaaDoorQCodeWp
import Derived.Test.YtfnkmigcklmghaaDoorQKindPlainW
import Derived.Defers
import Derived.Recover
namespace Go.Proofs.YtfnkmigcklmghaaDoor
open Go.RowKit (wrap64 intOf Below)
set_option linter.unusedVariables false
set_option linter.unusedSimpArgs false

def rdField (o : OpD) (f : UInt8) (L : List UInt8) : PR OpD :=
  if f = 78 then (rdNum L).bind fun n r => .ok { o with N := n } r else if f = 83 then (rdText L).bind fun s r => .ok { o with S := s } r
  else if f = 65 then (rdNum L).bind fun n r => .ok { o with A := n } r else if f = 66 then (rdNum L).bind fun n r => .ok { o with B := n } r
  else if f = 67 then (rdNum L).bind fun n r => .ok { o with C := n } r else if f = 76 then (rdNums 8 L).bind fun l r => .ok { o with L := l } r
  else (rdTruth L).bind fun t r => .ok { o with T := t } r
def rdFields : OpD → List UInt8 → List UInt8 → PR OpD
  | o, [], L => .ok o L
  | o, f :: fs, L => (rdField o f L).bind fun o' r => rdFields o' fs r
def opZero (k : Int) : OpD := ⟨k, 0, 0, 0, 0, ⟨#[]⟩, [], false⟩
def rdOp (L : List UInt8) : PR OpD := (rdBelow 26 L).bind fun k r => rdFields (opZero k) (fieldsL k) r
theorem rdFields_append : ∀ (fs gs : List UInt8) (o : OpD) (L : List UInt8), rdFields o (fs ++ gs) L = (rdFields o fs L).bind fun o' r => rdFields o' gs r
  | [], gs, o, L => rfl
  | f :: fs, gs, o, L => by
    simp only [List.cons_append, rdFields]
    cases rdField o f L with
    | no e => rfl
    | ok o' r => simp only [PR.bind]; exact rdFields_append fs gs o' r
theorem rdFields_more {fs : List UInt8} {j : Nat} (h : j < fs.length) {o o' o'' : OpD} {L r r' : List UInt8} (h1 : rdFields o (fs.take j) L = .ok o' r) (h2 : rdField o' fs[j] r = .ok o'' r') : rdFields o (fs.take (j + 1)) L = .ok o'' r' := by
  rw [List.take_succ_eq_append_getElem h, rdFields_append, h1]
  simp only [PR.bind, rdFields, h2]
theorem rdFields_no {fs : List UInt8} {j : Nat} (h : j < fs.length) {o o' : OpD} {L r : List UInt8} {e : Int} (h1 : rdFields o (fs.take j) L = .ok o' r) (h2 : rdField o' fs[j] r = .no e) : rdFields o fs L = .no e := by
  conv => lhs; rw [← List.take_append_drop j fs]
  rw [rdFields_append, h1, List.drop_eq_getElem_cons h]
  simp only [PR.bind, rdFields, h2]
/-- A list stands among the fields at most once. -/
def letterSets : List (List UInt8) := [[78], [83], [78, 65, 66], [65], [65, 66], [78, 76, 75], [78, 65], [78, 75], [65, 66, 67], [75], [78, 76], [78, 65, 76], []]
theorem letters_in (K : Int) : letterSets.contains (fieldsL K) = true := by
  rcases kinds K with h | h
  · rcases h with rfl | rfl | rfl | rfl | rfl | rfl | rfl | rfl | rfl | rfl | rfl | rfl | rfl | rfl | rfl | rfl | rfl | rfl | rfl | rfl | rfl | rfl | rfl | rfl | rfl | rfl
    all_goals decide +kernel
  · rw [fields_none h]
    decide +kernel
theorem letters_once : letterSets.all (fun fs => (List.range 4).all fun j => !(fs[j]? == some 76) || !(fs.take j).contains 76) = true := by decide +kernel
theorem letter_once (K : Int) (j : Nat) (h : j < (fieldsL K).length) (hf : (fieldsL K)[j] = 76) : (76 : UInt8) ∉ (fieldsL K).take j := by
  have h1 := List.all_eq_true.1 letters_once (fieldsL K) (List.contains_iff_mem.1 (letters_in K))
  have h2 := List.all_eq_true.1 h1 j (List.mem_range.2 (by have := fields_le K; omega))
  intro hm
  rw [List.getElem?_eq_getElem h, hf] at h2
  have h3 : ((fieldsL K).take j).contains 76 = true := List.contains_iff_mem.2 hm
  rw [h3] at h2
  simp at h2
theorem rdText_size {L rest : List UInt8} {s : ByteArray} (h : rdText L = .ok s rest) : s.size ≤ 140737488351232 := by
  unfold rdText at h
  cases hc : rdCount 64 L with
  | no e => rw [hc] at h; cases h
  | ok m r =>
    rw [hc] at h
    simp only [PR.bind] at h
    split at h
    · cases h
      rw [mk_size, List.length_take]
      unfold rdCount at hc
      cases hn : rdNum L with
      | no e => rw [hn] at hc; cases hc
      | ok z r' =>
        rw [hn] at hc
        simp only [PR.bind] at hc
        split at hc
        · cases hc
        · split at hc
          · cases hc
          · cases hc; omega
    · cases h

def opCells (o : OpD) (l : Value) : List Value := [.int .i64 o.K, .int .i64 o.A, .int .i64 o.B, .int .i64 o.C, .int .i64 o.N, .string o.S, l, .bool o.T]
/-- Where a reader's walk through a step's fields stands: j of them are read, the iterator stands at p. -/
structure OpR (r B g off : Nat) (w : World) (bx ib : Nat) (K : Int) (L1 : List UInt8) (j p : Nat) (u : World) (o : OpD) (l : Value) (rest : List UInt8) : Prop where
  st : RSt r B g off 8 w bx rest u (opCells o l)
  rd : rdFields (opZero K) ((fieldsL K).take j) L1 = .ok o rest
  nums : NumsO u (From (w.heap.size + 1)) l o.L
  nil : (76 : UInt8) ∉ (fieldsL K).take j → l = .slice none 0 0
  rng : InR o.K ∧ InR o.A ∧ InR o.B ∧ InR o.C ∧ InR o.N ∧ o.S.size ≤ 140737488351232
  it : u.heap[ib]? = some (.stringIter (fstr K) p)
  ir : ib ≠ r
  ig : ib ≠ g
  ix : ib ≠ bx
  ge : w.heap.size + 1 ≤ ib
  il : ∀ b, l.ownBlock = some b → b ≠ ib
section
variable {r B g off : Nat} {w : World} {bx ib : Nat} {K : Int} {L1 : List UInt8} {j p : Nat} {u : World} {o : OpD} {l : Value} {rest : List UInt8}
theorem OpR.start {c : World} (h : RSt r B g off 8 w bx L1 c (opCells (opZero K) (.slice none 0 0))) (hs : w.heap.size + 1 ≤ c.heap.size) (hK : InR K) : OpR r B g off w bx c.heap.size K L1 0 0 (c.iter (fstr K) 0) (opZero K) (.slice none 0 0) L1 := by
  have hb : bx < c.heap.size := (Array.getElem?_eq_some_iff.1 h.box).1
  have hbl : Below c.heap.size c (c.iter (fstr K) 0) := (Below.refl _ _).alloc (Nat.le_refl _) _
  have hrl := h.rd.lt
  have hgl := h.cells.lt
  refine ⟨h.read (h.rd.since hbl) (Off.since hbl), rfl, NumsO.none _ _, fun _ => rfl, ⟨hK, InR.zero, InR.zero, InR.zero, InR.zero, Nat.zero_le _⟩, ?_, by omega, by omega, by omega, hs, fun b hb => by cases hb⟩
  have h := World.iter_heap c (fstr K) 0
  simpa [World.iter] using h
theorem OpR.move (h : OpR r B g off w bx ib K L1 j p u o l rest) : OpR r B g off w bx ib K L1 j (p + 1) (u.iterAt ib (fstr K) (p + 1)) o l rest := by
  have hs := iterAt_same u ib (fstr K) (p + 1)
  have hb := hs.bel 0 (Nat.zero_le _)
  have ho : Off (fun i => i = ib) u (u.iterAt ib (fstr K) (p + 1)) := ⟨hb.os, hb.tape, hb.output, hb.size, fun i _ hi => hs.same i hi⟩
  have hib : ib < u.heap.size := (Array.getElem?_eq_some_iff.1 h.it).1
  have hrl := h.st.rd.lt
  obtain ⟨c1, c2, T, e1, e2, e3, e4⟩ := h.st.win.obj
  have hge := h.ge
  refine ⟨⟨h.st.rd.stays ho (fun i hi => by have hi : i = ib := hi; subst hi; refine ⟨?_, h.ir⟩; have hgl : g < w.heap.size := (Array.getElem?_eq_some_iff.1 e1).1; have := h.st.gB; omega), ⟨ho.os.trans h.st.win.os, ho.tape.trans h.st.win.tape, ho.output.trans h.st.win.output, Nat.le_trans h.st.win.size ho.size, fun i hi h1 h2 => (hs.same i (by omega)).trans (h.st.win.block i hi h1 h2), c1, c2, T, e1, (hs.same g (fun e => h.ig e.symm)).trans e2, e3, e4⟩, h.st.cells.kept (hs.same g (fun e => h.ig e.symm)), h.st.len, (hs.same bx (fun e => h.ix e.symm)).trans h.st.box, h.st.nr, h.st.ng, h.st.gB, h.st.gr⟩, h.rd, ?_, h.nil, h.rng, Lib.iterAt_heap _ _ _ _ _ h.it, h.ir, h.ig, h.ix, h.ge, h.il⟩
  exact ⟨ownsRow_heap h.nums.1 (fun b hb _ => hs.same b (h.il b hb)), h.nums.2⟩
theorem OpR.drew (h : OpR r B g off w bx ib K L1 j p u o l rest) : OpR r B g off w bx ib K L1 j p u.drew o l rest :=
  ⟨h.st.drew, h.rd, h.nums.holds (fun b _ hb => ⟨rfl, hb⟩), h.nil, h.rng, h.it, h.ir, h.ig, h.ix, h.ge, h.il⟩
theorem op_round_r {u' : World} {o' : OpD} {l' : Value} {rest' : List UInt8} (h : OpR r B g off w bx ib K L1 j j u o l rest) (hlt : j < (fieldsL K).length) (h' : OpR r B g off w bx ib K L1 (j + 1) (j + 1) u' o' l' rest') :
    j + 1 ≤ (fieldsL K).length ∧ (fieldsL K).length - u'.iterPos ib < (fieldsL K).length - u.iterPos ib := by
  refine ⟨hlt, ?_⟩
  simp only [World.iterPos, h.it, h'.it]
  omega
end
end Go.Proofs.YtfnkmigcklmghaaDoor

/- Layer 5: what is given up by panic comes back as an error (code.through): with a writer. -/
namespace Go.Proofs.YtfnkmigcklmghaaDoor
open Go.RowKit (wrap64 intOf Below)
set_option linter.unusedVariables false
set_option linter.unusedSimpArgs false

theorem assert_errno (er : Int) (w : World) : (Instr.typeAssert (.iface 31 (.int .i64 er)) 20 31 false).run Tryd.prog w = .ok (.int .i64 er) w := by kernel_rfl
theorem catch_panic (p : Addr) (z er : Int) (w : World) (hc : w.cell? p = some (.int .i64 z)) (hz : w.frozen? p = false) :
    CallsD Tryd.prog 60 #[.pointer (some p)] (.panicking [{ v := .iface 31 (.int .i64 er), recovered := false }]) w fun e u' w' =>
      e = .returned (.tuple #[]) ∧ u' = .panicking [{ v := .iface 31 (.int .i64 er), recovered := true }] ∧ w' = w.setCell p (.int .i64 er) := by
  refine callsD_of_wpS Tryd.func60 rfl fun c₀ cs hu => ?_
  apply wpS_seq
  apply wpS_region
  simp [wpOpsS, go_sem, recoverD, hu, Tryd.ntmps60, Exit.thenS]
  apply wpS_seq
  apply wpS_region
  simp [wpOpsS, go_sem, Exit.thenS]
  refine wpS_cond (t := true) (by simp [Act.eval, Array.replicate]) ?_
  simp only [if_true]
  apply wpS_region
  simp [wpOpsS, go_sem, assert_errno, hc, hz, bodyPostS, results, Tryd.results60]
theorem catch_idle (p : Addr) (w : World) :
    CallsD Tryd.prog 60 #[.pointer (some p)] .returning w fun e u' w' => e = .returned (.tuple #[]) ∧ u' = .returning ∧ w' = w := by
  refine callsD_of_wpS Tryd.func60 rfl fun c₀ cs hu => ?_
  apply wpS_seq
  apply wpS_region
  simp [wpOpsS, go_sem, recoverD, hu, Tryd.ntmps60, Exit.thenS]
  apply wpS_seq
  apply wpS_region
  simp [wpOpsS, go_sem, Exit.thenS]
  refine wpS_cond (t := false) (by simp [Act.eval, Array.replicate]) ?_
  simp only [Bool.false_eq_true, if_false]
  refine wpS_of_wp (wp_skip ?_)
  cases c₀
  simp_all [bodyPostS, results, Tryd.results60]

/-- What comes of a walk: what has been written, or the error. -/
def ThPost (x B : Nat) (v : Value) (L : List UInt8) (o : Out) (w : World) (e : Ending) (w' : World) : Prop :=
  (∃ l v', o = .ok l ∧ e = .returned (.int .i64 0) ∧ WrAt w' x B v' (L ++ l) ∧ Off (WX x v) w w') ∨ (∃ er, o = .no er ∧ e = .returned (.int .i64 er) ∧ Off (WX x v) w w')
set_option maxRecDepth 100000 in
set_option maxHeartbeats 2000000 in
theorem through_wr (x B g off : Nat) (v : Value) (L : List UInt8) (S : Nat → Prop) (cs : List Value) (y : ProgD) (w : World) (h : WrAt w x B v L) (hl : L.length + 220000000 ≤ 140737488355328) (hw : WinAt w g off cs) (hq : ProgO w S cs y) (hg : g < B ∧ g ≠ x) (hS : ∀ b, S b → b < B ∧ b ≠ x) (hft : FT w) (hfb : 2 < B ∧ 2 ≠ x) :
    Calls Tryd.prog 27 #[.iface 63 (.pointer (some ⟨x, 0, none⟩)), .pointer (some ⟨g, off, none⟩)] w (ThPost x B v L (encProg y) w) := by
  have hmf : ∀ (fn : Fn) (first cap : Array Value) (w : World), (Instr.makeFunc fn first cap).run Tryd.prog w = .ok (.func fn first cap) w := fun _ _ _ _ => rfl
  have hb1 : Below w.heap.size w (w.alloc (.cells #[.int .i64 0] 31)) := (Below.refl _ _).alloc (Nat.le_refl _) _
  have HB := Lib.hid hb1
  have HN0 : ∀ b, S b → ¬ WX x v b := fun b hb => h.safe (hS b hb)
  have HN1 := h.safe hg
  have HW := Lib.hid (h.since hb1)
  have HWN := Lib.hid (hw.stays (X := WX x v) (Off.since hb1) HN1)
  have HQ := Lib.hid (ProgO.holds.off hq (X := WX x v) (Off.since hb1) HN0)
  have HF := Lib.hid (hft.since hb1)
  have HG := Lib.hid hg
  have HS := Lib.hid hS
  have HFB := Lib.hid hfb
  have hne : ¬ WX x v w.heap.size := fun hx => by
    rcases hx with hx | hx
    · have := h.lt; omega
    · have := (h.own hx).2; omega
  have hx := h.lt
  have HNE := Lib.hid hne
  have hnew := heap_alloc_new w (.cells #[.int .i64 0] 31)
  have HNW := Lib.hid hnew
  have HXW := Lib.hid h
  clear h hw hq hg hS hft hfb hb1 HN0 HN1 hne hnew
  go_enter_defers Tryd.func27, Tryd.ntmps27
  go_wp2_with fail
  refine (wk_prog x B g off v L S cs y _ HW.out hl HWN.out HQ.out HG.out HS.out HF.out HFB.out).mono ?_
  rintro e u2 (⟨l, v2, ho, rfl, hW, hO, hN⟩ | ⟨er, ho, rfl, hO⟩)
  · have hblk : u2.heap[w.heap.size]? = some (.cells #[.int .i64 0] 31 (0, 0)) := (hO.block w.heap.size (by simp) HNE.out).trans HNW.out
    have hcell : u2.cell? ⟨w.heap.size, 0, none⟩ = some (.int .i64 0) := by simp [World.cell?, hblk]
    have hfree : u2.frozen? ⟨w.heap.size, 0, none⟩ = false := by simp [World.frozen?, hblk]
    have HC := Lib.hid hcell
    have HR : RowKit.Hid (ThPost x B v L (encProg y) w (.returned (.int .i64 0)) u2) := Lib.hid (.inl ⟨l, v2, ho, rfl, hW, (Off.alloc (Off.refl _ _) _).trans hO⟩)
    clear hblk ho hW hO hN
    go_wp2_with fail
    rw [setCell_same HC.out]
    refine leaves_cons (f := 60) (args := #[.pointer (some ⟨w.heap.size, 0, none⟩)]) (by simp) (by simp [go_sem]) ?_
    refine (catch_idle ⟨w.heap.size, 0, none⟩ _).mono ?_
    rintro e u' w'' ⟨rfl, rfl, rfl⟩
    simp [Leaves, settle, results, Tryd.results27, go_sem, hcell]
    exact HR.out
  · have hblk : u2.heap[w.heap.size]? = some (.cells #[.int .i64 0] 31 (0, 0)) := (hO.block w.heap.size (by simp) HNE.out).trans HNW.out
    have hcell : u2.cell? ⟨w.heap.size, 0, none⟩ = some (.int .i64 0) := by simp [World.cell?, hblk]
    have hfree : u2.frozen? ⟨w.heap.size, 0, none⟩ = false := by simp [World.frozen?, hblk]
    have HR : RowKit.Hid (ThPost x B v L (encProg y) w (.returned (.int .i64 er)) (u2.setCell ⟨w.heap.size, 0, none⟩ (.int .i64 er))) := Lib.hid (.inr ⟨er, ho, rfl, ((Off.alloc (Off.refl _ _) _).trans hO).setCell (.inr (Nat.le_refl _)) _⟩)
    clear hblk ho hO
    go_wp2_with fail
    refine leaves_cons (f := 60) (args := #[.pointer (some ⟨w.heap.size, 0, none⟩)]) (by simp) (by simp [go_sem]) ?_
    refine (catch_panic ⟨w.heap.size, 0, none⟩ 0 er _ hcell hfree).mono ?_
    rintro e u' w'' ⟨rfl, rfl, rfl⟩
    simp [Leaves, settle, results, Tryd.results27, go_sem, hcell]
    exact HR.out
end Go.Proofs.YtfnkmigcklmghaaDoor

/- Layer 5: code.Encode: a program's bytes, or why none. -/
namespace Go.Proofs.YtfnkmigcklmghaaDoor
open Go.RowKit (wrap64 intOf Below)
set_option linter.unusedVariables false
set_option linter.unusedSimpArgs false

/-- What Encode comes to: too many bytes are none. -/
def outBytes (o : Out) : Out := match o with | .no e => .no e | .ok l => if 65536 < l.length then .no 2 else .ok l
def EncPost (o : Out) (w : World) (e : Ending) (w' : World) : Prop :=
  (∃ l va vn vc, o = .ok l ∧ e = .returned (.tuple #[.slice va vn vc, .int .i64 0]) ∧ OwnsB w' w.heap.size 5 (.slice va vn vc) l ∧ Below w.heap.size w w') ∨ (∃ er, o = .no er ∧ e = .returned (.tuple #[.slice none 0 0, .int .i64 er]) ∧ Below w.heap.size w w')
theorem encode_nil (w : World) : Calls Tryd.prog 10 #[.pointer none] w fun e w' => e = .returned (.tuple #[.slice none 0 0, .int .i64 1]) ∧ w = w' := by
  go_enter Tryd.func10, Tryd.ntmps10
  go_wp2
  go_ret2
  exact ⟨rfl, rfl⟩
theorem out_or (o : Out) : (∃ l, o = .ok l) ∨ ∃ er, o = .no er := by cases o <;> simp
/-- Which errors there are: none of them is 0. -/
theorem errs_list {α : Type} {f : α → Out} (hf : ∀ x e, f x = .no e → e = 2 ∨ e = 4) : ∀ xs : List α, ∀ e, encAll f xs = .no e → e = 2 ∨ e = 4
  | [], e, h => by cases h
  | x :: xs, e, h => by
    simp only [encAll] at h
    rcases out_or (f x) with ⟨l, h1⟩ | ⟨er, h1⟩
    · rw [h1] at h
      rcases out_or (encAll f xs) with ⟨m, h2⟩ | ⟨er, h2⟩
      · rw [h2] at h; cases h
      · rw [h2] at h; cases h; exact errs_list hf xs _ h2
    · rw [h1, Out.no_and] at h; cases h; exact hf x _ h1
theorem errs_and {a b : Out} (ha : ∀ e, a = .no e → e = 2 ∨ e = 4) (hb : ∀ e, b = .no e → e = 2 ∨ e = 4) : ∀ e, a.and b = .no e → e = 2 ∨ e = 4 := by
  intro e h
  cases a with
  | no x => rw [Out.no_and] at h; exact ha e h
  | ok l => cases b with
    | no x => cases h; exact hb _ rfl
    | ok m => cases h
theorem errs_num (z : Int) : ∀ e, encN z = .no e → e = 2 ∨ e = 4 := fun e h => by cases h
theorem errs_chk (b : Bool) (c : Int) (hc : c = 2 ∨ c = 4) : ∀ e, chk b c = .no e → e = 2 ∨ e = 4 := fun e h => by
  unfold chk at h
  split at h
  · cases h
  · cases h; exact hc
theorem errs_rows {α : Type} {f : α → Out} (most : Nat) (hf : ∀ x e, f x = .no e → e = 2 ∨ e = 4) (xs : List α) : ∀ e, encList most f xs = .no e → e = 2 ∨ e = 4 :=
  errs_and (errs_and (errs_num _) (errs_chk _ _ (.inl rfl))) (errs_list hf xs)
theorem errs_nums (most : Nat) (Z : List Int) : ∀ e, encNums most Z = .no e → e = 2 ∨ e = 4 := errs_rows most (fun z => errs_num z) Z
theorem errs_below (n b : Int) : ∀ e, outBelow n b = .no e → e = 2 ∨ e = 4 := errs_and (errs_num _) (errs_chk _ _ (.inr rfl))
theorem errs_field (o : OpD) (f : UInt8) : ∀ e, encField o f = .no e → e = 2 ∨ e = 4 := by
  unfold encField
  repeat' split
  all_goals first | exact errs_num _ | exact errs_nums _ _ | exact errs_and (errs_chk _ _ (.inl rfl)) (fun e h => by cases h)
theorem errs_op (o : OpD) : ∀ e, encOp o = .no e → e = 2 ∨ e = 4 := errs_and (errs_below _ _) (errs_list (fun f => errs_field o f) _)
theorem errs_end (y : EndD) : ∀ e, encEnd y = .no e → e = 2 ∨ e = 4 := by
  refine errs_and (errs_below _ _) ?_
  unfold encRest
  repeat' split
  · exact errs_and (errs_num _) (errs_nums _ _)
  · exact errs_and (errs_num _) (errs_and (errs_num _) (errs_and (errs_nums _ _) (errs_and (errs_num _) (errs_nums _ _))))
  · exact errs_num _
theorem errs_block (y : BlockD) : ∀ e, encBlock y = .no e → e = 2 ∨ e = 4 := errs_and (errs_nums _ _) (errs_and (errs_rows _ errs_op _) (errs_end _))
theorem errs_func (y : FuncD) : ∀ e, encFunc y = .no e → e = 2 ∨ e = 4 := errs_and (errs_num _) (errs_rows _ errs_block _)
theorem errs_sig (y : SigD) : ∀ e, encSig y = .no e → e = 2 ∨ e = 4 := errs_and (errs_nums _ _) (errs_num _)
theorem errs_cls (y : ClassD) : ∀ e, encClass y = .no e → e = 2 ∨ e = 4 := errs_and (errs_nums _ _) (errs_nums _ _)
theorem errs_prog (y : ProgD) : ∀ e, encProg y = .no e → e = 2 ∨ e = 4 := errs_and (errs_rows _ errs_sig _) (errs_and (errs_rows _ errs_cls _) (errs_rows _ errs_func _))

set_option maxRecDepth 100000 in
set_option maxHeartbeats 4000000 in
theorem encode_any (g off : Nat) (s c f : Value) (P : ProgD) (w : World) (hg : g < w.heap.size) (hc0 : w.cell? ⟨g, off, none⟩ = some s) (hc1 : w.cell? ⟨g, off + 1, none⟩ = some c) (hc2 : w.cell? ⟨g, off + 2, none⟩ = some f) (h : ProgQ w [s, c, f] P) (hft : FT w) (hsm : SmProg P) :
    Calls Tryd.prog 10 #[.pointer (some ⟨g, off, none⟩)] w (EncPost (outBytes (encProg (plainProg P))) w) := by
  have hb : Below w.heap.size w (w.alloc (.cells #[.slice none 0 0] 65)) := (Below.refl _ _).alloc (Nat.le_refl _) _
  have hz : (w.alloc (.cells #[.slice none 0 0] 65)).heap.size = w.heap.size + 1 := by simp
  have hd0 := (hb.cell (p := ⟨g, off, none⟩) hg).trans hc0
  have hd1 := (hb.cell (p := ⟨g, off + 1, none⟩) hg).trans hc1
  have hd2 := (hb.cell (p := ⟨g, off + 2, none⟩) hg).trans hc2
  have HB := Lib.hid hb
  have HQ := Lib.hid (ProgQ.lasts _ _ _ _ hb h)
  have HF := Lib.hid (hft.since hb)
  have HFL := Lib.hid hft.lt
  have HS := Lib.hid hsm
  have HNW := Lib.hid (heap_alloc_new w (.cells #[.slice none 0 0] 65))
  have hg1 : g < (w.alloc (.cells #[.slice none 0 0] 65)).heap.size := by rw [hz]; omega
  have HD0 := Lib.hid hd0
  have HD1 := Lib.hid hd1
  have HD2 := Lib.hid hd2
  have HG1 := Lib.hid hg1
  have HZ := Lib.hid hz
  clear h hft hsm hb hd0 hd1 hd2 hc0 hc1 hc2 hg1 hz
  go_enter Tryd.func10, Tryd.ntmps10
  go_wp2_with fail
  refine (copy_prog g off s c f P _ HG1.out HD0.out HD1.out HD2.out HQ.out HF.out HS.out).mono ?_
  rintro e w1 ⟨b, s', c', f', rfl, hbb, hwin, hpo, hb1⟩
  have hsz := HZ.out
  rw [hsz] at hbb hpo hb1
  have hx1 : w1.heap[w.heap.size]? = some (.cells #[.slice none 0 0] 65 (0, 0)) := (hb1.block w.heap.size (by omega)).trans HNW.out
  have hlb := hwin.lt
  have hwr : WrAt w1 w.heap.size w1.heap.size (.slice none 0 0) [] := ⟨hx1, World.ownsRow_nil _ _ _ 1, by omega, Nat.le_refl _⟩
  have HWR := Lib.hid hwr
  have HWI := Lib.hid hwin
  have HPO := Lib.hid (ProgO.holds.wider hpo (S' := fun k => k < w1.heap.size ∧ k ≠ w.heap.size) (fun k hk hs => ⟨hk, by have := hs.1; omega⟩))
  have HF1 := Lib.hid (HF.out.below hb1 (by have := HFL.out; omega))
  have HGB : RowKit.Hid (b < w1.heap.size ∧ b ≠ w.heap.size) := Lib.hid ⟨hlb, by omega⟩
  have HGF : RowKit.Hid (2 < w1.heap.size ∧ 2 ≠ w.heap.size) := Lib.hid (by have := HFL.out; constructor <;> omega)
  have HBW := Lib.hid (HB.out.trans (hb1.mono (Nat.le_succ _)))
  clear hsz hx1 hwr hwin hpo hb1
  go_wp2_with fail
  refine (through_wr w.heap.size w1.heap.size b 0 (.slice none 0 0) [] _ _ (plainProg P) w1 HWR.out (by decide) HWI.out HPO.out HGB.out (fun k hk => hk) HF1.out HGF.out).mono ?_
  rintro e w2 (⟨l, v', ho, rfl, hW, hO⟩ | ⟨er, ho, rfl, hO⟩)
  · have hbel : Below w.heap.size w w2 := HBW.out.trans (hO.below (by omega) (fun i hi => by rcases hi with rfl | hi <;> first | exact Nat.le_refl _ | cases hi))
    rw [List.nil_append] at hW
    obtain ⟨va, vn, vc, rfl, hat⟩ := hW.2.1.at
    have hvn : l.length = vn := hat.1
    have hcell := hW.cell
    have hown : OwnsB w2 w.heap.size 5 (.slice va vn vc) l := hW.2.1.mono (by omega)
    have hll : l.length ≤ 200000000 := Upto.prog _ l ho
    have HOW := Lib.hid hown
    have HBE := Lib.hid hbel
    have HHO := Lib.hid ho
    clear hat hW hO hown hbel ho
    by_cases hlong : 65536 < vn
    · have HR : RowKit.Hid (outBytes (encProg (plainProg P)) = .no 2) := Lib.hid (by rw [HHO.out]; simp only [outBytes]; rw [if_pos (by omega)])
      go_wp2_with fail
      go_ret2
      exact .inr ⟨2, HR.out, rfl, HBE.out⟩
    · have HR : RowKit.Hid (outBytes (encProg (plainProg P)) = .ok l) := Lib.hid (by rw [HHO.out]; simp only [outBytes]; rw [if_neg (by omega)])
      go_wp2_with fail
      go_ret2
      exact .inl ⟨l, va, vn, vc, HR.out, rfl, HOW.out, HBE.out⟩
  · have hbel : Below w.heap.size w w2 := HBW.out.trans (hO.below (by omega) (fun i hi => by rcases hi with rfl | hi <;> first | exact Nat.le_refl _ | cases hi))
    have HBE := Lib.hid hbel
    have HR : RowKit.Hid (outBytes (encProg (plainProg P)) = .no er) := Lib.hid (by rw [ho]; rfl)
    have her := errs_prog _ _ ho
    have hne : (er != 0) = true := by rw [bne_iff_ne]; omega
    clear hO hbel ho her
    go_wp2_with fail
    go_ret2
    exact .inr ⟨er, HR.out, rfl, HBE.out⟩
end Go.Proofs.YtfnkmigcklmghaaDoor
