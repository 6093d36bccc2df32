/- A range over a function whose iterator keeps a state of its own in memory: what the consumer owns (told by the consumer, world by world) the iterator leaves alone, and the consumer leaves all else. No round leaves the loop. Nothing of the program is named here. -/
import Derived.RangeFuncNested
import Derived.RangeFuncBox
namespace Go.Proofs.Ytgncpiamokeohaa
open Go.RowKit
set_option linter.unusedVariables false

/-- The consumer's own blocks are cells. -/
def LiesO (O : World → Nat → Prop) (W : World) : Prop := ∀ i, O W i → ∃ o : Obj, W.heap[i]? = some o ∧ o.isCells = true
theorem LiesO.lt {O : World → Nat → Prop} {W : World} (h : LiesO O W) {i : Nat} (hi : O W i) : i < W.heap.size := by
  obtain ⟨o, ho, _⟩ := h i hi
  exact (Array.getElem?_eq_some_iff.1 ho).1
theorem LiesO.not {O : World → Nat → Prop} {W : World} (h : LiesO O W) {i : Nat} {o : Obj} (hi : W.heap[i]? = some o) (ho : o.isCells = false) : ¬ O W i := fun hx => by
  obtain ⟨o', ho', hc⟩ := h i hx
  rw [hi] at ho'; cases ho'; rw [ho] at hc; cases hc
/-- What the consumer owns does not hang on what it does not own. -/
def SteadyO (O : World → Nat → Prop) : Prop := ∀ W W' row, W.grownBy W' row → LiesO O W → (∀ r, row = some r → ¬ O W r) → ∀ i, O W' i ↔ O W i
theorem LiesO.step {O : World → Nat → Prop} (hO : SteadyO O) {W W' : World} {row : Option Nat} (h : LiesO O W) (hg : W.grownBy W' row) (hr : ∀ r, row = some r → ¬ O W r) : LiesO O W' := fun i hi => by
  have h1 := (hO W W' row hg h hr i).1 hi
  obtain ⟨o, ho, hc⟩ := h i h1
  exact ⟨o, (hg.block i (h.lt h1) (fun e => hr i e.symm h1)).trans ho, hc⟩
/-- What a round leaves as it was: all that the consumer does not own; and what it owns then is new, or was its own. -/
structure KeepO (O : World → Nat → Prop) (W W' : World) : Prop where
  size : W.heap.size ≤ W'.heap.size
  same : ∀ i, i < W.heap.size → ¬ O W i → W'.heap[i]? = W.heap[i]?
  new : ∀ i, O W' i → i < W.heap.size → O W i
  flow : W'.os = W.os ∧ W'.tape = W.tape ∧ W'.output = W.output
theorem KeepO.refl (O : World → Nat → Prop) (W : World) : KeepO O W W := ⟨Nat.le_refl _, fun _ _ _ => rfl, fun _ h _ => h, rfl, rfl, rfl⟩
theorem KeepO.trans {O : World → Nat → Prop} {X Y Z : World} (h : KeepO O X Y) (k : KeepO O Y Z) : KeepO O X Z :=
  ⟨Nat.le_trans h.size k.size, fun i hi hn => (k.same i (Nat.lt_of_lt_of_le hi h.size) (fun hy => hn (h.new i hy hi))).trans (h.same i hi hn), fun i hz hi => h.new i (k.new i hz (Nat.lt_of_lt_of_le hi h.size)) hi, k.flow.1.trans h.flow.1, k.flow.2.1.trans h.flow.2.1, k.flow.2.2.trans h.flow.2.2⟩
/-- Below what the consumer owns all stays. -/
theorem KeepO.below {O : World → Nat → Prop} {W W' : World} {B : Nat} (h : KeepO O W W') (hB : ∀ i, O W i → B ≤ i) (hs : B ≤ W.heap.size) : Below B W W' :=
  ⟨h.flow.1, h.flow.2.1, h.flow.2.2, h.size, fun k hk => h.same k (by omega) (fun e => by have := hB k e; omega)⟩
/-- What the iterator may do between two rounds, from the side of the consumer: new blocks, and the turn of one that was made since (from block n on) and is none of the consumer's. -/
def AbidesO {β : Type} (n : Nat) (O : World → Nat → Prop) (J : β → World → Prop) : Prop :=
  ∀ s W W' row, J s W → W.grownBy W' row → (∀ r, row = some r → n ≤ r ∧ ¬ O W r) → J s W'
theorem AbidesO.alloc {β : Type} {n : Nat} {O : World → Nat → Prop} {J : β → World → Prop} (h : AbidesO n O J) {s : β} {W : World} (o : Obj) (hs : J s W) : J s (W.alloc o) :=
  h s W _ none hs (World.grownBy_alloc W o none) (fun r e => by cases e)
theorem AbidesO.putObj {β : Type} {n : Nat} {O : World → Nat → Prop} {J : β → World → Prop} (h : AbidesO n O J) {s : β} {W : World} {l : Nat} (o' : Obj) (hs : J s W) (hl : n ≤ l) (hn : ¬ O W l) : J s (W.putObj l o') :=
  h s W _ (some l) hs (grownBy_putObj' W l o') (fun r e => by cases e; exact ⟨hl, hn⟩)
theorem AbidesO.setCell {β : Type} {n : Nat} {O : World → Nat → Prop} {J : β → World → Prop} (h : AbidesO n O J) {s : β} {W : World} {b : Nat} (v : Value) (hs : J s W) (hl : n ≤ b) (hn : ¬ O W b) : J s (W.setCell ⟨b, 0, none⟩ v) :=
  h s W _ (some b) hs (grownBy_setCell' W b v) (fun r e => by cases e; exact ⟨hl, hn⟩)
/-- An iterator with a state of its own: its contract; V: what each that comes is. -/
def SeqO {α : Type} (F : Fence) (n d : Nat) (P : Program) (g : Nat) (lb : Array Value) (encs : α → Array Value) (O : World → Nat → Prop) (S : List α → Prop) (V : α → Prop) (N : Nat) (w : World) : Prop :=
  ∀ (l : Nat) (J : List α → World → Prop) (W : World), Below w.heap.size w W → LiesO O W → AbidesO W.heap.size O J →
    (∀ pre x W1, J pre W1 → V x → pre.length < N → YieldAt F (n - d) P l (encs x) W1 fun e W' => e = .returned (.bool true) ∧ J (pre ++ [x]) W' ∧ KeepO O W1 W' ∧ LiesO O W') →
    J [] W →
    CallsIn F n P g (#[.func (.yield l) #[] #[]] ++ lb) W fun e W' => (∃ v, e = .returned v) ∧ ∃ xs, S xs ∧ J xs W'
/-- The end of a round's body: it goes on. -/
def postO {α : Type} (O : World → Nat → Prop) (I : List α → World → Prop) (xs : List α) (W : World) : Exit → Act → World → Prop
  | .normal, _, W' => KeepO O W W' ∧ I xs W'
  | _, _, _ => False

theorem wpIn_rangeFunc_O {F : Fence} {n d : Nat} {P : Program} {α : Type} {g : Operand} {ps : Array Tmp} {assign body : Code} {Q : Exit → Act → World → Prop} {a : Act} {w : World}
    {O : World → Nat → Prop} (hO : SteadyO O) (hro : F.round = none) (h1 : 1 ≤ n) {gf : Nat} {lb : Array Value} (hg : a.eval g = .func (.func gf) #[] lb) (hFg : F.fn gf) (eg : ∀ args w, (callFunc gf args).run P w = .ok (.enter gf args) w)
    {encs : α → Array Value} {S : List α → Prop} {V : α → Prop} {N : Nat} {w0 : World} (hseq : SeqO F (n - 1) d P gf lb encs O S V N w0) (hb0 : Below w0.heap.size w0 w) (hps : ∀ x, (encs x).size = ps.size)
    (I : List α → World → Prop) (hL : ∀ s W, I s W → LiesO O W) (hI : AbidesO w.heap.size O I) (h0 : I [] w)
    (Ax : α → Act → World → Prop) (hAx : ∀ x a' W W' row, Ax x a' W → W.grownBy W' row → (∀ r, row = some r → ∃ o : Obj, W.heap[r]? = some o ∧ o.isCells = false) → Ax x a' W')
    (hassign : ∀ (l : Nat) (pre : List α) (x : α) (W : World) (K : Act → World → Prop), I pre W → (∀ a' W', KeepO O W W' → I pre W' → Ax x a' W' → K a' W') →
      assign.wpIn (F.inRound l) (n - 1 - d) P (Exit.then K (fun _ _ _ => False)) { tmps := (ps.zip (encs x)).foldl (fun t (p, v) => t.setIfInBounds p v) a.tmps, defers := [] } W)
    (hbody : ∀ (l : Nat) (pre : List α) (x : α) (a' : Act) (W : World), w.heap.size ≤ l → (∃ r, W.heap[l]? = some (.loop r)) → I pre W → Ax x a' W → V x → pre.length < N → body.wpIn (F.inRound l) (n - 1 - d) P (postO O I (pre ++ [x]) W) a' W)
    (hdone : ∀ (D : Nat) (xs : List α) (W : World), w.heap.size ≤ D → S xs → I xs W → W.heap[D]? = some (.deferred (some [])) → Q .normal { a with defers := { target := .collected D, args := #[] } :: a.defers } W) :
    (Code.rangeFunc g ps assign body).wpIn F n P Q a w := by
  refine wpIn_rangeFunc ?_
  intro fn hfn
  rw [hro]
  obtain ⟨rc, hrc⟩ : ∃ rc : LoopState → Loop, rc = fun st => { state := st, pending := none, fn, tmps := a.tmps, params := ps, assign, body, defers := w.heap.size } := ⟨_, rfl⟩
  have e1 : ((w.alloc (.deferred (some []))).alloc (.loop (rc .ready))).heap[w.heap.size + 1]? = some (.loop (rc .ready)) := by
    have := World.alloc_heap_new (w.alloc (.deferred (some []))) (.loop (rc .ready))
    rwa [World.size_alloc] at this
  have e2 : ((w.alloc (.deferred (some []))).alloc (.loop (rc .ready))).heap[w.heap.size]? = some (.deferred (some [])) :=
    (Below.heap_alloc _ _ _ (by simp)).trans (World.alloc_heap_new w _)
  have e3 : w.heap.size + 2 = ((w.alloc (.deferred (some []))).alloc (.loop (rc .ready))).heap.size := by simp
  have e4 : Below w0.heap.size w0 ((w.alloc (.deferred (some []))).alloc (.loop (rc .ready))) :=
    hb0.trans ((((Below.refl _ w).alloc (Nat.le_refl _) _).alloc (by simp) _).mono hb0.size)
  have e5 : I [] ((w.alloc (.deferred (some []))).alloc (.loop (rc .ready))) := hI.alloc _ (hI.alloc _ h0)
  have hen := run_enterLoop_outer (P := P) (w := w) fn a.tmps ps assign body
  rw [show (Loop.mk .ready none fn a.tmps ps assign body w.heap.size) = rc .ready by rw [hrc]] at hen
  generalize (w.alloc (.deferred (some []))).alloc (.loop (rc .ready)) = W1 at hen e1 e2 e3 e4 e5
  refine ⟨w.heap.size + 1, [{ target := .collected w.heap.size, args := #[] }], W1, { target := .fn (.func gf) lb, args := #[.func (.yield (w.heap.size + 1)) #[] #[]] }, W1, gf,
    #[.func (.yield (w.heap.size + 1)) #[] #[]] ++ lb, W1, hen, ?_, ?_, ?_, fun _ => h1, ?_⟩
  · simp only [resolve, hg]
    simp [go_sem]
  · intro f' hf'; simp [Target.leads] at hf'; subst hf'; exact hFg
  · simp [invoke, go_sem, eg]
  -- what lies at the two blocks of book-keeping stays, for the consumer and for the iterator
  have book : ∀ {X Y : World} {row : Option Nat} {k : Nat} {o : Obj}, k < W1.heap.size → X.heap[k]? = some o → X.grownBy Y row → (∀ r, row = some r → W1.heap.size ≤ r ∧ ¬ O X r) → Y.heap[k]? = some o := by
    intro X Y row k o hk ho hg hr
    refine (hg.block k (Array.getElem?_eq_some_iff.1 ho).1 (fun e => ?_)).trans ho
    have := (hr k e.symm).1
    omega
  refine (hseq (w.heap.size + 1) (fun pre W => I pre W ∧ W.heap[w.heap.size + 1]? = some (.loop (rc .ready)) ∧ W.heap[w.heap.size]? = some (.deferred (some []))) W1 e4 (hL _ _ e5)
    (fun s X Y row hs hg hr => ⟨hI s X Y row hs.1 hg (fun r e => ⟨by have := (hr r e).1; omega, (hr r e).2⟩), book (by omega) hs.2.1 hg hr, book (by omega) hs.2.2 hg hr⟩) ?_ ⟨e5, e1, e2⟩).mono ?_
  · rintro pre x W ⟨hi, hl, hk⟩ hvx hlen
    have hy := run_yield (P := P) (args := encs x) hl (by rw [hrc]; exact hps x)
    rw [hrc] at hy
    refine ⟨fn, _, assign, body, hy, roundIn_of_wpIn hfn (hassign _ pre x W _ hi ?_)⟩
    clear hy
    intro a' Wa hka hia hax
    have hn1 := (hL _ _ hi).not hl rfl
    have hn2 := (hL _ _ hi).not hk rfl
    have hla : Wa.heap[w.heap.size + 1]? = some (.loop (rc .ready)) := (hka.same _ (Array.getElem?_eq_some_iff.1 hl).1 hn1).trans hl
    have hka2 : Wa.heap[w.heap.size]? = some (.deferred (some [])) := (hka.same _ (Array.getElem?_eq_some_iff.1 hk).1 hn2).trans hk
    have hm1 := (hL _ _ hia).not hla rfl
    have hm2 := (hL _ _ hia).not hka2 rfl
    have hlta : w.heap.size + 1 < Wa.heap.size := (Array.getElem?_eq_some_iff.1 hla).1
    refine ⟨_, run_beginRound hla (by rw [hrc]), ?_⟩
    obtain ⟨Wb, hWb⟩ : ∃ Wb, Wa.putObj (w.heap.size + 1) (.loop { rc .ready with state := .busy }) = Wb := ⟨_, rfl⟩
    have hlb : Wb.heap[w.heap.size + 1]? = some (.loop { rc .ready with state := .busy }) := by rw [← hWb]; exact World.putObj_heap_same hlta
    have hob : ∀ k, k ≠ w.heap.size + 1 → Wb.heap[k]? = Wa.heap[k]? := fun k hk => by rw [← hWb]; exact World.putObj_heap_other hk
    have hsb : Wb.heap.size = Wa.heap.size := by rw [← hWb]; simp
    have hib : I pre Wb := by rw [← hWb]; exact hI.putObj _ hia (by omega) hm1
    have haxb : Ax x a' Wb := hAx x a' Wa Wb (some (w.heap.size + 1)) hax (by rw [← hWb]; exact grownBy_putObj' _ _ _) (fun r e => by cases e; exact ⟨_, hla, rfl⟩)
    have howb : ∀ i, O Wb i ↔ O Wa i := hO Wa Wb (some (w.heap.size + 1)) (by rw [← hWb]; exact grownBy_putObj' _ _ _) (hL _ _ hia) (fun r e => by cases e; exact hm1)
    rw [hWb]
    refine wpIn_mono (hbody _ pre x a' Wb (by omega) ⟨_, hlb⟩ hib haxb hvx hlen) ?_
    rintro e a3 W3 hp
    cases e with
    | normal =>
      obtain ⟨hk3, hi3⟩ := hp
      have hl3 : W3.heap[w.heap.size + 1]? = some (.loop { rc .ready with state := .busy }) := (hk3.same _ (by omega) (fun h => hm1 ((howb _).1 h))).trans hlb
      have hkd3 : W3.heap[w.heap.size]? = some (.deferred (some [])) := (hk3.same _ (by omega) (fun h => hm2 ((howb _).1 h))).trans ((hob _ (by omega)).trans hka2)
      have hn3 := (hL _ _ hi3).not hl3 rfl
      have hlt3 := (Array.getElem?_eq_some_iff.1 hl3).1
      have hen3 := run_endRound (P := P) none hl3
      have how3 : ∀ i, O (W3.putObj (w.heap.size + 1) (.loop (rc .ready))) i ↔ O W3 i := hO _ _ (some (w.heap.size + 1)) (grownBy_putObj' _ _ _) (hL _ _ hi3) (fun r e => by cases e; exact hn3)
      refine ⟨_, W3.putObj (w.heap.size + 1) (.loop (rc .ready)), by rw [hrc] at hen3 ⊢; exact hen3, rfl, ⟨hI.putObj _ hi3 (by omega) hn3, World.putObj_heap_same hlt3, (World.putObj_heap_other (by omega)).trans hkd3⟩, ?_, ?_⟩
      · refine hka.trans ⟨by have := hk3.size; simp; omega, fun i hi hn => ?_, fun i ho hi => ?_, by have h := hk3.flow.1; rw [← hWb] at h; exact h, by have h := hk3.flow.2.1; rw [← hWb] at h; exact h, by have h := hk3.flow.2.2; rw [← hWb] at h; exact h⟩
        · by_cases e : i = w.heap.size + 1
          · subst e; exact (World.putObj_heap_same hlt3).trans hla.symm
          · exact (World.putObj_heap_other e).trans ((hk3.same i (by omega) (fun h => hn ((howb i).1 h))).trans (hob i e))
        · exact (howb i).1 (hk3.new i ((how3 i).1 ho) (by omega))
      · intro i ho
        obtain ⟨o, h1, h2⟩ := hL _ _ hi3 i ((how3 i).1 ho)
        refine ⟨o, (World.putObj_heap_other (fun e => ?_)).trans h1, h2⟩
        subst e; rw [hl3] at h1; cases h1; cases h2
    | ret => exact hp.elim
    | exit id => exact hp.elim
    | goto t => exact hp.elim
    | panic ch => exact hp.elim
    | outgrown => exact hp.elim
  · rintro e W2 ⟨⟨v, rfl⟩, xs, hS, hi, hl, hk⟩
    have hn2 := (hL _ _ hi).not hl rfl
    have hend : (Instr.endLoop (w.heap.size + 1)).run P W2 = .ok none (W2.putObj (w.heap.size + 1) (.loop (rc .exhausted))) := by
      have := run_endLoop (P := P) hl (by rw [hrc]; simp)
      rw [hrc] at this ⊢
      exact this
    exact ⟨none, _, hend, hdone _ xs _ (Nat.le_refl _) hS (hI.putObj _ hi (by omega) hn2) ((World.putObj_heap_other (by omega)).trans hk)⟩
end Go.Proofs.Ytgncpiamokeohaa
