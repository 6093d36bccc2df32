/- Layer 7, plain: where blocks go, and in which order they are met and left: a walk that calls itself, and one by a list. Nothing of the program is named here. -/
import Derived.Test.YtdnihphnoibpgaaDeepAt
namespace Go.Proofs.Ytdnihphnoibpgaa
set_option linter.unusedVariables false

/-- Where an end goes, with which values. -/
def tgts (e : EndD) : List (Int × List Int) := if e.K = 0 then [(e.To, e.L)] else if e.K = 1 then [(e.To, e.L), (e.Else, e.M)] else []
def tos (e : EndD) : List Int := (tgts e).map (·.1)
def nextL (e : EndD) : List Int := if e.K = 0 then [e.To] else if e.K = 1 then (if e.To = e.Else then [e.To] else [e.To, e.Else]) else []
theorem mem_next {e : EndD} {n : Int} : n ∈ nextL e ↔ n ∈ tos e := by
  unfold nextL tos tgts
  split
  · simp
  · split
    · split
      · rename_i h; simp [h]
      · simp
    · simp
def noEnd : EndD := ⟨2, 0, 0, 0, [], []⟩
def theEnd (f : FuncD) (k : Nat) : EndD := match f.blocks[k]? with | some b => b.fin | none => noEnd
def toF (f : FuncD) (k : Nat) : List Int := tos (theEnd f k)
def nxF (f : FuncD) (k : Nat) : List Int := nextL (theEnd f k)

section
variable (N : Nat) (nx : Nat → List Int)
def There (N : Nat) (z : Int) : Prop := 0 ≤ z ∧ z < (N : Int)
instance (z : Int) : Decidable (There N z) := by unfold There; infer_instance
/-- A block walked: which were met, and left (the last one first). -/
def walkF : Nat → List Int × List Int → Int → List Int × List Int
  | 0, s, _ => s
  | k + 1, s, b => if ¬ There N b ∨ b ∈ s.1 then s else (((nx b.toNat).foldl (walkF k) (s.1 ++ [b], s.2)).1, b :: ((nx b.toNat).foldl (walkF k) (s.1 ++ [b], s.2)).2)
def Inv (met : List Int) : Prop := met.Nodup ∧ ∀ x ∈ met, There N x
end
section
variable {N : Nat} {nx : Nat → List Int}
theorem walkF_skip {k : Nat} {s : List Int × List Int} {b : Int} (h : ¬ There N b ∨ b ∈ s.1) : walkF N nx k s b = s := by
  cases k with
  | zero => rfl
  | succ k => unfold walkF; rw [if_pos h]
theorem walkF_go {k : Nat} {s : List Int × List Int} {b : Int} (h : There N b) (h2 : b ∉ s.1) : walkF N nx (k + 1) s b = (((nx b.toNat).foldl (walkF N nx k) (s.1 ++ [b], s.2)).1, b :: ((nx b.toNat).foldl (walkF N nx k) (s.1 ++ [b], s.2)).2) := by
  rw [walkF, if_neg (by intro h'; rcases h' with h' | h'; exact h' h; exact h2 h')]
theorem Inv.len {met : List Int} (h : Inv N met) : met.length ≤ N := by
  have h1 := List.Nodup.length_le_of_subset h.1 (l₂ := (List.range N).map Int.ofNat) (fun x hx => by
    have h0 := h.2 x hx
    obtain ⟨k, rfl⟩ := Int.eq_ofNat_of_zero_le h0.1
    exact List.mem_map.2 ⟨k, List.mem_range.2 (by have := h0.2; omega), rfl⟩)
  simpa using h1
theorem Inv.nil : Inv N [] := ⟨List.nodup_nil, fun x hx => by cases hx⟩
theorem Inv.more {met : List Int} {b : Int} (h : Inv N met) (hb : There N b) (hn : b ∉ met) : Inv N (met ++ [b]) :=
  ⟨List.nodup_append.2 ⟨h.1, by simp, fun a ha c hc e => by simp at hc; subst hc; subst e; exact hn ha⟩, fun x hx => by
    rcases List.mem_append.1 hx with hx | hx
    · exact h.2 x hx
    · simp at hx; subst hx; exact hb⟩
theorem Inv.room {met : List Int} {b : Int} (h : Inv N met) (hb : There N b) (hn : b ∉ met) : met.length < N := by
  have := (h.more hb hn).len
  simp at this
  omega
/-- What was met stays met. -/
theorem walk_mono : ∀ (k : Nat) (s : List Int × List Int) (b : Int), ∃ t u, (walkF N nx k s b).1 = s.1 ++ t ∧ (walkF N nx k s b).2 = u ++ s.2
  | 0, s, b => ⟨[], [], by simp [walkF], by simp [walkF]⟩
  | k + 1, s, b => by
    by_cases h : ¬ There N b ∨ b ∈ s.1
    · exact ⟨[], [], by rw [walkF_skip h]; simp, by rw [walkF_skip h]; simp⟩
    · have hT : There N b := Classical.byContradiction fun h' => h (.inl h')
      have hM : b ∉ s.1 := fun h' => h (.inr h')
      have fold : ∀ (l : List Int) (s : List Int × List Int), ∃ t u, (l.foldl (walkF N nx k) s).1 = s.1 ++ t ∧ (l.foldl (walkF N nx k) s).2 = u ++ s.2 := by
        intro l
        induction l with
        | nil => intro s; exact ⟨[], [], by simp, by simp⟩
        | cons n l ih =>
          intro s
          obtain ⟨t1, u1, h1, h2⟩ := walk_mono k s n
          obtain ⟨t2, u2, h3, h4⟩ := ih (walkF N nx k s n)
          exact ⟨t1 ++ t2, u2 ++ u1, by rw [List.foldl_cons, h3, h1, List.append_assoc], by rw [List.foldl_cons, h4, h2, List.append_assoc]⟩
      obtain ⟨t, u, h1, h2⟩ := fold (nx b.toNat) (s.1 ++ [b], s.2)
      rw [walkF_go hT hM]
      exact ⟨[b] ++ t, b :: u, by simp only; rw [h1]; simp, by simp only; rw [h2]; rfl⟩
theorem walk_met {k : Nat} {s : List Int × List Int} {b x : Int} (h : x ∈ s.1) : x ∈ (walkF N nx k s b).1 := by
  obtain ⟨t, u, h1, _⟩ := walk_mono (N := N) (nx := nx) k s b
  rw [h1]
  exact List.mem_append_left _ h
theorem walk_twice (k : Nat) (s : List Int × List Int) (b : Int) : walkF N nx k (walkF N nx k s b) b = walkF N nx k s b := by
  cases k with
  | zero => rfl
  | succ k =>
    by_cases h : ¬ There N b ∨ b ∈ s.1
    · rw [walkF_skip h, walkF_skip h]
    · have hT : There N b := Classical.byContradiction fun h' => h (.inl h')
      have hM : b ∉ s.1 := fun h' => h (.inr h')
      refine walkF_skip (.inr ?_)
      rw [walkF_go hT hM]
      have fold : ∀ (l : List Int) (s : List Int × List Int), b ∈ s.1 → b ∈ (l.foldl (walkF N nx k) s).1 := by
        intro l
        induction l with
        | nil => intro s h; exact h
        | cons n l ih => intro s h; exact ih _ (walk_met h)
      exact fold _ _ (by simp)
end
/-- It is the same whether a block that is named twice is asked for once or twice. -/
theorem fold_next {N : Nat} {nx : Nat → List Int} (k : Nat) (s : List Int × List Int) (e : EndD) : (tos e).foldl (walkF N nx k) s = (nextL e).foldl (walkF N nx k) s := by
  unfold tos nextL tgts
  split
  · rfl
  · split
    · split
      · rename_i h
        simp only [List.map_cons, List.map_nil, List.foldl_cons, List.foldl_nil, ← h, walk_twice]
      · rfl
    · rfl
theorem walk_same (f : FuncD) (N : Nat) : ∀ (k : Nat) (s : List Int × List Int) (b : Int), walkF N (toF f) k s b = walkF N (nxF f) k s b
  | 0, s, b => rfl
  | k + 1, s, b => by
    have hf : walkF N (toF f) k = walkF N (nxF f) k := funext fun s => funext fun b => walk_same f N k s b
    by_cases h : ¬ There N b ∨ b ∈ s.1
    · rw [walkF_skip h, walkF_skip h]
    · have hT : There N b := Classical.byContradiction fun h' => h (.inl h')
      have hM : b ∉ s.1 := fun h' => h (.inr h')
      rw [walkF_go hT hM, walkF_go hT hM, hf]
      unfold toF
      rw [fold_next]
      rfl

section
variable {N : Nat} {nx : Nat → List Int}
/-- What a walk adds. -/
structure Adds (N : Nat) (nx : Nat → List Int) (s s' : List Int × List Int) (from_ : Int → Prop) (t u : List Int) : Prop where
  met : s'.1 = s.1 ++ t
  left : s'.2 = u ++ s.2
  perm : u.Perm t
  inv : Inv N s'.1
  pred : ∀ x ∈ t, from_ x ∨ ∃ p ∈ t, x ∈ nx p.toNat
  clos : ∀ p ∈ t, ∀ n ∈ nx p.toNat, There N n → n ∈ s'.1
theorem walk_adds : ∀ (k : Nat) (s : List Int × List Int) (b : Int), Inv N s.1 → N - s.1.length < k → ∃ t u, Adds N nx s (walkF N nx k s b) (fun x => x = b) t u ∧ (There N b → b ∈ (walkF N nx k s b).1)
  | 0, s, b, _, h => absurd h (by omega)
  | k + 1, s, b, hi, hk => by
    by_cases h : ¬ There N b ∨ b ∈ s.1
    · rw [walkF_skip h]
      exact ⟨[], [], ⟨by simp, by simp, List.Perm.nil, hi, fun x hx => by simp at hx, fun x hx => by simp at hx⟩, fun hT => by rcases h with h | h; exact absurd hT h; exact h⟩
    · have hT : There N b := Classical.byContradiction fun h' => h (.inl h')
      have hM : b ∉ s.1 := fun h' => h (.inr h')
      have fold : ∀ (l : List Int) (s : List Int × List Int), Inv N s.1 → N - s.1.length < k → ∃ t u, Adds N nx s (l.foldl (walkF N nx k) s) (fun x => x ∈ l) t u ∧ ∀ n ∈ l, There N n → n ∈ (l.foldl (walkF N nx k) s).1 := by
        intro l
        induction l with
        | nil => intro s hi hk; exact ⟨[], [], ⟨by simp, by simp, List.Perm.nil, hi, fun x hx => by simp at hx, fun x hx => by simp at hx⟩, fun n hn => by simp at hn⟩
        | cons n l ih =>
          intro s hi hk
          obtain ⟨t1, u1, a1, b1⟩ := walk_adds k s n hi hk
          obtain ⟨t2, u2, a2, b2⟩ := ih (walkF N nx k s n) a1.inv (by rw [a1.met, List.length_append]; omega)
          rw [List.foldl_cons]
          have sub : ∀ x, x ∈ (walkF N nx k s n).1 → x ∈ (l.foldl (walkF N nx k) (walkF N nx k s n)).1 := fun x hx => by rw [a2.met]; exact List.mem_append_left _ hx
          refine ⟨t1 ++ t2, u2 ++ u1, ⟨by rw [a2.met, a1.met, List.append_assoc], by rw [a2.left, a1.left, List.append_assoc], List.perm_append_comm.trans (a1.perm.append a2.perm), a2.inv, fun x hx => ?_, fun p hp m hm hT => ?_⟩, fun m hm hT => ?_⟩
          · rcases List.mem_append.1 hx with hx | hx
            · rcases a1.pred x hx with rfl | ⟨p, hp, h⟩
              · exact .inl (by simp)
              · exact .inr ⟨p, List.mem_append_left _ hp, h⟩
            · rcases a2.pred x hx with h | ⟨p, hp, h⟩
              · exact .inl (by simp [h])
              · exact .inr ⟨p, List.mem_append_right _ hp, h⟩
          · rcases List.mem_append.1 hp with hp | hp
            · exact sub _ (a1.clos p hp m hm hT)
            · exact a2.clos p hp m hm hT
          · rcases List.mem_cons.1 hm with rfl | hm
            · exact sub _ (b1 hT)
            · exact b2 m hm hT
      have hroom := hi.room hT hM
      obtain ⟨t, u, a, c⟩ := fold (nx b.toNat) (s.1 ++ [b], s.2) (hi.more hT hM) (by simp; omega)
      rw [walkF_go hT hM]
      refine ⟨b :: t, b :: u, ⟨by simp only; rw [a.met]; simp, by simp only; rw [a.left]; rfl, a.perm.cons b, a.inv, fun x hx => ?_, fun p hp n hn hTn => ?_⟩, fun _ => by simp only; rw [a.met]; simp⟩
      · rcases List.mem_cons.1 hx with rfl | hx
        · exact .inl rfl
        · rcases a.pred x hx with h | ⟨p, hp, h⟩
          · exact .inr ⟨b, by simp, h⟩
          · exact .inr ⟨p, by simp [hp], h⟩
      · rcases List.mem_cons.1 hp with rfl | hp
        · exact c n hn hTn
        · exact a.clos p hp n hn hTn

/-! ## The walk by a list -/
/-- The first block that is there, and was not met. -/
def firstUn (N : Nat) (met : List Int) (l : List Int) : Option Int := l.find? fun n => decide (There N n ∧ n ∉ met)
/-- A walk by a list (the last one first): it tells all that are left, F in all. -/
inductive Runs (N : Nat) (to_ : Nat → List Int) : List Int → List Int → List Int → List Int → Prop
  | done (met F : List Int) : Runs N to_ [] met F F
  | push {b n : Int} {way met left F : List Int} : firstUn N met (to_ b.toNat) = some n → Runs N to_ (n :: b :: way) (met ++ [n]) left F → Runs N to_ (b :: way) met left F
  | pop {b : Int} {way met left F : List Int} : firstUn N met (to_ b.toNat) = none → Runs N to_ way met (left ++ [b]) F → Runs N to_ (b :: way) met left F
theorem runs_walk : ∀ (k : Nat) (s : List Int × List Int) (b : Int) (way F : List Int), Inv N s.1 → N - s.1.length < k → There N b → b ∉ s.1 → Runs N nx way (walkF N nx k s b).1 (walkF N nx k s b).2.reverse F → Runs N nx (b :: way) (s.1 ++ [b]) s.2.reverse F
  | 0, s, b, _, _, _, h, _, _, _ => absurd h (by omega)
  | k + 1, s, b, way, F, hi, hk, hT, hM, hr => by
    rw [walkF_go hT hM] at hr
    have scan : ∀ (l pre : List Int) (s : List Int × List Int), nx b.toNat = pre ++ l → (∀ x ∈ pre, ¬ There N x ∨ x ∈ s.1) → Inv N s.1 → N - s.1.length < k → Runs N nx way (l.foldl (walkF N nx k) s).1 (b :: (l.foldl (walkF N nx k) s).2).reverse F → Runs N nx (b :: way) s.1 s.2.reverse F := by
      intro l
      induction l with
      | nil =>
        intro pre s hp hpre hi hk hr
        refine .pop ?_ (by simpa using hr)
        unfold firstUn
        rw [List.find?_eq_none]
        intro x hx
        rw [hp, List.append_nil] at hx
        have := hpre x hx
        simp only [decide_eq_true_eq]
        intro h
        rcases this with h' | h'
        · exact h' h.1
        · exact h.2 h'
      | cons n l ih =>
        intro pre s hp hpre hi hk hr
        rw [List.foldl_cons] at hr
        by_cases h : ¬ There N n ∨ n ∈ s.1
        · rw [walkF_skip h] at hr
          exact ih (pre ++ [n]) s (by rw [hp]; simp) (fun x hx => by
            rcases List.mem_append.1 hx with hx | hx
            · exact hpre x hx
            · simp at hx; subst hx; exact h) hi hk hr
        · have hTn : There N n := Classical.byContradiction fun h' => h (.inl h')
          have hMn : n ∉ s.1 := fun h' => h (.inr h')
          obtain ⟨t, u, a, c⟩ := walk_adds (nx := nx) k s n hi hk
          refine .push (n := n) ?_ ?_
          · unfold firstUn
            rw [hp, List.find?_append, List.find?_eq_none.2, Option.none_or, List.find?_cons_of_pos]
            · simp [hTn, hMn]
            · intro x hx
              have := hpre x hx
              simp only [decide_eq_true_eq]
              intro h
              rcases this with h' | h'
              · exact h' h.1
              · exact h.2 h'
          · refine runs_walk k s n (b :: way) F hi hk hTn hMn ?_
            refine ih (pre ++ [n]) (walkF N nx k s n) (by rw [hp]; simp) (fun x hx => ?_) a.inv (by rw [a.met, List.length_append]; omega) hr
            rcases List.mem_append.1 hx with hx | hx
            · rcases hpre x hx with h' | h'
              · exact .inl h'
              · exact .inr (walk_met h')
            · simp at hx; subst hx; exact .inr (c hTn)
    have hroom := hi.room hT hM
    exact scan (nx b.toNat) [] (s.1 ++ [b], s.2) rfl (fun x hx => by simp at hx) (hi.more hT hM) (by simp; omega) hr
end

/-! ## The order -/
def walkAll (f : FuncD) : List Int × List Int := walkF f.blocks.length (nxF f) (f.blocks.length + 1) ([], []) 0
def orderL (f : FuncD) : List Int := (walkAll f).2
theorem runs_all (f : FuncD) (h : 0 < f.blocks.length) : Runs f.blocks.length (toF f) [0] [0] [] (orderL f).reverse := by
  have hw : walkAll f = walkF f.blocks.length (toF f) (f.blocks.length + 1) ([], []) 0 := (walk_same f _ _ _ _).symm
  have := runs_walk (N := f.blocks.length) (nx := toF f) (f.blocks.length + 1) ([], []) 0 [] (orderL f).reverse Inv.nil (by simp) ⟨Int.le_refl _, by omega⟩ (by simp) (by unfold orderL; rw [hw]; exact .done _ _)
  simpa using this
structure Ordered (f : FuncD) (L : List Int) : Prop where
  nodup : L.Nodup
  there : ∀ x ∈ L, There f.blocks.length x
  pred : ∀ x ∈ L, x = 0 ∨ ∃ p ∈ L, x ∈ nxF f p.toNat
  clos : ∀ p ∈ L, ∀ n ∈ nxF f p.toNat, There f.blocks.length n → n ∈ L
theorem order_facts (f : FuncD) : Ordered f (orderL f) := by
  obtain ⟨t, u, a, c⟩ := walk_adds (N := f.blocks.length) (nx := nxF f) (f.blocks.length + 1) ([], []) 0 Inv.nil (by simp)
  have h1 : (walkAll f).1 = t := by have := a.met; simpa [walkAll] using this
  have h2 : orderL f = u := by have := a.left; simpa [orderL, walkAll] using this
  have hinv : Inv f.blocks.length t := by rw [← h1]; exact a.inv
  rw [h2]
  refine ⟨a.perm.nodup_iff.2 hinv.1, fun x hx => hinv.2 x (a.perm.mem_iff.1 hx), fun x hx => ?_, fun p hp n hn hT => ?_⟩
  · rcases a.pred x (a.perm.mem_iff.1 hx) with h | ⟨p, hp, h⟩
    · exact .inl h
    · exact .inr ⟨p, a.perm.mem_iff.2 hp, h⟩
  · have := a.clos p (a.perm.mem_iff.1 hp) n hn hT
    exact a.perm.mem_iff.2 (by rw [← h1]; exact this)
theorem order_nil {f : FuncD} (h : f.blocks.length = 0) : orderL f = [] := by
  have hT : ¬ There f.blocks.length 0 := fun hT => by have := hT.2; omega
  unfold orderL walkAll
  rw [walkF_skip (.inl hT)]
theorem order_head {f : FuncD} (h : 0 < f.blocks.length) : ∃ r, orderL f = 0 :: r := by
  unfold orderL walkAll
  rw [walkF_go ⟨Int.le_refl _, by omega⟩ (by simp)]
  exact ⟨_, rfl⟩
theorem order_len (f : FuncD) : (orderL f).length ≤ f.blocks.length := by
  have h := order_facts f
  exact Inv.len ⟨h.nodup, h.there⟩
end Go.Proofs.Ytdnihphnoibpgaa
