/- Layer 5, plain: which program bytes are, or why none (P5.2). Nothing of the program is named here. -/
import Derived.Test.YtfnkmigcklmghaaDoorQCodePlain
import Derived.Test.YtfnkmigcklmghaaDoorQKindRef
import Derived.Test.YtfnkmigcklmghaaDoorQT0
import Derived.Deep.DeepCutAuto
namespace Go.Proofs.YtfnkmigcklmghaaDoor
set_option linter.unusedVariables false

/-- What was read, and what is left; or why none. -/
inductive PR (α : Type) where
  | no (e : Int)
  | ok (x : α) (rest : List UInt8)
def PR.bind {α β : Type} (p : PR α) (f : α → List UInt8 → PR β) : PR β := match p with | .no e => .no e | .ok x r => f x r
/-- Ten bytes tell a number. -/
theorem take_ten : ∀ (L : List UInt8) (i a n : Nat), i ≤ 9 → 10 ≤ n + i → takeL (L.take n) i a = takeL L i a
  | [], i, a, n, _, _ => by simp
  | c :: r, i, a, 0, hi, hn => by omega
  | c :: r, i, a, n + 1, hi, hn => by
    simp only [List.take_succ_cons, takeL]
    by_cases hb : (i = 9 ∧ 1 < c.toNat) ∨ (0 < i ∧ c.toNat = 0)
    · rw [if_pos hb, if_pos hb]
    · rw [if_neg hb, if_neg hb]
      by_cases hs : c.toNat < 128
      · rw [if_pos hs, if_pos hs]
      · rw [if_neg hs, if_neg hs]
        exact take_ten r (i + 1) _ n (by omega) (by omega)
def rdNum (L : List UInt8) : PR Int := if (takeL L 0 0).2.2 = 0 then .ok (takeL L 0 0).1 (L.drop (takeL L 0 0).2.1) else .no (takeL L 0 0).2.2
theorem rdNum_yes {L : List UInt8} {m : Int} {k : Nat} (h : Gives L m k) : rdNum L = .ok m (L.drop k) := by
  unfold rdNum Gives at *
  rw [h]
  rfl
theorem rdNum_no {L : List UInt8} {e : Int} (h : Fails L e) : rdNum L = .no e := by
  unfold rdNum
  obtain ⟨h1, h2⟩ := h
  rw [h1]
  rcases h2 with rfl | rfl <;> rfl
theorem Gives.ten {L : List UInt8} {m : Int} {k : Nat} (h : Gives L m k) : Gives (L.take 10) m k := by
  unfold Gives at *; rw [take_ten L 0 0 10 (by omega) (by omega)]; exact h
theorem Fails.ten {L : List UInt8} {e : Int} (h : Fails L e) : Fails (L.take 10) e := by
  refine ⟨?_, h.2⟩; rw [take_ten L 0 0 10 (by omega) (by omega)]; exact h.1
/-- A number in its bounds: of things, of kinds. -/
def rdBelow (bound : Int) (L : List UInt8) : PR Int := (rdNum L).bind fun n r => if 0 ≤ n ∧ n < bound then .ok n r else .no 4
def rdCount (most : Nat) (L : List UInt8) : PR Nat := (rdNum L).bind fun n r => if n < 0 then .no 4 else if (most : Int) < n then .no 2 else .ok n.toNat r
def rdTimes {α : Type} (f : List UInt8 → PR α) : Nat → List UInt8 → PR (List α)
  | 0, L => .ok [] L
  | n + 1, L => (f L).bind fun x r => (rdTimes f n r).bind fun xs r' => .ok (x :: xs) r'
def rdList {α : Type} (most : Nat) (f : List UInt8 → PR α) (L : List UInt8) : PR (List α) := (rdCount most L).bind fun n r => rdTimes f n r
def rdNums (most : Nat) (L : List UInt8) : PR (List Int) := rdList most rdNum L
/-- One more at the end. -/
theorem rdTimes_more {α : Type} (f : List UInt8 → PR α) : ∀ (n : Nat) (L : List UInt8), rdTimes f (n + 1) L = (rdTimes f n L).bind fun xs r => (f r).bind fun x r' => .ok (xs ++ [x]) r'
  | 0, L => by
    simp only [rdTimes, PR.bind]
    cases f L <;> rfl
  | n + 1, L => by
    have ih := rdTimes_more f n
    rw [show rdTimes f (n + 1 + 1) L = (f L).bind fun x r => (rdTimes f (n + 1) r).bind fun xs r' => .ok (x :: xs) r' from rfl]
    rw [show rdTimes f (n + 1) L = (f L).bind fun x r => (rdTimes f n r).bind fun xs r' => .ok (x :: xs) r' from rfl]
    cases hf : f L with
    | no e => rfl
    | ok x r =>
      simp only [PR.bind] at ih ⊢
      rw [ih r]
      cases rdTimes f n r with
      | no e => rfl
      | ok xs r' =>
        simp only
        cases f r' <;> rfl
theorem rdTimes_no {α : Type} {f : List UInt8 → PR α} {k : Nat} {L : List UInt8} {xs : List α} {r : List UInt8} {e : Int} (h1 : rdTimes f k L = .ok xs r) (h2 : f r = .no e) : ∀ {n : Nat}, k < n → rdTimes f n L = .no e
  | 0, h => absurd h (by omega)
  | n + 1, h => by
    rw [rdTimes_more]
    by_cases hk : k = n
    · subst hk; rw [h1]; simp only [PR.bind, h2]
    · rw [rdTimes_no h1 h2 (show k < n by omega)]; rfl
end Go.Proofs.YtfnkmigcklmghaaDoor

/- Layer 5, plain: which sig, class, .. bytes begin with (P5.1, P5.2). Nothing of the program is named here. -/
namespace Go.Proofs.YtfnkmigcklmghaaDoor
set_option linter.unusedVariables false

def rdSig (L : List UInt8) : PR SigD := (rdNums 8 L).bind fun ps r => (rdNum r).bind fun t r' => .ok ⟨ps, t⟩ r'
def rdClass (L : List UInt8) : PR ClassD := (rdNums 8 L).bind fun fs r => (rdNums 4 r).bind fun ms r' => .ok ⟨fs, ms⟩ r'
end Go.Proofs.YtfnkmigcklmghaaDoor

/- Layer 5, plain: which end bytes begin with (P5.1, P5.2). Nothing of the program is named here. -/
namespace Go.Proofs.YtfnkmigcklmghaaDoor
set_option linter.unusedVariables false

def rdTarget (L : List UInt8) : PR (Int × List Int) := (rdNum L).bind fun t r => (rdNums 8 r).bind fun Z r' => .ok (t, Z) r'
def rdEnd (L : List UInt8) : PR EndD := (rdBelow 4 L).bind fun k r =>
  if k = 0 then (rdTarget r).bind fun p r' => .ok ⟨k, 0, p.1, 0, p.2, []⟩ r'
  else if k = 1 then (rdNum r).bind fun a r1 => (rdTarget r1).bind fun p r2 => (rdTarget r2).bind fun q r3 => .ok ⟨k, a, p.1, q.1, p.2, q.2⟩ r3
  else (rdNum r).bind fun a r1 => .ok ⟨k, a, 0, 0, [], []⟩ r1
theorem set_parts {α : Type} {cs : List α} {i : Nat} (h : i < cs.length) (v : α) : cs.take i ++ [v] ++ cs.drop (i + 1) = cs.set i v := by
  rw [List.set_eq_take_append_cons_drop, if_pos h]
  simp
end Go.Proofs.YtfnkmigcklmghaaDoor

/- Layer 4, P4.1: whether two steps are one (hallmarklaw04.exact), and the document's Plain, walked. -/
namespace Go.Proofs.YtfnkmigcklmghaaDoor
open Go.RowKit (wrap64 intOf Below)
set_option linter.unusedVariables false

theorem sameB_self (Z : List Int) : sameB Z Z = true := by unfold sameB; simp
end Go.Proofs.YtfnkmigcklmghaaDoor

/- Layer 4, P4.1: the document's Uses, walked: the values that a step is of. -/
namespace Go.Proofs.YtfnkmigcklmghaaDoor
open Go.RowKit (wrap64 intOf Below)
set_option linter.unusedVariables false

def oneL (b : Bool) (x : Int) : List Int := if b then [x] else []
def usesL (K A B C : Int) (L : List Int) : List Int := oneL (hasB K 65) A ++ oneL (hasB K 66) B ++ oneL (hasB K 67) C ++ pickL (hasB K 76) L
theorem oneL_len (b : Bool) (x : Int) : (oneL b x).length ≤ 1 := by unfold oneL; split <;> simp
theorem cell_first {w w2 : World} {C0 : Array Value} {t0 : TypeId} (hb : Below (w.heap.size + 1) (w.alloc (.cells C0 t0)) w2) : ∀ j, w2.cell? ⟨w.heap.size, j, none⟩ = C0[j]? := fun j => by
  rw [hb.cell (p := ⟨w.heap.size, j, none⟩) (by simp), World.cell?_alloc_mark]

theorem first_size {w w2 : World} {C0 : Array Value} {t0 : TypeId} (hb : Below (w.heap.size + 1) (w.alloc (.cells C0 t0)) w2) : w.heap.size + 1 ≤ w2.heap.size := by
  have := hb.size
  simpa using this
theorem first_below {w w2 : World} {C0 : Array Value} {t0 : TypeId} (hb : Below (w.heap.size + 1) (w.alloc (.cells C0 t0)) w2) : Below w.heap.size w w2 :=
  ((Below.refl w.heap.size w).alloc (Nat.le_refl _) _).trans (hb.mono (by omega))

end Go.Proofs.YtfnkmigcklmghaaDoor

/- Layer 4, P4.2: the document's Flags, walked: what a step may do. -/
namespace Go.Proofs.YtfnkmigcklmghaaDoor
open Go.RowKit (wrap64 intOf Below)
set_option linter.unusedVariables false

def FlagsPost (f : Int) (w : World) (e : Ending) (w' : World) : Prop := e = .returned (.int .i64 f) ∧ Below w.heap.size w w'
end Go.Proofs.YtfnkmigcklmghaaDoor
