/- Layer 4, P4.1: whether two steps are one (hallmarklaw04.exact), and the document's Plain, walked. -/
import Derived.Test.YtccajbgdlicbnaaDoorQCodePlain
import Derived.Test.YtccajbgdlicbnaaDoorQKindRef
import Derived.Test.YtccajbgdlicbnaaDoorQT0
import Derived.Deep.DeepCutAuto
import Derived.Deep.RegionHeld3
import Derived.Deep.RegionLaw
import Derived.Deep.AppendLies
import Derived.Deep.DrawnRows
import Derived.WalkSmall
namespace Go.Proofs.YtccajbgdlicbnaaDoor
open Go.RowKit (wrap64 intOf Below)
set_option linter.unusedVariables false

theorem sameB_self (Z : List Int) : sameB Z Z = true := by unfold sameB; simp
end Go.Proofs.YtccajbgdlicbnaaDoor

/- Layer 4, P4.1: the document's Uses, walked: the values that a step is of. -/
namespace Go.Proofs.YtccajbgdlicbnaaDoor
open Go.RowKit (wrap64 intOf Below)
set_option linter.unusedVariables false

def oneL (b : Bool) (x : Int) : List Int := if b then [x] else []
def usesL (K A B C : Int) (L : List Int) : List Int := oneL (hasB K 65) A ++ oneL (hasB K 66) B ++ oneL (hasB K 67) C ++ pickL (hasB K 76) L
theorem oneL_len (b : Bool) (x : Int) : (oneL b x).length ≤ 1 := by unfold oneL; split <;> simp
theorem cell_first {w w2 : World} {C0 : Array Value} {t0 : TypeId} (hb : Below (w.heap.size + 1) (w.alloc (.cells C0 t0)) w2) : ∀ j, w2.cell? ⟨w.heap.size, j, none⟩ = C0[j]? := fun j => by
  rw [hb.cell (p := ⟨w.heap.size, j, none⟩) (by simp), World.cell?_alloc_mark]

theorem first_size {w w2 : World} {C0 : Array Value} {t0 : TypeId} (hb : Below (w.heap.size + 1) (w.alloc (.cells C0 t0)) w2) : w.heap.size + 1 ≤ w2.heap.size := by
  have := hb.size
  simpa using this
theorem first_below {w w2 : World} {C0 : Array Value} {t0 : TypeId} (hb : Below (w.heap.size + 1) (w.alloc (.cells C0 t0)) w2) : Below w.heap.size w w2 :=
  ((Below.refl w.heap.size w).alloc (Nat.le_refl _) _).trans (hb.mono (by omega))

end Go.Proofs.YtccajbgdlicbnaaDoor

/- Layer 4, P4.2: the document's Flags, walked: what a step may do. -/
namespace Go.Proofs.YtccajbgdlicbnaaDoor
open Go.RowKit (wrap64 intOf Below)
set_option linter.unusedVariables false

def FlagsPost (f : Int) (w : World) (e : Ending) (w' : World) : Prop := e = .returned (.int .i64 f) ∧ Below w.heap.size w w'
end Go.Proofs.YtccajbgdlicbnaaDoor

/- Layer 5: the writer (code.writer): what it has written, and what its two calls make of it. -/
namespace Go.Proofs.YtccajbgdlicbnaaDoor
open Go.RowKit (wrap64 intOf Below)
set_option linter.unusedVariables false
attribute [local go_sem ↓] Go.wp_at_zero Go.wp_at_succ

/-- What a writer may turn. -/
def WX (x : Nat) (v : Value) : Nat → Prop := fun k => k = x ∨ v.ownBlock = some k
/-- Its memory is the same, or new. -/
def NewAt (w : World) (v v' : Value) : Prop := ∀ k, v'.ownBlock = some k → v.ownBlock = some k ∨ w.heap.size ≤ k
theorem NewAt.refl (w : World) (v : Value) : NewAt w v v := fun k h => .inl h
theorem NewAt.trans {w w1 : World} {v v1 v2 : Value} (h : NewAt w v v1) (h' : NewAt w1 v1 v2) (hs : w.heap.size ≤ w1.heap.size) : NewAt w v v2 := fun k hk => by
  rcases h' k hk with h1 | h1
  · exact h k h1
  · exact .inr (by omega)
/-- Two steps, one behind the other. -/
theorem Off.wr {w w1 w2 : World} {x : Nat} {v v1 : Value} (h : Off (WX x v) w w1) (hn : NewAt w v v1) (h' : Off (WX x v1) w1 w2) : Off (WX x v) w w2 :=
  h.trans_new h' (fun i hi => by
    rcases hi with rfl | hi
    · exact .inl (.inl rfl)
    · rcases hn i hi with h1 | h1
      · exact .inl (.inr h1)
      · exact .inr h1)

/-- 'append(b, x...)' at a step of a region that draws: b the call's own, x whatever is read. -/
theorem step_append_wr {P : Program} {u : World} {ops : Array Oper} {o : Oper} {a : Act} {K : Act → World → Prop} {Q : Exit → Act → World → Prop} {E : Prop} (hgd : o.guard = none) (s x : Operand) (t : TypeId)
    (ho : o.op = .call { callee := .builtin .append, args := #[s, x], argTypes := #[t, t] }) (e : TypeId) (ht : P.underlying t = some (.slice e))
    (hinfo : (P.info? e).map (fun i => (i.zero, i.size, i.bytes)) = some (some (.int .u8 0), 1, 1))
    (B : Nat) (v : Value) (l : List UInt8) (hs : a.eval s = v) (hown : OwnsB u B e v l) (hB : B ≤ u.heap.size)
    (xa : Option Addr) (m c : Nat) (news : List UInt8) (hx : a.eval x = .slice xa m c) (hat : BytesAt u xa m c news) (hpos : 0 < m) (hlen : l.length + m ≤ 140737488355328)
    (h : ∀ va vn vc w', OwnsB w' B e (.slice va vn vc) (l ++ news) → u.grownBy w' v.ownBlock → NewAt u v (.slice va vn vc) → K (a.put o.dst (.slice va vn vc)) w') :
    if Region.wanted o (yielded ops a.tmps) = true then Oper.wp P o a u K Q else E := by
  obtain ⟨i0, hi, hz0, hz1, hz2⟩ := info_parts hinfo
  obtain ⟨h1, h2, h3, h4, h5, h6⟩ := hat
  subst h1
  obtain ⟨g, off, rfl, hg⟩ := h5 hpos
  refine step_append_lies u hgd s x t ho B e i0 (.int .u8 0) 1 1 ht hi hz0 hz1 hz2 rfl (by decide) v l.length (l.map byteV) hs hown ⟨g, off, none⟩ news.length c (news.map byteV) hx (by simp) (fun j z hz => ?_) byteV_one hpos (by unfold maxLen; omega) (by omega) hB u.heap.size rfl ?_
  · rw [List.getElem?_map] at hz
    obtain ⟨y, hy, rfl⟩ := Option.map_eq_some_iff.1 hz
    obtain ⟨hj, rfl⟩ := List.getElem?_eq_some_iff.1 hy
    exact h6 _ rfl j hj
  · intro g' cap w' hown' hgrow hat' hlt
    refine h _ _ _ w' ?_ hgrow ?_
    · show w'.ownsRow B e 1 _ (l ++ news).length ((l ++ news).map byteV)
      rw [List.map_append, List.length_append]
      exact hown'
    · intro k hk
      simp only [Value.ownBlock, Option.some.injEq] at hk
      subst hk
      rcases hat' with h' | h'
      · exact .inl h'
      · exact .inr (by omega)

def outText (s : ByteArray) : Out := (chk (decide (s.size ≤ 64)) 2).and (.ok (putS s))
theorem putS_len {s : ByteArray} (h : s.size ≤ 64) : 1 ≤ (putS s).length ∧ (putS s).length ≤ 74 := by
  have := putL_len (s.size : Int)
  have := putL_pos (s.size : Int)
  simp only [putS, List.length_append, list_len]
  omega
end Go.Proofs.YtccajbgdlicbnaaDoor

/- Layer 5: the walk's small calls, with a writer. -/
namespace Go.Proofs.YtccajbgdlicbnaaDoor
open Go.RowKit (wrap64 intOf Below)
set_option linter.unusedVariables false
attribute [local go_sem ↓] Go.wp_at_zero Go.wp_at_succ

/-- Behind a new block of the call's own. -/
theorem Off.behind {w w1 : World} {x : Nat} {v : Value} {o : Obj} (h : Off (WX x v) (w.alloc o) w1) : Off (WX x v) w w1 :=
  (Off.alloc (Off.refl _ _) o).trans h
theorem NewAt.behind {w : World} {v v' : Value} {o : Obj} (h : NewAt (w.alloc o) v v') : NewAt w v v' := fun k hk => (h k hk).imp id (fun h' => by simp at h'; omega)

end Go.Proofs.YtccajbgdlicbnaaDoor

/- Layer 5: the walk's list, with a writer, at each type of what is listed (gen/wklist.py). -/
namespace Go.Proofs.YtccajbgdlicbnaaDoor
open Go.RowKit (wrap64 intOf Below)
set_option linter.unusedVariables false

theorem all_len {α : Type} {f : α → Out} {ub : Nat} (hu : ∀ y, Upto (f y) ub) {xs : List α} {k : Nat} {l : List UInt8} (h : encAll f (xs.take k) = .ok l) : l.length ≤ k * ub := by
  refine Nat.le_trans (Upto.all _ (fun y _ => hu y) l h) ?_
  exact Nat.mul_le_mul_right _ (List.length_take_le _ _)

end Go.Proofs.YtccajbgdlicbnaaDoor

/- Layer 5: what lies in memory of the call's own, as the walk's list wants it; its list of numbers with a writer. -/
namespace Go.Proofs.YtccajbgdlicbnaaDoor
open Go.RowKit (wrap64 intOf Below)
set_option linter.unusedVariables false
attribute [local go_sem ↓] Go.wp_at_zero Go.wp_at_succ

theorem NumsO.form {w : World} {S : Nat → Prop} {v : Value} {Z : List Int} (h : NumsO w S v Z) :
    ∃ a c g, v = .slice a Z.length c ∧ Z.length * 8 ≤ 140737488351232 ∧ (a = none → c = 0) ∧ (0 < Z.length → a = some ⟨g, 0, none⟩ ∧ S g) ∧ ∀ k (hk : k < Z.length), WinAt w g k [.int .i64 Z[k]] ∧ -9223372036854775808 ≤ Z[k] ∧ Z[k] ≤ 9223372036854775807 := by
  obtain ⟨h1, h2, h3, h4⟩ := h
  have hown := h1
  rcases h1.2 with ⟨rfl, h0⟩ | ⟨g, cap, cur, rfl, hB, hg, hc1, hc2, hc3, htake⟩
  · have h0' : Z.length = 0 := h0
    refine ⟨none, 0, 0, by rw [h0'], h3, fun _ => rfl, fun hp => absurd hp (by omega), fun k hk => absurd hk (by omega)⟩
  · refine ⟨_, cap, g, rfl, h3, (fun h => by cases h), fun hp => ⟨rfl, h2 g rfl⟩, fun k hk => ⟨⟨cur, _, hg, fun j hj => ?_⟩, h4 _ (List.getElem_mem hk)⟩⟩
    obtain rfl : j = 0 := by simpa using hj
    have hz : (Z.map numV)[k]? = some (.int .i64 Z[k]) := by simp [hk, numV]
    rw [← htake, List.getElem?_take] at hz
    split at hz
    · simpa using hz
    · cases hz
theorem RowO.form {α : Type} {T K : Nat} {Q : World → (Nat → Prop) → List Value → α → Prop} (hQ : Holds Q) {w : World} {S : Nat → Prop} {v : Value} {xs : List α} (h : RowO T K Q w S v xs) :
    ∃ a c g, v = .slice a xs.length c ∧ xs.length ≤ 140737488351232 ∧ (a = Option.none → c = 0) ∧ (0 < xs.length → a = some ⟨g, 0, Option.none⟩ ∧ S g) ∧ ∀ k (hk : k < xs.length), ∃ cs, cs.length = K ∧ WinAt w g (k * K) cs ∧ Q w S cs xs[k] := by
  obtain ⟨css, h1, h2, h3, h4, h5, h6⟩ := h
  have hown := h1
  rcases h1.2 with ⟨rfl, h0⟩ | ⟨g, cap, cur, rfl, hB, hg, hc1, hc2, hc3, htake⟩
  · refine ⟨Option.none, 0, 0, by rw [h0], h5, fun _ => rfl, fun hp => absurd hp (by omega), fun k hk => absurd hk (by omega)⟩
  · refine ⟨_, cap, g, rfl, h5, (fun h => by cases h), fun hp => ⟨rfl, h4 g rfl⟩, fun k hk => ?_⟩
    have hk' : k < css.length := by omega
    exact ⟨css[k], h3 _ (List.getElem_mem hk'), ownsRow_win hown h3 rfl hk', hQ.wider (h6 k hk hk') (fun b _ hb => hb.1)⟩

section
variable {x B : Nat} {v : Value} {w : World} {bx : Nat} {L : List UInt8} {u : World} {vu : Value}
end

end Go.Proofs.YtccajbgdlicbnaaDoor

/- Layer 5, plain: which program bytes are, or why none (P5.2). Nothing of the program is named here. -/
namespace Go.Proofs.YtccajbgdlicbnaaDoor
set_option linter.unusedVariables false

/-- What was read, and what is left; or why none. -/
inductive PR (α : Type) where
  | no (e : Int)
  | ok (x : α) (rest : List UInt8)
def PR.bind {α β : Type} (p : PR α) (f : α → List UInt8 → PR β) : PR β := match p with | .no e => .no e | .ok x r => f x r
/-- Ten bytes tell a number. -/
theorem take_ten : ∀ (L : List UInt8) (i a n : Nat), i ≤ 9 → 10 ≤ n + i → takeL (L.take n) i a = takeL L i a
  | [], i, a, n, _, _ => by simp
  | c :: r, i, a, 0, hi, hn => by omega
  | c :: r, i, a, n + 1, hi, hn => by
    simp only [List.take_succ_cons, takeL]
    by_cases hb : (i = 9 ∧ 1 < c.toNat) ∨ (0 < i ∧ c.toNat = 0)
    · rw [if_pos hb, if_pos hb]
    · rw [if_neg hb, if_neg hb]
      by_cases hs : c.toNat < 128
      · rw [if_pos hs, if_pos hs]
      · rw [if_neg hs, if_neg hs]
        exact take_ten r (i + 1) _ n (by omega) (by omega)
def rdNum (L : List UInt8) : PR Int := if (takeL L 0 0).2.2 = 0 then .ok (takeL L 0 0).1 (L.drop (takeL L 0 0).2.1) else .no (takeL L 0 0).2.2
theorem rdNum_yes {L : List UInt8} {m : Int} {k : Nat} (h : Gives L m k) : rdNum L = .ok m (L.drop k) := by
  unfold rdNum Gives at *
  rw [h]
  rfl
theorem rdNum_no {L : List UInt8} {e : Int} (h : Fails L e) : rdNum L = .no e := by
  unfold rdNum
  obtain ⟨h1, h2⟩ := h
  rw [h1]
  rcases h2 with rfl | rfl <;> rfl
theorem Gives.ten {L : List UInt8} {m : Int} {k : Nat} (h : Gives L m k) : Gives (L.take 10) m k := by
  unfold Gives at *; rw [take_ten L 0 0 10 (by omega) (by omega)]; exact h
theorem Fails.ten {L : List UInt8} {e : Int} (h : Fails L e) : Fails (L.take 10) e := by
  refine ⟨?_, h.2⟩; rw [take_ten L 0 0 10 (by omega) (by omega)]; exact h.1
/-- A number in its bounds: of things, of kinds. -/
def rdBelow (bound : Int) (L : List UInt8) : PR Int := (rdNum L).bind fun n r => if 0 ≤ n ∧ n < bound then .ok n r else .no 4
def rdCount (most : Nat) (L : List UInt8) : PR Nat := (rdNum L).bind fun n r => if n < 0 then .no 4 else if (most : Int) < n then .no 2 else .ok n.toNat r
def rdTimes {α : Type} (f : List UInt8 → PR α) : Nat → List UInt8 → PR (List α)
  | 0, L => .ok [] L
  | n + 1, L => (f L).bind fun x r => (rdTimes f n r).bind fun xs r' => .ok (x :: xs) r'
def rdList {α : Type} (most : Nat) (f : List UInt8 → PR α) (L : List UInt8) : PR (List α) := (rdCount most L).bind fun n r => rdTimes f n r
def rdNums (most : Nat) (L : List UInt8) : PR (List Int) := rdList most rdNum L
/-- One more at the end. -/
theorem rdTimes_more {α : Type} (f : List UInt8 → PR α) : ∀ (n : Nat) (L : List UInt8), rdTimes f (n + 1) L = (rdTimes f n L).bind fun xs r => (f r).bind fun x r' => .ok (xs ++ [x]) r'
  | 0, L => by
    simp only [rdTimes, PR.bind]
    cases f L <;> rfl
  | n + 1, L => by
    have ih := rdTimes_more f n
    rw [show rdTimes f (n + 1 + 1) L = (f L).bind fun x r => (rdTimes f (n + 1) r).bind fun xs r' => .ok (x :: xs) r' from rfl]
    rw [show rdTimes f (n + 1) L = (f L).bind fun x r => (rdTimes f n r).bind fun xs r' => .ok (x :: xs) r' from rfl]
    cases hf : f L with
    | no e => rfl
    | ok x r =>
      simp only [PR.bind] at ih ⊢
      rw [ih r]
      cases rdTimes f n r with
      | no e => rfl
      | ok xs r' =>
        simp only
        cases f r' <;> rfl
theorem rdTimes_no {α : Type} {f : List UInt8 → PR α} {k : Nat} {L : List UInt8} {xs : List α} {r : List UInt8} {e : Int} (h1 : rdTimes f k L = .ok xs r) (h2 : f r = .no e) : ∀ {n : Nat}, k < n → rdTimes f n L = .no e
  | 0, h => absurd h (by omega)
  | n + 1, h => by
    rw [rdTimes_more]
    by_cases hk : k = n
    · subst hk; rw [h1]; simp only [PR.bind, h2]
    · rw [rdTimes_no h1 h2 (show k < n by omega)]; rfl
end Go.Proofs.YtccajbgdlicbnaaDoor

/- Layer 5: the reader (code.reader): what is left to read, and what its two calls make of it. -/
namespace Go.Proofs.YtccajbgdlicbnaaDoor
open Go.RowKit (wrap64 intOf Below)
set_option linter.unusedVariables false
set_option linter.unusedSimpArgs false
attribute [local go_sem ↓] Go.wp_at_zero Go.wp_at_succ

/-- What a reader may turn. -/
def RX (r : Nat) : Nat → Prop := fun k => k = r
def intV (z : Int) : Value := .int .i64 z
theorem take_min {L : List UInt8} {n k : Nat} (h : L.length = n) : L.take (min k n) = L.take k := by
  by_cases hk : k ≤ n
  · rw [Nat.min_eq_left hk]
  · rw [Nat.min_eq_right (by omega), List.take_of_length_le (by omega), List.take_of_length_le (by omega)]
def rdText (L : List UInt8) : PR ByteArray := (rdCount 64 L).bind fun m r => if m ≤ r.length then .ok (mk (r.take m)) (r.drop m) else .no 3
theorem rdCount_yes {L : List UInt8} {most m k : Nat} (h : Counts L (most : Int) m k) : rdCount most L = .ok m (L.drop k) := by
  unfold rdCount
  rw [rdNum_yes h.1]
  simp only [PR.bind]
  rw [if_neg (by omega), if_neg (by have := h.2; omega)]
  simp
theorem rdCount_no {L : List UInt8} {most : Nat} {er : Int} (h : NoCount L (most : Int) er) : rdCount most L = .no er := by
  unfold rdCount
  rcases h with hf | ⟨m, k, hg, h⟩
  · rw [rdNum_no hf]; rfl
  · rw [rdNum_yes hg]
    simp only [PR.bind]
    rcases h with ⟨h1, rfl⟩ | ⟨h1, h2, rfl⟩
    · rw [if_pos h1]
    · rw [if_neg (by omega), if_pos h2]
theorem takeL_more (L : List UInt8) (n : Nat) (h : 10 ≤ n) : takeL (L.take n) 0 0 = takeL L 0 0 := take_ten L 0 0 n (by omega) (by omega)
def strV (s : ByteArray) : Value := .string s
end Go.Proofs.YtccajbgdlicbnaaDoor

/- Layer 5: the walk's small calls, with a reader. -/
namespace Go.Proofs.YtccajbgdlicbnaaDoor
open Go.RowKit (wrap64 intOf Below)
set_option linter.unusedVariables false
set_option linter.unusedSimpArgs false
attribute [local go_sem ↓] Go.wp_at_zero Go.wp_at_succ

theorem Off.rbehind {w w1 : World} {r : Nat} {o : Obj} (h : Off (RX r) (w.alloc o) w1) : Off (RX r) w w1 := (Off.alloc (Off.refl _ _) o).trans h
def natV (n : Nat) : Value := .int .i64 (n : Int)
def rdTruth (L : List UInt8) : PR Bool := (rdBelow 2 L).bind fun n r => .ok (n == 1) r
def boolV (b : Bool) : Value := .bool b
end Go.Proofs.YtccajbgdlicbnaaDoor

/- Layer 5: a window of cells that a reader's walk fills; the walk's whole with a reader. -/
namespace Go.Proofs.YtccajbgdlicbnaaDoor
open Go.RowKit (wrap64 intOf Below)
set_option linter.unusedVariables false
set_option linter.unusedSimpArgs false
attribute [local go_sem ↓] Go.wp_at_zero Go.wp_at_succ

/-- But for block r, the k cells of block g from off on, and what is new, all is as it was. -/
structure RWin (r g off k : Nat) (w w' : World) : Prop where
  os : w'.os = w.os
  tape : w'.tape = w.tape
  output : w'.output = w.output
  size : w.heap.size ≤ w'.heap.size
  block : ∀ b, b < w.heap.size → b ≠ r → b ≠ g → w'.heap[b]? = w.heap[b]?
  obj : ∃ cur cur' T, w.heap[g]? = some (.cells cur T (0, 0)) ∧ w'.heap[g]? = some (.cells cur' T (0, 0)) ∧ cur'.size = cur.size ∧ ∀ j, (j < off ∨ off + k ≤ j) → cur'[j]? = cur[j]?
section
variable {r g off k : Nat} {a b c w w' : World}
theorem RWin.of_off {cs : List Value} (h : Off (RX r) a b) (hw : WinAt a g off cs) (hg : g ≠ r) : RWin r g off k a b := by
  obtain ⟨cur, T, h1, _⟩ := hw
  exact ⟨h.os, h.tape, h.output, h.size, fun i hi h1 _ => h.block i hi h1, cur, cur, T, h1, (h.block g (Array.getElem?_eq_some_iff.1 h1).1 hg).trans h1, rfl, fun _ _ => rfl⟩
theorem RWin.trans (h : RWin r g off k a b) (h' : RWin r g off k b c) : RWin r g off k a c := by
  obtain ⟨c1, c2, T, e1, e2, e3, e4⟩ := h.obj
  obtain ⟨c3, c4, T', f1, f2, f3, f4⟩ := h'.obj
  rw [e2] at f1
  cases f1
  exact ⟨h'.os.trans h.os, h'.tape.trans h.tape, h'.output.trans h.output, Nat.le_trans h.size h'.size, fun i hi h1 h2 => (h'.block i (Nat.lt_of_lt_of_le hi h.size) h1 h2).trans (h.block i hi h1 h2), c1, c4, T, e1, f2, f3.trans e3, fun j hj => (f4 j hj).trans (e4 j hj)⟩
theorem RWin.wider {off' k' : Nat} (h : RWin r g off k a b) (h1 : off' ≤ off) (h2 : off + k ≤ off' + k') : RWin r g off' k' a b := by
  obtain ⟨c1, c2, T, e1, e2, e3, e4⟩ := h.obj
  exact ⟨h.os, h.tape, h.output, h.size, h.block, c1, c2, T, e1, e2, e3, fun j hj => e4 j (by omega)⟩
theorem RWin.offs (h : RWin r g off k a b) : Off (fun i => i = r ∨ i = g) a b :=
  ⟨h.os, h.tape, h.output, h.size, fun i hi hx => h.block i hi (fun e => hx (.inl e)) (fun e => hx (.inr e))⟩
/-- A store into the window. -/
theorem RWin.set {cs : List Value} {j : Nat} {v : Value} (hw : WinAt a g off cs) (hj : j < cs.length) (hk : j < k) : RWin r g off k a (a.setCell ⟨g, off + j, none⟩ v) ∧ WinAt (a.setCell ⟨g, off + j, none⟩ v) g off (cs.set j v) := by
  obtain ⟨cur, T, h1, h2⟩ := hw
  have hb : (a.setCell ⟨g, off + j, none⟩ v).heap[g]? = some (.cells (cur.setIfInBounds (off + j) v) T (0, 0)) := by
    simp only [World.setCell, Array.getElem?_modify, if_pos, h1]
    simp
  have hlt : off + j < cur.size := by
    have := h2 j hj
    exact (Array.getElem?_eq_some_iff.1 this).1
  refine ⟨⟨rfl, rfl, rfl, by simp [World.setCell], fun i hi _ hg => Below.heap_setCell _ _ _ _ hg, cur, _, T, h1, hb, by simp, fun i hi => ?_⟩, _, T, hb, fun i hi => ?_⟩
  · rw [Array.getElem?_setIfInBounds]
    rw [if_neg (by omega)]
  · simp only [List.length_set] at hi
    rw [Array.getElem?_setIfInBounds, List.getElem_set]
    by_cases hij : j = i
    · subst hij; rw [if_pos rfl, if_pos hlt, if_pos rfl]
    · rw [if_neg (by omega), if_neg hij]; exact h2 i hi
end
theorem WinAt.whole {w : World} {g off : Nat} {cs cs' : List Value} {o n : Nat} (h : WinAt w g off cs) (h' : WinAt w g (off + o) cs') (hn : cs'.length = n) (ho : o + n ≤ cs.length) : WinAt w g off (cs.take o ++ cs' ++ cs.drop (o + n)) := by
  obtain ⟨cur, T, h1, h2⟩ := h
  obtain ⟨cur', T', h1', h2'⟩ := h'
  rw [h1] at h1'
  cases h1'
  refine ⟨cur, T, h1, fun j hj => ?_⟩
  have hl : (cs.take o).length = o := by rw [List.length_take]; omega
  by_cases hj1 : j < o
  · rw [h2 j (by omega), List.getElem_append_left (by rw [List.length_append, hl]; omega), List.getElem_append_left (by omega), List.getElem_take]
  · by_cases hj2 : j < o + n
    · have := h2' (j - o) (by omega)
      rw [show off + o + (j - o) = off + j by omega] at this
      rw [this, List.getElem_append_left (by rw [List.length_append, hl]; omega), List.getElem_append_right (by omega)]
      simp only [hl]
    · simp only [List.length_append, hl, List.length_drop, hn] at hj
      rw [h2 j (by omega), List.getElem_append_right (by rw [List.length_append, hl]; omega)]
      simp only [List.length_append, hl, hn, List.getElem_drop]
      congr 2
      omega

theorem rdNum_in {L : List UInt8} {x : Int} {rest : List UInt8} (h : rdNum L = .ok x rest) : InR x := by
  rcases gives_or_fails L with ⟨m, k, hg⟩ | ⟨er, hf⟩
  · rw [rdNum_yes hg] at h; cases h; exact hg.put.2.2.2.2
  · rw [rdNum_no hf] at h; cases h
def IntQ (w : World) (S : Nat → Prop) (cs : List Value) (x : Int) : Prop := cs = [.int .i64 x] ∧ InR x
end Go.Proofs.YtccajbgdlicbnaaDoor

/- Layer 5, plain: which sig, class, .. bytes begin with (P5.1, P5.2). Nothing of the program is named here. -/
namespace Go.Proofs.YtccajbgdlicbnaaDoor
set_option linter.unusedVariables false

def rdSig (L : List UInt8) : PR SigD := (rdNums 8 L).bind fun ps r => (rdNum r).bind fun t r' => .ok ⟨ps, t⟩ r'
def rdClass (L : List UInt8) : PR ClassD := (rdNums 8 L).bind fun fs r => (rdNums 4 r).bind fun ms r' => .ok ⟨fs, ms⟩ r'
end Go.Proofs.YtccajbgdlicbnaaDoor

/- Layer 5, plain: which end bytes begin with (P5.1, P5.2). Nothing of the program is named here. -/
namespace Go.Proofs.YtccajbgdlicbnaaDoor
set_option linter.unusedVariables false

def rdTarget (L : List UInt8) : PR (Int × List Int) := (rdNum L).bind fun t r => (rdNums 8 r).bind fun Z r' => .ok (t, Z) r'
def rdEnd (L : List UInt8) : PR EndD := (rdBelow 4 L).bind fun k r =>
  if k = 0 then (rdTarget r).bind fun p r' => .ok ⟨k, 0, p.1, 0, p.2, []⟩ r'
  else if k = 1 then (rdNum r).bind fun a r1 => (rdTarget r1).bind fun p r2 => (rdTarget r2).bind fun q r3 => .ok ⟨k, a, p.1, q.1, p.2, q.2⟩ r3
  else (rdNum r).bind fun a r1 => .ok ⟨k, a, 0, 0, [], []⟩ r1
theorem set_parts {α : Type} {cs : List α} {i : Nat} (h : i < cs.length) (v : α) : cs.take i ++ [v] ++ cs.drop (i + 1) = cs.set i v := by
  rw [List.set_eq_take_append_cons_drop, if_pos h]
  simp
end Go.Proofs.YtccajbgdlicbnaaDoor

/- Layer 5: the walk's methods, with a writer (gen/wkmeth.py). -/
namespace Go.Proofs.YtccajbgdlicbnaaDoor
open Go.RowKit (wrap64 intOf Below)
set_option linter.unusedVariables false
set_option linter.unusedSimpArgs false
attribute [local go_sem ↓] Go.wp_at_zero Go.wp_at_succ

end Go.Proofs.YtccajbgdlicbnaaDoor

/- Layer 5: the walk's truth, target and end, with a writer (gen/wkend.py). -/
namespace Go.Proofs.YtccajbgdlicbnaaDoor
open Go.RowKit (wrap64 intOf Below)
set_option linter.unusedVariables false
set_option linter.unusedSimpArgs false
attribute [local go_sem ↓] Go.wp_at_zero Go.wp_at_succ

def bitV (t : Bool) : Int := if t then 1 else 0
end Go.Proofs.YtccajbgdlicbnaaDoor
