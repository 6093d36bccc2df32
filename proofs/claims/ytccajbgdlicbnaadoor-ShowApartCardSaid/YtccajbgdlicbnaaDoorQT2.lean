/- Layer 5: where a method of a reader's walk stands; its list of numbers. -/
import Derived.Test.YtccajbgdlicbnaaDoorQCodeRl
import Derived.Test.YtccajbgdlicbnaaDoorQT0
import Derived.Test.YtccajbgdlicbnaaDoorQT1
import Derived.Deep.DeepCutAuto
import Derived.BigQuiet
namespace Go.Proofs.YtccajbgdlicbnaaDoor
open Go.RowKit (wrap64 intOf Below)
set_option linter.unusedVariables false
set_option linter.unusedSimpArgs false

section
variable {r B g off K : Nat} {w : World} {bx : Nat} {L : List UInt8} {u : World} {cs : List Value}
end
/-- What was read since stands, whatever the method's cells and the reader come to. -/
theorem NumsO.keep {r g n m : Nat} {u u' : World} {v : Value} {Z : List Int} (h : NumsO u (From n) v Z) (ho : Off (fun i => i = r ∨ i = g) u u') (hr : r < n) (hg : g < n) (hm : m ≤ n) : NumsO u' (From m) v Z :=
  (h.off ho (fun b hb e => by have hb : n ≤ b := hb; omega)).wider (fun b _ hb => Nat.le_trans hm hb)
theorem RowO.keep {α : Type} {T k : Nat} {Q : World → (Nat → Prop) → List Value → α → Prop} (hQ : Holds Q) {r g n m : Nat} {u u' : World} {v : Value} {xs : List α} (h : RowO T k Q u (From n) v xs) (ho : Off (fun i => i = r ∨ i = g) u u') (hr : r < n) (hg : g < n) (hm : m ≤ n) : RowO T k Q u' (From m) v xs :=
  (h.off hQ ho (fun b hb e => by have hb : n ≤ b := hb; omega)).wider hQ (fun b _ hb => Nat.le_trans hm hb)
theorem IntQ.holds : Holds IntQ := fun _ _ _ _ _ _ _ h => h
theorem nums_flat : ∀ (css : List (List Value)) (Z : List Int), css.length = Z.length → (∀ i (h : i < Z.length) (h' : i < css.length), css[i] = [.int .i64 Z[i]]) → css.flatten = Z.map numV
  | [], [], _, _ => rfl
  | [], z :: Z, h, _ => by simp at h
  | c :: css, [], h, _ => by simp at h
  | c :: css, z :: Z, h, hi => by
    have h0 := hi 0 (by simp) (by simp)
    simp only [List.getElem_cons_zero] at h0
    have ih := nums_flat css Z (by simpa using h) (fun i h1 h2 => by have := hi (i + 1) (by simpa using h1) (by simpa using h2); simpa using this)
    simp only [List.flatten_cons, List.map_cons, ih, h0, numV, List.singleton_append]
theorem RowO.nums {w : World} {S : Nat → Prop} {v : Value} {Z : List Int} (h : RowO 3 1 IntQ w S v Z) (hl : Z.length ≤ 100000) : NumsO w S v Z := by
  obtain ⟨css, h1, h2, h3, h4, h5, h6⟩ := h
  have hf := nums_flat css Z h2 (fun i h h' => (h6 i h h').1)
  refine ⟨?_, h4, by omega, fun z hz => ?_⟩
  · show w.ownsRow 0 3 1 v Z.length (Z.map numV)
    rw [← hf]; exact h1
  · obtain ⟨i, hi, rfl⟩ := List.mem_iff_getElem.1 hz
    exact (h6 i hi (by omega)).2
theorem rdTimes_len {α : Type} {p : List UInt8 → PR α} : ∀ (n : Nat) (L : List UInt8) {xs : List α} {rest : List UInt8}, rdTimes p n L = .ok xs rest → xs.length = n
  | 0, L, xs, rest, h => by cases h; rfl
  | n + 1, L, xs, rest, h => by
    simp only [rdTimes] at h
    cases hp : p L with
    | no e => rw [hp] at h; cases h
    | ok x r =>
      rw [hp] at h
      simp only [PR.bind] at h
      cases ht : rdTimes p n r with
      | no e => rw [ht] at h; cases h
      | ok ys r' =>
        rw [ht] at h
        cases h
        simp [rdTimes_len n r ht]
theorem rdList_len {α : Type} {p : List UInt8 → PR α} {most : Nat} {L : List UInt8} {xs : List α} {rest : List UInt8} (h : rdList most p L = .ok xs rest) : xs.length ≤ most := by
  unfold rdList rdCount at h
  cases hn : rdNum L with
  | no e => rw [hn] at h; cases h
  | ok m r =>
    rw [hn] at h
    simp only [PR.bind] at h
    split at h
    · cases h
    · rename_i hh
      split at hh
      · cases hh
      · split at hh
        · cases hh
        · cases hh
          have := rdTimes_len _ _ h
          omega
end Go.Proofs.YtccajbgdlicbnaaDoor

/- Layer 5: the walk's methods, with a reader: sig, class. -/
namespace Go.Proofs.YtccajbgdlicbnaaDoor
open Go.RowKit (wrap64 intOf Below)
set_option linter.unusedVariables false
set_option linter.unusedSimpArgs false
attribute [local go_sem ↓] Go.wp_at_zero Go.wp_at_succ

theorem set_off (r : Nat) {g o : Nat} {u : World} {v : Value} : Off (fun i => i = r ∨ i = g) u (u.setCell ⟨g, o, none⟩ v) := (Off.refl _ _).setCell (.inl (.inr rfl)) _
end Go.Proofs.YtccajbgdlicbnaaDoor

/- Layer 5: the walk's methods, with a reader (gen/rkmeth.py). -/
namespace Go.Proofs.YtccajbgdlicbnaaDoor
open Go.RowKit (wrap64 intOf Below)
set_option linter.unusedVariables false
set_option linter.unusedSimpArgs false
attribute [local go_sem ↓] Go.wp_at_zero Go.wp_at_succ

end Go.Proofs.YtccajbgdlicbnaaDoor

/- Layer 5: the walk's target, with a reader. -/
namespace Go.Proofs.YtccajbgdlicbnaaDoor
open Go.RowKit (wrap64 intOf Below)
set_option linter.unusedVariables false
set_option linter.unusedSimpArgs false
attribute [local go_sem ↓] Go.wp_at_zero Go.wp_at_succ

theorem one_at {α : Type} {cs : List α} {i : Nat} {v : α} (h : cs[i]? = some v) : (cs.drop i).take 1 = [v] := by
  obtain ⟨hi, rfl⟩ := List.getElem?_eq_some_iff.1 h
  rw [List.drop_eq_getElem_cons hi]
  rfl
end Go.Proofs.YtccajbgdlicbnaaDoor

/- Layer 5: the document's reader (D): where it stands, and its small calls: num, count, form. -/
namespace Go.Proofs.YtccajbgdlicbnaaDoor
open Go.RowKit (wrap64 intOf Below)
set_option linter.unusedVariables false
set_option linter.unusedSimpArgs false
attribute [local go_sem ↓] Go.wp_at_zero Go.wp_at_succ

section
variable {d : Nat} {a : Option Addr} {n c : Nat} {L : List UInt8} {w u : World} {p : Nat} {y : Int}
theorem BytesAt.off {X : Nat → Prop} (h : BytesAt w a n c L) (ho : Off X w u) (hx : ∀ ad, a = some ad → 0 < n → ¬ X ad.block) : BytesAt u a n c L := by
  obtain ⟨h1, h2, h3, h4, h5, h6⟩ := h
  refine ⟨h1, h2, h3, h4, fun hn => ?_, fun ad ha j hj => ?_⟩
  · obtain ⟨g, off, e, hg⟩ := h5 hn
    exact ⟨g, off, e, Nat.lt_of_lt_of_le hg ho.size⟩
  · obtain ⟨g, off, e, hg⟩ := h5 (by omega)
    rw [ho.cell (p := ad.add j) (by rw [addr_block]; rw [e] at ha; cases ha; exact hg) (by rw [addr_block]; exact hx ad ha (by omega))]
    exact h6 ad ha j hj
end
/-- What a reader's call did: where it had read before, and nothing was wrong, it reads on. -/
def Ran {α : Type} (f : List UInt8 → PR α) (L : List UInt8) (p : Nat) (y : Int) (p' : Nat) (y' : Int) (x : α) : Prop :=
  (y ≠ 0 → y' = y) ∧ (y = 0 → (y' = 0 → f (L.drop p) = .ok x (L.drop p')) ∧ (y' ≠ 0 → f (L.drop p) = .no y'))
def IntV (w : World) (S : Nat → Prop) (v : Value) (x : Int) : Prop := v = .int .i64 x ∧ InR x
/-- One of so many. -/
def NatV (most : Nat) (w : World) (S : Nat → Prop) (v : Value) (x : Nat) : Prop := v = .int .i64 (x : Int) ∧ x ≤ most
def BelowV (b : Int) (w : World) (S : Nat → Prop) (v : Value) (x : Int) : Prop := v = .int .i64 x ∧ 0 ≤ x ∧ x < b
theorem rdNum_rng {L : List UInt8} {x : Int} {r : List UInt8} (h : rdNum L = .ok x r) : InR x := rdNum_in h

/-- A first part that went wrong. -/
theorem Ran.stop {α β : Type} {f : List UInt8 → PR α} {g : List UInt8 → PR β} {L : List UInt8} {p p1 : Nat} {y y1 : Int} {x : α} (h : Ran f L p y p1 y1 x) (h1 : y1 ≠ 0) (hg : ∀ l e, f l = .no e → g l = .no e) (z : β) (p2 : Nat) : Ran g L p y p2 y1 z :=
  ⟨h.1, fun hy => ⟨fun h0 => absurd h0 h1, fun _ => hg _ _ ((h.2 hy).2 h1)⟩⟩
theorem Ran.went {α : Type} {f : List UInt8 → PR α} {L : List UInt8} {p p1 : Nat} {y y1 : Int} {x : α} (h : Ran f L p y p1 y1 x) (h1 : y1 = 0) : y = 0 ∧ f (L.drop p) = .ok x (L.drop p1) := by
  have hy : y = 0 := Classical.byContradiction fun hy => hy ((h.1 hy).symm.trans h1)
  exact ⟨hy, (h.2 hy).1 h1⟩
theorem Ran.fine {α : Type} {f : List UInt8 → PR α} {L : List UInt8} {p p1 : Nat} {y : Int} {x : α} (hy : y = 0) (h : f (L.drop p) = .ok x (L.drop p1)) : Ran f L p y p1 0 x := ⟨fun h' => absurd hy h', fun _ => ⟨fun _ => h, fun h' => absurd rfl h'⟩⟩
theorem Ran.fell {α : Type} {f : List UInt8 → PR α} {L : List UInt8} {p p1 : Nat} {y y1 : Int} (x : α) (hy : y = 0) (h1 : y1 ≠ 0) (h : f (L.drop p) = .no y1) : Ran f L p y p1 y1 x := ⟨fun h' => absurd hy h', fun _ => ⟨fun h' => absurd h' h1, fun _ => h⟩⟩
theorem PR.bind_no {α β : Type} {f : List UInt8 → PR α} {k : α → List UInt8 → PR β} {l : List UInt8} {e : Int} (h : f l = .no e) : (f l).bind k = .no e := by rw [h]; rfl
end Go.Proofs.YtccajbgdlicbnaaDoor
