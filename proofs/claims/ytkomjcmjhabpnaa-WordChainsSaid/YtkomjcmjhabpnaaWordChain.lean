/- Reckoning on and on (P1.3): word.Chain, walked, for whatever signs and whatever numbers: it ends at the first sign that answers nothing, or comes to the end. -/
import Derived.Test.YtkomjcmjhabpnaaWordWalksB
import Derived.Test.YtkomjcmjhabpnaaInts
import Derived.Deep.QuietTactic
import Derived.BigQuiet
namespace Go.Proofs.Ytkomjcmjhabpnaa
open Go.RowKit (wrap64 intOf)

/-- What has come behind k signs; whether the sign at k answers. -/
def cval (S L : List Int) : Nat → Int
  | 0 => nth L 0
  | k + 1 => arV (nth S k) (cval S L k) (nth L (k + 1))
def good (S L : List Int) (k : Nat) : Bool := arOk (nth S k) (nth L (k + 1))
/-- How many signs play a part. -/
def rounds (S L : List Int) : Nat := min S.length (L.length - 1)
/-- Where it ends: at the first sign that answers nothing, or behind all. -/
def Ends (S L : List Int) (v e : Int) : Prop :=
  (∃ k : Nat, k < rounds S L ∧ (∀ j, j < k → good S L j = true) ∧ good S L k = false ∧ v = cval S L k ∧ e = k) ∨
  ((∀ j, j < rounds S L → good S L j = true) ∧ v = cval S L (rounds S L) ∧ e = -1)
theorem Ends.same {S L : List Int} {v e v' e' : Int} (h : Ends S L v e) (h' : Ends S L v' e') : v = v' ∧ e = e' := by
  rcases h with ⟨k, hk, hg, hb, rfl, rfl⟩ | ⟨hg, rfl, rfl⟩ <;> rcases h' with ⟨k', hk', hg', hb', rfl, rfl⟩ | ⟨hg', rfl, rfl⟩
  · rcases Nat.lt_trichotomy k k' with hlt | rfl | hlt
    · have := hg' k hlt; rw [hb] at this; cases this
    · exact ⟨rfl, rfl⟩
    · have := hg k' hlt; rw [hb'] at this; cases this
  · have := hg' k hk; rw [hb] at this; cases this
  · have := hg k' hk'; rw [hb'] at this; cases this
  · exact ⟨rfl, rfl⟩
theorem Ends.none (S : List Int) : Ends S [] 0 (-1) := by
  have hr : rounds S [] = 0 := by simp [rounds]
  exact Or.inr ⟨fun j hj => by rw [hr] at hj; omega, by rw [hr]; rfl, rfl⟩

def SomeEnd (S L : List Int) (w : World) (e : Ending) (w' : World) : Prop := ∃ v t : Int, Ends S L v t ∧ e = .returned (.tuple #[.int .i64 v, .int .i64 t]) ∧ w = w'

theorem chain_nil (S : List Int) (sv : Value) (la : Option Addr) (lc : Nat) (w : World) :
    Calls Try.prog 18 #[sv, .slice la 0 lc] w (SomeEnd S [] w) := by
  go_enter Try.func18, Try.ntmps18
  go_wp2
  go_ret2
  exact ⟨0, -1, Ends.none S, rfl, rfl⟩

theorem chain_one (S : List Int) (z : Int) (sv : Value) (b off : Nat) (w : World) (hc : w.cell? ⟨b, off, none⟩ = some (.int .i64 z)) :
    Calls Try.prog 18 #[sv, .slice (some ⟨b, off, none⟩) 1 1] w (SomeEnd S [z] w) := by
  have hr : rounds S [z] = 0 := by simp [rounds]
  have HE : Ends S [z] z (-1) := Or.inr ⟨fun j hj => by rw [hr] at hj; omega, by rw [hr]; rfl, rfl⟩
  clear hr
  go_enter Try.func18, Try.ntmps18
  go_wp2
  refine wp_loop_rounds 1 ?_
  rw [rounds_succ]
  go_wp2
  go_ret2
  exact ⟨z, -1, HE, rfl, rfl⟩

theorem ends_here {S L : List Int} {k : Nat} (hg : ∀ j, j < k → good S L j = true) (hk : k = rounds S L) : Ends S L (cval S L k) (-1) := by
  subst hk; exact Or.inr ⟨hg, rfl, rfl⟩
theorem good_next {S L : List Int} {k : Nat} (hg : ∀ j, j < k → good S L j = true) (h : good S L k = true) : ∀ j, j < k + 1 → good S L j = true := by
  intro j hj
  by_cases hjk : j = k
  · subst hjk; exact h
  · exact hg j (by omega)

theorem chain_more (S L : List Int) (m n b off c b1 o1 c1 : Nat) (w : World) (hm1 : 2 ≤ c) (hmc : m + 1 ≤ c) (hc : c ≤ maxLen) (_hn : n ≤ c1) (_hc1 : c1 ≤ maxLen)
    (hL : RowKit.Hid (L.length = m + 1)) (hS : RowKit.Hid (S.length = n)) (hcl : RowKit.Hid (CellsAt w b off L)) (hcs : RowKit.Hid (CellsAt w b1 o1 S)) :
    Calls Try.prog 18 #[.slice (some ⟨b1, o1, none⟩) n c1, .slice (some ⟨b, off, none⟩) (m + 1) c] w (SomeEnd S L w) := by
  unfold maxLen at hc _hc1
  have hc0 : w.cell? ⟨b, off, none⟩ = some (.int .i64 (nth L 0)) := hcl.out 0 (by rw [hL.out]; omega)
  have HR : RowKit.Hid (rounds S L = min n m) := by
    have e : rounds S L = min n m := by unfold rounds; rw [hL.out, hS.out]; rfl
    exact e
  have hz0 : ((m : Int) + 1 == 0) = false := by simp; omega
  go_enter Try.func18, Try.ntmps18
  go_wp2
  clear hc0
  go_loop [6, 20] (fun v t => ∃ k : Nat, k ≤ m ∧ k ≤ n ∧ t = .int .i64 k ∧ v = .int .i64 (cval S L k) ∧ RowKit.Hid (∀ j, j < k → good S L j = true)) (fun _ t => m - (intOf t).toNat)
  case atStart => exact ⟨0, by omega, by omega, rfl, rfl, Lib.hid (fun j hj => by omega)⟩
  case round =>
    obtain ⟨k, hkm, hkn, rfl, rfl, HG⟩ := hrel
    by_cases hlt : k < m
    · have hck : w.cell? ⟨b, off + 1 + k, none⟩ = some (.int .i64 (nth L (k + 1))) := by
        have := hcl.out (k + 1) (by rw [hL.out]; omega)
        rw [show off + (k + 1) = off + 1 + k by omega] at this
        exact this
      by_cases hkn2 : k = n
      · have HE := ends_here HG.out (by rw [HR.out]; omega)
        have ht : ((k : Int) == (n : Int)) = true := by simp; omega
        have HK := Lib.hid hkn2
        clear hkn2
        go_wp2
        go_ret2
        exact ⟨_, _, HE, rfl, rfl⟩
      · have ht : ((k : Int) == (n : Int)) = false := by simp; omega
        have hlt2 : k < n := by omega
        have hsk : w.cell? ⟨b1, o1 + k, none⟩ = some (.int .i64 (nth S k)) := hcs.out k (by rw [hS.out]; omega)
        clear hkn2
        by_cases hok : good S L k = true
        · have h2 : arOk (nth S k) (nth L (k + 1)) = true := hok
          have HG2 := Lib.hid (good_next HG.out hok)
          clear hok
          go_wp2_with (go_at_call 12; (with_reducible refine (wa_any _ _ _ _).mono ?_); rintro e w' ⟨rfl, rfl⟩)
          go_round
          case rel => exact ⟨k + 1, by omega, by omega, by go_num, rfl, HG2⟩
          case measure => simp [intOf]; omega
        · have h2 : arOk (nth S k) (nth L (k + 1)) = false := Bool.eq_false_iff.2 hok
          have HE : Ends S L (cval S L k) k := Or.inl ⟨k, by rw [HR.out]; omega, HG.out, h2, rfl, rfl⟩
          clear hok
          go_wp2_with (go_at_call 12; (with_reducible refine (wa_any _ _ _ _).mono ?_); rintro e w' ⟨rfl, rfl⟩)
          go_ret2
          exact ⟨_, _, HE, rfl, rfl⟩
    · have HE := ends_here HG.out (by rw [HR.out]; omega)
      go_wp2
      go_ret2
      exact ⟨_, _, HE, rfl, rfl⟩

/-- Whatever the numbers of signs and of numbers. -/
theorem chain_any (S L : List Int) (b c b1 c1 : Nat) (w : World) (hc : L.length ≤ c) (hm : c ≤ maxLen) (hn : S.length ≤ c1) (hm1 : c1 ≤ maxLen) (hcl : CellsAt w b 0 L) (hcs : CellsAt w b1 0 S) :
    Calls Try.prog 18 #[.slice (some ⟨b1, 0, none⟩) S.length c1, .slice (some ⟨b, 0, none⟩) L.length c] w (SomeEnd S L w) := by
  match L, hc, hcl with
  | [], _, _ => exact chain_nil S _ _ _ w
  | [z], hc, hcl =>
    by_cases h1 : c = 1
    · subst h1
      exact chain_one S z _ b 0 w (hcl 0 (by simp))
    · have hc2 : 1 ≤ c := hc
      exact chain_more S [z] 0 S.length b 0 c b1 0 c1 w (by omega) (by omega) hm hn hm1 (Lib.hid rfl) (Lib.hid rfl) (Lib.hid hcl) (Lib.hid hcs)
  | z :: y :: r, hc, hcl =>
    have hc2 : r.length + 1 + 1 ≤ c := hc
    exact chain_more S (z :: y :: r) (r.length + 1) S.length b 0 c b1 0 c1 w (by omega) hc2 hm hn hm1 (Lib.hid rfl) (Lib.hid rfl) (Lib.hid hcl) (Lib.hid hcs)
end Go.Proofs.Ytkomjcmjhabpnaa
