/- Layer 8: whether a block is met; whether one is over another, by numbers; slices.DeleteFunc of those that are not met. -/
import Derived.Test.YtnnccahpgailiaaQT3
import Derived.Lib.SliceRun
import Derived.Laws.IdiomCopy
namespace Go.Proofs.Ytnnccahpgailiaa
open Go.RowKit (wrap64 intOf Below)
set_option linter.unusedVariables false
set_option linter.unusedSimpArgs false

/-- Whether a block is met, by the places. -/
def placedB (n : Nat) (PL : List Int) (z : Int) : Bool := decide (0 ≤ z ∧ z < (n : Int) ∧ 0 ≤ nth PL z.toNat)
theorem dmet_any {W : World} {p gp n c : Nat} {PL : List Int} (h1 : W.cell? ⟨p, 1, none⟩ = some (.slice (some ⟨gp, 0, none⟩) n c)) (h2 : ∀ j, j < n → W.cell? ⟨gp, j, none⟩ = some (.int .i64 (nth PL j))) (z : Int) :
    Calls Try.prog 65 #[.pointer (some ⟨p, 0, none⟩), .int .i64 z] W fun e w' => e = .returned (.bool (placedB n PL z)) ∧ w' = W := by
  by_cases h0 : 0 ≤ z
  · by_cases hz : z < (n : Int)
    · obtain ⟨v, rfl⟩ := Int.eq_ofNat_of_zero_le h0
      have hc := h2 v (by omega)
      clear h2
      by_cases hp : 0 ≤ nth PL v
      · have HR : RowKit.Hid (placedB n PL (v : Int) = true) := Lib.hid (by unfold placedB; exact decide_eq_true ⟨h0, hz, by simpa using hp⟩)
        go_enter Try.func65, Try.ntmps65
        go_wp2_with fail
        go_ret
        exact ⟨by rw [HR.out]; rfl, rfl⟩
      · have HR : RowKit.Hid (placedB n PL (v : Int) = false) := Lib.hid (by unfold placedB; exact decide_eq_false (fun h => hp (by simpa using h.2.2)))
        have hdec : decide ((0 : Int) ≤ nth PL v) = false := decide_eq_false hp
        go_enter Try.func65, Try.ntmps65
        go_wp2_with fail
        go_ret
        exact ⟨by rw [HR.out]; rfl, rfl⟩
    · have HR : RowKit.Hid (placedB n PL z = false) := Lib.hid (by unfold placedB; exact decide_eq_false (fun h => hz h.2.1))
      clear h2
      go_enter Try.func65, Try.ntmps65
      go_wp2_with fail
      go_ret
      exact ⟨by rw [HR.out]; rfl, rfl⟩
  · have HR : RowKit.Hid (placedB n PL z = false) := Lib.hid (by unfold placedB; exact decide_eq_false (fun h => h0 h.1))
    clear h2
    go_enter Try.func65, Try.ntmps65
    go_wp2_with fail
    go_ret
    exact ⟨by rw [HR.out]; rfl, rfl⟩
/-- Whether a is over b, by numbers. -/
def numB (NU EN : List Int) (a b : Nat) : Bool := decide (nth NU a ≤ nth NU b ∧ nth NU b < nth EN a)
theorem dover_any {W : World} {p gn ge n : Nat} {NU EN : List Int} (h4 : W.cell? ⟨p, 4, none⟩ = some (.slice (some ⟨gn, 0, none⟩) n n)) (h5 : W.cell? ⟨p, 5, none⟩ = some (.slice (some ⟨ge, 0, none⟩) n n)) (a b : Nat) (ha : a < n) (hb : b < n) (ka : W.cell? ⟨gn, a, none⟩ = some (.int .i64 (nth NU a))) (kb : W.cell? ⟨gn, b, none⟩ = some (.int .i64 (nth NU b))) (ke : W.cell? ⟨ge, a, none⟩ = some (.int .i64 (nth EN a))) :
    Calls Try.prog 69 #[.pointer (some ⟨p, 0, none⟩), .int .i64 (a : Int), .int .i64 (b : Int)] W fun e w' => e = .returned (.bool (numB NU EN a b)) ∧ ∃ q, W.drewN q = w' := by
  have hai : (a : Int) < (n : Int) := by omega
  have hai0 : (0 : Int) ≤ (a : Int) := by omega
  have hbi : (b : Int) < (n : Int) := by omega
  have hbi0 : (0 : Int) ≤ (b : Int) := by omega
  obtain ⟨x, hx⟩ : ∃ x, x = nth NU a := ⟨_, rfl⟩
  obtain ⟨y, hy⟩ : ∃ y, y = nth NU b := ⟨_, rfl⟩
  obtain ⟨z, hz⟩ : ∃ z, z = nth EN a := ⟨_, rfl⟩
  rw [← hx] at ka
  rw [← hy] at kb
  rw [← hz] at ke
  have HNB : RowKit.Hid (numB NU EN a b = decide (x ≤ y ∧ y < z)) := Lib.hid (by unfold numB; rw [hx, hy, hz])
  clear hx hy hz
  by_cases hxy : x ≤ y
  · have hd1 : decide (x ≤ y) = true := decide_eq_true hxy
    by_cases hyz : y < z
    · have hd2 : decide (y < z) = true := decide_eq_true hyz
      have HR : RowKit.Hid (numB NU EN a b = true) := Lib.hid (by rw [HNB.out]; exact decide_eq_true ⟨hxy, hyz⟩)
      go_enter Try.func69, Try.ntmps69
      go_wp2_with fail
      go_quiet (fail)
      go_wp2_with fail
      go_ret
      exact ⟨by rw [HR.out]; rfl, _, rfl⟩
    · have hd2 : decide (y < z) = false := decide_eq_false hyz
      have HR : RowKit.Hid (numB NU EN a b = false) := Lib.hid (by rw [HNB.out]; exact decide_eq_false (fun h => hyz h.2))
      go_enter Try.func69, Try.ntmps69
      go_wp2_with fail
      go_quiet (fail)
      go_wp2_with fail
      go_ret
      exact ⟨by rw [HR.out]; rfl, _, rfl⟩
  · have hd1 : decide (x ≤ y) = false := decide_eq_false hxy
    have HR : RowKit.Hid (numB NU EN a b = false) := Lib.hid (by rw [HNB.out]; exact decide_eq_false (fun h => hxy h.1))
    go_enter Try.func69, Try.ntmps69
    go_wp2_with fail
    go_quiet (fail)
    go_wp2_with fail
    go_ret
    exact ⟨by rw [HR.out]; rfl, _, rfl⟩
theorem gone_any {W : World} {p bt gp n c : Nat} {PL : List Int} (h0 : W.cell? ⟨bt, 0, none⟩ = some (.pointer (some ⟨p, 0, none⟩))) (h1 : W.cell? ⟨p, 1, none⟩ = some (.slice (some ⟨gp, 0, none⟩) n c)) (h2 : ∀ j, j < n → W.cell? ⟨gp, j, none⟩ = some (.int .i64 (nth PL j))) (z : Int) :
    Calls Try.prog 64 #[.int .i64 z, .pointer (some ⟨bt, 0, none⟩)] W fun e w' => e = .returned (.bool (!placedB n PL z)) ∧ w' = W := by
  have CM := Lib.hid (dmet_any h1 h2 z)
  clear h1 h2
  go_enter Try.func64, Try.ntmps64
  go_wp2_with (go_at_call 65; refine CM.out.mono ?_; rintro e u ⟨rfl, hu⟩; rw [hu]; clear hu u)
  go_ret
  exact ⟨rfl, rfl⟩
end Go.Proofs.Ytnnccahpgailiaa
