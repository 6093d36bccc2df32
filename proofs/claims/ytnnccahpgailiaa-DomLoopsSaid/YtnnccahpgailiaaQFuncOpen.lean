/- A function (api.Func) that came in by value, opened to its depth, its row of blocks no longer than its cap. -/
import Derived.Test.YtnnccahpgailiaaQDeepOpen
import Derived.Lib.SmallJoins
namespace Go.Proofs.Ytnnccahpgailiaa
open Go.ChangeShapes Go.WideShapes Go.ChangeAt Go.RowKit Go.Joins Go.Deep
set_option linter.unusedVariables false
set_option linter.unusedSimpArgs false
section
variable {H : Type} {enc : TypeId × Value → H}
set_option maxRecDepth 100000 in
/-- A function that came in by value. -/
theorem open_func_deep {b0 : Nat} {W : World} {v : Value} {d : DataW H} {p : List MemPlace} (hv : Value.okWide Try.prog W .any b0 24 v) (h : DataW.Trod enc Try.prog W 0 (fun _ => true) true 24 v d p) (hlt : ∀ x ∈ p, x.block < W.heap.size)
    {ts : List TypeId} {ds : List (DataW H)} (hsz : (DataW.weightsEach Try.prog ts ds).all (· ≤ reachBytes) = true) {j : Nat} (hj : ts[j]? = some 24) (hd : ds[j]? = some d) :
    ∃ (r : Int) (a : Option Addr) (n c : Nat) (f : FuncD), v = .agg #[.int .i64 r, .slice a n c] ∧ RowV BlockQ 8 W (.slice a n c) f.blocks ∧ n ≤ c ∧ c ≤ 9223372036854775807 := by
  obtain ⟨v0, v1, y0, y1, n, rfl, rfl, rfl, q0, q1⟩ := open_agg2 Try.underlying24 (by kernel_rfl) (by kernel_rfl) hv h
  have hfit := Fits.of_each hsz hj hd
  obtain ⟨r, e0, _⟩ := opens_int (enc := enc) Try.underlying3 q0 (fun x hx => hlt x (by simp [hx])) (hfit.part Try.underlying24 (j := 0) rfl rfl)
  obtain ⟨bs, _, e1, r1⟩ := opens_row (enc := enc) Try.underlying22 (k := 8) (by kernel_rfl) (by decide) (of_decide_eq_true (by kernel_rfl)) opens_block q1 (fun x hx => hlt x (by simp [hx])) (hfit.part Try.underlying24 (j := 1) rfl rfl)
  cases e0; cases e1
  rcases open_slice Try.underlying22 q1 with ⟨hcs, _⟩ | ⟨a, len, cap, m, n, D, Pl, hcs, hb, hl, hm, hmm, _, hi⟩
  · cases hcs
    exact ⟨r, none, 0, 0, ⟨0, bs⟩, rfl, r1, Nat.le_refl _, by omega⟩
  · cases hcs
    exact ⟨r, some a, len, cap, ⟨0, bs⟩, rfl, r1, hl, by unfold maxLen at hm; omega⟩
end
end Go.Proofs.Ytnnccahpgailiaa
