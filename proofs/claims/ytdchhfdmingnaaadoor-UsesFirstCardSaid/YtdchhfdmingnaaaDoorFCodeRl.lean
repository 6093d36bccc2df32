/- Layer 5: the walk's list, with a reader, at each type of what is listed (gen/rklist.py). -/
import Derived.Test.YtdchhfdmingnaaaDoorFCodeRw
import Derived.Test.YtdchhfdmingnaaaDoorFT0

namespace Go.Proofs.YtdchhfdmingnaaaDoor
open Go.RowKit (wrap64 intOf Below)
set_option linter.unusedVariables false
set_option linter.unusedSimpArgs false
theorem RowO.same {α : Type} {T k : Nat} {Q : World → (Nat → Prop) → List Value → α → Prop} {w : World} {S : Nat → Prop} {a : Option Addr} {n c : Nat} {xs : List α} (h : RowO T k Q w S (.slice a n c) xs) : n = xs.length := by
  obtain ⟨css, h1, _⟩ := h
  rcases h1.2 with ⟨he, h0⟩ | ⟨g, cap, cur, he, _⟩
  · cases he; exact h0.symm
  · cases he; rfl
end Go.Proofs.YtdchhfdmingnaaaDoor
