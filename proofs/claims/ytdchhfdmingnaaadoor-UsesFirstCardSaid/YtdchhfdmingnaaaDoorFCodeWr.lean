/- Layer 5: the writer (code.writer): what it has written, and what its two calls make of it. -/
import Derived.Test.YtdchhfdmingnaaaDoorFCodePlain
import Derived.Test.YtdchhfdmingnaaaDoorFT0
import Derived.Deep.RegionHeld3
import Derived.Deep.RegionLaw
import Derived.Deep.AppendLies
import Derived.Deep.DrawnRows
import Derived.WalkSmall
namespace Go.Proofs.YtdchhfdmingnaaaDoor
open Go.RowKit (wrap64 intOf Below)
set_option linter.unusedVariables false
attribute [local go_sem ↓] Go.wp_at_zero Go.wp_at_succ
def WX (x : Nat) (v : Value) : Nat → Prop := fun k => k = x ∨ v.ownBlock = some k
def NewAt (w : World) (v v' : Value) : Prop := ∀ k, v'.ownBlock = some k → v.ownBlock = some k ∨ w.heap.size ≤ k
theorem NewAt.refl (w : World) (v : Value) : NewAt w v v := fun k h => .inl h
theorem NewAt.trans {w w1 : World} {v v1 v2 : Value} (h : NewAt w v v1) (h' : NewAt w1 v1 v2) (hs : w.heap.size ≤ w1.heap.size) : NewAt w v v2 := fun k hk => by
  rcases h' k hk with h1 | h1
  · exact h k h1
  · exact .inr (by omega)
theorem Off.wr {w w1 w2 : World} {x : Nat} {v v1 : Value} (h : Off (WX x v) w w1) (hn : NewAt w v v1) (h' : Off (WX x v1) w1 w2) : Off (WX x v) w w2 :=
  h.trans_new h' (fun i hi => by
    rcases hi with rfl | hi
    · exact .inl (.inl rfl)
    · rcases hn i hi with h1 | h1
      · exact .inl (.inr h1)
      · exact .inr h1)
end Go.Proofs.YtdchhfdmingnaaaDoor
