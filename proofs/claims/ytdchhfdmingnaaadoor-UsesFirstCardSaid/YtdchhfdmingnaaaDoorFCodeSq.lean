/- Layer 5: the document's SameFunc: whether two functions are one, in what plays a part. -/
import Derived.Test.YtdchhfdmingnaaaDoorFCodeQe
import Derived.Test.YtdchhfdmingnaaaDoorFKindRef
import Derived.Test.YtdchhfdmingnaaaDoorFT0
import Derived.Test.YtdchhfdmingnaaaDoorFT2
import Derived.Test.YtdchhfdmingnaaaDoorFT3
import Derived.Deep.RegionLaw
import Derived.Deep.DeepCutAuto
namespace Go.Proofs.YtdchhfdmingnaaaDoor
open Go.RowKit (wrap64 intOf Below)
set_option linter.unusedVariables false
set_option linter.unusedSimpArgs false
attribute [local go_sem ↓] Go.wp_at_zero Go.wp_at_succ
structure Two (w : World) (t : TypeId) (b b' : Nat) (C C' : Array Value) (u : World) : Prop where
  bel : Below w.heap.size w u
  ne : b ≠ b'
  at0 : u.heap[b]? = some (.cells C t (0, 0))
  at1 : u.heap[b']? = some (.cells C' t (0, 0))
theorem Two.of {w : World} {t : TypeId} {C C' : Array Value} : Two w t w.heap.size (w.heap.size + 1) C C' ((w.alloc (.cells C t)).alloc (.cells C' t)).drew :=
  have h := (Laid2B.start w t C C').drew
  ⟨h.bel, by omega, h.b0, h.b1⟩
theorem Two.swap {w : World} {t : TypeId} {C C' : Array Value} : Two w t (w.heap.size + 1) w.heap.size C C' ((w.alloc (.cells C' t)).alloc (.cells C t)).drew :=
  have h := (Laid2B.start w t C' C).drew
  ⟨h.bel, by omega, h.b1, h.b0⟩
theorem Two.lt {w u : World} {t : TypeId} {b b' : Nat} {C C' : Array Value} (h : Two w t b b' C C' u) : b < u.heap.size ∧ b' < u.heap.size := ⟨(Array.getElem?_eq_some_iff.1 h.at0).1, (Array.getElem?_eq_some_iff.1 h.at1).1⟩
theorem Two.step {w u u' : World} {t : TypeId} {b b' : Nat} {C C' : Array Value} (h : Two w t b b' C C' u) (hb : Below u.heap.size u u') : Two w t b b' C C' u' :=
  ⟨keepB h.bel hb, h.ne, (hb.block b h.lt.1).trans h.at0, (hb.block b' h.lt.2).trans h.at1⟩
theorem Two.c0 {w u : World} {t : TypeId} {b b' : Nat} {C C' : Array Value} (h : Two w t b b' C C' u) (j : Nat) : u.cell? ⟨b, j, none⟩ = C[j]? := by simp [World.cell?, h.at0]
theorem Two.c1 {w u : World} {t : TypeId} {b b' : Nat} {C C' : Array Value} (h : Two w t b b' C C' u) (j : Nat) : u.cell? ⟨b', j, none⟩ = C'[j]? := by simp [World.cell?, h.at1]
end Go.Proofs.YtdchhfdmingnaaaDoor
