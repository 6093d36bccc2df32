/- Layer 5: Copy's plain, of an end (written by a program). -/
import Derived.Test.YtnapechlgjcpbaaDoorQT5

namespace Go.Proofs.YtnapechlgjcpbaaDoor
open Go.RowKit (wrap64 intOf Below)
set_option linter.unusedVariables false
set_option linter.unusedSimpArgs false
attribute [local go_sem ↓] Go.wp_at_zero Go.wp_at_succ

theorem set_far {u : World} {b o : Nat} {v : Value} {p : Addr} (h : p.block ≠ b) : (u.setCell ⟨b, o, none⟩ v).cell? p = u.cell? p :=
  World.cell?_of_block (Below.heap_setCell _ _ _ _ h)
theorem set_far6 {u : World} {b o0 o1 o2 o3 o4 o5 : Nat} {v0 v1 v2 v3 v4 v5 : Value} {p : Addr} (h : p.block ≠ b) : ((((((u.setCell ⟨b, o0, none⟩ v0).setCell ⟨b, o1, none⟩ v1).setCell ⟨b, o2, none⟩ v2).setCell ⟨b, o3, none⟩ v3).setCell ⟨b, o4, none⟩ v4).setCell ⟨b, o5, none⟩ v5).cell? p = u.cell? p := by
  rw [set_far h, set_far h, set_far h, set_far h, set_far h, set_far h]
def EndPost (y : EndD) (w : World) (e : Ending) (w' : World) : Prop := ∃ k x t l va vn vc ua un uc, e = .returned (.agg #[.int .i64 k, .int .i64 x, .int .i64 t, .int .i64 l, .slice va vn vc, .slice ua un uc]) ∧
  EndO w' (From w.heap.size) [.int .i64 k, .int .i64 x, .int .i64 t, .int .i64 l, .slice va vn vc, .slice ua un uc] (plainEnd y) ∧ Below w.heap.size w w'
theorem NumsO.none (w : World) (S : Nat → Prop) : NumsO w S (.slice none 0 0) [] := ⟨World.ownsRow_nil _ _ _ 1, (fun b h => by cases h), by decide, (fun z h => by cases h)⟩
theorem InR.zero : InR 0 := ⟨by decide, by decide⟩
end Go.Proofs.YtnapechlgjcpbaaDoor
