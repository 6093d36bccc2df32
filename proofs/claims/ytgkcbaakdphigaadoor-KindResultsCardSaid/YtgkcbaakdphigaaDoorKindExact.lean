/- Layer 4, P4.1: whether two steps are one (hallmarklaw04.exact), and the document's Plain, walked. -/
import Derived.Test.YtgkcbaakdphigaaDoorKindRef
namespace Go.Proofs.YtgkcbaakdphigaaDoor
open Go.RowKit (wrap64 intOf Below)
set_option linter.unusedVariables false

theorem sameB_self (Z : List Int) : sameB Z Z = true := by unfold sameB; simp
set_option maxRecDepth 100000 in
theorem exact_yes (K A B C N : Int) (S : ByteArray) (T : Bool) (la lb : Option Addr) (l1 l2 c1 c2 : Nat) (L : List Int) (w : World) (h1 : NumsAt w la l1 L) (h2 : NumsAt w lb l2 L) (hn : l1 ≤ 140737488355328) (hs : S.size ≤ 140737488355328) :
    Calls Tryd.prog 12 #[.agg #[.int .i64 K, .int .i64 A, .int .i64 B, .int .i64 C, .int .i64 N, .string S, .slice la l1 c1, .bool T], .agg #[.int .i64 K, .int .i64 A, .int .i64 B, .int .i64 C, .int .i64 N, .string S, .slice lb l2 c2, .bool T]] w
      fun e w' => e = .returned (.bool true) ∧ Below w.heap.size w w' := by
  obtain rfl : l2 = l1 := by rw [← h1.1, ← h2.1]
  have H1 := Lib.hid h1
  have H2 := Lib.hid h2
  clear h1 h2
  go_enter Tryd.func12, Tryd.ntmps12
  go_wp2_with fail
  have HB : RowKit.Hid (Below w.heap.size w ((w.alloc (.cells #[.int .i64 K, .int .i64 A, .int .i64 B, .int .i64 C, .int .i64 N, .string S, .slice la l2 c1, .bool T] 24)).alloc (.cells #[.int .i64 K, .int .i64 A, .int .i64 B, .int .i64 C, .int .i64 N, .string S, .slice lb l2 c2, .bool T] 24))) := Lib.hid (((Below.refl w.heap.size w).alloc (Nat.le_refl _) _).alloc (by simp) _)
  refine (ints_any la lb l2 l2 c1 c2 L L _ (H1.out.since HB.out) (H2.out.since HB.out) hn hn).mono ?_
  rintro e w1 ⟨rfl, q, rfl⟩
  rw [sameB_self]
  have HB2 : RowKit.Hid (Below w.heap.size w (((w.alloc (.cells #[.int .i64 K, .int .i64 A, .int .i64 B, .int .i64 C, .int .i64 N, .string S, .slice la l2 c1, .bool T] 24)).alloc (.cells #[.int .i64 K, .int .i64 A, .int .i64 B, .int .i64 C, .int .i64 N, .string S, .slice lb l2 c2, .bool T] 24)).drewN q)) := Lib.hid (HB.out.trans ⟨rfl, rfl, rfl, Nat.le_refl _, fun _ _ => rfl⟩)
  go_wp2_with fail
  go_ret
  exact ⟨rfl, HB2.out⟩
end Go.Proofs.YtgkcbaakdphigaaDoor
