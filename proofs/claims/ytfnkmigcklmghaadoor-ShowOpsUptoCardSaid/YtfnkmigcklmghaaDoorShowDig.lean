/- Layer 6: text.Digits and the document's num; the library's table of powers of ten stands. -/
import Derived.Test.YtfnkmigcklmghaaDoorTextDigits
import Derived.Test.YtfnkmigcklmghaaDoorShelf
import Derived.Test.YtfnkmigcklmghaaDoorLift
import Derived.WalkKit
import Derived.Lib.LaidTab
import Derived.Lib.AppendIntMem
import Derived.Lib.ItoaLen
namespace Go.Proofs.YtfnkmigcklmghaaDoor
open Go.RowKit (wrap64 intOf Below)
set_option linter.unusedVariables false

/-- The library's table of powers of ten holds what it was laid with. -/
def PT (w : World) : Prop := Lib.TabIs Tryd.prog w "internal/strconv.uint64pow10" .u64 Lib.pow10Tab
theorem gPow : Tryd.prog.globalNamed "internal/strconv.uint64pow10" = some 4 := by kernel_rfl
theorem PT.lt {w : World} (h : PT w) : 4 < w.heap.size := World.block_lt_of_cell? _ _ (Lib.TabIs.cell h gPow 0 (by decide))
theorem PT.since {w w' : World} (h : PT w) (hb : Below w.heap.size w w') : PT w' := by
  have hl := h.lt
  unfold PT Lib.TabIs at h ⊢
  rw [← h]
  unfold World.var?
  rw [gPow]
  simp only [Option.bind_some]
  rw [hb.block _ hl]
/-- A number as a text. -/
theorem itoa_text (n : Int) (w : World) (h0 : -9223372036854775808 ≤ n) (h1 : n ≤ 9223372036854775807) (htab : PT w) :
    Calls Tryd.prog 45 #[.int .i64 n] w fun e w' => e = .returned (.string (mkB (Lib.itoa n))) ∧ Below w.heap.size w w' := by
  have C1 := Lib.hid (Tryd.strconv_FormatInt_10 n h0 h1 w htab)
  clear htab
  go_enter Tryd.func45, Tryd.ntmps45
  go_wp2_with fail
  refine C1.out.mono ?_
  rintro e w1 ⟨rfl, k, os, rfl⟩
  have HB := Lib.hid (Lib.below_grow w.heap.size w (Nat.le_refl _) k os)
  go_wp2
  go_ret
  exact ⟨rfl, HB.out⟩
theorem itoa_ref (n : Int) (w : World) (h0 : -9223372036854775808 ≤ n) (h1 : n ≤ 9223372036854775807) :
    Calls Tryd.prog 43 #[.int .i64 n] w fun e w' => e = .returned (.string (mkB (Lib.itoa n))) ∧ Below w.heap.size w w' := by
  have C2 := Lib.hid (ref_digits n w h0 h1)
  have hw : RowKit.wrap64 n = n := by unfold RowKit.wrap64; omega
  go_enter Tryd.func43, Tryd.ntmps43
  go_wp2_with fail
  refine C2.out.mono ?_
  rintro e w1 ⟨rfl, hb⟩
  have HB := Lib.hid hb
  clear hb
  go_wp2_with fail
  go_ret
  exact ⟨rfl, HB.out⟩
theorem itoa_size (n : Int) (h0 : -9223372036854775808 ≤ n) (h1 : n ≤ 9223372036854775807) : (mkB (Lib.itoa n)).size ≤ 21 := by
  rw [mkB_size]
  exact Lib.itoa_length_le n h0 h1
end Go.Proofs.YtfnkmigcklmghaaDoor
