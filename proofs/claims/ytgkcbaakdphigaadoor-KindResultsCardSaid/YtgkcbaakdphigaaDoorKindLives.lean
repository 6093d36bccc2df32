/- Layer 4: hallmarklaw04.lives, walked out of the contracts of package kind's calls. -/
import Derived.Test.YtgkcbaakdphigaaDoorKindFlagsK
import Derived.Test.YtgkcbaakdphigaaDoorKindUsesK
import Derived.Test.YtgkcbaakdphigaaDoorKindTypK
import Derived.Deep.RegionHeld3
namespace Go.Proofs.YtgkcbaakdphigaaDoor
open Go.RowKit (wrap64 intOf Below)
set_option linter.unusedVariables false

/-- Numbers that were just written out. -/
theorem nums_built {w : World} {e : TypeId} (n : Nat) (Z : List Int) (C : Array Value) (hC : C = (Z.map numV).toArray) (hn : Z.length = n) : NumsAt (w.alloc (.cells C e)) (some ⟨w.heap.size, 0, none⟩) n Z := by
  subst hC hn
  refine ⟨rfl, fun _ => ⟨w.heap.size, 0, rfl, by simp, fun j hj => ?_⟩⟩
  rw [Nat.zero_add, World.cell?_alloc_mark]
  simp [hj]

set_option maxRecDepth 100000 in
theorem klives_any (w : World) (hft : FT w) : Calls Tryd.prog 14 #[] w fun e w' => e = .returned (.bool true) ∧ Below w.heap.size w w' := by
  have HFT := Lib.hid hft
  clear hft
  have HF : RowKit.Hid (flagsI 15 0 = 3) := Lib.hid rfl
  have HU : RowKit.Hid (usesL 24 4 0 0 [1, 2] = [4, 1, 2]) := Lib.hid (by decide +kernel)
  go_enter Tryd.func14, Tryd.ntmps14
  go_wp2_with fail
  refine (kflags_any 15 0 0 0 0 ⟨#[]⟩ none 0 0 false _).mono ?_
  rintro e w1 ⟨rfl, hb1⟩
  rw [HF.out]
  have HB1 := Lib.hid hb1
  clear hb1
  go_wp2_with fail
  refine (kuses_any 24 4 0 0 0 ⟨#[]⟩ _ 2 _ false [1, 2] _ (HFT.out.since (HB1.out.alloc HB1.out.size _)) (nums_built 2 [1, 2] _ rfl rfl) (fun h => by cases h) (by decide)).mono ?_
  rintro e w2 ⟨va, vn, vc, rfl, hown, hb2⟩
  rw [HU.out] at hown
  have HB2 : RowKit.Hid (Below w.heap.size w w2) := Lib.hid ((HB1.out.alloc HB1.out.size _).trans (hb2.mono (by have := HB1.out.size; simp; omega)))
  have HO := Lib.hid hown.read
  have hl : vn = 3 := hown.read.1.symm
  subst hl
  clear hown hb2
  go_wp2_with fail
  refine (ints_any _ _ 3 3 _ _ [4, 1, 2] [4, 1, 2] _ (HO.out.since ((Below.refl _ _).alloc (Nat.le_refl _) _)) (nums_built 3 [4, 1, 2] _ rfl rfl) (by decide) (by decide)).mono ?_
  rintro e w3 ⟨rfl, q, rfl⟩
  have HB3 : RowKit.Hid (Below w.heap.size w ((w2.alloc (.cells #[.int .i64 4, .int .i64 1, .int .i64 2] 3)).drewN q)) := Lib.hid ((HB2.out.alloc HB2.out.size _).trans ⟨rfl, rfl, rfl, Nat.le_refl _, fun _ _ => rfl⟩)
  have HS : RowKit.Hid (sameB [4, 1, 2] [4, 1, 2] = true) := Lib.hid rfl
  rw [HS.out]
  go_wp2_with fail
  refine (ktype_five _).mono ?_
  rintro e w4 ⟨rfl, hb4⟩
  have HB4 := Lib.hid (keepN HB3.out (Nat.le_refl _) hb4)
  clear hb4
  go_wp2_with fail
  go_ret
  exact ⟨rfl, HB4.out⟩
end Go.Proofs.YtgkcbaakdphigaaDoor
