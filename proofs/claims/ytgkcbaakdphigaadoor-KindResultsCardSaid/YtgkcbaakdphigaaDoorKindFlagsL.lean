/- Layer 4, P4.2: what the statement KindFlags asks, walked out of the contracts of package kind's calls. -/
import Derived.Test.YtgkcbaakdphigaaDoorKindLives
import Derived.Test.YtgkcbaakdphigaaDoorKindPlainW
namespace Go.Proofs.YtgkcbaakdphigaaDoor
open Go.RowKit (wrap64 intOf Below)
set_option linter.unusedVariables false

/-- What the first block holds, in whatever world that has kept it. -/
theorem first_cells {w u : World} {C0 : Array Value} {t0 : TypeId} (hb : Below (w.heap.size + 1) (w.alloc (.cells C0 t0)) u) (j : Nat) (v : Value) (h : C0[j]? = some v) : u.cell? ⟨w.heap.size, j, none⟩ = some v := by
  rw [cell_first hb j, h]

set_option maxRecDepth 100000 in
set_option maxHeartbeats 4000000 in
theorem kflags_walk (K A B C N : Int) (S : ByteArray) (la : Option Addr) (ln lc : Nat) (T : Bool) (L : List Int) (w : World) (hft : FT w) (hat : NumsAt w la ln L) (hnil : la = none → lc = 0) (hn : ln * 8 ≤ 140737488351232) :
    Calls Tryd.prog 5 #[.agg #[.int .i64 K, .int .i64 A, .int .i64 B, .int .i64 C, .int .i64 N, .string S, .slice la ln lc, .bool T]] w fun e w' => e = .returned (.bool true) ∧ Below w.heap.size w w' := by
  obtain ⟨W0, hW0⟩ : ∃ W0, W0 = w.alloc (.cells #[.int .i64 K, .int .i64 A, .int .i64 B, .int .i64 C, .int .i64 N, .string S, .slice la ln lc, .bool T] 24) := ⟨_, rfl⟩
  have HA : RowKit.Hid (∀ u, Below (w.heap.size + 1) W0 u → NumsAt u la ln L) := Lib.hid (fun u hu => hat.since (by rw [hW0] at hu; exact first_below hu))
  have HFT : RowKit.Hid (∀ u, Below (w.heap.size + 1) W0 u → FT u) := Lib.hid (fun u hu => hft.since (by rw [hW0] at hu; exact first_below hu))
  have HW : RowKit.Hid (∀ u, Below (w.heap.size + 1) W0 u → Below w.heap.size w u) := Lib.hid (fun u hu => by rw [hW0] at hu; exact first_below hu)
  have HC : RowKit.Hid (∀ u, Below (w.heap.size + 1) W0 u → u.cell? ⟨w.heap.size, 0, none⟩ = some (.int .i64 K) ∧ u.cell? ⟨w.heap.size, 1, none⟩ = some (.int .i64 A) ∧ u.cell? ⟨w.heap.size, 2, none⟩ = some (.int .i64 B) ∧ u.cell? ⟨w.heap.size, 3, none⟩ = some (.int .i64 C) ∧ u.cell? ⟨w.heap.size, 4, none⟩ = some (.int .i64 N) ∧ u.cell? ⟨w.heap.size, 5, none⟩ = some (.string S) ∧ u.cell? ⟨w.heap.size, 6, none⟩ = some (.slice la ln lc) ∧ u.cell? ⟨w.heap.size, 7, none⟩ = some (.bool T)) :=
    Lib.hid (fun u hu => by rw [hW0] at hu; exact ⟨first_cells hu 0 _ rfl, first_cells hu 1 _ rfl, first_cells hu 2 _ rfl, first_cells hu 3 _ rfl, first_cells hu 4 _ rfl, first_cells hu 5 _ rfl, first_cells hu 6 _ rfl, first_cells hu 7 _ rfl⟩)
  have HZ : RowKit.Hid (w.heap.size + 1 ≤ W0.heap.size) := Lib.hid (by rw [hW0]; simp)
  have H0 : RowKit.Hid (Below (w.heap.size + 1) W0 W0.drew) := Lib.hid (Below.refl _ _).drew
  have HN := Lib.hid hnil
  have HLN := Lib.hid hat.1
  have HP := Lib.hid (flags_plain K N)
  clear hat hnil hft
  go_enter Tryd.func5, Tryd.ntmps5
  go_wp2_with fail
  rw [← hW0]
  clear hW0
  go_region_held3 (fun u => u.cell? ⟨w.heap.size, 0, none⟩ = some (.int .i64 K) ∧ u.cell? ⟨w.heap.size, 1, none⟩ = some (.int .i64 A) ∧ u.cell? ⟨w.heap.size, 2, none⟩ = some (.int .i64 B) ∧ u.cell? ⟨w.heap.size, 3, none⟩ = some (.int .i64 C) ∧ u.cell? ⟨w.heap.size, 4, none⟩ = some (.int .i64 N) ∧ u.cell? ⟨w.heap.size, 5, none⟩ = some (.string S) ∧ u.cell? ⟨w.heap.size, 6, none⟩ = some (.slice la ln lc) ∧ u.cell? ⟨w.heap.size, 7, none⟩ = some (.bool T))
    (exact HC.out _ (RowKit.Hid.out (by assumption)))
    (first
      | (go_at_call 9; (with_reducible refine (own_op K A B C N S la ln lc T L _ (HA.out _ (RowKit.Hid.out (by assumption))) HN.out (by omega)).mono ?_); rintro e w' ⟨va, vn, vc, rfl, hown, hb⟩; have HB := Lib.hid (keepN (RowKit.Hid.out (by assumption : RowKit.Hid (Below (w.heap.size + 1) W0 _))) HZ.out hb); clear hb)
      | (go_at_call 20; (with_reducible refine (kflags_any _ _ _ _ _ _ _ _ _ _ _).mono ?_); rintro e w' ⟨rfl, hb⟩; (try rw [HP.out]); have HB := Lib.hid (keepN (RowKit.Hid.out (by assumption : RowKit.Hid (Below (w.heap.size + 1) W0 _))) HZ.out hb); clear hb)
      | (go_at_call 21; (with_reducible refine (flags_any _ _ _ _ _ _ _ _ _ _ _).mono ?_); rintro e w' ⟨rfl, hb⟩; have HB := Lib.hid (keepN (RowKit.Hid.out (by assumption : RowKit.Hid (Below (w.heap.size + 1) W0 _))) HZ.out hb); clear hb)
      | (go_at_call 8; (refine (kplain_any _ _ _ _ _ _ _ _ _ _ L _ (HFT.out _ (RowKit.Hid.out (by assumption))) hown.read hown.nilcap (by have h1 := hown.read.1; have h2 := HLN.out; omega)).mono ?_); rintro e w' ⟨va2, vn2, vc2, rfl, hown2, hb⟩; have HB := Lib.hid (keepN (RowKit.Hid.out (by assumption : RowKit.Hid (Below (w.heap.size + 1) W0 _))) HZ.out hb); clear hb hown2)
      | (go_at_call 14; (with_reducible refine (klives_any _ (HFT.out _ (RowKit.Hid.out (by assumption)))).mono ?_); rintro e w' ⟨rfl, hb⟩; have HB := Lib.hid (keepN (RowKit.Hid.out (by assumption : RowKit.Hid (Below (w.heap.size + 1) W0 _))) HZ.out hb); clear hb))
  all_goals go_wp2_with fail
  all_goals go_ret
  all_goals exact ⟨rfl, HW.out _ (RowKit.Hid.out (by assumption))⟩
end Go.Proofs.YtgkcbaakdphigaaDoor
