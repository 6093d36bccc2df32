/- Layer 4, P4.3: the document's wants and result, walked at the kinds that ask for types alone. (Its text: by wip/gen/refres.py.) -/
import Derived.Test.YtgkcbaakdphigaaDoorKindRowS
import Derived.BigQuiet
namespace Go.Proofs.YtgkcbaakdphigaaDoor
open Go.RowKit (wrap64 intOf Below)
set_option linter.unusedVariables false

theorem wants_0 (w : World) : Calls Tryd.prog 40 #[.int .i64 0] w fun e w' => e = .returned (.tuple #[.slice (some ⟨w.heap.size, 0, none⟩) 0 0, .int .i64 0, .bool true]) ∧ w' = w.alloc (.cells #[] 3) := by
  go_enter Tryd.func40, Tryd.ntmps40
  go_wp2
  exact bodyPost_ret (v := .tuple #[.slice (some ⟨w.heap.size, 0, none⟩) 0 0, .int .i64 0, .bool true]) (by simp [results, Tryd.results40, go_sem]) rfl ⟨rfl, rfl⟩

theorem wants_1 (w : World) : Calls Tryd.prog 40 #[.int .i64 1] w fun e w' => e = .returned (.tuple #[.slice (some ⟨w.heap.size, 0, none⟩) 0 0, .int .i64 1, .bool true]) ∧ w' = w.alloc (.cells #[] 3) := by
  go_enter Tryd.func40, Tryd.ntmps40
  go_wp2
  exact bodyPost_ret (v := .tuple #[.slice (some ⟨w.heap.size, 0, none⟩) 0 0, .int .i64 1, .bool true]) (by simp [results, Tryd.results40, go_sem]) rfl ⟨rfl, rfl⟩

theorem wants_2 (w : World) : Calls Tryd.prog 40 #[.int .i64 2] w fun e w' => e = .returned (.tuple #[.slice (some ⟨w.heap.size, 0, none⟩) 0 0, .int .i64 2, .bool true]) ∧ w' = w.alloc (.cells #[] 3) := by
  go_enter Tryd.func40, Tryd.ntmps40
  go_wp2
  exact bodyPost_ret (v := .tuple #[.slice (some ⟨w.heap.size, 0, none⟩) 0 0, .int .i64 2, .bool true]) (by simp [results, Tryd.results40, go_sem]) rfl ⟨rfl, rfl⟩

theorem wants_12 (w : World) : Calls Tryd.prog 40 #[.int .i64 12] w fun e w' => e = .returned (.tuple #[.slice (some ⟨w.heap.size, 0, none⟩) 0 0, .int .i64 3, .bool true]) ∧ w' = w.alloc (.cells #[] 3) := by
  go_enter Tryd.func40, Tryd.ntmps40
  go_wp2
  exact bodyPost_ret (v := .tuple #[.slice (some ⟨w.heap.size, 0, none⟩) 0 0, .int .i64 3, .bool true]) (by simp [results, Tryd.results40, go_sem]) rfl ⟨rfl, rfl⟩

theorem wants_17 (w : World) : Calls Tryd.prog 40 #[.int .i64 17] w fun e w' => e = .returned (.tuple #[.slice (some ⟨w.heap.size, 0, none⟩) 0 0, .int .i64 4, .bool true]) ∧ w' = w.alloc (.cells #[] 3) := by
  go_enter Tryd.func40, Tryd.ntmps40
  go_wp2
  exact bodyPost_ret (v := .tuple #[.slice (some ⟨w.heap.size, 0, none⟩) 0 0, .int .i64 4, .bool true]) (by simp [results, Tryd.results40, go_sem]) rfl ⟨rfl, rfl⟩

theorem wants_4 (w : World) : Calls Tryd.prog 40 #[.int .i64 4] w fun e w' => e = .returned (.tuple #[.slice (some ⟨w.heap.size, 0, none⟩) 1 1, .int .i64 1, .bool true]) ∧ w' = w.alloc (.cells #[.int .i64 1] 3) := by
  go_enter Tryd.func40, Tryd.ntmps40
  go_wp2
  exact bodyPost_ret (v := .tuple #[.slice (some ⟨w.heap.size, 0, none⟩) 1 1, .int .i64 1, .bool true]) (by simp [results, Tryd.results40, go_sem]) rfl ⟨rfl, rfl⟩

theorem wants_5 (w : World) : Calls Tryd.prog 40 #[.int .i64 5] w fun e w' => e = .returned (.tuple #[.slice (some ⟨w.heap.size, 0, none⟩) 2 2, .int .i64 2, .bool true]) ∧ w' = w.alloc (.cells #[.int .i64 2, .int .i64 2] 3) := by
  go_enter Tryd.func40, Tryd.ntmps40
  go_wp2
  exact bodyPost_ret (v := .tuple #[.slice (some ⟨w.heap.size, 0, none⟩) 2 2, .int .i64 2, .bool true]) (by simp [results, Tryd.results40, go_sem]) rfl ⟨rfl, rfl⟩

theorem wants_8 (w : World) : Calls Tryd.prog 40 #[.int .i64 8] w fun e w' => e = .returned (.tuple #[.slice (some ⟨w.heap.size, 0, none⟩) 2 2, .int .i64 1, .bool true]) ∧ w' = w.alloc (.cells #[.int .i64 2, .int .i64 2] 3) := by
  go_enter Tryd.func40, Tryd.ntmps40
  go_wp2
  exact bodyPost_ret (v := .tuple #[.slice (some ⟨w.heap.size, 0, none⟩) 2 2, .int .i64 1, .bool true]) (by simp [results, Tryd.results40, go_sem]) rfl ⟨rfl, rfl⟩

theorem wants_6 (w : World) : Calls Tryd.prog 40 #[.int .i64 6] w fun e w' => e = .returned (.tuple #[.slice (some ⟨w.heap.size, 0, none⟩) 1 1, .int .i64 0, .bool true]) ∧ w' = w.alloc (.cells #[.int .i64 2] 3) := by
  go_enter Tryd.func40, Tryd.ntmps40
  go_wp2
  exact bodyPost_ret (v := .tuple #[.slice (some ⟨w.heap.size, 0, none⟩) 1 1, .int .i64 0, .bool true]) (by simp [results, Tryd.results40, go_sem]) rfl ⟨rfl, rfl⟩

theorem wants_7 (w : World) : Calls Tryd.prog 40 #[.int .i64 7] w fun e w' => e = .returned (.tuple #[.slice (some ⟨w.heap.size, 0, none⟩) 2 2, .int .i64 0, .bool true]) ∧ w' = w.alloc (.cells #[.int .i64 2, .int .i64 0] 3) := by
  go_enter Tryd.func40, Tryd.ntmps40
  go_wp2
  exact bodyPost_ret (v := .tuple #[.slice (some ⟨w.heap.size, 0, none⟩) 2 2, .int .i64 0, .bool true]) (by simp [results, Tryd.results40, go_sem]) rfl ⟨rfl, rfl⟩

theorem wants_13 (w : World) : Calls Tryd.prog 40 #[.int .i64 13] w fun e w' => e = .returned (.tuple #[.slice (some ⟨w.heap.size, 0, none⟩) 1 1, .int .i64 3, .bool true]) ∧ w' = w.alloc (.cells #[.int .i64 0] 3) := by
  go_enter Tryd.func40, Tryd.ntmps40
  go_wp2
  exact bodyPost_ret (v := .tuple #[.slice (some ⟨w.heap.size, 0, none⟩) 1 1, .int .i64 3, .bool true]) (by simp [results, Tryd.results40, go_sem]) rfl ⟨rfl, rfl⟩

theorem wants_14 (w : World) : Calls Tryd.prog 40 #[.int .i64 14] w fun e w' => e = .returned (.tuple #[.slice (some ⟨w.heap.size, 0, none⟩) 1 1, .int .i64 0, .bool true]) ∧ w' = w.alloc (.cells #[.int .i64 3] 3) := by
  go_enter Tryd.func40, Tryd.ntmps40
  go_wp2
  exact bodyPost_ret (v := .tuple #[.slice (some ⟨w.heap.size, 0, none⟩) 1 1, .int .i64 0, .bool true]) (by simp [results, Tryd.results40, go_sem]) rfl ⟨rfl, rfl⟩

theorem wants_15 (w : World) : Calls Tryd.prog 40 #[.int .i64 15] w fun e w' => e = .returned (.tuple #[.slice (some ⟨w.heap.size, 0, none⟩) 2 2, .int .i64 0, .bool true]) ∧ w' = w.alloc (.cells #[.int .i64 3, .int .i64 0] 3) := by
  go_enter Tryd.func40, Tryd.ntmps40
  go_wp2
  exact bodyPost_ret (v := .tuple #[.slice (some ⟨w.heap.size, 0, none⟩) 2 2, .int .i64 0, .bool true]) (by simp [results, Tryd.results40, go_sem]) rfl ⟨rfl, rfl⟩

theorem wants_16 (w : World) : Calls Tryd.prog 40 #[.int .i64 16] w fun e w' => e = .returned (.tuple #[.slice (some ⟨w.heap.size, 0, none⟩) 3 3, .int .i64 (-1), .bool true]) ∧ w' = w.alloc (.cells #[.int .i64 3, .int .i64 0, .int .i64 0] 3) := by
  go_enter Tryd.func40, Tryd.ntmps40
  go_wp2
  exact bodyPost_ret (v := .tuple #[.slice (some ⟨w.heap.size, 0, none⟩) 3 3, .int .i64 (-1), .bool true]) (by simp [results, Tryd.results40, go_sem]) rfl ⟨rfl, rfl⟩

theorem wants_18 (w : World) : Calls Tryd.prog 40 #[.int .i64 18] w fun e w' => e = .returned (.tuple #[.slice (some ⟨w.heap.size, 0, none⟩) 3 3, .int .i64 (-1), .bool true]) ∧ w' = w.alloc (.cells #[.int .i64 4, .int .i64 0, .int .i64 0] 3) := by
  go_enter Tryd.func40, Tryd.ntmps40
  go_wp2
  exact bodyPost_ret (v := .tuple #[.slice (some ⟨w.heap.size, 0, none⟩) 3 3, .int .i64 (-1), .bool true]) (by simp [results, Tryd.results40, go_sem]) rfl ⟨rfl, rfl⟩

theorem wants_19 (w : World) : Calls Tryd.prog 40 #[.int .i64 19] w fun e w' => e = .returned (.tuple #[.slice (some ⟨w.heap.size, 0, none⟩) 2 2, .int .i64 0, .bool true]) ∧ w' = w.alloc (.cells #[.int .i64 4, .int .i64 0] 3) := by
  go_enter Tryd.func40, Tryd.ntmps40
  go_wp2
  exact bodyPost_ret (v := .tuple #[.slice (some ⟨w.heap.size, 0, none⟩) 2 2, .int .i64 0, .bool true]) (by simp [results, Tryd.results40, go_sem]) rfl ⟨rfl, rfl⟩

theorem wants_21 (w : World) : Calls Tryd.prog 40 #[.int .i64 21] w fun e w' => e = .returned (.tuple #[.slice (some ⟨w.heap.size, 0, none⟩) 2 2, .int .i64 0, .bool true]) ∧ w' = w.alloc (.cells #[.int .i64 4, .int .i64 0] 3) := by
  go_enter Tryd.func40, Tryd.ntmps40
  go_wp2
  exact bodyPost_ret (v := .tuple #[.slice (some ⟨w.heap.size, 0, none⟩) 2 2, .int .i64 0, .bool true]) (by simp [results, Tryd.results40, go_sem]) rfl ⟨rfl, rfl⟩

theorem wants_20 (w : World) : Calls Tryd.prog 40 #[.int .i64 20] w fun e w' => e = .returned (.tuple #[.slice (some ⟨w.heap.size, 0, none⟩) 1 1, .int .i64 0, .bool true]) ∧ w' = w.alloc (.cells #[.int .i64 4] 3) := by
  go_enter Tryd.func40, Tryd.ntmps40
  go_wp2
  exact bodyPost_ret (v := .tuple #[.slice (some ⟨w.heap.size, 0, none⟩) 1 1, .int .i64 0, .bool true]) (by simp [results, Tryd.results40, go_sem]) rfl ⟨rfl, rfl⟩

theorem wants_3 (w : World) : Calls Tryd.prog 40 #[.int .i64 3] w fun e w' => e = .returned (.tuple #[.slice none 0 0, .int .i64 (-1), .bool false]) ∧ w' = w := by
  go_enter Tryd.func40, Tryd.ntmps40
  go_wp2
  exact bodyPost_ret (v := .tuple #[.slice none 0 0, .int .i64 (-1), .bool false]) (by simp [results, Tryd.results40, go_sem]) rfl ⟨rfl, rfl⟩

theorem wants_9 (w : World) : Calls Tryd.prog 40 #[.int .i64 9] w fun e w' => e = .returned (.tuple #[.slice none 0 0, .int .i64 (-1), .bool false]) ∧ w' = w := by
  go_enter Tryd.func40, Tryd.ntmps40
  go_wp2
  exact bodyPost_ret (v := .tuple #[.slice none 0 0, .int .i64 (-1), .bool false]) (by simp [results, Tryd.results40, go_sem]) rfl ⟨rfl, rfl⟩

theorem wants_10 (w : World) : Calls Tryd.prog 40 #[.int .i64 10] w fun e w' => e = .returned (.tuple #[.slice none 0 0, .int .i64 (-1), .bool false]) ∧ w' = w := by
  go_enter Tryd.func40, Tryd.ntmps40
  go_wp2
  exact bodyPost_ret (v := .tuple #[.slice none 0 0, .int .i64 (-1), .bool false]) (by simp [results, Tryd.results40, go_sem]) rfl ⟨rfl, rfl⟩

theorem wants_11 (w : World) : Calls Tryd.prog 40 #[.int .i64 11] w fun e w' => e = .returned (.tuple #[.slice none 0 0, .int .i64 (-1), .bool false]) ∧ w' = w := by
  go_enter Tryd.func40, Tryd.ntmps40
  go_wp2
  exact bodyPost_ret (v := .tuple #[.slice none 0 0, .int .i64 (-1), .bool false]) (by simp [results, Tryd.results40, go_sem]) rfl ⟨rfl, rfl⟩

theorem wants_22 (w : World) : Calls Tryd.prog 40 #[.int .i64 22] w fun e w' => e = .returned (.tuple #[.slice none 0 0, .int .i64 (-1), .bool false]) ∧ w' = w := by
  go_enter Tryd.func40, Tryd.ntmps40
  go_wp2
  exact bodyPost_ret (v := .tuple #[.slice none 0 0, .int .i64 (-1), .bool false]) (by simp [results, Tryd.results40, go_sem]) rfl ⟨rfl, rfl⟩

theorem wants_23 (w : World) : Calls Tryd.prog 40 #[.int .i64 23] w fun e w' => e = .returned (.tuple #[.slice none 0 0, .int .i64 (-1), .bool false]) ∧ w' = w := by
  go_enter Tryd.func40, Tryd.ntmps40
  go_wp2
  exact bodyPost_ret (v := .tuple #[.slice none 0 0, .int .i64 (-1), .bool false]) (by simp [results, Tryd.results40, go_sem]) rfl ⟨rfl, rfl⟩

theorem wants_24 (w : World) : Calls Tryd.prog 40 #[.int .i64 24] w fun e w' => e = .returned (.tuple #[.slice none 0 0, .int .i64 (-1), .bool false]) ∧ w' = w := by
  go_enter Tryd.func40, Tryd.ntmps40
  go_wp2
  exact bodyPost_ret (v := .tuple #[.slice none 0 0, .int .i64 (-1), .bool false]) (by simp [results, Tryd.results40, go_sem]) rfl ⟨rfl, rfl⟩

theorem wants_25 (w : World) : Calls Tryd.prog 40 #[.int .i64 25] w fun e w' => e = .returned (.tuple #[.slice none 0 0, .int .i64 (-1), .bool false]) ∧ w' = w := by
  go_enter Tryd.func40, Tryd.ntmps40
  go_wp2
  exact bodyPost_ret (v := .tuple #[.slice none 0 0, .int .i64 (-1), .bool false]) (by simp [results, Tryd.results40, go_sem]) rfl ⟨rfl, rfl⟩
end Go.Proofs.YtgkcbaakdphigaaDoor
