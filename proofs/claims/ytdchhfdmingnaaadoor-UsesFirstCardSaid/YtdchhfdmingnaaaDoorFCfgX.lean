/- Layer 7: the document's Order. -/
import Derived.Test.YtdchhfdmingnaaaDoorFCfgW
import Derived.Test.YtdchhfdmingnaaaDoorFT2

namespace Go.Proofs.YtdchhfdmingnaaaDoor
open Go.RowKit (wrap64 intOf Below)
set_option linter.unusedVariables false
set_option linter.unusedSimpArgs false
set_option maxRecDepth 100000 in
set_option maxHeartbeats 1000000 in
theorem reforder_any (r : Int) (a : Option Addr) (n c : Nat) (f : FuncD) (w : World) (hrow : RowV BlockQ 8 w (.slice a n c) f.blocks) (hn : n ≤ 1099511627776) :
    Calls Tryd.prog 53 #[.agg #[.int .i64 r, .slice a n c]] w fun e w' => ∃ va vn vc, e = .returned (.slice va vn vc) ∧ OwnsI w' w.heap.size 3 (.slice va vn vc) (orderL f) ∧ Below w.heap.size w w' := by
  have hlen : n = f.blocks.length := by obtain ⟨_, _, _, e, h, _⟩ := hrow; cases e; exact h.symm
  obtain ⟨U, hU⟩ : ∃ U, ((w.alloc (.cells #[.int .i64 r, .slice a n c] 30)).alloc (.cells #[.slice none 0 0, .slice none 0 0] 115)) = U := ⟨_, rfl⟩
  have hb : Below w.heap.size w U := by rw [← hU]; exact ((Below.refl w.heap.size w).alloc (Nat.le_refl _) _).alloc (by simp) _
  have hblk : WkAt (w.heap.size + 1) U (.slice none 0 0) (.slice none 0 0) := by
    rw [← hU]
    have := World.alloc_heap_new (w.alloc (.cells #[.int .i64 r, .slice a n c] 30)) (.cells #[.slice none 0 0, .slice none 0 0] 115)
    rw [World.size_alloc] at this
    exact this
  have hst : WkSt (w.heap.size + 1) U (.slice none 0 0) (.slice none 0 0) [] [] := ⟨hblk, World.ownsRow_nil _ _ _ 1, World.ownsRow_nil _ _ _ 1, fun i h => by cases h⟩
  have hw := walk_any r a n c f (w.heap.size + 1) w hrow hn (by omega) (n + 1) 0 [] [] _ _ U hb hst Inv.nil (Nat.le_refl _) (by simp)
  have HALL : RowKit.Hid ((walkF n (nxF f) (n + 1) ([], []) 0).2 = orderL f) := Lib.hid (by rw [hlen]; rfl)
  have HW := Lib.hid hw
  have HB := Lib.hid hb
  have HST := Lib.hid hst
  have hsz : U.heap.size = w.heap.size + 2 := by rw [← hU]; simp
  clear hw hb hst hblk hlen
  go_enter Tryd.func53, Tryd.ntmps53
  go_upto_region 2 with fail
  have hc0 : U.cell? ⟨w.heap.size, 0, none⟩ = some (.int .i64 r) := by rw [← hU]; exact (World.cell?_of_block (a := ⟨w.heap.size, 0, none⟩) ((World.grownBy_alloc (w.alloc (.cells #[.int .i64 r, .slice a n c] 30)) _ none).block w.heap.size (by simp) (fun e => by cases e))).trans (World.cell?_alloc_mark _ _ _ _ _)
  have hc1 : U.cell? ⟨w.heap.size, 1, none⟩ = some (.slice a n c) := by rw [← hU]; exact (World.cell?_of_block (a := ⟨w.heap.size, 1, none⟩) ((World.grownBy_alloc (w.alloc (.cells #[.int .i64 r, .slice a n c] 30)) _ none).block w.heap.size (by simp) (fun e => by cases e))).trans (World.cell?_alloc_mark _ _ _ _ _)
  clear hU
  go_wp2_with ((go_at_call 67; refine HW.out.mono ?_); rintro e w2 ⟨rfl, mv, lv, hs, hk⟩; rw [HALL.out] at hs; have HS := Lib.hid hs; have HK := Lib.hid hk; have hcl : w2.cell? ⟨w.heap.size + 1, 1, none⟩ = some lv := (by have := hs.blk; unfold WkAt at this; simp [World.cell?, this]); clear hs hk)
  go_ret
  obtain ⟨va, vn, vc, rfl, _⟩ := HS.out.left.nums
  exact ⟨va, vn, vc, rfl, HS.out.left.mono (by omega), HB.out.trans (HK.out.below HST.out.met (by omega) (by omega))⟩
end Go.Proofs.YtdchhfdmingnaaaDoor
