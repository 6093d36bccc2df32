/- Layer 7: a function cut to its first sixty blocks; the living call of the statements. -/
import Derived.Test.YtdnihphnoibpgaaCfgE
import Derived.Test.YtdnihphnoibpgaaCfgF
import Derived.Test.YtdnihphnoibpgaaKindRef
import Derived.Deep.DeepCutAuto
namespace Go.Proofs.Ytdnihphnoibpgaa
open Go.RowKit (wrap64 intOf Below)
set_option linter.unusedVariables false
set_option linter.unusedSimpArgs false

def fewF (f : FuncD) : FuncD := { f with blocks := f.blocks.take 60 }
def fewN (n : Nat) : Nat := if 60 < n then 60 else n
theorem fewN_le (n : Nat) : fewN n ≤ 60 := by unfold fewN; split <;> omega
theorem fewF_len {f : FuncD} {n : Nat} (h : f.blocks.length = n) : (fewF f).blocks.length = fewN n := by
  unfold fewF fewN
  simp only [List.length_take, h]
  split <;> omega
theorem RowV.take {α : Type} {Q : World → List Value → α → Prop} {k : Nat} {W : World} {a : Option Addr} {n c : Nat} {xs : List α} (h : RowV Q k W (.slice a n c) xs) {m : Nat} (hm : m ≤ n) : RowV Q k W (.slice a m c) (xs.take m) := by
  obtain ⟨a', n', c', e, hl, h1, h2, h3⟩ := h
  cases e
  refine ⟨a, m, c, rfl, by simp; omega, h1, by omega, fun h0 => ?_⟩
  obtain ⟨g, off, rfl, hg, hcs⟩ := h3 (by omega)
  refine ⟨g, off, rfl, hg, fun i hi => ?_⟩
  have hi' : i < xs.length := by simp at hi; omega
  obtain ⟨cs, l, hc, hq⟩ := hcs i hi'
  refine ⟨cs, l, hc, ?_⟩
  rw [List.getElem_take]
  exact hq
theorem RowV.few {f : FuncD} {W : World} {a : Option Addr} {n c : Nat} (h : RowV BlockQ 8 W (.slice a n c) f.blocks) : RowV BlockQ 8 W (.slice a (fewN n) c) (fewF f).blocks := by
  have hl : f.blocks.length = n := by obtain ⟨_, _, _, e, h', _⟩ := h; cases e; exact h'
  have e : (fewF f).blocks = f.blocks.take (fewN n) := by
    unfold fewF fewN
    simp only
    split
    · rfl
    · rw [List.take_of_length_le (by omega), List.take_of_length_le (by omega)]
  rw [e]
  exact h.take (by unfold fewN; split <;> omega)
set_option maxRecDepth 100000 in
theorem few_any (r : Int) (a : Option Addr) (n c : Nat) (w : World) (hn : n ≤ 140737488355328) (hnc : n ≤ c) (hc : c ≤ 9223372036854775807) :
    Calls Try.prog 11 #[.agg #[.int .i64 r, .slice a n c]] w fun e w' => e = .returned (.agg #[.int .i64 r, .slice a (fewN n) c]) ∧ Below w.heap.size w w' := by
  by_cases h : 60 < n
  · have HF : RowKit.Hid (fewN n = 60) := Lib.hid (by unfold fewN; rw [if_pos h])
    have hi : (60 : Int) < n := by omega
    have hc60 : 60 ≤ c := by omega
    have hci : (60 : Int) ≤ c := by omega
    go_enter Try.func11, Try.ntmps11
    go_wp2_with fail
    refine bodyPost_ret (v := .agg #[.int .i64 r, .slice a 60 c]) (by simp [results, Try.results11, go_sem]) rfl ⟨by rw [HF.out], ((Below.refl w.heap.size w).alloc (Nat.le_refl _) _).alloc (by simp) _⟩
  · have HF : RowKit.Hid (fewN n = n) := Lib.hid (by unfold fewN; rw [if_neg h])
    have hi : ¬ (60 : Int) < n := by omega
    go_enter Try.func11, Try.ntmps11
    go_wp2_with fail
    refine bodyPost_ret (v := .agg #[.int .i64 r, .slice a n c]) (by simp [results, Try.results11, go_sem]) rfl ⟨by rw [HF.out], ((Below.refl w.heap.size w).alloc (Nat.le_refl _) _).alloc (by simp) _⟩
def liveF : FuncD := ⟨0, [⟨[], [], ⟨1, 0, 1, 2, [], []⟩⟩, ⟨[], [], ⟨0, 0, 3, 0, [], []⟩⟩, ⟨[], [], ⟨0, 0, 3, 0, [], []⟩⟩, ⟨[], [], ⟨2, 0, 0, 0, [], []⟩⟩]⟩
abbrev liveC : Array Value := #[.slice none 0 0, .slice none 0 0, .int .i64 1, .int .i64 0, .int .i64 1, .int .i64 2, .slice none 0 0, .slice none 0 0, .slice none 0 0, .slice none 0 0, .int .i64 0, .int .i64 0, .int .i64 3, .int .i64 0, .slice none 0 0, .slice none 0 0, .slice none 0 0, .slice none 0 0, .int .i64 0, .int .i64 0, .int .i64 3, .int .i64 0, .slice none 0 0, .slice none 0 0, .slice none 0 0, .slice none 0 0, .int .i64 2, .int .i64 0, .int .i64 0, .int .i64 0, .slice none 0 0, .slice none 0 0]
theorem nums_nil (U : World) : NumsV U (.slice none 0 0) [] := ⟨none, 0, 0, rfl, NumsAt.nil _ _, fun _ => rfl, by omega, fun z hz => by cases hz⟩
theorem ops_nil (U : World) : RowV OpQ 8 U (.slice none 0 0) ([] : List OpD) := ⟨none, 0, 0, rfl, rfl, fun _ => rfl, by omega, fun h => absurd h (by omega)⟩
theorem live_row {U : World} {g : Nat} (hg : g < U.heap.size) (hC : ∀ j, U.cell? ⟨g, j, none⟩ = liveC[j]?) : RowV BlockQ 8 U (.slice (some ⟨g, 0, none⟩) 4 4) liveF.blocks := by
  refine ⟨some ⟨g, 0, none⟩, 4, 4, rfl, rfl, (fun h => by cases h), by omega, fun _ => ⟨g, 0, rfl, hg, fun i hi => ?_⟩⟩
  have hi' : i < 4 := hi
  match i, hi with
    | 0, _ => exact ⟨[.slice none 0 0, .slice none 0 0, .int .i64 1, .int .i64 0, .int .i64 1, .int .i64 2, .slice none 0 0, .slice none 0 0], rfl, fun j hj => by
        rw [hC]
        have hj' : j < 8 := hj
        have : j = 0 ∨ j = 1 ∨ j = 2 ∨ j = 3 ∨ j = 4 ∨ j = 5 ∨ j = 6 ∨ j = 7 := by omega
        rcases this with rfl | rfl | rfl | rfl | rfl | rfl | rfl | rfl <;> rfl, _, _, _, rfl, nums_nil U, ops_nil U, _, _, rfl, (show InR 1 from ⟨by decide, by decide⟩), (show InR 0 from ⟨by decide, by decide⟩), (show InR 1 from ⟨by decide, by decide⟩), (show InR 2 from ⟨by decide, by decide⟩), nums_nil U, nums_nil U⟩
    | 1, _ => exact ⟨[.slice none 0 0, .slice none 0 0, .int .i64 0, .int .i64 0, .int .i64 3, .int .i64 0, .slice none 0 0, .slice none 0 0], rfl, fun j hj => by
        rw [hC]
        have hj' : j < 8 := hj
        have : j = 0 ∨ j = 1 ∨ j = 2 ∨ j = 3 ∨ j = 4 ∨ j = 5 ∨ j = 6 ∨ j = 7 := by omega
        rcases this with rfl | rfl | rfl | rfl | rfl | rfl | rfl | rfl <;> rfl, _, _, _, rfl, nums_nil U, ops_nil U, _, _, rfl, (show InR 0 from ⟨by decide, by decide⟩), (show InR 0 from ⟨by decide, by decide⟩), (show InR 3 from ⟨by decide, by decide⟩), (show InR 0 from ⟨by decide, by decide⟩), nums_nil U, nums_nil U⟩
    | 2, _ => exact ⟨[.slice none 0 0, .slice none 0 0, .int .i64 0, .int .i64 0, .int .i64 3, .int .i64 0, .slice none 0 0, .slice none 0 0], rfl, fun j hj => by
        rw [hC]
        have hj' : j < 8 := hj
        have : j = 0 ∨ j = 1 ∨ j = 2 ∨ j = 3 ∨ j = 4 ∨ j = 5 ∨ j = 6 ∨ j = 7 := by omega
        rcases this with rfl | rfl | rfl | rfl | rfl | rfl | rfl | rfl <;> rfl, _, _, _, rfl, nums_nil U, ops_nil U, _, _, rfl, (show InR 0 from ⟨by decide, by decide⟩), (show InR 0 from ⟨by decide, by decide⟩), (show InR 3 from ⟨by decide, by decide⟩), (show InR 0 from ⟨by decide, by decide⟩), nums_nil U, nums_nil U⟩
    | 3, _ => exact ⟨[.slice none 0 0, .slice none 0 0, .int .i64 2, .int .i64 0, .int .i64 0, .int .i64 0, .slice none 0 0, .slice none 0 0], rfl, fun j hj => by
        rw [hC]
        have hj' : j < 8 := hj
        have : j = 0 ∨ j = 1 ∨ j = 2 ∨ j = 3 ∨ j = 4 ∨ j = 5 ∨ j = 6 ∨ j = 7 := by omega
        rcases this with rfl | rfl | rfl | rfl | rfl | rfl | rfl | rfl <;> rfl, _, _, _, rfl, nums_nil U, ops_nil U, _, _, rfl, (show InR 2 from ⟨by decide, by decide⟩), (show InR 0 from ⟨by decide, by decide⟩), (show InR 0 from ⟨by decide, by decide⟩), (show InR 0 from ⟨by decide, by decide⟩), nums_nil U, nums_nil U⟩
theorem lit_nums {w : World} {Z : List Int} {t : TypeId} {n : Nat} (hn : n = Z.length) : NumsAt (w.alloc (.cells (Z.map numV).toArray t)) (some ⟨w.heap.size, 0, none⟩) n Z := by
  subst hn
  refine ⟨rfl, fun _ => ⟨w.heap.size, 0, rfl, by simp, fun j hj => ?_⟩⟩
  rw [Nat.zero_add, World.cell?_alloc_mark]
  simp [hj]
set_option maxRecDepth 100000 in
set_option maxHeartbeats 1000000 in
theorem lives_any (w : World) : Calls Try.prog 19 #[] w fun e w' => e = .returned (.bool true) ∧ Below w.heap.size w w' := by
  go_enter Try.func19, Try.ntmps19
  go_upto_region 2 with fail
  obtain ⟨U, hU⟩ : ∃ U, ((w.alloc (.cells liveC 35)).alloc (.cells #[.int .i64 0, .slice (some ⟨w.heap.size, 0, none⟩) 4 4] 24)) = U := ⟨_, rfl⟩
  have hz : U.heap.size = w.heap.size + 2 := by rw [← hU]; simp
  have hC : ∀ j, U.cell? ⟨w.heap.size, j, none⟩ = liveC[j]? := by
    intro j
    rw [← hU, World.cell?_of_block (a := ⟨w.heap.size, j, none⟩) ((World.grownBy_alloc (w.alloc (.cells liveC 35)) _ none).block w.heap.size (by simp) (fun e => by cases e))]
    exact World.cell?_alloc_mark _ _ _ _ _
  have hF : ∀ j, U.cell? ⟨w.heap.size + 1, j, none⟩ = (#[.int .i64 0, .slice (some ⟨w.heap.size, 0, none⟩) 4 4] : Array Value)[j]? := by
    intro j
    rw [← hU, show w.heap.size + 1 = (w.alloc (.cells liveC 35)).heap.size by simp]
    exact World.cell?_alloc_mark _ _ _ _ _
  have hB : Below w.heap.size w U := by rw [← hU]; exact ((Below.refl w.heap.size w).alloc (Nat.le_refl _) _).alloc (by simp) _
  have HROW := Lib.hid (live_row (by omega) hC)
  have hc0 : U.cell? ⟨w.heap.size + 1, 0, none⟩ = some (.int .i64 0) := hF 0
  have hc1 : U.cell? ⟨w.heap.size + 1, 1, none⟩ = some (.slice (some ⟨w.heap.size, 0, none⟩) 4 4) := hF 1
  have HC := Lib.hid hC
  have HF := Lib.hid hF
  have HB := Lib.hid hB
  have HO1 : RowKit.Hid (sameB (orderL liveF) [0, 2, 1, 3] = true) := Lib.hid (by decide)
  have HN1 : RowKit.Hid (nextL ⟨1, 0, 1, 2, [], []⟩ = [1, 2]) := Lib.hid rfl
  rw [hU]
  clear hU hC hF hB
  go_wp2_with (first
    | ((go_at_call 39; refine (order_any 0 (some ⟨w.heap.size, 0, none⟩) 4 4 liveF U HROW.out (by omega)).mono ?_); rintro e w1 ⟨va, vn, vc, rfl, ho, hb⟩; have HB1 := Lib.hid hb; have hvn : vn = 4 := (by have h1 := ho.read.1; have h2 : (orderL liveF).length = 4 := (by decide); omega); have HI := Lib.hid ((ints_any va (some ⟨w1.heap.size, 0, none⟩) vn 4 vc 4 (orderL liveF) [0, 2, 1, 3] (w1.alloc (.cells #[.int .i64 0, .int .i64 2, .int .i64 1, .int .i64 3] 3)) (ho.read.since ((Below.refl w1.heap.size w1).alloc (Nat.le_refl _) _)) (lit_nums (Z := [0, 2, 1, 3]) rfl) (by omega) (by omega))); clear ho hb hvn)
    | ((go_at_call 15; refine HI.out.mono ?_); rintro e w2 ⟨rfl, q, rfl⟩; rw [HO1.out]; clear HI; have HB2 : RowKit.Hid (Below U.heap.size U ((w1.alloc (.cells #[.int .i64 0, .int .i64 2, .int .i64 1, .int .i64 3] 3)).drewN q)) := Lib.hid (HB1.out.trans (below_drewN q (((Below.refl U.heap.size w1).alloc HB1.out.size _)))); generalize ((w1.alloc (.cells #[.int .i64 0, .int .i64 2, .int .i64 1, .int .i64 3] 3)).drewN q) = W2 at *; clear hc0 hc1; have hc1 : W2.cell? ⟨w.heap.size + 1, 1, none⟩ = some (.slice (some ⟨w.heap.size, 0, none⟩) 4 4) := (HB2.out.cell (p := ⟨w.heap.size + 1, 1, none⟩) (show w.heap.size + 1 < U.heap.size by omega)).trans (HF.out 1); have hd0 : W2.cell? ⟨w.heap.size, 0, none⟩ = some (.slice none 0 0) := (HB2.out.cell (p := ⟨w.heap.size, 0, none⟩) (show w.heap.size < U.heap.size by omega)).trans (HC.out 0); have hd1 : W2.cell? ⟨w.heap.size, 1, none⟩ = some (.slice none 0 0) := (HB2.out.cell (p := ⟨w.heap.size, 1, none⟩) (show w.heap.size < U.heap.size by omega)).trans (HC.out 1); have hd2 : W2.cell? ⟨w.heap.size, 2, none⟩ = some (.int .i64 1) := (HB2.out.cell (p := ⟨w.heap.size, 2, none⟩) (show w.heap.size < U.heap.size by omega)).trans (HC.out 2); have hd3 : W2.cell? ⟨w.heap.size, 3, none⟩ = some (.int .i64 0) := (HB2.out.cell (p := ⟨w.heap.size, 3, none⟩) (show w.heap.size < U.heap.size by omega)).trans (HC.out 3); have hd4 : W2.cell? ⟨w.heap.size, 4, none⟩ = some (.int .i64 1) := (HB2.out.cell (p := ⟨w.heap.size, 4, none⟩) (show w.heap.size < U.heap.size by omega)).trans (HC.out 4); have hd5 : W2.cell? ⟨w.heap.size, 5, none⟩ = some (.int .i64 2) := (HB2.out.cell (p := ⟨w.heap.size, 5, none⟩) (show w.heap.size < U.heap.size by omega)).trans (HC.out 5); have hd6 : W2.cell? ⟨w.heap.size, 6, none⟩ = some (.slice none 0 0) := (HB2.out.cell (p := ⟨w.heap.size, 6, none⟩) (show w.heap.size < U.heap.size by omega)).trans (HC.out 6); have hd7 : W2.cell? ⟨w.heap.size, 7, none⟩ = some (.slice none 0 0) := (HB2.out.cell (p := ⟨w.heap.size, 7, none⟩) (show w.heap.size < U.heap.size by omega)).trans (HC.out 7))
    | ((go_at_call 16; refine (next_any none 0 0 none 0 0 0 none 0 0 none 0 0 ⟨1, 0, 1, 2, [], []⟩ W2).mono ?_); rintro e w3 ⟨ya, yn, yc, rfl, ho, hb⟩; rw [HN1.out] at ho; have HB3 := Lib.hid hb; have hyn : yn = 2 := (by have h1 := ho.read.1; simpa using h1.symm); have HI2 := Lib.hid ((ints_any ya (some ⟨w3.heap.size, 0, none⟩) yn 2 yc 2 [1, 2] [1, 2] (w3.alloc (.cells #[.int .i64 1, .int .i64 2] 3)) (ho.read.since ((Below.refl w3.heap.size w3).alloc (Nat.le_refl _) _)) (lit_nums (Z := [1, 2]) rfl) (by omega) (by omega))); clear ho hb hyn)
    | ((go_at_call 15; refine HI2.out.mono ?_); rintro e w4 ⟨rfl, q4, rfl⟩; rw [show sameB [1, 2] [1, 2] = true by decide]))
  go_ret
  have hb := HB2.out.trans (HB3.out.mono HB2.out.size)
  exact ⟨rfl, HB.out.trans ((below_drewN q4 (hb.alloc hb.size _)).mono (by omega))⟩
end Go.Proofs.Ytdnihphnoibpgaa
