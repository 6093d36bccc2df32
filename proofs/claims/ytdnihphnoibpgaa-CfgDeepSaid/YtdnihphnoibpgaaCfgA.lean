/- Layer 7: package cfg's targets, one by one: the contract of the iterator; which blocks are there; whether a number is in a list. -/
import Derived.Test.YtdnihphnoibpgaaCfgPl
import Derived.Test.YtdnihphnoibpgaaOps
import Derived.RangeFuncNested
import Derived.Shelf.Abstract
import Derived.Shelf.RegionOpen
import Derived.RangeFuncBound
import Derived.RangeFuncCalls
import Derived.RangeFuncLeaves
import Derived.WalkKit
import Derived.OwnWalkIn
import Derived.TacticsInMore
import Derived.LoopNIn
import Derived.LoopIn
namespace Go.Proofs.Ytdnihphnoibpgaa
open Go.RowKit
set_option linter.unusedVariables false
set_option linter.unusedSimpArgs false
attribute [local go_sem] Oper.semAt_some

def thereB (n : Nat) (z : Int) : Bool := decide (There n z)
/-- A function by value. -/
abbrev fnV (r : Int) (a : Option Addr) (n c : Nat) : Value := .agg #[.int .i64 r, .slice a n c]
def TherePost (n : Nat) (z : Int) (w : World) (e : Ending) (w' : World) : Prop := e = .returned (.bool (thereB n z)) ∧ Below w.heap.size w w'
set_option maxRecDepth 100000 in
theorem there_any (r : Int) (a : Option Addr) (n c : Nat) (z : Int) (w : World) (hn : n ≤ 140737488355328) :
    Calls Try.prog 36 #[.agg #[.int .i64 r, .slice a n c], .int .i64 z] w fun e w' => e = .returned (.bool (thereB n z)) ∧ w' = w.alloc (.cells #[.int .i64 r, .slice a n c] 24) := by
  by_cases h0 : 0 ≤ z
  · by_cases h1 : z < (n : Int)
    · have HT : RowKit.Hid (thereB n z = true) := Lib.hid (by unfold thereB; exact decide_eq_true ⟨h0, h1⟩)
      go_enter Try.func36, Try.ntmps36
      go_wp2_with fail
      go_ret
      exact ⟨by rw [HT.out]; rfl, rfl⟩
    · have HT : RowKit.Hid (thereB n z = false) := Lib.hid (by unfold thereB; exact decide_eq_false (by unfold There; omega))
      go_enter Try.func36, Try.ntmps36
      go_wp2_with fail
      go_ret
      exact ⟨by rw [HT.out]; rfl, rfl⟩
  · have HT : RowKit.Hid (thereB n z = false) := Lib.hid (by unfold thereB; exact decide_eq_false (by unfold There; omega))
    have h0' : z < 0 := by omega
    go_enter Try.func36, Try.ntmps36
    go_wp2_with fail
    go_ret
    exact ⟨by rw [HT.out]; rfl, rfl⟩

theorem targets_any (K A T E : Int) (la : Option Addr) (ln lc : Nat) (ma : Option Addr) (mn mc : Nat) (w : World) :
    Calls Try.prog 37 #[.agg #[.int .i64 K, .int .i64 A, .int .i64 T, .int .i64 E, .slice la ln lc, .slice ma mn mc]] w fun e w' => e = .returned (.func (.func 49) #[] #[.pointer (some ⟨w.heap.size, 0, none⟩)]) ∧ w' = w.alloc (.cells #[.int .i64 K, .int .i64 A, .int .i64 T, .int .i64 E, .slice la ln lc, .slice ma mn mc] 33) := by
  go_enter Try.func37, Try.ntmps37
  go_wp2_with fail
  go_ret
  exact ⟨rfl, rfl⟩

/-- A target, its list as it lies. -/
abbrev TgV := Int × Option Addr × Nat × Nat
/-- Where an end goes, its lists as they lie. -/
def tgV (K T E : Int) (la : Option Addr) (ln lc : Nat) (ma : Option Addr) (mn mc : Nat) : List TgV := if K = 0 then [(T, la, ln, lc)] else if K = 1 then [(T, la, ln, lc), (E, ma, mn, mc)] else []
theorem tgV_len (K T E : Int) (la : Option Addr) (ln lc : Nat) (ma : Option Addr) (mn mc : Nat) : (tgV K T E la ln lc ma mn mc).length ≤ 2 := by
  unfold tgV
  repeat' split
  all_goals simp
theorem tgV_tos (e : EndD) (la : Option Addr) (ln lc : Nat) (ma : Option Addr) (mn mc : Nat) : (tgV e.K e.To e.Else la ln lc ma mn mc).map (·.1) = tos e := by
  unfold tgV tos tgts
  repeat' split
  all_goals simp_all
abbrev encT (x : TgV) : Array Value := #[.agg #[.int .i64 x.1, .slice x.2.1 x.2.2.1 x.2.2.2]]
/-- What a round keeps for the iterator. -/
structure KeptT (b : Nat) (W W' : World) : Prop where
  walks : KeepsWalks W W'
  cells : ∀ j, W'.cell? ⟨b, j, none⟩ = W.cell? ⟨b, j, none⟩
theorem KeptT.refl (b : Nat) (W : World) : KeptT b W W := ⟨KeepsWalks.refl W, fun _ => rfl⟩
theorem KeptT.trans {b : Nat} {A B C : World} (h : KeptT b A B) (k : KeptT b B C) : KeptT b A C := ⟨h.walks.trans k.walks, fun j => (k.cells j).trans (h.cells j)⟩
theorem keptT_putObj {b n0 : Nat} (h1 : b < n0) (W : World) (l : Nat) (o o' : Obj) (hl : n0 ≤ l) (ho : W.heap[l]? = some o) (_ : o.isCells = false) (hw : o.isWalk = false) : KeptT b W (W.putObj l o') :=
  ⟨KeepsWalks.putObj _ ho hw, fun j => by simp only [World.cell?, World.putObj_heap_other (show b ≠ l by omega)]⟩
set_option maxRecDepth 100000 in
set_option maxHeartbeats 2000000 in
theorem tg_stops (K A T E : Int) (la : Option Addr) (ln lc : Nat) (ma : Option Addr) (mn mc : Nat) (b n : Nat) (w : World) (hb : ∀ j, w.cell? ⟨b, j, none⟩ = (#[.int .i64 K, .int .i64 A, .int .i64 T, .int .i64 E, .slice la ln lc, .slice ma mn mc] : Array Value)[j]?) :
    SeqStopsK Fence.wide n Try.prog 49 #[.pointer (some ⟨b, 0, none⟩)] encT (KeptT b) (fun xs => xs = tgV K T E la ln lc ma mn mc) (fun pre => ∃ q, pre = (tgV K T E la ln lc ma mn mc).take q) (tgV K T E la ln lc ma mn mc).length w := by
  intro l J Jx W hW hJ hJx hY h0
  have hlt : b < w.heap.size := World.block_lt_of_cell? (a := ⟨b, 0, none⟩) _ (hb 0)
  have HB : RowKit.Hid (∀ u, KeptT b W u → ∀ j, u.cell? ⟨b, j, none⟩ = (#[.int .i64 K, .int .i64 A, .int .i64 T, .int .i64 E, .slice la ln lc, .slice ma mn mc] : Array Value)[j]?) := Lib.hid fun u hu j => (hu.cells j).trans ((hW.cell (p := ⟨b, j, none⟩) hlt).trans (hb j))
  have c0 := HB.out W (KeptT.refl b W) 0
  have c2 := HB.out W (KeptT.refl b W) 2
  have c4 := HB.out W (KeptT.refl b W) 4
  clear hb hlt hW
  refine callsIn_of_wp Try.func49 rfl trivial ?_ rfl
  simp only [Try.ntmps49, List.size_toArray, List.length_cons, List.length_nil, Nat.reduceAdd, Nat.reduceSub, Array.replicate_succ, Array.replicate_zero, List.push_toArray, List.append_toArray, List.nil_append, List.cons_append]
  by_cases hK0 : K = 0
  · have hk : (K == 0) = true := by rw [hK0]; rfl
    have HT : RowKit.Hid (tgV K T E la ln lc ma mn mc = [(T, la, ln, lc)]) := Lib.hid (by unfold tgV; rw [if_pos hK0])
    clear hK0
    have hy0 := hY [] (T, la, ln, lc) W h0 (by rw [HT.out]; simp)
    unfold encT at hy0
    obtain ⟨fn, tmps, assign, body, hy, hR⟩ := hy0
    clear hY
    gi_wp2
    refine ⟨(fun h => (nomatch h)), hR.mono ?_⟩
    rintro e W3 (⟨rfl, hJ3, hk3⟩ | ⟨rfl, hJx3⟩)
    · gi_wp2
      go_end0
      exact ⟨⟨_, rfl⟩, .inl ⟨_, HT.out.symm, hJ3⟩⟩
    · gi_wp2
      go_end0
      exact ⟨⟨_, rfl⟩, .inr ⟨_, ⟨1, by rw [HT.out]; rfl⟩, hJx3⟩⟩
  · have hk : (K == 0) = false := by simpa using hK0
    by_cases hK1 : K = 1
    · have hk1 : (K == 1) = true := by rw [hK1]; rfl
      have HT : RowKit.Hid (tgV K T E la ln lc ma mn mc = [(T, la, ln, lc), (E, ma, mn, mc)]) := Lib.hid (by unfold tgV; rw [if_neg hK0, if_pos hK1])
      clear hK0 hK1
      have hy0 := hY [] (T, la, ln, lc) W h0 (by rw [HT.out]; simp)
      have HY1 := Lib.hid fun W1 h => hY [(T, la, ln, lc)] (E, ma, mn, mc) W1 h (by rw [HT.out]; simp)
      unfold encT at hy0 HY1
      obtain ⟨fn, tmps, assign, body, hy, hR⟩ := hy0
      clear hY
      gi_wp2
      refine ⟨(fun h => (nomatch h)), hR.mono ?_⟩
      rintro e W3 (⟨rfl, hJ3, hk3⟩ | ⟨rfl, hJx3⟩)
      · have d3 := HB.out W3 hk3 3
        have d5 := HB.out W3 hk3 5
        obtain ⟨fn2, tmps2, assign2, body2, hy2, hR2⟩ := HY1.out W3 hJ3
        clear hJ3 hk3 hy hR c0 c2 c4
        gi_wp2
        refine ⟨(fun h => (nomatch h)), hR2.mono ?_⟩
        rintro e W4 (⟨rfl, hJ4, hk4⟩ | ⟨rfl, hJx4⟩)
        · gi_wp2
          go_end0
          exact ⟨⟨_, rfl⟩, .inl ⟨_, HT.out.symm, hJ4⟩⟩
        · gi_wp2
          go_end0
          exact ⟨⟨_, rfl⟩, .inr ⟨_, ⟨2, by rw [HT.out]; rfl⟩, hJx4⟩⟩
      · gi_wp2
        go_end0
        exact ⟨⟨_, rfl⟩, .inr ⟨_, ⟨1, by rw [HT.out]; rfl⟩, hJx3⟩⟩
    · have hk1 : (K == 1) = false := by simpa using hK1
      have HT : RowKit.Hid (tgV K T E la ln lc ma mn mc = []) := Lib.hid (by unfold tgV; rw [if_neg hK0, if_neg hK1])
      clear hK0 hK1 hY
      gi_wp2
      go_end0
      exact ⟨⟨_, rfl⟩, .inl ⟨_, HT.out.symm, h0⟩⟩
end Go.Proofs.Ytdnihphnoibpgaa
