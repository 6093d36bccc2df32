/- Layer 4: package kind's places: where a step names the values that it is of, one by one: the contract of the iterator. -/
import Derived.Test.YtgkcbaakdphigaaDoorIterAt
import Derived.Test.YtgkcbaakdphigaaDoorKindTab
import Derived.Test.YtgkcbaakdphigaaDoorKindPlainK
import Derived.RangeFuncNested
import Derived.RangeFuncBound
import Derived.RangeFuncCalls
import Derived.RangeFuncLeaves
import Derived.Shelf.Abstract
import Derived.Shelf.RegionOpen
import Derived.WalkKit
import Derived.OwnWalkIn
import Derived.TacticsInMore
import Derived.LoopNIn
import Derived.LoopIn
namespace Go.Proofs.YtgkcbaakdphigaaDoor
open Go.RowKit
set_option linter.unusedVariables false
attribute [local go_sem] Oper.semAt_some

theorem places_any (p : Option Addr) (w : World) :
    Calls Tryd.prog 28 #[.pointer p] w fun e w' => e = .returned (.func (.func 34) #[] #[.pointer (some ⟨w.heap.size, 0, none⟩)]) ∧ w' = w.alloc (.cells #[.pointer p] 52) := by
  go_enter Tryd.func28, Tryd.ntmps28
  go_wp2_with fail
  go_ret
  exact ⟨rfl, rfl⟩
/-- Under a fence that asks no depth a round of one depth is a round of each. -/
theorem yield_depth {F : Fence} (hd : F.depth = none) {m m' : Nat} {P : Program} {l : Nat} {args : Array Value} {W : World} {R : Ending → World → Prop} (h : YieldAt F m P l args W R) : YieldAt F m' P l args W R :=
  have room : ∀ k, F.room k := fun k d e => nomatch hd.symm.trans e
  let ⟨fn, tmps, assign, body, hy, hR⟩ := h
  ⟨fn, tmps, assign, body, hy, hR.1, fun c cs _ => hR.2 c cs (room _)⟩

/-- The first k of N. -/
def firsts (N k : Nat) : List (Fin N) := (List.finRange N).take k
theorem firsts_zero (N : Nat) : firsts N 0 = [] := rfl
theorem firsts_len {N k : Nat} (h : k ≤ N) : (firsts N k).length = k := by simp [firsts, h]
theorem firsts_next {N k : Nat} (h : k < N) : firsts N k ++ [⟨k, h⟩] = firsts N (k + 1) := by
  unfold firsts
  rw [List.take_succ_eq_append_getElem (by simpa using h)]
  simp

/-- A step of the caller's, at each place. -/
def Yields (N n l : Nat) (pl : Fin N → Addr) (J Jx : List (Fin N) → World → Prop) (Kp : World → World → Prop) : Prop :=
  ∀ (k : Nat) (h : k < N) (W : World), J (firsts N k) W → YieldAt Fence.wide n Tryd.prog l #[.pointer (some (pl ⟨k, h⟩))] W fun e W' =>
    (e = .returned (.bool true) ∧ J (firsts N (k + 1)) W' ∧ Kp W W') ∨ (e = .returned (.bool false) ∧ Jx (firsts N (k + 1)) W')

set_option maxRecDepth 100000 in
set_option maxHeartbeats 2000000 in
/-- 'each': a list's places, one by one. -/
theorem each_in (N l : Nat) (pl : Fin N → Addr) (J Jx : List (Fin N) → World → Prop) (Kp : World → World → Prop) (hKr : ∀ W, Kp W W) (hKt : ∀ {A B C : World}, Kp A B → Kp B C → Kp A C) (hY : ∀ n, Yields N n l pl J Jx Kp)
    (m g off ln lc : Nat) (la : Option Addr) (hla : 0 < ln → la = some ⟨g, off, none⟩) (hln : ln ≤ 140737488355328) (hm : m + ln ≤ N) (hpl : ∀ j (h : j < ln), pl ⟨m + j, by omega⟩ = ⟨g, off + j, none⟩) (n : Nat) (W : World) (hJ : J (firsts N m) W) :
    CallsIn Fence.wide n Tryd.prog 35 #[.slice la ln lc, .func (.yield l) #[] #[]] W fun e W' =>
      (e = .returned (.bool true) ∧ J (firsts N (m + ln)) W' ∧ Kp W W') ∨ (e = .returned (.bool false) ∧ ∃ q, q ≤ N ∧ Jx (firsts N q) W') := by
  refine callsIn_of_wp Tryd.func35 rfl trivial ?_ rfl
  simp only [Tryd.ntmps35, List.size_toArray, List.length_cons, List.length_nil, Nat.reduceAdd, Nat.reduceSub, Array.replicate_succ, Array.replicate_zero, List.push_toArray, List.append_toArray, List.nil_append, List.cons_append]
  gi_wp2
  gi_loopw [8] (fun iv wr => ∃ k : Nat, k ≤ ln ∧ iv = .int .i64 (k : Int) ∧ J (firsts N (m + k)) wr ∧ Kp W wr) (fun iv _ => ln - (intOf iv).toNat)
  case atStart => exact ⟨0, Nat.zero_le _, rfl, hJ, hKr W⟩
  case round =>
    obtain ⟨k, hk, rfl, hJs, hKs⟩ := hrel
    by_cases hlt : k < ln
    · obtain rfl := hla (by omega)
      have hy0 := hY (n - 1) (m + k) (by omega) wr hJs
      rw [hpl k hlt] at hy0
      obtain ⟨fn, tmps, assign, body, hy, hR⟩ := hy0
      gi_wp2
      refine ⟨(fun h => (nomatch h)), hR.mono ?_⟩
      rintro e W3 (⟨rfl, hJ3, hk3⟩ | ⟨rfl, hJx3⟩)
      · gi_wp2
        go_roundw
        case rel => exact ⟨k + 1, by omega, by simp, by rw [← Nat.add_assoc]; exact hJ3, hKt hKs hk3⟩
        case measure => simp [intOf]; omega
      · gi_wp2
        go_ret
        exact .inr ⟨rfl, m + k + 1, by omega, hJx3⟩
    · obtain rfl : k = ln := by omega
      gi_wp2
      go_ret
      exact .inl ⟨rfl, hJs, hKs⟩
end Go.Proofs.YtgkcbaakdphigaaDoor
