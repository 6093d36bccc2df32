/- Layer 4, plain: which fields of each kind of step play a part (P4.1). Nothing of the program is named here. -/
import Derived.Test.YtdnihphnoibpgaaTextPlain
namespace Go.Proofs.Ytdnihphnoibpgaa
set_option linter.unusedVariables false

/-- The letters of the fields that play a part. -/
def fieldsL (K : Int) : List UInt8 :=
  if K = 0 ∨ K = 1 then [78] else if K = 2 then [83] else if K = 3 ∨ K = 11 then [78, 65, 66] else
  if K = 4 ∨ K = 6 ∨ K = 13 ∨ K = 14 ∨ K = 20 ∨ K = 22 ∨ K = 25 then [65] else
  if K = 5 ∨ K = 7 ∨ K = 8 ∨ K = 15 ∨ K = 19 ∨ K = 21 then [65, 66] else
  if K = 9 then [78, 76, 75] else if K = 10 then [78, 65] else if K = 12 then [78, 75] else if K = 16 ∨ K = 18 then [65, 66, 67] else
  if K = 17 then [75] else if K = 23 then [78, 76] else if K = 24 then [78, 65, 76] else []
def hasB (K : Int) (f : UInt8) : Bool := (fieldsL K).contains f
theorem kinds (K : Int) : (K = 0 ∨ K = 1 ∨ K = 2 ∨ K = 3 ∨ K = 4 ∨ K = 5 ∨ K = 6 ∨ K = 7 ∨ K = 8 ∨ K = 9 ∨ K = 10 ∨ K = 11 ∨ K = 12 ∨ K = 13 ∨ K = 14 ∨ K = 15 ∨ K = 16 ∨ K = 17 ∨ K = 18 ∨ K = 19 ∨ K = 20 ∨ K = 21 ∨ K = 22 ∨ K = 23 ∨ K = 24 ∨ K = 25) ∨ (K < 0 ∨ 25 < K) := by omega
theorem fields_none {K : Int} (h : K < 0 ∨ 25 < K) : fieldsL K = [] := by
  unfold fieldsL
  repeat rw [if_neg (by omega)]
/-- All that can be of the seven at once: N, S, A, B, C, L, K. -/
theorem groups (K : Int) : (hasB K 78, hasB K 83, hasB K 65, hasB K 66, hasB K 67, hasB K 76, hasB K 75) ∈
    [(true, false, false, false, false, false, false), (false, true, false, false, false, false, false), (true, false, true, true, false, false, false), (false, false, true, false, false, false, false),
     (false, false, true, true, false, false, false), (true, false, false, false, false, true, true), (true, false, true, false, false, false, false), (true, false, false, false, false, false, true),
     (false, false, true, true, true, false, false), (false, false, false, false, false, false, true), (true, false, false, false, false, true, false), (true, false, true, false, false, true, false), (false, false, false, false, false, false, false)] := by
  rcases kinds K with h | h
  · rcases h with rfl | rfl | rfl | rfl | rfl | rfl | rfl | rfl | rfl | rfl | rfl | rfl | rfl | rfl | rfl | rfl | rfl | rfl | rfl | rfl | rfl | rfl | rfl | rfl | rfl | rfl
    all_goals decide +kernel
  · unfold hasB
    rw [fields_none h]
    decide +kernel
def pickI (b : Bool) (x : Int) : Int := if b then x else 0
def pickS (b : Bool) (s : ByteArray) : ByteArray := if b then s else ⟨#[]⟩
def pickL (b : Bool) (l : List Int) : List Int := if b then l else []
/-- What a step may do. -/
def mayFail (K N : Int) : Int := if K = 5 ∨ K = 7 ∨ K = 13 ∨ K = 15 ∨ K = 16 ∨ K = 21 ∨ K = 24 ∨ (K = 3 ∧ (N = 3 ∨ N = 4)) then 1 else 0
def mayDo (K : Int) : Int := if K = 10 ∨ K = 15 ∨ K = 19 ∨ K = 20 ∨ K = 21 then 2 else if K = 11 ∨ K = 16 ∨ K = 18 then 4 else if K = 9 ∨ K = 12 ∨ K = 13 ∨ K = 17 then 8 else if K = 23 ∨ K = 24 then 16 else if K = 25 then 32 else 0
def flagsI (K N : Int) : Int := mayFail K N + mayDo K
theorem flags_none {K : Int} (N : Int) (h : K < 0 ∨ 25 < K) : flagsI K N = 0 := by
  unfold flagsI mayFail mayDo
  repeat rw [if_neg (by omega)]
  rfl
theorem flags_plain (K N : Int) : flagsI K (pickI (hasB K 78) N) = flagsI K N := by
  rcases kinds K with h | h
  · rcases h with rfl | rfl | rfl | rfl | rfl | rfl | rfl | rfl | rfl | rfl | rfl | rfl | rfl | rfl | rfl | rfl | rfl | rfl | rfl | rfl | rfl | rfl | rfl | rfl | rfl | rfl
    all_goals rfl
  · rw [flags_none _ h, flags_none _ h]
end Go.Proofs.Ytdnihphnoibpgaa
