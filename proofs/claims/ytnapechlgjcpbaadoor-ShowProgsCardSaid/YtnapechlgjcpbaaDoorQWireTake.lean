/- Layer 3, P3.1: wire.first and the document's Take, walked: which number bytes begin with, or why none. -/
import Derived.Test.YtnapechlgjcpbaaDoorQT0
import Derived.Laws.Bits64b
namespace Go.Proofs.YtnapechlgjcpbaaDoor
open Go.RowKit (wrap64 intOf Below)
set_option linter.unusedVariables false

theorem drop_at {L : List UInt8} {k : Nat} (h : k < L.length) : L.drop k = L[k] :: L.drop (k + 1) := List.drop_eq_getElem_cons h
theorem step_bad {L : List UInt8} {k z : Nat} (h : k < L.length) (hb : (k = 9 ∧ 1 < L[k].toNat) ∨ (0 < k ∧ L[k].toNat = 0)) : takeL (L.drop k) k z = (0, 0, 4) := by
  rw [drop_at h]; unfold takeL; rw [if_pos hb]
theorem step_last {L : List UInt8} {k z : Nat} (h : k < L.length) (hb : ¬ ((k = 9 ∧ 1 < L[k].toNat) ∨ (0 < k ∧ L[k].toNat = 0))) (hs : L[k].toNat < 128) : takeL (L.drop k) k z = (unzz (z + L[k].toNat % 128 * 128 ^ k), k + 1, 0) := by
  rw [drop_at h]; unfold takeL; rw [if_neg hb, if_pos hs]
theorem step_more {L : List UInt8} {k z : Nat} (h : k < L.length) (hb : ¬ ((k = 9 ∧ 1 < L[k].toNat) ∨ (0 < k ∧ L[k].toNat = 0))) (hs : ¬ L[k].toNat < 128) : takeL (L.drop k) k z = takeL (L.drop (k + 1)) (k + 1) (z + L[k].toNat % 128 * 128 ^ k) := by
  rw [drop_at h]; conv => lhs; unfold takeL
  rw [if_neg hb, if_neg hs]
theorem step_end {L : List UInt8} {k z : Nat} (h : L.length ≤ k) : takeL (L.drop k) k z = (0, 0, 3) := by
  rw [List.drop_eq_nil_of_le h]; rfl

theorem low7 (c : UInt8) : bits BinOp.andNot IntKind.u8 (c.toNat : Int) 128 = (c.toNat : Int) % 128 := by
  revert c; apply bytes_all; decide +kernel
/-- What has come, and seven bits more. -/
def joined7 (z c k : Nat) : Nat := z + c % 128 * 128 ^ k
theorem joined_lt {z c k : Nat} (hz : z < 128 ^ k) (hk : k ≤ 9) (hb : k = 9 → c ≤ 1) : joined7 z c k < 18446744073709551616 := by
  unfold joined7
  have hp := pow_le hk
  by_cases h9 : k = 9
  · subst h9
    have : c % 128 * 128 ^ 9 ≤ 1 * 128 ^ 9 := Nat.mul_le_mul_right _ (by have := hb rfl; omega)
    rw [pow9] at this hz ⊢
    omega
  · have h8 := pow_step (i := k) (by omega)
    have : c % 128 * 128 ^ k ≤ 127 * 128 ^ k := Nat.mul_le_mul_right _ (by omega)
    omega
theorem joined_next {z c k : Nat} (hz : z < 128 ^ k) : joined7 z c k < 128 ^ (k + 1) := by
  unfold joined7
  have : c % 128 * 128 ^ k ≤ 127 * 128 ^ k := Nat.mul_le_mul_right _ (by omega)
  rw [Nat.pow_succ]
  omega
theorem two_pow7 (k : Nat) : (2 : Nat) ^ (7 * k) = 128 ^ k := by rw [Nat.pow_mul]
theorem joined_or {z c k : Nat} (hz : z < 128 ^ k) (hk : k ≤ 9) (hb : k = 9 → c ≤ 1) :
    bits BinOp.or IntKind.u64 (z : Int) (IntKind.u64.wrap ((c : Int) % 128 * 2 ^ (7 * k))) = (joined7 z c k : Int) := by
  have hj := joined_lt hz hk hb
  have e1 : ((c : Int) % 128 * 2 ^ (7 * k)) = ((c % 128 * 128 ^ k : Nat) : Int) := by
    rw [Int.natCast_mul, ← two_pow7, Int.natCast_pow]
    rfl
  have hlt : c % 128 * 128 ^ k < 18446744073709551616 := by unfold joined7 at hj; omega
  have hz2 : z < 18446744073709551616 := by unfold joined7 at hj; omega
  rw [e1, IntWalk.u64_in _ ⟨by omega, by omega⟩, bits_or_u64_nat _ _ hz2 hlt]
  unfold joined7
  congr 1
  rw [← two_pow7] at hz ⊢
  rw [Nat.mul_comm, Nat.or_comm, ← Nat.two_pow_add_eq_or_of_lt hz, Nat.add_comm]

def FirstPost (L : List UInt8) (w : World) (e : Ending) (w' : World) : Prop := ∃ m k er, takeL L 0 0 = (m, k, er) ∧ e = .returned (.tuple #[.int .i64 m, .int .i64 (k : Int), .int .i64 er]) ∧ w = w'

end Go.Proofs.YtnapechlgjcpbaaDoor
