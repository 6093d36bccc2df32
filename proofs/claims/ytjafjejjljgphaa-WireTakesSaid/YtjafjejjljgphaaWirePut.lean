/- Layer 3, P3.1: wire.Put and the document's Put, walked: they are the bytes ahead, and the number's. -/
import Derived.Test.YtjafjejjljgphaaBytesIn
import Derived.Test.YtjafjejjljgphaaWirePlain
import Derived.Test.YtjafjejjljgphaaRows
import Derived.Lib.Hide
import Derived.Outline
import Derived.Deep.QuietTactic
import Derived.BigQuiet
import Derived.Handy
namespace Go.Proofs.Ytjafjejjljgphaa
open Go.RowKit (wrap64 intOf Below)
set_option linter.unusedVariables false

theorem info_u8 : (Try.prog.info? 5).map (fun i => (i.zero, i.size, i.bytes)) = some (some (.int .u8 0), 1, 1) := by kernel_rfl
theorem size_u8 (w : World) : (sizeOf 5).run Try.prog w = .ok 1 w := size_of_one info_u8 w

/-- A slice of bytes of the call's own comes back. -/
def BytesPost (B : Nat) (L : List UInt8) (w : World) (e : Ending) (w' : World) : Prop :=
  ∃ va vn vc, e = .returned (.slice va vn vc) ∧ OwnsB w' B 5 (.slice va vn vc) L ∧ Below B w w'
theorem OwnsB.read {w : World} {B : Nat} {e : TypeId} {a : Option Addr} {n c : Nat} {l : List UInt8} (h : OwnsB w B e (.slice a n c) l) : BytesAt w a n c l := by
  obtain ⟨a', n', c', he, hat⟩ := h.at
  cases he
  exact hat

theorem own_any (a : Option Addr) (n c : Nat) (L : List UInt8) (w : World) (hat : BytesAt w a n c L) (hn : n ≤ 140737488355328) :
    Calls Try.prog 10 #[.slice a n c] w (BytesPost w.heap.size L w) := by
  go_enter Try.func10, Try.ntmps10
  go_wp2_with (at_builtin; refine wpList_append_read _ rfl _ _ 22 rfl 5 Try.underlying22 info_u8 w.heap.size _ [] rfl (OwnsB.empty w 5) (by simp) a n c L rfl (hat.below ((Below.refl w.heap.size w).alloc (Nat.le_refl _) _) (Nat.le_refl _)) (by simpa using hn) ?_; intro va vn vc w2 hown2 hat2 hb2)
  go_ret
  exact ⟨va, vn, vc, rfl, hown2, ((Below.refl w.heap.size w).alloc (Nat.le_refl _) _).trans hb2⟩

theorem apart_any (a : Option Addr) (n c : Nat) (L : List UInt8) (room : Nat) (w : World) (hat : BytesAt w a n c L) (hn : n + room ≤ 140737488355328) :
    Calls Try.prog 25 #[.slice a n c, .int .i64 (room : Int)] w (BytesPost w.heap.size L w) := by
  obtain ⟨i0, hi, hz0, hz1, hz2⟩ := info_parts info_u8
  have hmk : ∀ u : World, (Instr.makeSlice 22 (.int .i64 0) (.int .i64 ((n : Int) + (room : Int)))).run Try.prog u =
      .ok (.slice (some ⟨u.heap.size, 0, none⟩) 0 (n + room)) (u.alloc (.cells (madeCells #[.int .u8 0] (n + room)) 5)) := fun u => by
    have h := run_make (P := Try.prog) u 22 5 i0 (.int .u8 0) Try.underlying22 hi hz0 .i64 .i64 0 ((n : Int) + (room : Int)) (by omega) (by omega) (by rw [hz2]; omega) (by omega)
    have e : ((n : Int) + (room : Int)).toNat = n + room := by omega
    rw [e] at h
    simpa [hz1, Value.cells] using h
  clear hz0 hz1 hz2 hi
  go_enter Try.func25, Try.ntmps25
  go_wp2_with (at_builtin; refine wpList_append_read _ rfl _ _ 22 rfl 5 Try.underlying22 info_u8 w.heap.size _ [] rfl (OwnsB.made _ _ (Nat.le_refl _) (by unfold maxLen; omega) (by simp [size_madeCells])) (by simp) a n c L rfl (hat.below ((Below.refl w.heap.size w).alloc (Nat.le_refl _) _) (Nat.le_refl _)) (by simp; omega) ?_; intro va vn vc w2 hown2 hat2 hb2)
  go_ret
  exact ⟨va, vn, vc, rfl, hown2, ((Below.refl w.heap.size w).alloc (Nat.le_refl _) _).trans hb2⟩

theorem unsigned_any (n : Int) (w : World) (h0 : -9223372036854775808 ≤ n) (h1 : n ≤ 9223372036854775807) :
    Calls Try.prog 29 #[.int .i64 n] w fun e w' => e = .returned (.int .u64 (zz n : Int)) ∧ w = w' := by
  by_cases hn : n < 0
  · have hz : 2 * (-1 - n) + 1 = (zz n : Int) := by unfold zz; rw [if_pos hn]; omega
    go_enter Try.func29, Try.ntmps29
    go_wp2
    go_ret
    exact ⟨rfl, rfl⟩
  · have hz : 2 * n = (zz n : Int) := by unfold zz; rw [if_neg hn]; omega
    go_enter Try.func29, Try.ntmps29
    go_wp2
    go_ret
    exact ⟨rfl, rfl⟩

/-- A byte that goes on, and the last one. -/
def goOn (y : Nat) : UInt8 := UInt8.ofNat (y % 128 + 128)
theorem goOn_or (y : Nat) : bits BinOp.or IntKind.u8 ((y : Int) % 256) 128 = ((goOn y).toNat : Int) := by
  have H : ∀ k : Fin 256, bits BinOp.or IntKind.u8 (k.val : Int) 128 = ((k.val % 128 + 128 : Nat) : Int) := by decide +kernel
  have h := H ⟨y % 256, by omega⟩
  have e1 : ((y : Int) % 256) = (((y % 256 : Nat)) : Int) := by omega
  have e2 : y % 256 % 128 = y % 128 := by omega
  rw [e1, h]
  unfold goOn
  rw [byte_nat _ (by omega)]
  simp only
  rw [e2]
/-- y is left, and f more bytes may come. -/
def Room (f y : Nat) : Prop := f ≤ 9 ∧ y * 128 ^ (9 - f) < 18446744073709551616
theorem Room.start {n : Int} (h0 : -9223372036854775808 ≤ n) (h1 : n ≤ 9223372036854775807) : Room 9 (zz n) := ⟨Nat.le_refl _, by have := zz_lt h0 h1; simpa using this⟩
theorem Room.more {f y : Nat} (h : Room f y) (hy : 128 ≤ y) : ∃ g, f = g + 1 ∧ putF f y = goOn y :: putF g (y / 128) ∧ Room g (y / 128) := by
  obtain ⟨h1, h2⟩ := h
  cases f with
  | zero => rw [show 9 - 0 = 9 from rfl, pow9] at h2; omega
  | succ g =>
    refine ⟨g, rfl, ?_, by omega, ?_⟩
    · conv => lhs; unfold putF
      rw [if_neg (by omega)]
      rfl
    · have := split_num y (128 ^ (9 - (g + 1)))
      have e : 9 - g = 9 - (g + 1) + 1 := by omega
      rw [e, Nat.pow_succ]
      omega
theorem Room.le {f y : Nat} (h : Room f y) : y ≤ 18446744073709551615 := by
  have h1 := h.2
  have h2 := pow_pos' (9 - f)
  have h3 : y * 1 ≤ y * 128 ^ (9 - f) := Nat.mul_le_mul_left y h2
  omega
theorem Room.last {f y : Nat} (hy : y < 128) : putF f y = [UInt8.ofNat y] := by
  cases f with
  | zero => rfl
  | succ f => unfold putF; rw [if_pos hy]

set_option maxRecDepth 100000 in
theorem grown_any (B : Nat) (v : Value) (l : List UInt8) (n : Int) (w : World) (hown : OwnsB w B 5 v l) (hB : B ≤ w.heap.size) (hl : l.length + 10 ≤ 140737488355328) (h0 : -9223372036854775808 ≤ n) (h1 : n ≤ 9223372036854775807) :
    Calls Try.prog 24 #[v, .int .i64 n] w (BytesPost B (l ++ putL n) w) := by
  have HO := Lib.hid hown
  clear hown
  go_enter Try.func24, Try.ntmps24
  go_wp2_with (go_at_call 29; (with_reducible refine (unsigned_any n _ h0 h1).mono ?_); rintro e w' ⟨rfl, rfl⟩)
  go_loopw [0, 5] (fun bv zv wr => ∃ (f y : Nat) (pre : List UInt8), zv = .int .u64 (y : Int) ∧ pre.length ≤ 9 - f ∧ RowKit.Hid (Room f y) ∧ RowKit.Hid (pre ++ putF f y = putL n) ∧ RowKit.Hid (OwnsB wr B 5 bv (l ++ pre)) ∧ RowKit.Hid (Below B w wr)) (fun _ zv _ => (intOf zv).toNat)
  case atStart => exact ⟨9, zz n, [], rfl, Nat.zero_le _, Lib.hid (Room.start h0 h1), Lib.hid rfl, Lib.hid (by rw [List.append_nil]; exact HO.out), Lib.hid (Below.refl _ _)⟩
  case round =>
    obtain ⟨f, y, pre, rfl, hpl, HR, HP, HW, HB⟩ := hrel
    have hsz := HB.out.size
    by_cases hlt : 128 ≤ y
    · obtain ⟨g, rfl, hput, hroom⟩ := HR.out.more hlt
      have hg : g + 1 ≤ 9 := HR.out.1
      have hor := goOn_or y
      have HQ : RowKit.Hid ((pre ++ [goOn y]) ++ putF g (y / 128) = putL n) := Lib.hid (by rw [← HP.out, hput, List.append_assoc]; rfl)
      have HM := Lib.hid hroom
      have HL : RowKit.Hid ((l ++ pre).length + 1 ≤ 140737488355328) := Lib.hid (by rw [List.length_append]; omega)
      clear hput hroom
      go_wp2_with (at_builtin; refine wpList_append_bytes _ rfl _ _ 22 rfl 5 Try.underlying22 info_u8 B _ (l ++ pre) rfl HW.out (by omega) _ 1 1 _ [goOn y] rfl (by simp) rfl rfl HL.out ?_; intro v2 w2 hown2 hb2 hz2)

      have HW2 : RowKit.Hid (OwnsB w2 B 5 v2 (l ++ (pre ++ [goOn y]))) := Lib.hid (by rw [← List.append_assoc]; exact hown2)
      have HB2 := Lib.hid (HB.out.trans hb2)
      clear hown2 hb2 hz2 hor
      go_wp2
      go_roundw
      case rel => exact ⟨g, y / 128, pre ++ [goOn y], by go_num, by simp; omega, HM, HQ, HW2, HB2⟩
      case measure => simp [intOf]; omega
    · have hlast : putF f y = [UInt8.ofNat y] := Room.last (by omega)
      have HQ : RowKit.Hid (pre ++ [UInt8.ofNat y] = putL n) := Lib.hid (by rw [← HP.out, hlast])
      have HL : RowKit.Hid ((l ++ pre).length + 1 ≤ 140737488355328) := Lib.hid (by rw [List.length_append]; omega)
      have HC : RowKit.Hid (#[Value.int .u8 (y : Int)] = ([UInt8.ofNat y].map byteV).toArray) := Lib.hid (by simp [byteV]; omega)
      clear hlast
      go_wp2_with (at_builtin; refine wpList_append_bytes _ rfl _ _ 22 rfl 5 Try.underlying22 info_u8 B _ (l ++ pre) rfl HW.out (by omega) _ 1 1 _ [UInt8.ofNat y] rfl (by simp) HC.out rfl HL.out ?_; intro v2 w2 hown2 hb2 hz2)
      rw [List.append_assoc, HQ.out] at hown2
      obtain ⟨va, vn, vc, rfl, hat⟩ := hown2.at
      have HB2 := Lib.hid (HB.out.trans hb2)
      go_ret
      exact ⟨va, vn, vc, rfl, hown2, HB2.out⟩

theorem apart_lit (a : Option Addr) (n c : Nat) (L : List UInt8) (w : World) (hat : BytesAt w a n c L) (hn : n + 10 ≤ 140737488355328) :
    Calls Try.prog 25 #[.slice a n c, .int .i64 10] w (BytesPost w.heap.size L w) := apart_any a n c L 10 w hat hn
theorem apart_none (a : Option Addr) (n c : Nat) (L : List UInt8) (w : World) (hat : BytesAt w a n c L) (hn : n ≤ 140737488355328) :
    Calls Try.prog 25 #[.slice a n c, .int .i64 0] w (BytesPost w.heap.size L w) := apart_any a n c L 0 w hat hn

theorem put_any (a : Option Addr) (n c : Nat) (L : List UInt8) (m : Int) (w : World) (hat : BytesAt w a n c L) (hn : n + 10 ≤ 140737488355328) (h0 : -9223372036854775808 ≤ m) (h1 : m ≤ 9223372036854775807) :
    Calls Try.prog 9 #[.slice a n c, .int .i64 m] w (BytesPost w.heap.size (L ++ putL m) w) := by
  have HL : L.length + 10 ≤ 140737488355328 := by rw [hat.1]; exact hn
  have HA := Lib.hid hat
  clear hat
  go_enter Try.func9, Try.ntmps9
  go_wp2_with (go_at_call 25; (with_reducible refine (apart_lit a n c L _ HA.out hn).mono ?_); rintro e w1 ⟨va, vn, vc, rfl, hown1, hb1⟩; have HB1 := Lib.hid hb1; have HO1 := Lib.hid hown1; clear hb1 hown1)
  have hz := HB1.out.size
  refine (grown_any w.heap.size _ L m w1 HO1.out hz HL h0 h1).mono ?_
  rintro e w2 ⟨va2, vn2, vc2, rfl, hown2, hb2⟩
  have HB2 := Lib.hid (HB1.out.trans hb2)
  have HO2 := Lib.hid hown2
  clear hb2 hown2
  go_wp2
  go_ret
  exact ⟨va2, vn2, vc2, rfl, HO2.out, HB2.out⟩

theorem goOn_rem (y : Nat) : (128 : Int) + (y : Int) % 128 = ((goOn y).toNat : Int) := by
  unfold goOn
  rw [byte_nat _ (by omega)]
  omega

set_option maxRecDepth 100000 in
theorem ref_put (a : Option Addr) (n c : Nat) (L : List UInt8) (m : Int) (w : World) (hat : BytesAt w a n c L) (hn : n + 10 ≤ 140737488355328) (h0 : -9223372036854775808 ≤ m) (h1 : m ≤ 9223372036854775807) :
    Calls Try.prog 11 #[.slice a n c, .int .i64 m] w (BytesPost w.heap.size (L ++ putL m) w) := by
  have HLn : L.length + 10 ≤ 140737488355328 := by rw [hat.1]; exact hn
  have HA := Lib.hid hat
  clear hat
  by_cases hneg : m < 0
  all_goals
    have hz : (if m < 0 then 2 * (-1 - m) + 1 else 2 * m) = (zz m : Int) := by unfold zz; split <;> omega
    first | rw [if_pos hneg] at hz | rw [if_neg hneg] at hz
    have HZ := Lib.hid hz
    go_enter Try.func11, Try.ntmps11
    go_wp2_with (at_builtin; refine wpList_append_read _ rfl _ _ 22 rfl 5 Try.underlying22 info_u8 w.heap.size _ [] rfl (OwnsB.empty w 5) (by simp) a n c L rfl (HA.out.below ((Below.refl w.heap.size w).alloc (Nat.le_refl _) _) (Nat.le_refl _)) (by simp; omega) ?_; intro va vn vc w2 hown2 hat2 hb2; have HO := Lib.hid hown2; have HB0 := Lib.hid (((Below.refl w.heap.size w).alloc (Nat.le_refl _) (.cells #[] 5)).trans hb2); clear hown2 hat2 hb2)
    go_loopw [5, 6] (fun bv zv wr => ∃ (f y : Nat) (pre : List UInt8), zv = .int .u64 (y : Int) ∧ pre.length ≤ 9 - f ∧ RowKit.Hid (Room f y) ∧ RowKit.Hid (pre ++ putF f y = putL m) ∧ RowKit.Hid (OwnsB wr w.heap.size 5 bv (L ++ pre)) ∧ RowKit.Hid (Below w.heap.size w wr)) (fun _ zv _ => (intOf zv).toNat)
    case atStart => exact ⟨9, zz m, [], rfl, Nat.zero_le _, Lib.hid (Room.start h0 h1), Lib.hid rfl, Lib.hid (by rw [List.append_nil]; exact HO.out), HB0⟩
    case round =>
      obtain ⟨f, y, pre, rfl, hpl, HR, HP, HW, HB⟩ := hrel
      have hsz := HB.out.size
      have hyle := HR.out.le
      by_cases hlt : 128 ≤ y
      · obtain ⟨g, rfl, hput, hroom⟩ := HR.out.more hlt
        have hg : g + 1 ≤ 9 := HR.out.1
        have hor := goOn_rem y
        have HQ : RowKit.Hid ((pre ++ [goOn y]) ++ putF g (y / 128) = putL m) := Lib.hid (by rw [← HP.out, hput, List.append_assoc]; rfl)
        have HM := Lib.hid hroom
        have HL : RowKit.Hid ((L ++ pre).length + 1 ≤ 140737488355328) := Lib.hid (by rw [List.length_append]; omega)
        have HC : RowKit.Hid (#[Value.int .u8 (128 + (y : Int) % 128)] = ([goOn y].map byteV).toArray) := Lib.hid (by rw [hor]; rfl)
        clear hput hroom hor
        go_wp2_with (at_builtin; refine wpList_append_bytes _ rfl _ _ 22 rfl 5 Try.underlying22 info_u8 w.heap.size _ (L ++ pre) rfl HW.out (by omega) _ 1 1 _ [goOn y] rfl (by simp) HC.out rfl HL.out ?_; intro v2 w2 hown2 hb2 hz2)
        have HW2 : RowKit.Hid (OwnsB w2 w.heap.size 5 v2 (L ++ (pre ++ [goOn y]))) := Lib.hid (by rw [← List.append_assoc]; exact hown2)
        have HB2 := Lib.hid (HB.out.trans hb2)
        clear hown2 hb2 hz2
        go_wp2
        go_roundw
        case rel => exact ⟨g, y / 128, pre ++ [goOn y], by go_num, by simp; omega, HM, HQ, HW2, HB2⟩
        case measure => simp [intOf]; omega
      · have hlast : putF f y = [UInt8.ofNat y] := Room.last (by omega)
        have HQ : RowKit.Hid (pre ++ [UInt8.ofNat y] = putL m) := Lib.hid (by rw [← HP.out, hlast])
        have HL : RowKit.Hid ((L ++ pre).length + 1 ≤ 140737488355328) := Lib.hid (by rw [List.length_append]; omega)
        have HC : RowKit.Hid (#[Value.int .u8 (y : Int)] = ([UInt8.ofNat y].map byteV).toArray) := Lib.hid (by simp [byteV]; omega)
        clear hlast
        go_wp2_with (at_builtin; refine wpList_append_bytes _ rfl _ _ 22 rfl 5 Try.underlying22 info_u8 w.heap.size _ (L ++ pre) rfl HW.out (by omega) _ 1 1 _ [UInt8.ofNat y] rfl (by simp) HC.out rfl HL.out ?_; intro v2 w2 hown2 hb2 hz2)
        rw [List.append_assoc, HQ.out] at hown2
        obtain ⟨va3, vn3, vc3, rfl, hat⟩ := hown2.at
        have HB2 := Lib.hid (HB.out.trans hb2)
        go_ret
        exact ⟨va3, vn3, vc3, rfl, hown2, HB2.out⟩
end Go.Proofs.Ytjafjejjljgphaa
