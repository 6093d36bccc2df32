/- Layer 3, P3.1, P3.3, P3.4: wire.Take, walked, and what the statements WirePuts, WireTakes and WireCuts ask. -/
import Derived.Test.YtjafjejjljgphaaWireRefT
import Derived.Deep.RegionHeld3
namespace Go.Proofs.Ytjafjejjljgphaa
open Go.RowKit (wrap64 intOf Below)
set_option linter.unusedVariables false

def TakePost (m : Int) (R : List UInt8) (w : World) (e : Ending) (w' : World) : Prop :=
  ∃ va vn vc, e = .returned (.tuple #[.int .i64 m, .slice va vn vc, .int .i64 0]) ∧ OwnsB w' w.heap.size 5 (.slice va vn vc) R ∧ Below w.heap.size w w'

theorem slice_from (a : Option Addr) (n c k : Nat) (hk : k ≤ n) (u : World) : (Instr.slice 22 (.slice a n c) (some (.int .i64 (k : Int))) none none).run Try.prog u = .ok (.slice (fromA a c k) (n - k) (c - k)) u :=
  run_from Try.underlying22 size_u8 a n c k hk u
theorem slice_to (a : Option Addr) (n c k : Nat) (hk : k ≤ c) (u : World) : (Instr.slice 22 (.slice a n c) none (some (.int .i64 (k : Int))) none).run Try.prog u = .ok (.slice a k c) u :=
  run_to Try.underlying22 size_u8 a n c k hk u
theorem text_of {w : World} {a : Option Addr} {n c : Nat} {L : List UInt8} (h : BytesAt w a n c L) : (convert 22 9 (.slice a n c)).run Try.prog w = .ok (.string (mk L)) w :=
  run_text h 22 9 5 Try.underlying22 Try.underlying5 Try.underlying9

theorem take_yes (a : Option Addr) (n c : Nat) (L : List UInt8) (w : World) (hat : BytesAt w a n c L) (hn : n ≤ 140737488355328) (m : Int) (k : Nat) (hg : Gives L m k) :
    Calls Try.prog 12 #[.slice a n c] w (TakePost m (L.drop k) w) := by
  have hk : k ≤ n := by have := hg.put.2.2.1; rw [hat.1] at this; exact this
  have hsl := slice_from a n c k hk
  have HA := Lib.hid hat
  have HD := Lib.hid (hat.drop k hk)
  have HG := Lib.hid hg
  clear hat hg
  go_enter Try.func12, Try.ntmps12
  go_wp2_with (first | (go_at_call 26; (with_reducible refine (first_yes a n c L _ HA.out hn m k HG.out).mono ?_); rintro e w1 ⟨rfl, rfl⟩) | (go_at_call 25; (with_reducible refine (apart_none _ _ _ (L.drop k) _ HD.out (by omega)).mono ?_); rintro e w2 ⟨va, vn, vc, rfl, hown, hb⟩; have HO := Lib.hid hown; have HB := Lib.hid hb; clear hown hb))
  go_ret3
  exact ⟨va, vn, vc, rfl, HO.out, HB.out⟩
theorem take_no (a : Option Addr) (n c : Nat) (L : List UInt8) (w : World) (hat : BytesAt w a n c L) (hn : n ≤ 140737488355328) (er : Int) (hg : Fails L er) :
    Calls Try.prog 12 #[.slice a n c] w fun e w' => e = .returned (.tuple #[.int .i64 0, .slice none 0 0, .int .i64 er]) ∧ w = w' := by
  have HA := Lib.hid hat
  have HG := Lib.hid hg
  have hr := hg.2
  clear hat hg
  rcases hr with rfl | rfl
  all_goals
    go_enter Try.func12, Try.ntmps12
    go_wp2_with (go_at_call 26; (with_reducible refine (first_no a n c L _ HA.out hn _ HG.out).mono ?_); rintro e w1 ⟨rfl, rfl⟩)
    go_ret3
    exact ⟨rfl, rfl⟩

theorem put64 : putL 64 = [128, 1] := by decide +kernel
theorem gives64 : Gives [128, 1] 64 2 := by
  have := gives_put (n := 64) (by decide) (by decide) []
  rw [List.append_nil, put64] at this
  exact this
theorem text64 {w : World} {B : Nat} {a : Option Addr} {n c : Nat} (h : OwnsB w B 5 (.slice a n c) [128, 1]) : (convert 22 9 (.slice a n c)).run Try.prog w = .ok (.string ⟨#[128, 1]⟩) w := text_of h.read
theorem put_64 (w : World) : Calls Try.prog 9 #[.slice none 0 0, .int .i64 64] w (BytesPost w.heap.size [128, 1] w) := by
  have := put_any none 0 0 [] 64 w (BytesAt.nil w) (by decide) (by decide) (by decide)
  rw [List.nil_append, put64] at this
  exact this
theorem OwnsB.len {w : World} {B : Nat} {e : TypeId} {a : Option Addr} {n c : Nat} {l : List UInt8} (h : OwnsB w B e (.slice a n c) l) : l.length = n := h.read.1

theorem lives_any (w : World) : Calls Try.prog 13 #[] w fun e w' => e = .returned (.bool true) ∧ Below w.heap.size w w' := by
  go_enter Try.func13, Try.ntmps13
  go_wp2_with fail
  refine (put_64 _).mono ?_
  rintro e w1 ⟨va, vn, vc, rfl, hown1, hb1⟩
  have HB1 := Lib.hid hb1
  have HO1 := Lib.hid hown1
  have hn1 : vn = 2 := hown1.len.symm
  clear hb1 hown1
  subst hn1
  go_wp2_with fail
  refine (take_yes _ _ _ [128, 1] _ HO1.out.read (by decide) 64 2 gives64).mono ?_
  rintro e w2 ⟨va2, vn2, vc2, rfl, hown2, hb2⟩
  have HB2 := Lib.hid (HB1.out.trans (hb2.mono HB1.out.size))
  have hn2 : vn2 = 0 := hown2.len.symm
  clear hb2 hown2
  subst hn2
  go_wp2_with fail
  refine (put_64 _).mono ?_
  rintro e w3 ⟨va3, vn3, vc3, rfl, hown3, hb3⟩
  have HB3 := Lib.hid (HB2.out.trans (hb3.mono HB2.out.size))
  have ht := text64 hown3
  clear hb3 hown3
  go_wp2_with fail
  go_ret
  exact ⟨rfl, HB3.out⟩

theorem wcuts_nat (n : Int) (A : Nat) (w : World) (h0 : -9223372036854775808 ≤ n) (h1 : n ≤ 9223372036854775807) (hA : A ≤ 255) :
    Calls Try.prog 5 #[.int .i64 n, .int .u8 (A : Int)] w fun e w' => e = .returned (.bool true) ∧ Below w.heap.size w w' := by
  have hpos := putL_pos n
  have hle := putL_len n
  obtain ⟨N, hN⟩ : ∃ N, (putL n).length = N := ⟨_, rfl⟩
  rw [hN] at hpos hle
  have hlt : A % N < N := Nat.mod_lt _ hpos
  have HF := Lib.hid (fails_cut h0 h1 (A % N) (by rw [hN]; exact hlt))
  have HN := Lib.hid hN
  have hN0 : ((N : Int) == 0) = false := by rw [beq_eq_false_iff_ne]; omega
  have HS : ∀ (a : Option Addr) (c : Nat), N ≤ c → ∀ u, (Instr.slice 22 (.slice a N c) none (some (.int .i64 ((A : Int) % (N : Int)))) none).run Try.prog u = .ok (.slice a (A % N) c) u :=
    fun a c hc u => slice_to a N c (A % N) (by omega) u
  have HS := Lib.hid HS
  have HLT := Lib.hid hlt
  clear hN hlt
  go_enter Try.func5, Try.ntmps5
  go_wp2_with fail
  refine (put_any none 0 0 [] n _ (BytesAt.nil _) (by decide) h0 h1).mono ?_
  rintro e w1 ⟨va, vn, vc, rfl, hown1, hb1⟩
  rw [List.nil_append] at hown1
  have HB1 := Lib.hid hb1
  have HO1 := Lib.hid hown1
  obtain rfl : vn = N := by rw [← HN.out]; exact hown1.len.symm
  have hs := HS.out va vc hown1.read.2.1
  have HT := Lib.hid (hown1.read.take (A % vn) (by have := HLT.out; omega))
  have hm : A % vn ≤ 255 := by have := HLT.out; omega
  clear hb1 hown1
  go_wp2_with fail
  refine (own_any _ _ _ ((putL n).take (A % vn)) _ HT.out (by omega)).mono ?_
  rintro e w2 ⟨va2, vn2, vc2, rfl, hown2, hb2⟩
  have HB2 := Lib.hid (HB1.out.trans (hb2.mono HB1.out.size))
  have HO2 := Lib.hid hown2
  have HL2 : RowKit.Hid (vn2 ≤ 255) := Lib.hid (by have := hown2.len; rw [List.length_take] at this; omega)
  clear hb2 hown2
  go_wp2_with fail
  refine (take_no _ _ _ _ _ HO2.out.read (by have := HL2.out; omega) 3 HF.out).mono ?_
  rintro e w3 ⟨rfl, rfl⟩
  go_wp2_with fail
  refine (lives_any _).mono ?_
  rintro e w4 ⟨rfl, hb4⟩
  have HB4 := Lib.hid (HB2.out.trans (hb4.mono HB2.out.size))
  clear hb4
  go_wp2_with fail
  go_ret
  exact ⟨rfl, HB4.out⟩
theorem wcuts_walk (n a : Int) (w : World) (hn : -9223372036854775808 ≤ n ∧ n ≤ 9223372036854775807) (ha : 0 ≤ a ∧ a ≤ 255) :
    Calls Try.prog 5 #[.int .i64 n, .int .u8 a] w fun e w' => e = .returned (.bool true) ∧ Below w.heap.size w w' := by
  obtain ⟨A, rfl⟩ := Int.eq_ofNat_of_zero_le ha.1
  exact wcuts_nat n A w hn.1 hn.2 (by omega)
end Go.Proofs.Ytjafjejjljgphaa
