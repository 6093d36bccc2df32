/- Layer 3, P3.2, P3.3: what the statement WireJoins asks, walked. -/
import Derived.Test.YtjafjejjljgphaaWireLists
import Derived.Test.YtjafjejjljgphaaWireTexts
namespace Go.Proofs.Ytjafjejjljgphaa
open Go.RowKit (wrap64 intOf Below)
set_option linter.unusedVariables false

theorem wjoins_much (n : Int) (s : ByteArray) (la : Option Addr) (m lc : Nat) (w : World) (hs : s.size ≤ 140737488351232) (hm : m ≤ 140737488351232) (h : 1048576 < s.size ∨ 65536 < m) :
    Calls Try.prog 8 #[.int .i64 n, .string s, .slice la m lc] w fun e w' => e = .returned (.bool true) ∧ Below w.heap.size w w' := by
  by_cases h1 : 1048576 < s.size
  · clear h
    go_enter Try.func8, Try.ntmps8
    go_wp2_with fail
    refine (lives_any _).mono ?_
    rintro e w1 ⟨rfl, hb1⟩
    have HB1 := Lib.hid hb1
    clear hb1
    go_wp2_with fail
    go_ret
    exact ⟨rfl, HB1.out⟩
  · have h2 : 65536 < m := by omega
    have h3 : s.size ≤ 1048576 := by omega
    clear h h1
    go_enter Try.func8, Try.ntmps8
    go_wp2_with fail
    refine (lives_any _).mono ?_
    rintro e w1 ⟨rfl, hb1⟩
    have HB1 := Lib.hid hb1
    clear hb1
    go_wp2_with fail
    go_ret
    exact ⟨rfl, HB1.out⟩

set_option maxRecDepth 100000 in
set_option maxHeartbeats 4000000 in
theorem wjoins_some (n : Int) (s : ByteArray) (la : Option Addr) (m lc : Nat) (Z : List Int) (w : World) (h0 : -9223372036854775808 ≤ n) (h1 : n ≤ 9223372036854775807) (hs : s.size ≤ 1048576) (hi : IntsAt w (.slice la m lc) Z) (hin : ∀ z ∈ Z, InI z) (hm : m ≤ 65536) :
    Calls Try.prog 8 #[.int .i64 n, .string s, .slice la m lc] w fun e w' => e = .returned (.bool true) ∧ Below w.heap.size w w' := by
  have HI := Lib.hid hi
  have HIN := Lib.hid hin
  have HZ := Lib.hid hi.at.1
  have HLZ : RowKit.Hid ((putZ Z).length ≤ 655370) := Lib.hid (by have h1 := putZ_len Z; rw [hi.at.1] at h1; omega)
  have HLS : RowKit.Hid ((putT s).length ≤ 1048586) := Lib.hid (by have h1 := putT_len s; omega)
  have HLN := Lib.hid (putL_len n)
  have HG : RowKit.Hid (Gives (putL n ++ (putT s ++ putZ Z)) n (putL n).length) := Lib.hid (gives_put h0 h1 _)
  have hyp := yes_put Z [] hin (by rw [hi.at.1]; omega)
  rw [hi.at.1, List.append_nil] at hyp
  have HY := Lib.hid hyp
  clear hi hin hyp
  go_enter Try.func8, Try.ntmps8
  go_wp2_with fail
  refine (put_any none 0 0 [] n _ (BytesAt.nil _) (by decide) h0 h1).mono ?_
  rintro e w1 ⟨va1, n1, c1, rfl, hown1, hb1⟩
  rw [List.nil_append] at hown1
  have HB1 := Lib.hid hb1
  have HO1 := Lib.hid hown1
  have HL1 : RowKit.Hid (n1 ≤ 10) := Lib.hid (by rw [← hown1.len]; exact HLN.out)
  clear hb1 hown1
  go_wp2_with fail
  refine (put_text _ _ _ (putL n) s _ HO1.out.read (by have := HL1.out; omega)).mono ?_
  rintro e w2 ⟨va2, n2, c2, rfl, hown2, hb2⟩
  have HB2 := Lib.hid (keepB HB1.out hb2)
  have HO2 := Lib.hid hown2
  have HL2 : RowKit.Hid (n2 ≤ 1048596) := Lib.hid (by rw [← hown2.len, List.length_append]; have h1 := HLN.out; have h2 := HLS.out; omega)
  clear hb2 hown2
  go_wp2_with (at_builtin; refine wpList_copy_nums _ rfl _ _ 40 rfl 2 Try.underlying40 info_i64 _ rfl (heap_alloc_new _ _) (by simp) _ Z rfl (HI.out.since (HB2.out.alloc HB2.out.size _)) ?_; intro va3 n3 c3 w3 hnum3 hb3)
  have HB3 := Lib.hid ((HB2.out.alloc HB2.out.size (.cells #[] 2)).trans (hb3.mono HB2.out.size))
  have HB23 : RowKit.Hid (Below w2.heap.size w2 w3) := Lib.hid (((Below.refl w2.heap.size w2).alloc (Nat.le_refl _) (.cells #[] 2)).trans hb3)
  have HN3 := Lib.hid hnum3
  obtain rfl : n3 = m := by rw [← hnum3.1]; exact HZ.out
  clear hb3 hnum3
  go_wp2_with fail
  refine (put_list _ _ _ (putL n ++ putT s) _ _ _ Z _ (HO2.out.read.since HB23.out) HN3.out HIN.out (by have := HL2.out; omega)).mono ?_
  rintro e w4 ⟨va4, n4, c4, rfl, hown4, hb4⟩
  rw [List.append_assoc] at hown4
  have HB4 := Lib.hid (keepB HB3.out hb4)
  have HO4 := Lib.hid hown4
  have HL4 : RowKit.Hid (n4 ≤ 2000000) := Lib.hid (by rw [← hown4.len, List.length_append, List.length_append]; have h1 := HLN.out; have h2 := HLS.out; have h3 := HLZ.out; omega)
  clear hb4 hown4
  go_wp2_with fail
  refine (take_yes _ _ _ (putL n ++ (putT s ++ putZ Z)) _ HO4.out.read (by have := HL4.out; omega) n _ HG.out).mono ?_
  rintro e w5 ⟨va5, n5, c5, rfl, hown5, hb5⟩
  rw [List.drop_left] at hown5
  have HB5 := Lib.hid (keepB HB4.out hb5)
  have HO5 := Lib.hid hown5
  have HL5 : RowKit.Hid (n5 ≤ 2000000) := Lib.hid (by rw [← hown5.len, List.length_append]; have h2 := HLS.out; have h3 := HLZ.out; omega)
  clear hb5 hown5
  go_wp2_with fail
  refine (take_text_put _ _ _ s (putZ Z) _ HO5.out.read (by have := HL5.out; omega)).mono ?_
  rintro e w6 ⟨va6, n6, c6, rfl, hown6, hb6⟩
  have HB6 := Lib.hid (keepB HB5.out hb6)
  have HO6 := Lib.hid hown6
  have HL6 : RowKit.Hid (n6 ≤ 2000000) := Lib.hid (by rw [← hown6.len]; have h3 := HLZ.out; omega)
  clear hb6 hown6
  go_wp2_with fail
  refine (take_list_yes _ _ _ (putZ Z) (n3 : Int) _ HO6.out.read (by have := HL6.out; omega) Z _ HY.out).mono ?_
  rintro e w7 ⟨va7, n7, c7, ra7, rn7, rc7, rfl, hnum7, hown7, hb7⟩
  rw [List.drop_length] at hown7
  have HB7 := Lib.hid (keepB HB6.out hb7)
  have HN7 := Lib.hid hnum7
  obtain rfl : n7 = n3 := by rw [← hnum7.1]; exact HZ.out
  obtain rfl : rn7 = 0 := hown7.len.symm
  clear hb7 hown7 hnum7
  go_wp2_with fail
  refine (same_yes _ _ _ _ _ Z _ HN7.out (HI.out.since HB7.out).at (by omega)).mono ?_
  rintro e w8 ⟨rfl, q8, rfl⟩
  have HB8 : RowKit.Hid (Below w.heap.size w (w7.drewN q8)) := Lib.hid (keepB HB7.out ⟨rfl, rfl, rfl, Nat.le_refl _, fun _ _ => rfl⟩)
  go_wp2_with fail
  refine (lives_any _).mono ?_
  rintro e w9 ⟨rfl, hb9⟩
  have HB9 := Lib.hid (keepB HB8.out hb9)
  clear hb9
  go_wp2_with fail
  go_ret
  exact ⟨rfl, HB9.out⟩

theorem wjoins_walk (n : Int) (s : ByteArray) (v : Value) (Z : List Int) (w : World) (hn : -9223372036854775808 ≤ n ∧ n ≤ 9223372036854775807) (hs : s.size ≤ 140737488351232) (hi : IntsAt w v Z) (hr : ∀ i, -9223372036854775808 ≤ nth Z i ∧ nth Z i ≤ 9223372036854775807) :
    Calls Try.prog 8 #[.int .i64 n, .string s, v] w fun e w' => e = .returned (.bool true) ∧ Below w.heap.size w w' := by
  have hl := hi.len
  obtain ⟨la, lc, rfl, _⟩ := hi.nums
  by_cases h : 1048576 < s.size ∨ 65536 < Z.length
  · exact wjoins_much n s la _ lc w hs (by omega) h
  · exact wjoins_some n s la _ lc Z w hn.1 hn.2 (by omega) hi (in_of_nth hr) (by omega)
end Go.Proofs.Ytjafjejjljgphaa
