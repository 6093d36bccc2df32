/- Layer 3, P3.2: what the statement WireLists asks, walked. -/
import Derived.Test.YtjafjejjljgphaaWireRefL
import Derived.Deep.DeepCutAuto
import Derived.Deep.RegionLaw
namespace Go.Proofs.Ytjafjejjljgphaa
open Go.RowKit (wrap64 intOf Below)
set_option linter.unusedVariables false

theorem in_of_nth {Z : List Int} (h : ∀ i, -9223372036854775808 ≤ nth Z i ∧ nth Z i ≤ 9223372036854775807) : ∀ z ∈ Z, InI z := by
  intro z hz
  obtain ⟨j, hj, rfl⟩ := List.mem_iff_getElem.1 hz
  have := h j
  rw [nth_is hj] at this
  exact this
theorem IntsAt.since {w w' : World} {v : Value} {Z : List Int} (h : IntsAt w v Z) (hb : Below w.heap.size w w') : IntsAt w' v Z := h.below hb (Nat.le_refl _)
theorem IntsAt.at {w : World} {la : Option Addr} {m lc : Nat} {Z : List Int} (h : IntsAt w (.slice la m lc) Z) : NumsAt w la m Z := by
  obtain ⟨a, c, he, hn⟩ := h.nums
  cases he
  exact hn

set_option maxRecDepth 100000 in
set_option maxHeartbeats 4000000 in
theorem wlists_lit (la : Option Addr) (m lc : Nat) (Z : List Int) (a : Option Addr) (n c : Nat) (L : List UInt8) (most : Int) (w : World) (hi : IntsAt w (.slice la m lc) Z) (hin : ∀ z ∈ Z, InI z) (hm : m ≤ 1048576) (hat : BytesAt w a n c L) (hn : n ≤ 1048576) :
    Calls Try.prog 7 #[.slice la m lc, .slice a n c, .int .i64 most] w fun e w' => e = .returned (.bool true) ∧ Below w.heap.size w w' := by
  have HA := Lib.hid hat
  have HNN := Lib.hid hat.1
  have HI := Lib.hid hi
  have HIN := Lib.hid hin
  have HZ := Lib.hid hi.at.1
  have hcc := hat.2.1
  clear hat hi hin
  go_enter Try.func7, Try.ntmps7
  go_upto_region 1 with fail
  go_cut [27] (fun t27 wc => t27 = .bool false ∧ RowKit.Hid (Below w.heap.size w wc))
  case first =>
    have hd : Below w.heap.size w w.drew := (Below.refl _ _).drew
    have hdA : Below w.heap.size w (w.alloc (.cells #[] 2)).drew := ((Below.refl _ _).alloc (Nat.le_refl _) _).drew
    go_region_law (first
      | (refine step_copy_nums rfl _ _ 40 rfl 2 Try.underlying40 info_i64 _ rfl _ Z rfl (by first | exact HI.out.since hd1 | exact HI.out.since (hd1.alloc hd1.size _)) ?_; intro va5 n5 c5 w5 hnum5 hb5; (have hk5 : Below w1.heap.size w1 w5 := by first | exact hb5 | exact ((Below.refl _ w1).alloc (Nat.le_refl _) _).trans (hb5.mono (by simp))); have hd5 := keepB hd1 hk5)
      | (go_simp; go_at_call 10; (with_reducible refine (own_any _ _ _ L _ (by first | exact HA.out.since hd | exact HA.out.since hdA) (by omega)).mono ?_); rintro e w1 ⟨va1, vn1, vc1, rfl, hown1, hb1⟩; have hl1 := Lib.hid hown1.len; (first | have hd1 := keepB hd hb1 | have hd1 := keepB hdA hb1))
      | (go_simp; go_at_call 19; (have hl5 : n5 = m := by rw [← hnum5.1]; exact HZ.out); subst hl5; (with_reducible refine (put_list _ _ _ L _ _ _ Z _ (hown1.read.since hk5) hnum5 HIN.out (by have h1 := hl1.out; have h2 := HNN.out; omega)).mono ?_); rintro e w6 ⟨va6, vn6, vc6, rfl, hown6, hb6⟩; have hd6 := keepB hd5 hb6; have ht6 := fun u (hu : Below w6.heap.size w6 u) => text_of (hown6.read.since hu); have hr6 := Below.refl w6.heap.size w6)
      | (go_simp; go_at_call 20; (with_reducible refine (ref_put_list _ _ _ L _ _ _ Z _ (HA.out.since hd6) (HI.out.since hd6).at HIN.out (by omega)).mono ?_); rintro e w7 ⟨va7, vn7, vc7, rfl, hown7, hb7⟩; have hd7 := keepB hd6 hb7; have ht7 := text_of hown7.read))
    all_goals (go_wp2_with fail; go_meet; exact ⟨by simp, Lib.hid hd7⟩)
  case rest =>
    obtain ⟨rfl, HB0⟩ := hcut
    have hln := HNN.out
    rcases list_or L most with ⟨Y, u, hy⟩ | ⟨er, hf⟩
    · have hu : u ≤ n ∧ Y.length ≤ u := by
        obtain ⟨m', k', h1, h2, h3, h4, h5, h6⟩ := hy
        omega
      obtain ⟨hun, hyl⟩ := hu
      have HY0 := Lib.hid hy
      clear hy hln
      go_wp2_with fail
      refine (own_any _ _ _ L _ (HA.out.since HB0.out) (by omega)).mono ?_
      rintro e w1 ⟨va1, n1, c1, rfl, hown1, hb1⟩
      have HB1 := Lib.hid (keepB HB0.out hb1)
      have HO1 := Lib.hid hown1
      obtain rfl : n1 = n := by rw [← hown1.len]; exact HNN.out
      clear hb1 hown1
      go_wp2_with fail
      refine (take_list_yes _ _ _ L most _ HO1.out.read (by omega) Y u HY0.out).mono ?_
      rintro e w2 ⟨va2, n2, c2, ra2, rn2, rc2, rfl, hnum2, hown2, hb2⟩
      have HB2 := Lib.hid (keepB HB1.out hb2)
      have HO2 := Lib.hid hown2
      have HN2 := Lib.hid hnum2
      have hn2 : n2 ≤ 1048576 := by have := hnum2.1; omega
      clear hb2 hown2 hnum2
      go_wp2_with fail
      refine (ref_list_yes _ _ _ L most _ (HA.out.since HB2.out) (by omega) Y u HY0.out).mono ?_
      rintro e w3 ⟨va3, n3, c3, rfl, hnum3, hb3⟩
      obtain rfl : n3 = n2 := by rw [← hnum3.1]; exact HN2.out.1
      have HB3 := Lib.hid (keepB HB2.out hb3)
      have HN3 := Lib.hid hnum3
      have HN23 := Lib.hid (HN2.out.since hb3)
      have hs1 := slice_from a n1 c u hun
      have ht1 : ∀ q, (convert 22 9 (.slice ra2 rn2 rc2)).run Try.prog (w3.drewN q) = .ok (.string (mk (L.drop u))) (w3.drewN q) := fun q => text_of ((HO2.out.read.since hb3).drewN q)
      have ht2 : ∀ q, (convert 22 9 (.slice (fromA a c u) (n1 - u) (c - u))).run Try.prog (w3.drewN q) = .ok (.string (mk (L.drop u))) (w3.drewN q) := fun q => text_of (((HA.out.since HB3.out).drewN q).drop u hun)
      clear hnum3 hb3
      go_wp2_with fail
      go_quiet ((go_at_call 23; exact Calls.quiet_of (same_yes _ _ _ _ _ Y _ (HN23.out.drewN _) (HN3.out.drewN _) (by omega))))
      have HB5 : RowKit.Hid (Below w.heap.size w (w3.drewN nq)) := Lib.hid (keepB HB3.out ⟨rfl, rfl, rfl, Nat.le_refl _, fun _ _ => rfl⟩)
      clear hs1 ht1 ht2
      go_wp2_with (at_builtin; refine wpList_copy_nums _ rfl _ _ 40 rfl 2 Try.underlying40 info_i64 _ rfl (heap_alloc_new _ _) (by simp) _ Z rfl (HI.out.since (HB5.out.alloc HB5.out.size _)) ?_; intro va4 n4 c4 w4 hnum4 hb4)
      have HB4 := Lib.hid ((HB5.out.alloc HB5.out.size (.cells #[] 2)).trans (hb4.mono HB5.out.size))
      have HN4 := Lib.hid hnum4
      obtain rfl : n4 = m := by rw [← hnum4.1]; exact HZ.out
      clear hb4 hnum4
      go_wp2_with fail
      refine (put_list none 0 0 [] _ _ _ Z _ (BytesAt.nil _) HN4.out HIN.out (by omega)).mono ?_
      rintro e w5 ⟨va5, n5, c5, rfl, hown5, hb5⟩
      rw [List.nil_append] at hown5
      have HB6 := Lib.hid (keepB HB4.out hb5)
      have HO5 := Lib.hid hown5
      have HS5 := Lib.hid hb5.size
      have HH5 := Lib.hid (HA.out.since HB6.out)
      have HL5 : RowKit.Hid ((putZ Z).length + n1 ≤ 140737488355328) := Lib.hid (by have h1 := putZ_len Z; rw [HZ.out] at h1; omega)
      have HL6 : RowKit.Hid ((putZ Z).length + n1 ≤ 17592186040320) := Lib.hid (by have h1 := putZ_len Z; rw [HZ.out] at h1; omega)
      clear hb5 hown5
      go_wp2_with (at_builtin; refine wpList_append_read _ rfl _ _ 22 rfl 5 Try.underlying22 info_u8 _ _ (putZ Z) rfl HO5.out HS5.out a n1 c L rfl HH5.out HL5.out ?_; intro va6 n6 c6 w6 hown6 hat6 hb6)
      have HB7 := Lib.hid (HB6.out.trans (hb6.mono HB4.out.size))
      have HO6 := Lib.hid hown6
      have HL7 : RowKit.Hid (n6 ≤ 17592186040320) := Lib.hid (by have h1 := hown6.len; rw [List.length_append] at h1; have h2 := HNN.out; have h3 := HL6.out; omega)
      have hyp := yes_put Z L HIN.out (by rw [HZ.out]; omega)
      rw [HZ.out] at hyp
      have HY := Lib.hid hyp
      clear hb6 hown6 hat6 hyp
      go_wp2_with fail
      refine (take_list_yes _ _ _ (putZ Z ++ L) (n4 : Int) _ HO6.out.read HL7.out Z _ HY.out).mono ?_
      rintro e w7 ⟨va7, n7, c7, ra7, rn7, rc7, rfl, hnum7, hown7, hb7⟩
      rw [List.drop_left] at hown7
      have HB8 := Lib.hid (keepB HB7.out hb7)
      have HN7 := Lib.hid hnum7
      have HO7 := Lib.hid hown7
      obtain rfl : n7 = n4 := by rw [← hnum7.1]; exact HZ.out
      clear hb7 hown7 hnum7
      go_wp2_with fail
      refine (same_yes _ _ _ _ _ Z _ HN7.out (HI.out.since HB8.out).at (by omega)).mono ?_
      rintro e w8 ⟨rfl, q8, rfl⟩
      have ht7 := text_of (HO7.out.read.drewN q8)
      have htb := text_of ((HA.out.since HB8.out).drewN q8)
      have HB9 : RowKit.Hid (Below w.heap.size w (w7.drewN q8)) := Lib.hid (keepB HB8.out ⟨rfl, rfl, rfl, Nat.le_refl _, fun _ _ => rfl⟩)
      go_wp2_with fail
      refine (lives_any _).mono ?_
      rintro e w9 ⟨rfl, hb9⟩
      have HB10 := Lib.hid (keepB HB9.out hb9)
      clear hb9
      go_wp2_with fail
      go_ret
      exact ⟨rfl, HB10.out⟩
    · have HF := Lib.hid hf
      have hr := hf.err
      clear hf hln
      rcases hr with rfl | rfl | rfl
      all_goals
        go_wp2_with fail
        refine (own_any _ _ _ L _ (HA.out.since HB0.out) (by omega)).mono ?_
        rintro e w1 ⟨va1, n1, c1, rfl, hown1, hb1⟩
        have HB1 := Lib.hid (keepB HB0.out hb1)
        have HO1 := Lib.hid hown1
        obtain rfl : n1 = n := by rw [← hown1.len]; exact HNN.out
        clear hb1 hown1
        go_wp2_with fail
        refine (take_list_no _ _ _ L most _ HO1.out.read (by omega) _ HF.out).mono ?_
        rintro e w2 ⟨rfl, hb2⟩
        have HB2 := Lib.hid (keepB HB1.out hb2)
        clear hb2
        go_wp2_with fail
        refine (ref_list_no _ _ _ L most _ (HA.out.since HB2.out) (by omega) _ HF.out).mono ?_
        rintro e w3 ⟨rfl, hb3⟩
        have HB3 := Lib.hid (keepB HB2.out hb3)
        clear hb3
        go_wp2_with fail
        go_quiet ((go_at_call 23; exact Calls.quiet_of (same_yes none none 0 0 0 [] _ (NumsAt.nil _ _) (NumsAt.nil _ _) (by omega))))
        have HB5 : RowKit.Hid (Below w.heap.size w (w3.drewN nq)) := Lib.hid (keepB HB3.out ⟨rfl, rfl, rfl, Nat.le_refl _, fun _ _ => rfl⟩)
        go_wp2_with (at_builtin; refine wpList_copy_nums _ rfl _ _ 40 rfl 2 Try.underlying40 info_i64 _ rfl (heap_alloc_new _ _) (by simp) _ Z rfl (HI.out.since (HB5.out.alloc HB5.out.size _)) ?_; intro va4 n4 c4 w4 hnum4 hb4)
        have HB4 := Lib.hid ((HB5.out.alloc HB5.out.size (.cells #[] 2)).trans (hb4.mono HB5.out.size))
        have HN4 := Lib.hid hnum4
        obtain rfl : n4 = m := by rw [← hnum4.1]; exact HZ.out
        clear hb4 hnum4
        go_wp2_with fail
        refine (put_list none 0 0 [] _ _ _ Z _ (BytesAt.nil _) HN4.out HIN.out (by omega)).mono ?_
        rintro e w5 ⟨va5, n5, c5, rfl, hown5, hb5⟩
        rw [List.nil_append] at hown5
        have HB6 := Lib.hid (keepB HB4.out hb5)
        have HO5 := Lib.hid hown5
        have HS5 := Lib.hid hb5.size
        have HH5 := Lib.hid (HA.out.since HB6.out)
        have HL5 : RowKit.Hid ((putZ Z).length + n1 ≤ 140737488355328) := Lib.hid (by have h1 := putZ_len Z; rw [HZ.out] at h1; omega)
        have HL6 : RowKit.Hid ((putZ Z).length + n1 ≤ 17592186040320) := Lib.hid (by have h1 := putZ_len Z; rw [HZ.out] at h1; omega)
        clear hb5 hown5
        go_wp2_with (at_builtin; refine wpList_append_read _ rfl _ _ 22 rfl 5 Try.underlying22 info_u8 _ _ (putZ Z) rfl HO5.out HS5.out a n1 c L rfl HH5.out HL5.out ?_; intro va6 n6 c6 w6 hown6 hat6 hb6)
        have HB7 := Lib.hid (HB6.out.trans (hb6.mono HB4.out.size))
        have HO6 := Lib.hid hown6
        have HL7 : RowKit.Hid (n6 ≤ 17592186040320) := Lib.hid (by have h1 := hown6.len; rw [List.length_append] at h1; have h2 := HNN.out; have h3 := HL6.out; omega)
        have hyp := yes_put Z L HIN.out (by rw [HZ.out]; omega)
        rw [HZ.out] at hyp
        have HY := Lib.hid hyp
        clear hb6 hown6 hat6 hyp
        go_wp2_with fail
        refine (take_list_yes _ _ _ (putZ Z ++ L) (n4 : Int) _ HO6.out.read HL7.out Z _ HY.out).mono ?_
        rintro e w7 ⟨va7, n7, c7, ra7, rn7, rc7, rfl, hnum7, hown7, hb7⟩
        rw [List.drop_left] at hown7
        have HB8 := Lib.hid (keepB HB7.out hb7)
        have HN7 := Lib.hid hnum7
        have HO7 := Lib.hid hown7
        obtain rfl : n7 = n4 := by rw [← hnum7.1]; exact HZ.out
        clear hb7 hown7 hnum7
        go_wp2_with fail
        refine (same_yes _ _ _ _ _ Z _ HN7.out (HI.out.since HB8.out).at (by omega)).mono ?_
        rintro e w8 ⟨rfl, q8, rfl⟩
        have ht7 := text_of (HO7.out.read.drewN q8)
        have htb := text_of ((HA.out.since HB8.out).drewN q8)
        have HB9 : RowKit.Hid (Below w.heap.size w (w7.drewN q8)) := Lib.hid (keepB HB8.out ⟨rfl, rfl, rfl, Nat.le_refl _, fun _ _ => rfl⟩)
        go_wp2_with fail
        refine (lives_any _).mono ?_
        rintro e w9 ⟨rfl, hb9⟩
        have HB10 := Lib.hid (keepB HB9.out hb9)
        clear hb9
        go_wp2_with fail
        go_ret
        exact ⟨rfl, HB10.out⟩

theorem wlists_walk (v : Value) (Z : List Int) (a : Option Addr) (n c : Nat) (L : List UInt8) (most : Int) (w : World) (hi : IntsAt w v Z) (hr : ∀ i, -9223372036854775808 ≤ nth Z i ∧ nth Z i ≤ 9223372036854775807) (hm : Z.length ≤ 1048576) (hat : BytesAt w a n c L) (hn : n ≤ 1048576) :
    Calls Try.prog 7 #[v, .slice a n c, .int .i64 most] w fun e w' => e = .returned (.bool true) ∧ Below w.heap.size w w' := by
  obtain ⟨la, lc, rfl, _⟩ := hi.nums
  exact wlists_lit la _ lc Z a n c L most w hi (in_of_nth hr) hm hat hn
end Go.Proofs.Ytjafjejjljgphaa
