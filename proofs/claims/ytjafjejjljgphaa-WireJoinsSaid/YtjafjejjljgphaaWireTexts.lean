/- Layer 3, P3.2: what the statement WireTexts asks, walked. -/
import Derived.Test.YtjafjejjljgphaaWireText
import Derived.Deep.DeepCutAuto
namespace Go.Proofs.Ytjafjejjljgphaa
open Go.RowKit (wrap64 intOf Below)
set_option linter.unusedVariables false

theorem putT_drop (s : ByteArray) (X : List UInt8) : (putT s ++ X).drop (putL (s.size : Int)).length = s.data.toList ++ X := by
  unfold putT; rw [List.append_assoc, List.drop_left]
theorem counts_put (s : ByteArray) (X : List UInt8) (h : s.size ≤ 140737488355328) (most : Int) (hm : (s.size : Int) ≤ most) : Counts (putT s ++ X) most s.size (putL (s.size : Int)).length := by
  refine ⟨?_, hm⟩
  unfold putT
  rw [List.append_assoc]
  exact gives_put (by omega) (by omega) _
theorem take_text_put (a : Option Addr) (n c : Nat) (s : ByteArray) (X : List UInt8) (w : World) (hat : BytesAt w a n c (putT s ++ X)) (hn : n ≤ 140737488355328) :
    Calls Try.prog 17 #[.slice a n c, .int .i64 (s.size : Int)] w fun e w' => ∃ va vn vc, e = .returned (.tuple #[.string s, .slice va vn vc, .int .i64 0]) ∧ OwnsB w' w.heap.size 5 (.slice va vn vc) X ∧ Below w.heap.size w w' := by
  have hl := hat.1
  have hsz : s.size ≤ n - (putL (s.size : Int)).length := by
    rw [← hl]; unfold putT; simp only [List.length_append, list_len]; omega
  refine (take_text_yes a n c _ (s.size : Int) w hat hn s.size _ (counts_put s X (by omega) _ (Int.le_refl _)) hsz).mono ?_
  rintro e w' ⟨va, vn, vc, rfl, hown, hb⟩
  rw [putT_drop, ← list_len s] at hown
  rw [List.drop_left] at hown
  refine ⟨va, vn, vc, ?_, hown, hb⟩
  rw [putT_drop, ← list_len s, List.take_left, mk_of]

set_option maxRecDepth 100000 in
set_option maxHeartbeats 4000000 in
theorem wtexts_walk (s : ByteArray) (a : Option Addr) (n c : Nat) (L : List UInt8) (most : Int) (w : World) (hs : s.size ≤ 1048576) (hat : BytesAt w a n c L) (hn : n ≤ 1048576) :
    Calls Try.prog 6 #[.string s, .slice a n c, .int .i64 most] w fun e w' => e = .returned (.bool true) ∧ Below w.heap.size w w' := by
  have HA := Lib.hid hat
  have HNN := Lib.hid hat.1
  have hcc := hat.2.1
  clear hat
  go_enter Try.func6, Try.ntmps6
  go_upto_region 1 with fail
  go_cut [25] (fun t25 wc => t25 = .bool false ∧ RowKit.Hid (Below w.heap.size w wc))
  case first =>
    have hd : Below w.heap.size w w.drew := (Below.refl _ _).drew
    go_region_with (first
      | (go_at_call 10; (with_reducible refine (own_any _ _ _ L _ (HA.out.since hd) (by omega)).mono ?_); rintro e w1 ⟨va1, vn1, vc1, rfl, hown1, hb1⟩; have hd1 := keepB hd hb1; have hl1 := Lib.hid hown1.len)
      | (go_at_call 15; (with_reducible refine (put_text _ _ _ L s _ hown1.read (by have h1 := hl1.out; have h2 := HNN.out; omega)).mono ?_); rintro e w2 ⟨va2, vn2, vc2, rfl, hown2, hb2⟩; have hd2 := keepB hd1 hb2; have ht2 := fun u (hu : Below w2.heap.size w2 u) => text_of (hown2.read.since hu); have hr2 := Below.refl w2.heap.size w2)
      | (go_at_call 16; (with_reducible refine (ref_put_text _ _ _ L s _ (HA.out.since hd2) (by omega)).mono ?_); rintro e w3 ⟨va3, vn3, vc3, rfl, hown3, hb3⟩; have hd3 := keepB hd2 hb3; have ht3 := text_of hown3.read))
    all_goals (go_wp2_with fail; go_meet; exact ⟨by simp, Lib.hid hd3⟩)
  case rest =>
    obtain ⟨rfl, HB0⟩ := hcut
    have hln := HNN.out
    rcases text_or L most with ⟨m, k, hg, hm⟩ | ⟨er, hf⟩
    · have hk : k ≤ n := by have := hg.in.2.1; omega
      rw [hln] at hm
      have HG := Lib.hid hg
      clear hg hln
      go_wp2_with fail
      refine (own_any _ _ _ L _ (HA.out.since HB0.out) (by omega)).mono ?_
      rintro e w1 ⟨va1, n1, c1, rfl, hown1, hb1⟩
      have HB1 := Lib.hid (keepB HB0.out hb1)
      have HO1 := Lib.hid hown1
      obtain rfl : n1 = n := by rw [← hown1.len]; exact HNN.out
      clear hb1 hown1
      go_wp2_with fail
      refine (take_text_yes _ _ _ L most _ HO1.out.read (by omega) m k HG.out hm).mono ?_
      rintro e w2 ⟨va2, n2, c2, rfl, hown2, hb2⟩
      have HB2 := Lib.hid (keepB HB1.out hb2)
      have HO2 := Lib.hid hown2
      clear hb2 hown2
      go_wp2_with fail
      refine (ref_text_yes _ _ _ L most _ (HA.out.since HB2.out) (by omega) m k HG.out hm).mono ?_
      rintro e w3 ⟨rfl, rfl⟩
      have hdd : (L.drop k).drop m = L.drop (k + m) := by rw [List.drop_drop]
      have hs1 : ∀ u, (Instr.slice 22 (.slice a n1 c) (some (.int .i64 ((k : Int) + (m : Int)))) none none).run Try.prog u = .ok (.slice (fromA a c (k + m)) (n1 - (k + m)) (c - (k + m))) u := fun u => slice_from a n1 c (k + m) (by omega) u
      have ht1 : ∀ q, (convert 22 9 (.slice va2 n2 c2)).run Try.prog (w2.drewN q) = .ok (.string (mk (L.drop (k + m)))) (w2.drewN q) := fun q => by rw [← hdd]; exact text_of (HO2.out.read.drewN q)
      have ht2 : ∀ q, (convert 22 9 (.slice (fromA a c (k + m)) (n1 - (k + m)) (c - (k + m)))).run Try.prog (w2.drewN q) = .ok (.string (mk (L.drop (k + m)))) (w2.drewN q) := fun q => text_of (((HA.out.since HB2.out).drewN q).drop (k + m) (by omega))
      clear hdd
      go_wp2_with fail
      go_quiet (fail)
      have HB5 : RowKit.Hid (Below w.heap.size w (w2.drewN nq)) := Lib.hid (keepB HB2.out ⟨rfl, rfl, rfl, Nat.le_refl _, fun _ _ => rfl⟩)
      clear hs1 ht1 ht2
      go_wp2_with fail
      refine (put_text none 0 0 [] s _ (BytesAt.nil _) (by omega)).mono ?_
      rintro e w4 ⟨va4, n4, c4, rfl, hown4, hb4⟩
      rw [List.nil_append] at hown4
      have HB4 := Lib.hid (keepB HB5.out hb4)
      have HO4 := Lib.hid hown4
      have HS4 := Lib.hid hb4.size
      have HH4 := Lib.hid (HA.out.since HB4.out)
      have HL4 : RowKit.Hid ((putT s).length + n1 ≤ 140737488355328) := Lib.hid (by have := putT_len s; omega)
      clear hb4 hown4
      go_wp2_with (at_builtin; refine wpList_append_read _ rfl _ _ 22 rfl 5 Try.underlying22 info_u8 _ _ (putT s) rfl HO4.out HS4.out a n1 c L rfl HH4.out HL4.out ?_; intro va5 n5 c5 w5 hown5 hat5 hb5)
      have HB6 := Lib.hid (HB4.out.trans (hb5.mono HB5.out.size))
      have HO5 := Lib.hid hown5
      have HL5 : RowKit.Hid (n5 ≤ 140737488355328) := Lib.hid (by have h1 := hown5.len; rw [List.length_append] at h1; have h2 := HNN.out; have h3 := HL4.out; omega)
      clear hb5 hown5 hat5
      go_wp2_with fail
      refine (take_text_put _ _ _ s L _ HO5.out.read HL5.out).mono ?_
      rintro e w6 ⟨va6, n6, c6, rfl, hown6, hb6⟩
      have HB7 := Lib.hid (keepB HB6.out hb6)
      have ht6 := text_of hown6.read
      have htb := text_of (HA.out.since HB7.out)
      clear hb6 hown6
      go_wp2_with fail
      refine (lives_any _).mono ?_
      rintro e w7 ⟨rfl, hb7⟩
      have HB8 := Lib.hid (keepB HB7.out hb7)
      clear hb7
      go_wp2_with fail
      go_ret
      exact ⟨rfl, HB8.out⟩
    · have HF := Lib.hid hf
      have hr := hf.err
      clear hf hln
      rcases hr with rfl | rfl | rfl
      all_goals
        go_wp2_with fail
        refine (own_any _ _ _ L _ (HA.out.since HB0.out) (by omega)).mono ?_
        rintro e w1 ⟨va1, n1, c1, rfl, hown1, hb1⟩
        have HB1 := Lib.hid (keepB HB0.out hb1)
        have HO1 := Lib.hid hown1
        obtain rfl : n1 = n := by rw [← hown1.len]; exact HNN.out
        clear hb1 hown1
        go_wp2_with fail
        refine (take_text_no _ _ _ L most _ HO1.out.read (by omega) _ HF.out).mono ?_
        rintro e w2 ⟨rfl, rfl⟩
        go_wp2_with fail
        refine (ref_text_no _ _ _ L most _ (HA.out.since HB1.out) (by omega) _ HF.out).mono ?_
        rintro e w3 ⟨rfl, rfl⟩
        go_wp2_with fail
        go_quiet (fail)
        have HB5 : RowKit.Hid (Below w.heap.size w (w1.drewN nq)) := Lib.hid (keepB HB1.out ⟨rfl, rfl, rfl, Nat.le_refl _, fun _ _ => rfl⟩)
        go_wp2_with fail
        refine (put_text none 0 0 [] s _ (BytesAt.nil _) (by omega)).mono ?_
        rintro e w4 ⟨va4, n4, c4, rfl, hown4, hb4⟩
        rw [List.nil_append] at hown4
        have HB4 := Lib.hid (keepB HB5.out hb4)
        have HO4 := Lib.hid hown4
        have HS4 := Lib.hid hb4.size
        have HH4 := Lib.hid (HA.out.since HB4.out)
        have HL4 : RowKit.Hid ((putT s).length + n1 ≤ 140737488355328) := Lib.hid (by have := putT_len s; omega)
        clear hb4 hown4
        go_wp2_with (at_builtin; refine wpList_append_read _ rfl _ _ 22 rfl 5 Try.underlying22 info_u8 _ _ (putT s) rfl HO4.out HS4.out a n1 c L rfl HH4.out HL4.out ?_; intro va5 n5 c5 w5 hown5 hat5 hb5)
        have HB6 := Lib.hid (HB4.out.trans (hb5.mono HB5.out.size))
        have HO5 := Lib.hid hown5
        have HL5 : RowKit.Hid (n5 ≤ 140737488355328) := Lib.hid (by have h1 := hown5.len; rw [List.length_append] at h1; have h2 := HNN.out; have h3 := HL4.out; omega)
        clear hb5 hown5 hat5
        go_wp2_with fail
        refine (take_text_put _ _ _ s L _ HO5.out.read HL5.out).mono ?_
        rintro e w6 ⟨va6, n6, c6, rfl, hown6, hb6⟩
        have HB7 := Lib.hid (keepB HB6.out hb6)
        have ht6 := text_of hown6.read
        have htb := text_of (HA.out.since HB7.out)
        clear hb6 hown6
        go_wp2_with fail
        refine (lives_any _).mono ?_
        rintro e w7 ⟨rfl, hb7⟩
        have HB8 := Lib.hid (keepB HB7.out hb7)
        clear hb7
        go_wp2_with fail
        go_ret
        exact ⟨rfl, HB8.out⟩
end Go.Proofs.Ytjafjejjljgphaa
