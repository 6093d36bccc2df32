/- Layer 3, P3.2: the document's TakeList, walked: which list bytes begin with, or why none. -/
import Derived.Test.YtjafjejjljgphaaWireTakeL
namespace Go.Proofs.Ytjafjejjljgphaa
open Go.RowKit (wrap64 intOf Below)
set_option linter.unusedVariables false

/-- Where the reading stands: so far so good, or at an error. -/
def Stand (m k n : Nat) (L : List UInt8) (i t : Nat) (acc : List Int) (er : Int) : Prop :=
  (er = 0 ∧ i ≤ m ∧ t ≤ n ∧ i ≤ t ∧ acc.length = i ∧ takes m L k [] = takes (m - i) L t acc) ∨ ((er = 3 ∨ er = 4) ∧ takes m L k [] = ([], 0, er))
def RefListPost (m k : Nat) (L : List UInt8) (w : World) (e : Ending) (w' : World) : Prop :=
  (∃ Z u va vn vc, takes m L k [] = (Z, u, 0) ∧ e = .returned (.tuple #[.slice va vn vc, .int .i64 (u : Int), .int .i64 0]) ∧ NumsAt w' va vn Z ∧ Below w.heap.size w w') ∨
  (∃ er, takes m L k [] = ([], 0, er) ∧ (er = 3 ∨ er = 4) ∧ e = .returned (.tuple #[.slice none 0 0, .int .i64 0, .int .i64 er]) ∧ Below w.heap.size w w')

set_option maxRecDepth 100000 in
set_option maxHeartbeats 1000000 in
theorem ref_list_any (a : Option Addr) (n c : Nat) (L : List UInt8) (most : Int) (w : World) (hat : BytesAt w a n c L) (hn : n ≤ 17592186040320) (m k : Nat) (hg : Counts L most m k) :
    Calls Try.prog 22 #[.slice a n c, .int .i64 most] w (RefListPost m k L w) := by
  have hin := hg.in
  rw [hat.1] at hin
  obtain ⟨hk1, hkn, hm63⟩ := hin
  have C1 := Lib.hid (ref_count_yes a n c L most w hat (by omega) m k hg)
  have HA := Lib.hid hat
  have HLN := Lib.hid hat.1
  clear hat hg
  go_enter Try.func22, Try.ntmps22
  go_wp2_with fail
  refine C1.out.mono ?_
  rintro e w1 ⟨rfl, rfl⟩
  go_wp2_with fail
  go_loopw [8, 9, 10, 11] (fun tv ev lv iv wr => ∃ (i t : Nat) (acc : List Int) (er : Int), tv = .int .i64 (t : Int) ∧ ev = .int .i64 er ∧ iv = .int .i64 (i : Int) ∧ RowKit.Hid (Stand m k n L i t acc er) ∧ RowKit.Hid (OwnsI wr w.heap.size 2 lv acc) ∧ RowKit.Hid (Below w.heap.size w wr)) (fun _ _ _ iv _ => m + 1 - (intOf iv).toNat)
  case atStart => exact ⟨0, k, [], 0, rfl, rfl, rfl, Lib.hid (Or.inl ⟨rfl, Nat.zero_le _, hkn, Nat.zero_le _, rfl, rfl⟩), Lib.hid (OwnsI.made #[] 0 (Nat.le_refl _) (Nat.zero_le _) rfl), Lib.hid ((Below.refl _ _).alloc (Nat.le_refl _) _)⟩
  case round =>
    obtain ⟨i, t, acc, er, rfl, rfl, rfl, HST, HO, HB⟩ := hrel
    have hsz := HB.out.size
    rcases HST.out with ⟨rfl, him, htn, hit, hacc, ht⟩ | ⟨hr, ht⟩
    · have HT := Lib.hid ht
      have HACC := Lib.hid hacc
      clear ht hacc HST
      have hs1 := slice_from a n c t htn
      have HD := Lib.hid ((HA.out.since HB.out).drop t htn)
      by_cases hlt : i < m
      · obtain ⟨j, hj⟩ : ∃ j, m - i = j + 1 := ⟨m - i - 1, by omega⟩
        have HROOM : RowKit.Hid ((acc.length + 1) * 8 ≤ 140737488355328) := Lib.hid (by rw [HACC.out]; omega)
        rcases gives_or_fails (L.drop t) with ⟨z, s, hg⟩ | ⟨er, hf⟩
        · have hp := hg.put
          rw [List.length_drop, HLN.out] at hp
          have hts : t + s ≤ n := by omega
          have HST2 : RowKit.Hid (Stand m k n L (i + 1) (t + s) (acc ++ [z]) 0) := Lib.hid (Or.inl ⟨rfl, hlt, hts, by omega, by rw [List.length_append, HACC.out]; rfl, by rw [HT.out, hj, takes_yes hg]; congr 1; omega⟩)
          have HG := Lib.hid hg
          clear hg hp hj
          go_wp2_with fail
          refine (rtake_yes _ _ _ (L.drop t) _ HD.out (by omega) z s HG.out).mono ?_
          rintro e w2 ⟨rfl, rfl⟩
          go_wp2_with (at_builtin; refine wpList_append_num _ rfl _ _ 40 rfl 2 Try.underlying40 info_i64 w.heap.size _ acc rfl HO.out hsz _ 1 _ z rfl (by simp) rfl HROOM.out ?_; intro v2 w2 hown2 hb2; have HO2 := Lib.hid hown2; have HB2 := Lib.hid (HB.out.trans hb2); clear hown2 hb2)
          go_roundw
          case rel => exact ⟨i + 1, t + s, acc ++ [z], 0, by go_num, rfl, by go_num, HST2, HO2, HB2⟩
          case measure => simp [intOf]; omega
        · have HST2 : RowKit.Hid (Stand m k n L (i + 1) t (acc ++ [0]) er) := Lib.hid (Or.inr ⟨hf.2, by rw [HT.out, hj, takes_no hf]⟩)
          have HF := Lib.hid hf
          clear hf hj
          go_wp2_with fail
          refine (rtake_no _ _ _ (L.drop t) _ HD.out (by omega) _ HF.out).mono ?_
          rintro e w2 ⟨rfl, rfl⟩
          go_wp2_with (at_builtin; refine wpList_append_num _ rfl _ _ 40 rfl 2 Try.underlying40 info_i64 w.heap.size _ acc rfl HO.out hsz _ 1 _ 0 rfl (by simp) rfl HROOM.out ?_; intro v2 w2 hown2 hb2; have HO2 := Lib.hid hown2; have HB2 := Lib.hid (HB.out.trans hb2); clear hown2 hb2)
          go_roundw
          case rel => exact ⟨i + 1, t, acc ++ [0], er, by go_num, rfl, by go_num, HST2, HO2, HB2⟩
          case measure => simp [intOf]; omega
      · have hii : m - i = 0 := by omega
        have HE : RowKit.Hid (takes m L k [] = (acc, t, 0)) := Lib.hid (by rw [HT.out, hii]; rfl)
        clear hii
        obtain ⟨la, ln, lc, rfl, hnum⟩ := HO.out.nums
        have HNUM := Lib.hid hnum
        clear hnum
        go_wp2_with fail
        go_ret3
        exact Or.inl ⟨acc, t, la, ln, lc, HE.out, rfl, HNUM.out, HB.out⟩
    · have HE := Lib.hid ht
      clear ht HST
      rcases hr with rfl | rfl
      · go_wp2_with fail
        go_ret3
        exact Or.inr ⟨_, HE.out, Or.inl rfl, rfl, HB.out⟩
      · go_wp2_with fail
        go_ret3
        exact Or.inr ⟨_, HE.out, Or.inr rfl, rfl, HB.out⟩

def RefListYes (Z : List Int) (u : Nat) (w : World) (e : Ending) (w' : World) : Prop :=
  ∃ va vn vc, e = .returned (.tuple #[.slice va vn vc, .int .i64 (u : Int), .int .i64 0]) ∧ NumsAt w' va vn Z ∧ Below w.heap.size w w'
theorem ref_list_yes (a : Option Addr) (n c : Nat) (L : List UInt8) (most : Int) (w : World) (hat : BytesAt w a n c L) (hn : n ≤ 17592186040320) (Z : List Int) (u : Nat) (hg : YesList L most Z u) :
    Calls Try.prog 22 #[.slice a n c, .int .i64 most] w (RefListYes Z u w) := by
  obtain ⟨m, k, h1, h2, _⟩ := hg
  refine (ref_list_any a n c L most w hat hn m k h1).mono ?_
  rintro e w' (⟨Z', u', va, vn, vc, ht, rfl, hz, hb⟩ | ⟨er, ht, hr, _⟩)
  · rw [h2] at ht
    cases ht
    exact ⟨va, vn, vc, rfl, hz, hb⟩
  · rw [h2] at ht
    cases ht
    rcases hr with h | h <;> cases h
theorem ref_list_no (a : Option Addr) (n c : Nat) (L : List UInt8) (most : Int) (w : World) (hat : BytesAt w a n c L) (hn : n ≤ 17592186040320) (er : Int) (hg : NoList L most er) :
    Calls Try.prog 22 #[.slice a n c, .int .i64 most] w fun e w' => e = .returned (.tuple #[.slice none 0 0, .int .i64 0, .int .i64 er]) ∧ Below w.heap.size w w' := by
  rcases hg with hf | ⟨m, k, h1, h2, h3⟩
  · have C1 := Lib.hid (ref_count_no a n c L most w hat (by omega) er hf)
    have hr := hf.err
    clear hat hf
    rcases hr with rfl | rfl | rfl
    all_goals
      go_enter Try.func22, Try.ntmps22
      go_wp2_with fail
      refine C1.out.mono ?_
      rintro e w1 ⟨rfl, rfl⟩
      go_wp2_with fail
      refine wp_loop_rounds 1 ?_
      rw [rounds_succ]
      go_wp2_with fail
      go_ret3
      exact ⟨rfl, (Below.refl _ _).alloc (Nat.le_refl _) _⟩
  · refine (ref_list_any a n c L most w hat hn m k h1).mono ?_
    rintro e w' (⟨Z', u', va, vn, vc, ht, rfl, hz, hb⟩ | ⟨er', ht, hr, rfl, hb⟩)
    · rw [h2] at ht
      cases ht
      rcases h3 with h | h <;> cases h
    · rw [h2] at ht
      cases ht
      exact ⟨rfl, hb⟩

/-- What was put is taken. -/
theorem yes_put (Z : List Int) (X : List UInt8) (hin : ∀ z ∈ Z, InI z) (hl : Z.length ≤ 9223372036854775807) : YesList (putZ Z ++ X) (Z.length : Int) Z (putZ Z).length := by
  have hcount : Counts (putZ Z ++ X) (Z.length : Int) Z.length (putL (Z.length : Int)).length := by
    refine ⟨?_, Int.le_refl _⟩
    unfold putZ
    rw [List.append_assoc]
    exact gives_put (by omega) (by omega) _
  have ht := takes_put Z (putL (Z.length : Int)) X [] hin
  have e1 : putL (Z.length : Int) ++ (putNs Z ++ X) = putZ Z ++ X := by unfold putZ; rw [List.append_assoc]
  have e2 : (putL (Z.length : Int)).length + (putNs Z).length = (putZ Z).length := by unfold putZ; rw [List.length_append]
  rw [e1, e2, List.nil_append] at ht
  have hk := hcount.in.2.1
  rcases takes_cases Z.length (putZ Z ++ X) (putL (Z.length : Int)).length [] hk with ⟨Z', u, h1, h2, h3, h4, h5⟩ | ⟨er, h1, h2⟩
  · rw [ht] at h1
    cases h1
    exact ⟨Z.length, _, hcount, ht, h2, h3, rfl, h5⟩
  · rw [ht] at h1
    simp only [Prod.mk.injEq] at h1
    omega
end Go.Proofs.Ytjafjejjljgphaa
