/- Layer 3, P3.2: wire.TakeList and the document's TakeList, walked: which list bytes begin with, or why none. -/
import Derived.Test.YtjafjejjljgphaaWirePutL
import Derived.Test.YtjafjejjljgphaaWireText
import Derived.Deep.DeepCutAuto
namespace Go.Proofs.Ytjafjejjljgphaa
open Go.RowKit (wrap64 intOf Below)
set_option linter.unusedVariables false

def ListPost (m k : Nat) (L : List UInt8) (w : World) (e : Ending) (w' : World) : Prop :=
  (∃ Z u va vn vc ra rn rc, takes m L k [] = (Z, u, 0) ∧ e = .returned (.tuple #[.slice va vn vc, .slice ra rn rc, .int .i64 0]) ∧ OwnsI w' w.heap.size 2 (.slice va vn vc) Z ∧ OwnsB w' w.heap.size 5 (.slice ra rn rc) (L.drop u) ∧ Below w.heap.size w w') ∨
  (∃ er, takes m L k [] = ([], 0, er) ∧ (er = 3 ∨ er = 4) ∧ e = .returned (.tuple #[.slice none 0 0, .slice none 0 0, .int .i64 er]) ∧ Below w.heap.size w w')

theorem make_nums (q : Int) (Q : Nat) (hq : q = Q) (hQ : Q ≤ 35184372088832) (u : World) : (Instr.makeSlice 40 (.int .i64 0) (.int .i64 q)).run Try.prog u = .ok (.slice (some ⟨u.heap.size, 0, none⟩) 0 Q) (u.alloc (.cells (madeCells #[.int .i64 0] Q) 2)) := by
  obtain ⟨i0, hi, hz0, hz1, hz2⟩ := info_parts info_i64
  subst hq
  have h := run_make (P := Try.prog) u 40 2 i0 (.int .i64 0) Try.underlying40 hi hz0 .i64 .i64 0 (Q : Int) (by omega) (by omega) (by rw [hz2]; omega) (by omega)
  simpa [hz1, Value.cells] using h

set_option maxRecDepth 100000 in
set_option maxHeartbeats 1000000 in
theorem take_list_any (a : Option Addr) (n c : Nat) (L : List UInt8) (most : Int) (w : World) (hat : BytesAt w a n c L) (hn : n ≤ 17592186040320) (m k : Nat) (hg : Counts L most m k) :
    Calls Try.prog 21 #[.slice a n c, .int .i64 most] w (ListPost m k L w) := by
  have hin := hg.in
  rw [hat.1] at hin
  obtain ⟨hk1, hkn, hm63⟩ := hin
  have C1 := Lib.hid (count_yes a n c L most w hat (by omega) m k hg)
  have HA := Lib.hid hat
  have HLN := Lib.hid hat.1
  clear hat hg
  go_enter Try.func21, Try.ntmps21
  go_wp2_with fail
  refine C1.out.mono ?_
  rintro e w1 ⟨rfl, rfl⟩
  go_upto_region 3 with fail
  go_cut [9] (fun t9 wc => RowKit.Hid (OwnsI wc w.heap.size 2 t9 [] ∧ Below w.heap.size w wc))
  case first =>
    by_cases hmin : (n : Int) - (k : Int) < (m : Int)
    · have hmk := make_nums ((n : Int) - (k : Int)) (n - k) (by omega) (by omega)
      go_wp2_with fail
      go_meet
      exact Lib.hid ⟨OwnsI.made _ _ (Nat.le_refl _) (by unfold maxLen; omega) (by simp [size_madeCells]), (Below.refl _ _).alloc (Nat.le_refl _) _⟩
    · have hmk := make_nums (m : Int) m rfl (by omega)
      go_wp2_with fail
      go_meet
      exact Lib.hid ⟨OwnsI.made _ _ (Nat.le_refl _) (by unfold maxLen; omega) (by simp [size_madeCells]), (Below.refl _ _).alloc (Nat.le_refl _) _⟩
  case rest =>
    go_wp2_with fail
    have HO0 := Lib.hid hcut.out.1
    have HB0 := Lib.hid hcut.out.2
    clear hcut
    go_loopw [6, 8, 9, 30] (fun ev tv lv iv wr => ∃ (i t : Nat) (acc : List Int), ev = .int .i64 0 ∧ tv = .int .i64 (t : Int) ∧ iv = .int .i64 (i : Int) ∧ i ≤ m ∧ t ≤ n ∧ i ≤ t ∧ RowKit.Hid (acc.length = i) ∧ RowKit.Hid (takes m L k [] = takes (m - i) L t acc) ∧ RowKit.Hid (OwnsI wr w.heap.size 2 lv acc) ∧ RowKit.Hid (Below w.heap.size w wr)) (fun _ _ _ iv _ => m - (intOf iv).toNat)
    case atStart => exact ⟨0, k, [], rfl, rfl, rfl, Nat.zero_le _, hkn, Nat.zero_le _, Lib.hid rfl, Lib.hid rfl, HO0, HB0⟩
    case round =>
      obtain ⟨i, t, acc, rfl, rfl, rfl, him, htn, hit, HACC, HT, HO, HB⟩ := hrel
      have hsz := HB.out.size
      have hs1 := slice_from a n c t htn
      have HD := Lib.hid ((HA.out.since HB.out).drop t htn)
      by_cases hlt : i < m
      · obtain ⟨j, hj⟩ : ∃ j, m - i = j + 1 := ⟨m - i - 1, by omega⟩
        rcases gives_or_fails (L.drop t) with ⟨z, s, hg⟩ | ⟨er, hf⟩
        · have hp := hg.put
          rw [List.length_drop, HLN.out] at hp
          have hts : t + s ≤ n := by omega
          have hs1' : 1 ≤ s := hp.1
          have HT2 : RowKit.Hid (takes m L k [] = takes (m - (i + 1)) L (t + s) (acc ++ [z])) := Lib.hid (by rw [HT.out, hj, takes_yes hg]; congr 1; omega)
          have HACC2 : RowKit.Hid ((acc ++ [z]).length = i + 1) := Lib.hid (by rw [List.length_append, HACC.out]; rfl)
          have HROOM : RowKit.Hid ((acc.length + 1) * 8 ≤ 140737488355328) := Lib.hid (by rw [HACC.out]; omega)
          have HG := Lib.hid hg
          clear hg hp hj
          go_wp2_with fail
          refine (first_yes _ _ _ (L.drop t) _ HD.out (by omega) z s HG.out).mono ?_
          rintro e w2 ⟨rfl, rfl⟩
          go_wp2_with (at_builtin; refine wpList_append_num _ rfl _ _ 40 rfl 2 Try.underlying40 info_i64 w.heap.size _ acc rfl HO.out hsz _ 1 _ z rfl (by simp) rfl HROOM.out ?_; intro v2 w2 hown2 hb2; have HO2 := Lib.hid hown2; have HB2 := Lib.hid (HB.out.trans hb2); clear hown2 hb2)
          go_roundw
          case rel => exact ⟨i + 1, t + s, acc ++ [z], rfl, by go_num, by go_num, by omega, hts, by omega, HACC2, HT2, HO2, HB2⟩
          case measure => simp [intOf]; omega
        · have hr := hf.2
          have HE : RowKit.Hid (takes m L k [] = ([], 0, er)) := Lib.hid (by rw [HT.out, hj, takes_no hf])
          have HF := Lib.hid hf
          clear hf hj
          rcases hr with rfl | rfl
          · go_wp2_with fail
            refine (first_no _ _ _ (L.drop t) _ HD.out (by omega) _ HF.out).mono ?_
            rintro e w2 ⟨rfl, rfl⟩
            go_wp2_with fail
            go_ret3
            exact Or.inr ⟨_, HE.out, Or.inl rfl, rfl, HB.out⟩
          · go_wp2_with fail
            refine (first_no _ _ _ (L.drop t) _ HD.out (by omega) _ HF.out).mono ?_
            rintro e w2 ⟨rfl, rfl⟩
            go_wp2_with fail
            go_ret3
            exact Or.inr ⟨_, HE.out, Or.inr rfl, rfl, HB.out⟩
      · have hii : m - i = 0 := by omega
        have HE : RowKit.Hid (takes m L k [] = (acc, t, 0)) := Lib.hid (by rw [HT.out, hii]; rfl)
        clear hii
        obtain ⟨la, ln, lc, rfl, hnum⟩ := HO.out.nums
        clear hnum
        go_wp2_with fail
        refine (apart_none _ _ _ (L.drop t) _ HD.out (by omega)).mono ?_
        rintro e w2 ⟨ra, rn, rc, rfl, hown2, hb2⟩
        have HO2 := Lib.hid (HO.out.below hb2)
        have HR2 := Lib.hid (hown2.mono hsz)
        have HB2 := Lib.hid (keepB HB.out hb2)
        clear hown2 hb2
        go_wp2_with fail
        go_ret3
        exact Or.inl ⟨acc, t, la, ln, lc, ra, rn, rc, HE.out, rfl, HO2.out, HR2.out, HB2.out⟩

/-- Why a list is not taken. -/
def NoList (L : List UInt8) (most : Int) (er : Int) : Prop := NoCount L most er ∨ ∃ m k, Counts L most m k ∧ takes m L k [] = ([], 0, er) ∧ (er = 3 ∨ er = 4)
/-- The list that is taken, and where it ends. -/
def YesList (L : List UInt8) (most : Int) (Z : List Int) (u : Nat) : Prop := ∃ m k, Counts L most m k ∧ takes m L k [] = (Z, u, 0) ∧ u ≤ L.length ∧ k ≤ u ∧ Z.length = m ∧ k + m ≤ u
theorem list_or (L : List UInt8) (most : Int) : (∃ Z u, YesList L most Z u) ∨ ∃ er, NoList L most er := by
  rcases counts_or L most with ⟨m, k, h⟩ | ⟨er, h⟩
  · have hk := h.in.2.1
    rcases takes_cases m L k [] hk with ⟨Z, u, h1, h2, h3, h4, h5⟩ | ⟨er, h1, h2⟩
    · exact Or.inl ⟨Z, u, m, k, h, h1, h2, h3, by simpa using h4, h5⟩
    · exact Or.inr ⟨er, Or.inr ⟨m, k, h, h1, h2⟩⟩
  · exact Or.inr ⟨er, Or.inl h⟩
theorem NoList.err {L : List UInt8} {most er : Int} (h : NoList L most er) : er = 2 ∨ er = 3 ∨ er = 4 := by
  rcases h with h | ⟨m, k, _, _, h⟩
  · exact h.err
  · exact Or.inr h

def ListYes (Z : List Int) (R : List UInt8) (w : World) (e : Ending) (w' : World) : Prop :=
  ∃ va vn vc ra rn rc, e = .returned (.tuple #[.slice va vn vc, .slice ra rn rc, .int .i64 0]) ∧ NumsAt w' va vn Z ∧ OwnsB w' w.heap.size 5 (.slice ra rn rc) R ∧ Below w.heap.size w w'
theorem take_list_yes (a : Option Addr) (n c : Nat) (L : List UInt8) (most : Int) (w : World) (hat : BytesAt w a n c L) (hn : n ≤ 17592186040320) (Z : List Int) (u : Nat) (hg : YesList L most Z u) :
    Calls Try.prog 21 #[.slice a n c, .int .i64 most] w (ListYes Z (L.drop u) w) := by
  obtain ⟨m, k, h1, h2, _⟩ := hg
  refine (take_list_any a n c L most w hat hn m k h1).mono ?_
  rintro e w' (⟨Z', u', va, vn, vc, ra, rn, rc, ht, rfl, hz, hr, hb⟩ | ⟨er, ht, hr, _⟩)
  · rw [h2] at ht
    cases ht
    obtain ⟨a', n', c', he, hnum⟩ := hz.nums
    cases he
    exact ⟨va, vn, vc, ra, rn, rc, rfl, hnum, hr, hb⟩
  · rw [h2] at ht
    cases ht
    rcases hr with h | h <;> cases h
theorem take_list_no (a : Option Addr) (n c : Nat) (L : List UInt8) (most : Int) (w : World) (hat : BytesAt w a n c L) (hn : n ≤ 17592186040320) (er : Int) (hg : NoList L most er) :
    Calls Try.prog 21 #[.slice a n c, .int .i64 most] w fun e w' => e = .returned (.tuple #[.slice none 0 0, .slice none 0 0, .int .i64 er]) ∧ Below w.heap.size w w' := by
  rcases hg with hf | ⟨m, k, h1, h2, h3⟩
  · have C1 := Lib.hid (count_no a n c L most w hat (by omega) er hf)
    have hr := hf.err
    clear hat hf
    rcases hr with rfl | rfl | rfl
    all_goals
      go_enter Try.func21, Try.ntmps21
      go_wp2_with fail
      refine C1.out.mono ?_
      rintro e w1 ⟨x, y, rfl, rfl⟩
      go_wp2_with fail
      go_ret3
      exact ⟨rfl, Below.refl _ _⟩
  · refine (take_list_any a n c L most w hat hn m k h1).mono ?_
    rintro e w' (⟨Z', u', va, vn, vc, ra, rn, rc, ht, rfl, hz, hr, hb⟩ | ⟨er', ht, hr, rfl, hb⟩)
    · rw [h2] at ht
      cases ht
      rcases h3 with h | h <;> cases h
    · rw [h2] at ht
      cases ht
      exact ⟨rfl, hb⟩
end Go.Proofs.Ytjafjejjljgphaa
