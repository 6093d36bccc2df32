/- Layer 5, P5.1, P5.2, P5.4: the statement CodeReads, walked. -/
import Derived.Test.YtdmlogpaenbblaaDoorQCodeDh
import Derived.Test.YtdmlogpaenbblaaDoorQT12

namespace Go.Proofs.YtdmlogpaenbblaaDoor
open Go.RowKit (wrap64 intOf Below)
set_option linter.unusedVariables false
set_option linter.unusedSimpArgs false

theorem rdTimes_all {α : Type} {f : List UInt8 → PR α} : ∀ (k : Nat) (L : List UInt8) {xs : List α} {r : List UInt8}, rdTimes f k L = .ok xs r → ∀ x ∈ xs, ∃ l r', f l = .ok x r'
  | 0, L, xs, r, h => by cases h; intro x hx; cases hx
  | k + 1, L, xs, r, h => by
    obtain ⟨x0, r0, h1, h2⟩ := bind_ok (p := f L) h
    obtain ⟨xs', r1, h3, h4⟩ := bind_ok (p := rdTimes f k r0) h2
    cases h4
    intro x hx
    rcases List.mem_cons.1 hx with rfl | hx
    · exact ⟨L, r0, h1⟩
    · exact rdTimes_all k r0 h3 x hx
theorem rdList_all {α : Type} {f : List UInt8 → PR α} {most : Nat} {L r : List UInt8} {xs : List α} (h : rdList most f L = .ok xs r) : xs.length ≤ most ∧ ∀ x ∈ xs, ∃ l r', f l = .ok x r' := by
  refine ⟨rdList_len h, ?_⟩
  obtain ⟨k, r0, _, h2⟩ := bind_ok (p := rdCount most L) h
  exact rdTimes_all k r0 h2
/-- What is read has few parts. -/
theorem rd_small {L r : List UInt8} {P : ProgD} (h : rdProg L = .ok P r) : SmProg P := by
  obtain ⟨ss, r1, h1, h2⟩ := bind_ok (p := rdList 4 rdSig L) h
  obtain ⟨cs, r2, h3, h4⟩ := bind_ok (p := rdList 8 rdClass r1) h2
  obtain ⟨fs, r3, h5, h6⟩ := bind_ok (p := rdList 16 rdFunc r2) h4
  cases h6
  have l1 := (rdList_all h1).1
  have l2 := (rdList_all h3).1
  obtain ⟨l3, l4⟩ := rdList_all h5
  refine ⟨by simp only; omega, by simp only; omega, by simp only; omega, fun f hf => ?_⟩
  obtain ⟨l, r', hr⟩ := l4 f hf
  obtain ⟨t, q1, _, g2⟩ := bind_ok (p := rdNum l) hr
  obtain ⟨bs, q2, g3, g4⟩ := bind_ok (p := rdList 40 rdBlock q1) g2
  cases g4
  obtain ⟨m1, m2⟩ := rdList_all g3
  refine ⟨by simp only; omega, fun b hb => ?_⟩
  obtain ⟨l', r'', hr'⟩ := m2 b hb
  obtain ⟨ps, u1, _, e2⟩ := bind_ok (p := rdNums 8 l') hr'
  obtain ⟨os, u2, e3, e4⟩ := bind_ok (p := rdList 700 rdOp u1) e2
  obtain ⟨en, u3, _, e6⟩ := bind_ok (p := rdEnd u2) e4
  cases e6
  have := (rdList_all e3).1
  show os.length ≤ 100000
  omega
theorem in_back {L : List UInt8} {P : ProgD} (h : inBytes L = .ok P []) : outBytes (encProg (plainProg P)) = .ok L ∧ plainProg P = P ∧ SmProg P := by
  unfold inBytes at h
  split at h
  · cases h
  · rename_i hl
    obtain ⟨P', r, h1, h2⟩ := bind_ok (p := rdProg L) h
    split at h2
    · rename_i hr
      cases h2
      obtain rfl : r = [] := List.eq_nil_of_length_eq_zero hr
      obtain ⟨l, e1, e2, e3⟩ := backs_prog _ _ _ h1
      rw [List.append_nil] at e2
      subst e2
      refine ⟨?_, e3, rd_small h1⟩
      rw [e3, e1]
      unfold outBytes
      simp only
      rw [if_neg (by omega)]
    · cases h2
theorem in_nil {L : List UInt8} {P : ProgD} {r : List UInt8} (h : inBytes L = .ok P r) : r = [] := by
  unfold inBytes at h
  split at h
  · cases h
  · obtain ⟨P', r', h1, h2⟩ := bind_ok (p := rdProg L) h
    split at h2
    · cases h2; rfl
    · cases h2
theorem prog_since' {w u : World} {cs : List Value} {P : ProgD} (h : ProgQ w cs P) (hb : Below w.heap.size w u) : ProgQ u cs P := ProgQ.lasts _ _ _ _ hb h
set_option maxRecDepth 100000 in
theorem same_nil (w : World) : Calls Tryd.prog 20 #[.pointer none, .pointer none] w fun e w' => e = .returned (.bool true) ∧ Below w.heap.size w w' := by
  go_enter Tryd.func20, Tryd.ntmps20
  go_wp2_with fail
  go_ret
  exact ⟨rfl, Below.refl _ _⟩

set_option maxRecDepth 100000 in
set_option maxHeartbeats 4000000 in
theorem codereads_walk (a : Option Addr) (n c : Nat) (L : List UInt8) (w : World) (hft : FT w) (hat : BytesAt w a n c L) (hn : n ≤ 140737488351232) :
    Calls Tryd.prog 4 #[.slice a n c] w fun e w' => e = .returned (.bool true) ∧ Below w.heap.size w w' := by
  have hba : Below w.heap.size w (w.alloc (.cells #[] 5)) := (Below.refl _ _).alloc (Nat.le_refl _) _
  have HAT : RowKit.Hid (BytesAt (w.alloc (.cells #[] 5)) a n c L) := Lib.hid (hat.since hba)
  have HAW := Lib.hid hat
  have HFT := Lib.hid hft
  have HLEN := Lib.hid hat.1
  have HBA := Lib.hid hba
  clear hft hat hba
  go_enter Tryd.func4, Tryd.ntmps4
  go_wp2_with (at_builtin; refine wpList_append_read (w.alloc (.cells #[] 5)) rfl _ _ 30 rfl 5 Tryd.underlying30 info_u8 w.heap.size _ [] rfl (OwnsB.empty w 5) (by simp) a n c L rfl HAT.out (by simp; omega) ?_; intro va vn vc w1 hown1 hat1 hb1; have HO1 := Lib.hid hown1; have HB1 := Lib.hid (HBA.out.trans hb1); clear hown1 hat1 hb1)
  have HF1 := Lib.hid (HFT.out.since HB1.out)
  have HV1 : RowKit.Hid (vn ≤ 140737488355328) := Lib.hid (by have := HO1.out.len; simp at this; have := HLEN.out; omega)
  refine (decode_any va vn vc ([] ++ L) w1 HO1.out.read HO1.out.before HV1.out HF1.out).mono ?_
  intro e w2 he
  rw [List.nil_append] at he
  have hpr : (∃ P, inBytes L = .ok P []) ∨ ∃ er, inBytes L = .no er ∧ er ≠ 0 := by
    rcases he with ⟨P', _, _, _, _, h1, _⟩ | ⟨er, h1, h2, _⟩
    · exact .inl ⟨P', h1⟩
    · exact .inr ⟨er, h1, h2⟩
  rcases hpr with ⟨P, hP⟩ | ⟨er, hP, hz⟩
  · obtain ⟨g1, sa1, sn1, sc1, ca1, cn1, cc1, fa1, fn1, fc1, rfl, hg1, hwin1, hprog1, hb2⟩ := he.yes hP
    obtain ⟨hout, hpp, hsm⟩ := in_back hP
    have HP := Lib.hid hP
    have HOUT := Lib.hid hout
    have HSM := Lib.hid hsm
    have HB2 := Lib.hid (keepB HB1.out hb2)
    have HW1 := Lib.hid hwin1
    have HQ1 := Lib.hid hprog1
    have HAT2 : RowKit.Hid (BytesAt w2 a n c L) := Lib.hid (HAW.out.since (HB2.out))
    clear he hP hout hsm hpp hwin1 hprog1 hb2 hg1
    go_wp2_with fail
    refine (ref_decode a n c L w2 HAT2.out (by omega)).mono ?_
    intro e w3 he
    obtain ⟨g2, sa2, sn2, sc2, ca2, cn2, cc2, fa2, fn2, fc2, rfl, hg2, hwin2, hprog2, hb3⟩ := he.yes HP.out
    have HB3 := Lib.hid (keepB HB2.out hb3)
    have hx0 := (hb3.cell (p := ⟨g1, 0, none⟩) HW1.out.lt).trans (HW1.out.cell (j := 0) (by simp))
    have hx1 := (hb3.cell (p := ⟨g1, 0 + 1, none⟩) HW1.out.lt).trans (HW1.out.cell (j := 1) (by simp))
    have hx2 := (hb3.cell (p := ⟨g1, 0 + 2, none⟩) HW1.out.lt).trans (HW1.out.cell (j := 2) (by simp))
    have hg3 := Nat.lt_of_lt_of_le HW1.out.lt hb3.size
    have HQ3 := Lib.hid (prog_since' HQ1.out hb3)
    have HS := Lib.hid (ref_same g1 0 g2 0 sa1 ca1 fa1 sa2 ca2 fa2 sn1 sc1 cn1 cc1 fn1 fc1 sn2 sc2 cn2 cc2 fn2 fc2 P P w3 hg3 hwin2.lt hx0 hx1 hx2 (hwin2.cell (j := 0) (by simp)) (hwin2.cell (j := 1) (by simp)) (hwin2.cell (j := 2) (by simp)) HQ3.out hprog2)
    have HX : RowKit.Hid (∀ u, Below w3.heap.size w3 u → g1 < u.heap.size ∧ u.cell? ⟨g1, 0, none⟩ = some (.slice sa1 sn1 sc1) ∧ u.cell? ⟨g1, 0 + 1, none⟩ = some (.slice ca1 cn1 cc1) ∧ u.cell? ⟨g1, 0 + 2, none⟩ = some (.slice fa1 fn1 fc1)) := Lib.hid fun u hb => ⟨Nat.lt_of_lt_of_le hg3 hb.size, (hb.cell (p := ⟨g1, 0, none⟩) hg3).trans hx0, (hb.cell (p := ⟨g1, 0 + 1, none⟩) hg3).trans hx1, (hb.cell (p := ⟨g1, 0 + 2, none⟩) hg3).trans hx2⟩
    have HF3 := Lib.hid (HFT.out.since HB3.out)
    clear he hwin2 hprog2 hb3 hg2 hx0 hx1 hx2 hg3
    have hnz : ((0 : Int) != 0) = false := by simp
    go_wp2_with fail
    refine HS.out.mono ?_
    rintro e w4 ⟨b, rfl, hbe, hb4⟩
    obtain rfl : b = true := hbe.2 (by first | rfl | trivial)
    have HB4 := Lib.hid (keepB HB3.out hb4)
    have HF4 := Lib.hid (HF3.out.since hb4)
    have HQ4 := Lib.hid (prog_since' HQ3.out hb4)
    obtain ⟨hg4, hx0, hx1, hx2⟩ := HX.out w4 hb4
    clear hbe hb4
    go_wp2_with fail
    refine (encode_any g1 0 (.slice sa1 sn1 sc1) (.slice ca1 cn1 cc1) (.slice fa1 fn1 fc1) P w4 hg4 hx0 hx1 hx2 HQ4.out HF4.out HSM.out).mono ?_
    intro e w5 he
    obtain ⟨va5, vn5, vc5, rfl, hown, hb5⟩ := he.yes HOUT.out
    have HB5 := Lib.hid (keepB HB4.out hb5)
    have HF5 := Lib.hid (HF4.out.since hb5)
    have ht1 := text_of hown.read
    have ht2 := text_of (HAW.out.since HB5.out)
    obtain ⟨s, hs⟩ : ∃ s, s = mk L := ⟨_, rfl⟩
    rw [← hs] at ht1 ht2
    have hse : (s.toList == s.toList) = true := str_eq rfl
    clear he hown hb5 hs hx0 hx1 hx2 hg4
    go_wp2_with fail
    refine (lives5 w5 HF5.out).mono ?_
    rintro e w6 ⟨rfl, hb6⟩
    have HB6 := Lib.hid (keepB HB5.out hb6)
    clear hb6
    go_wp2_with fail
    go_ret
    exact ⟨rfl, HB6.out⟩
  · obtain ⟨rfl, hb2⟩ := he.no hP
    have HP := Lib.hid hP
    have HZ := Lib.hid hz
    have hnb : (er != 0) = true := by rw [bne_iff_ne]; exact hz
    have heb : (er == 0) = false := by rw [beq_eq_false_iff_ne]; exact hz
    have hee : (er != er) = false := by simp
    have HB2 := Lib.hid (keepB HB1.out hb2)
    have HAT2 : RowKit.Hid (BytesAt w2 a n c L) := Lib.hid (HAW.out.since (HB2.out))
    clear he hP hz hb2
    go_wp2_with fail
    refine (ref_decode a n c L w2 HAT2.out (by omega)).mono ?_
    intro e w3 he
    obtain ⟨rfl, hb3⟩ := he.no HP.out
    have HB3 := Lib.hid (keepB HB2.out hb3)
    clear he hb3
    go_wp2_with fail
    refine (same_nil w3).mono ?_
    rintro e w4 ⟨rfl, hb4⟩
    have HB4 := Lib.hid (keepB HB3.out hb4)
    have HF4 := Lib.hid (HFT.out.since HB4.out)
    clear hb4
    go_wp2_with fail
    refine (lives5 w4 HF4.out).mono ?_
    rintro e w5 ⟨rfl, hb5⟩
    have HB5 := Lib.hid (keepB HB4.out hb5)
    clear hb5
    go_wp2_with fail
    go_ret
    exact ⟨rfl, HB5.out⟩
end Go.Proofs.YtdmlogpaenbblaaDoor
