/- Layer 3, P3.1, P3.3: what the statement WirePuts asks, walked. -/
import Derived.Test.YtjafjejjljgphaaWireLaws
namespace Go.Proofs.Ytjafjejjljgphaa
open Go.RowKit (wrap64 intOf Below)
set_option linter.unusedVariables false

theorem keepB {w u w' : World} (h1 : Below w.heap.size w u) (h2 : Below u.heap.size u w') : Below w.heap.size w w' := h1.trans (h2.mono h1.size)
theorem BytesAt.since {w w' : World} {a : Option Addr} {n c : Nat} {L : List UInt8} (h : BytesAt w a n c L) (hb : Below w.heap.size w w') : BytesAt w' a n c L := h.below hb (Nat.le_refl _)

theorem wputs_walk (a1 a2 : Option Addr) (n1 c1 n2 c2 : Nat) (L1 L2 : List UInt8) (n : Int) (w : World) (h1 : BytesAt w a1 n1 c1 L1) (h2 : BytesAt w a2 n2 c2 L2) (hn1 : n1 ≤ 140737488351232) (hn2 : n2 ≤ 140737488351232) (h0 : -9223372036854775808 ≤ n) (hm : n ≤ 9223372036854775807) :
    Calls Try.prog 3 #[.slice a1 n1 c1, .int .i64 n, .slice a2 n2 c2] w fun e w' => e = .returned (.bool true) ∧ Below w.heap.size w w' := by
  have H1 := Lib.hid h1
  have H2 := Lib.hid h2
  obtain ⟨N, hN⟩ : ∃ N, (putL n).length = N := ⟨_, rfl⟩
  have HN := Lib.hid hN
  have hle : N ≤ 10 := by rw [← hN]; exact putL_len n
  clear h1 h2 hN
  go_enter Try.func3, Try.ntmps3
  go_wp2_with fail
  refine (own_any _ _ _ L1 _ H1.out (by omega)).mono ?_
  rintro e w1 ⟨va, vn, vc, rfl, hown1, hb1⟩
  have HB1 := Lib.hid hb1
  have HO1 := Lib.hid hown1
  have hv : vn = n1 := by rw [← hown1.len]; exact H1.out.1
  subst hv
  clear hb1 hown1
  go_wp2_with fail
  refine (put_any _ _ _ L1 n _ HO1.out.read (by omega) h0 hm).mono ?_
  rintro e w2 ⟨vb, nb, cb, rfl, hown2, hb2⟩
  have HB2 := Lib.hid (keepB HB1.out hb2)
  have HO2 := Lib.hid hown2
  have hv : nb = vn + N := by rw [← hown2.len, List.length_append, HN.out, H1.out.1]
  subst hv
  have HT : ∀ u, Below w2.heap.size w2 u → (convert 22 9 (.slice vb (vn + N) cb)).run Try.prog u = .ok (.string (mk (L1 ++ putL n))) u := fun u hu => text_of (HO2.out.read.since hu)
  have C := Lib.hid fun u (hu : Below w2.heap.size w2 u) => ref_put a1 vn c1 L1 n u (H1.out.since (keepB HB2.out hu)) (by omega) h0 hm
  clear hb2 hown2
  go_wp2_with fail
  have hd : Below w2.heap.size w2 w2.drew := (Below.refl _ _).drew
  go_region_with (first | (go_at_call 11; (with_reducible refine (C.out _ hd).mono ?_); rintro e w3 ⟨va3, vn3, vc3, rfl, hown3, hb3⟩; have ht3 := text_of hown3.read; have hd3 := keepB hd hb3))
  all_goals
    have HB3 := Lib.hid (keepB HB2.out hd3)
    have HD := Lib.hid (HO2.out.read.since hd3)
    clear hd3 hd ht3 hown3 hb3 HT
    have hsl := slice_from vb (vn + N) cb vn (by omega)
    have hdr : (L1 ++ putL n).drop vn = putL n := by rw [← H1.out.1]; exact List.drop_left
    have HD2 := Lib.hid (HD.out.drop vn (by omega))
    rw [hdr, Nat.add_sub_cancel_left] at HD2
    rw [Nat.add_sub_cancel_left] at hsl
    have HH2 := Lib.hid (H2.out.since HB3.out)
    clear hdr
    go_wp2_with fail
    refine (own_any _ _ _ (putL n) _ HD2.out (by omega)).mono ?_
    rintro e w4 ⟨va4, vn4, vc4, rfl, hown4, hb4⟩
    have HB4 := Lib.hid (keepB HB3.out hb4)
    have HO4 := Lib.hid hown4
    have hv : vn4 = N := by rw [← hown4.len, HN.out]
    subst hv
    have HH4 := Lib.hid (HH2.out.since hb4)
    have HL4 : RowKit.Hid ((putL n).length + n2 ≤ 140737488355328) := Lib.hid (by rw [HN.out]; omega)
    have HS4 := Lib.hid hb4.size
    clear hb4 hown4 hsl
    go_wp2_with (at_builtin; refine wpList_append_read _ rfl _ _ 22 rfl 5 Try.underlying22 info_u8 _ _ (putL n) rfl HO4.out HS4.out a2 n2 c2 L2 rfl HH4.out HL4.out ?_; intro va5 vn5 vc5 w5 hown5 hat5 hb5)
    have HB5 := Lib.hid (HB4.out.trans (hb5.mono HB3.out.size))
    have HO5 := Lib.hid hown5
    have hl5 : vn5 = vn4 + n2 := by rw [← hown5.len, List.length_append, HN.out, H2.out.1]
    subst hl5
    clear hb5 hown5 hat5
    have hg := gives_put h0 hm L2
    rw [HN.out] at hg
    go_wp2_with fail
    refine (take_yes _ _ _ (putL n ++ L2) _ HO5.out.read (by omega) n vn4 hg).mono ?_
    rintro e w6 ⟨va6, vn6, vc6, rfl, hown6, hb6⟩
    have HB6 := Lib.hid (keepB HB5.out hb6)
    have hdr : (putL n ++ L2).drop vn4 = L2 := by rw [← HN.out]; exact List.drop_left
    rw [hdr] at hown6
    have ht6 := text_of hown6.read
    have ht2 := text_of (H2.out.since HB6.out)
    clear hb6 hown6 hdr hg
    go_wp2_with fail
    refine (lives_any _).mono ?_
    rintro e w7 ⟨rfl, hb7⟩
    have HB7 := Lib.hid (keepB HB6.out hb7)
    clear hb7
    go_wp2_with fail
    go_ret
    exact ⟨rfl, HB7.out⟩
end Go.Proofs.Ytjafjejjljgphaa
