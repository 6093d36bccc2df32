/- Layer 3, P3.1, P3.3: what the statement WireTakes asks, walked. -/
import Derived.Test.YtjafjejjljgphaaWirePuts
namespace Go.Proofs.Ytjafjejjljgphaa
open Go.RowKit (wrap64 intOf Below)
set_option linter.unusedVariables false

set_option maxHeartbeats 4000000 in
theorem wtakes_walk (a : Option Addr) (n c : Nat) (L : List UInt8) (w : World) (hat : BytesAt w a n c L) (hn : n ≤ 140737488351232) :
    Calls Try.prog 4 #[.slice a n c] w fun e w' => e = .returned (.bool true) ∧ Below w.heap.size w w' := by
  have HA := Lib.hid hat
  have hnn := hat.1
  have hcc := hat.2.1
  have HNN := Lib.hid hnn
  clear hat hnn
  rcases gives_or_fails L with ⟨m, k, hg⟩ | ⟨er, hf⟩
  · obtain ⟨hk1, hk10, hkl, htk, hm0, hm1⟩ := hg.put
    rw [HNN.out] at hkl
    have HG := Lib.hid hg
    have HTK := Lib.hid htk
    clear hg htk
    go_enter Try.func4, Try.ntmps4
    go_wp2_with fail
    refine (own_any _ _ _ L _ HA.out (by omega)).mono ?_
    rintro e w1 ⟨va, vn, vc, rfl, hown1, hb1⟩
    have HB1 := Lib.hid hb1
    have HO1 := Lib.hid hown1
    have hv : vn = n := by rw [← hown1.len]; exact HNN.out
    subst hv
    clear hb1 hown1
    go_wp2_with fail
    refine (take_yes _ _ _ L _ HO1.out.read (by omega) m k HG.out).mono ?_
    rintro e w2 ⟨va2, vn2, vc2, rfl, hown2, hb2⟩
    have HB2 := Lib.hid (keepB HB1.out hb2)
    have HO2 := Lib.hid hown2
    clear hb2 hown2
    go_wp2_with fail
    refine (rtake_yes _ _ _ L _ (HA.out.since HB2.out) (by omega) m k HG.out).mono ?_
    rintro e w3 ⟨rfl, rfl⟩
    have ht1 : ∀ u, Below w2.heap.size w2 u → (convert 22 9 (.slice va2 vn2 vc2)).run Try.prog u = .ok (.string (mk (L.drop k))) u := fun u hu => text_of (HO2.out.read.since hu)
    have ht2 : ∀ u, Below w2.heap.size w2 u → (convert 22 9 (.slice (fromA a c k) (vn - k) (c - k))).run Try.prog u = .ok (.string (mk (L.drop k))) u := fun u hu => text_of ((HA.out.since (keepB HB2.out hu)).drop k hkl)
    have ht3 : ∀ u, Below w2.heap.size w2 u → (convert 22 9 (.slice a k c)).run Try.prog u = .ok (.string (mk (putL m))) u := fun u hu => by rw [← HTK.out]; exact text_of ((HA.out.since (keepB HB2.out hu)).take k hkl)
    have hs1 := slice_from a vn c k hkl
    have hs2 := slice_to a vn c k (by omega)
    have hd : Below w2.heap.size w2 w2.drew := (Below.refl _ _).drew
    go_wp2_with fail
    clear HA HG HTK HO1 HO2 HB1 HNN hcc hk1 hk10 hkl hn
    go_region_with (first | (go_at_call 9; (with_reducible refine (put_any none 0 0 [] m _ (BytesAt.nil _) (by decide) hm0 hm1).mono ?_); rintro e w4 ⟨va4, vn4, vc4, rfl, hown4, hb4⟩; rw [List.nil_append] at hown4; have ht4 := text_of hown4.read; have hd4 := keepB hd hb4) | (go_at_call 13; (with_reducible refine (lives_any _).mono ?_); rintro e w5 ⟨rfl, hb5⟩; have hd5 := keepB hd4 hb5))
    all_goals
      go_wp2
      go_ret
      exact ⟨rfl, keepB HB2.out hd5⟩
  · have HF := Lib.hid hf
    have hr := hf.2
    clear hf
    rcases hr with rfl | rfl
    all_goals
      go_enter Try.func4, Try.ntmps4
      go_wp2_with fail
      refine (own_any _ _ _ L _ HA.out (by omega)).mono ?_
      rintro e w1 ⟨va, vn, vc, rfl, hown1, hb1⟩
      have HB1 := Lib.hid hb1
      have HO1 := Lib.hid hown1
      have hv : vn = n := by rw [← hown1.len]; exact HNN.out
      subst hv
      clear hb1 hown1
      go_wp2_with fail
      refine (take_no _ _ _ L _ HO1.out.read (by omega) _ HF.out).mono ?_
      rintro e w2 ⟨rfl, rfl⟩
      go_wp2_with fail
      refine (rtake_no _ _ _ L _ (HA.out.since HB1.out) (by omega) _ HF.out).mono ?_
      rintro e w3 ⟨rfl, rfl⟩
      go_wp2_with fail
      refine (lives_any _).mono ?_
      rintro e w4 ⟨rfl, hb4⟩
      have HB4 := Lib.hid (keepB HB1.out hb4)
      clear hb4
      go_wp2_with fail
      go_ret
      exact ⟨rfl, HB4.out⟩
end Go.Proofs.Ytjafjejjljgphaa
