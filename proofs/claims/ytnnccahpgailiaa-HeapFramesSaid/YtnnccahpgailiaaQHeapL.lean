/- Layer 10: the living call of the statements, walked. -/
import Derived.Test.YtnnccahpgailiaaQT2

namespace Go.Proofs.Ytnnccahpgailiaa
open Go.RowKit (wrap64 intOf Below)
set_option linter.unusedVariables false
set_option linter.unusedSimpArgs false

def lv0 : PM := newM 100
def lv1 : PM := (sliceM lv0 2 false).1
def lv2 : PM := (sliceM lv1 1 true).1
def lv3 : PM := (tableM lv2 false).1
def lv4 : PM := (putM lv3 3 5 7).1
theorem lv_facts : (sliceM lv0 2 false).2 = (1, 0) ∧ (sliceM lv1 1 true).2 = (2, 0) ∧ (tableM lv2 false).2 = (3, 0) ∧ (putM lv3 3 5 7).2 = 0 ∧ lv4.used = 48 ∧ lv4.makes = 2 ∧ lv0.frs = [] ∧ lv1.frs = [] ∧ lv2.frs = [] := by
  refine ⟨by decide, by decide, by decide, by decide, by decide, by decide, by decide, by decide, by decide⟩
set_option maxRecDepth 100000 in
set_option maxHeartbeats 1000000 in
theorem lives10_any (w : World) : Calls Try.prog 21 #[] w fun e w' => e = .returned (.bool true) ∧ Below w.heap.size w w' := by
  obtain ⟨f1, f2, f3, f4, f5, f6, f7, f8, f9⟩ := lv_facts
  obtain ⟨B, hB⟩ : ∃ B, B = w.heap.size := ⟨_, rfl⟩
  have C0 := Lib.hid (new_any 100 w)
  have C1 : RowKit.Hid (∀ u G p, MemAt u B 0 lv0 G → G.p = p → Calls Try.prog 25 #[.pointer (some ⟨p, 0, none⟩), .int .i64 2, .bool false] u fun e w' => e = .returned (.tuple #[.int .i64 1, .int .i64 0]) ∧ ∃ G', MemAt w' B 1 lv1 G' ∧ G'.p = p ∧ Below B u w') := Lib.hid fun u G p h hp => by subst hp; exact (slice_any h (by omega) 2 false (layOk_nil f7) (fmAt_nil f7)).mono fun e w' ⟨he, G', h1, h2, h3, _⟩ => ⟨by rw [he, f1], G', h1, h2, h3⟩
  have C2 : RowKit.Hid (∀ u G p, MemAt u B 1 lv1 G → G.p = p → Calls Try.prog 25 #[.pointer (some ⟨p, 0, none⟩), .int .i64 1, .bool true] u fun e w' => e = .returned (.tuple #[.int .i64 2, .int .i64 0]) ∧ ∃ G', MemAt w' B 2 lv2 G' ∧ G'.p = p ∧ Below B u w') := Lib.hid fun u G p h hp => by subst hp; exact (slice_any h (by omega) 1 true (layOk_nil f8) (fmAt_nil f8)).mono fun e w' ⟨he, G', h1, h2, h3, _⟩ => ⟨by rw [he, f2], G', h1, h2, h3⟩
  have C3 : RowKit.Hid (∀ u G p, MemAt u B 2 lv2 G → G.p = p → Calls Try.prog 28 #[.pointer (some ⟨p, 0, none⟩), .bool false] u fun e w' => e = .returned (.tuple #[.int .i64 3, .int .i64 0]) ∧ ∃ G', MemAt w' B 3 lv3 G' ∧ G'.p = p ∧ Below B u w') := Lib.hid fun u G p h hp => by subst hp; exact (mtable_any h (by omega) false (layOk_nil f9) (fmAt_nil f9)).mono fun e w' ⟨he, G', h1, h2, h3, _⟩ => ⟨by rw [he, f3], G', h1, h2, h3⟩
  have C4 : RowKit.Hid (∀ u G p, MemAt u B 3 lv3 G → G.p = p → Calls Try.prog 29 #[.pointer (some ⟨p, 0, none⟩), .int .i64 3, .int .i64 5, .int .i64 7] u fun e w' => e = .returned (.int .i64 0) ∧ ∃ G', MemAt w' B 4 lv4 G' ∧ G'.p = p ∧ Below B u w') := Lib.hid fun u G p h hp => by subst hp; exact (put_any h (by omega) 3 5 7 (by omega) (by omega) (by omega)).mono fun e w' ⟨he, G', h1, h2, h3, _⟩ => ⟨by rw [he, f4], G', h1, h2, h3⟩
  have C5 : RowKit.Hid (∀ u G p, MemAt u B 4 lv4 G → G.p = p → Calls Try.prog 22 #[.pointer (some ⟨p, 0, none⟩)] u fun e w' => e = .returned (.int .i64 48) ∧ w' = u) := Lib.hid fun u G p h hp => by subst hp; have := used_any h; rw [f5] at this; exact this
  have C6 : RowKit.Hid (∀ u G p, MemAt u B 4 lv4 G → G.p = p → Calls Try.prog 23 #[.pointer (some ⟨p, 0, none⟩)] u fun e w' => e = .returned (.int .i64 2) ∧ w' = u) := Lib.hid fun u G p h hp => by subst hp; have := makes_any h; rw [f6] at this; exact this
  rw [← hB] at C0 ⊢
  clear f1 f2 f3 f4 f5 f6 f7 f8 f9 hB
  go_enter Try.func21, Try.ntmps21
  go_wp2_with (first
    | (go_at_call 17; refine C0.out.mono ?_; rintro e u0 ⟨G0, rfl, hm, hb⟩; obtain ⟨p, hp⟩ : ∃ p, G0.p = p := ⟨_, rfl⟩; have HM0 : RowKit.Hid (MemAt u0 B 0 lv0 G0 ∧ G0.p = p) := Lib.hid ⟨hm, hp⟩; have HB0 := Lib.hid hb; rw [hp]; clear hm hb hp C0)
    | (go_at_call 25; (with_reducible refine (C1.out u0 G0 p HM0.out.1 HM0.out.2).mono ?_); rintro e u1 ⟨rfl, G1, hm, hp, hb⟩; have HM1 : RowKit.Hid (MemAt u1 B 1 lv1 G1 ∧ G1.p = p) := Lib.hid ⟨hm, hp⟩; have HB1 := Lib.hid hb; clear hm hb hp C1)
    | (go_at_call 25; (with_reducible refine (C2.out u1 G1 p HM1.out.1 HM1.out.2).mono ?_); rintro e u2 ⟨rfl, G2, hm, hp, hb⟩; have HM2 : RowKit.Hid (MemAt u2 B 2 lv2 G2 ∧ G2.p = p) := Lib.hid ⟨hm, hp⟩; have HB2 := Lib.hid hb; clear hm hb hp C2)
    | (go_at_call 28; (with_reducible refine (C3.out u2 G2 p HM2.out.1 HM2.out.2).mono ?_); rintro e u3 ⟨rfl, G3, hm, hp, hb⟩; have HM3 : RowKit.Hid (MemAt u3 B 3 lv3 G3 ∧ G3.p = p) := Lib.hid ⟨hm, hp⟩; have HB3 := Lib.hid hb; clear hm hb hp C3)
    | (go_at_call 29; (with_reducible refine (C4.out u3 G3 p HM3.out.1 HM3.out.2).mono ?_); rintro e u4 ⟨rfl, G4, hm, hp, hb⟩; have HM4 : RowKit.Hid (MemAt u4 B 4 lv4 G4 ∧ G4.p = p) := Lib.hid ⟨hm, hp⟩; have HB4 := Lib.hid hb; clear hm hb hp C4)
    | (go_at_call 22; (with_reducible refine (C5.out u4 G4 p HM4.out.1 HM4.out.2).mono ?_); rintro e u5 ⟨rfl, hu⟩; rw [hu]; clear hu u5)
    | (go_at_call 23; (with_reducible refine (C6.out u4 G4 p HM4.out.1 HM4.out.2).mono ?_); rintro e u6 ⟨rfl, hu⟩; rw [hu]; clear hu u6))
  go_ret
  exact ⟨rfl, ((((HB0.out.trans HB1.out).trans HB2.out).trans HB3.out).trans HB4.out)⟩
end Go.Proofs.Ytnnccahpgailiaa
