/- Layer 14: the law FlowBoth. -/
import Derived.Test.YtgncpiamokeohaaFlowLb
import Derived.BigQuiet
import Derived.Lib.QuietBelow
namespace Go.Proofs.Ytgncpiamokeohaa
open Go.RowKit (wrap64 intOf Below)
set_option linter.unusedVariables false
set_option linter.unusedSimpArgs false
theorem OwnsPr.nilc {w : World} {B : Nat} {e : TypeId} {va : Option Addr} {vn vc : Nat} {l : List (Int × Int)} (h : OwnsPr w B e (.slice va vn vc) l) : va = none → vc = 0 := by
  intro hn
  rcases h.2 with ⟨e, _⟩ | ⟨g, cap, cur, e, _⟩
  · cases e; rfl
  · subst hn; cases e
theorem fitF_zero {n : Int} {E : List (Int × Int)} {L : List Int} (h0 : 0 ≤ n) (h1 : n ≤ 16384) (hE : ∀ e ∈ E, 0 ≤ e.1 ∧ e.1 < n ∧ 0 ≤ e.2 ∧ e.2 < n) (hL : ∀ v ∈ L, 0 ≤ v ∧ v < n) : fitF n E L = 0 := by
  unfold fitF
  rw [if_neg (by omega), if_neg (fun h => ?_), if_neg (fun h => ?_), if_neg (by omega)]
  · obtain ⟨v, hv, h2⟩ := List.any_eq_true.1 h
    have := hL v hv
    unfold offF at h2
    simp at h2
    omega
  · obtain ⟨e, he, h2⟩ := List.any_eq_true.1 h
    have := hE e he
    unfold offF at h2
    simp at h2
    omega
theorem metL_at {n : Nat} {E : List (Int × Int)} {S : List Int} (hf : fitF (n : Int) E S = 0) {W : World} {a : Option Addr} {k : Nat} (h : BoolsAt W a k (metL (n : Int) E S)) : k = n ∧ ∀ v, v < n → ∃ g off b, a = some ⟨g, off, none⟩ ∧ g < W.heap.size ∧ W.cell? ⟨g, off + v, none⟩ = some (.bool b) ∧ (b = true ↔ MeetF E S (v : Int)) := by
  have hl := h.1
  unfold metL at hl h
  rw [if_pos hf, Int.toNat_natCast] at hl h
  rw [metF_len] at hl
  refine ⟨hl.symm, fun v hv => ?_⟩
  obtain ⟨g, off, e, hg, hc⟩ := h.2 (by omega)
  have hv' : v < (metF n E S).length := by rw [metF_len]; exact hv
  exact ⟨g, off, _, e, hg, hc v hv', metF_at hv'⟩
theorem nums1 (u : World) (z : Int) : NumsAt (u.alloc (.cells #[.int .i64 z] 3)) (some ⟨u.heap.size, 0, none⟩) 1 [z] := ⟨rfl, fun _ => ⟨u.heap.size, 0, rfl, by simp, fun j hj => by
  obtain rfl : j = 0 := by simp at hj; omega
  rw [World.cell?_alloc_mark]; rfl⟩⟩
set_option maxRecDepth 100000 in
set_option maxHeartbeats 4000000 in
theorem flowboth_walk (ea : Option Addr) (en ec : Nat) (l : List (Int × Int)) (x y : Int) (w : World) (hE : Pairs8At w ea en l) (hx : 0 ≤ x ∧ x ≤ 255) (hy : 0 ≤ y ∧ y ≤ 255) :
    Calls Try.prog 5 #[.slice ea en ec, .int .u8 x, .int .u8 y] w fun e w' => e = .returned (.bool true) ∧ Below w.heap.size w w' := by
  have HN := Lib.hid (nodes_any ea en ec l w hE)
  have hwx : IntKind.i64.wrap x = x := wrap_small _ (by omega) (by omega)
  have hwy : IntKind.i64.wrap y = y := wrap_small _ (by omega) (by omega)
  have htx : x.tmod 20 = x % 20 := Int.tmod_eq_emod_of_nonneg (by omega)
  have hty : y.tmod 20 = y % 20 := Int.tmod_eq_emod_of_nonneg (by omega)
  obtain ⟨a, ha, ha2⟩ : ∃ a : Nat, x % 20 = (a : Int) ∧ a < 20 := ⟨(x % 20).toNat, by omega, by omega⟩
  obtain ⟨b, hb, hb2⟩ : ∃ b : Nat, y % 20 = (b : Int) ∧ b < 20 := ⟨(y % 20).toNat, by omega, by omega⟩
  rw [ha] at htx
  rw [hb] at hty
  have hwa : IntKind.i64.wrap (a : Int) = (a : Int) := wrap_small _ (by omega) (by omega)
  have hwb : IntKind.i64.wrap (b : Int) = (b : Int) := wrap_small _ (by omega) (by omega)
  have HF1 : RowKit.Hid (fitF ((20 : Nat) : Int) (nodesF l) [(a : Int)] = 0) := Lib.hid (fitF_zero (by omega) (by omega) (fun e he => nodesF_in he) (fun v hv => by simp at hv; subst hv; omega))
  have HF2 : RowKit.Hid (fitF ((20 : Nat) : Int) (turnF (nodesF l)) [(b : Int)] = 0) := Lib.hid (by rw [fitF_turn]; exact fitF_zero (by omega) (by omega) (fun e he => nodesF_in he) (fun v hv => by simp at hv; subst hv; omega))
  have HLN : RowKit.Hid ((nodesF l).length ≤ 60) := Lib.hid (nodesF_len l)
  clear hE hx hy ha hb
  have haz : (a : Int) < 20 := by omega
  have hbz : (b : Int) < 20 := by omega
  have ha0 : (0 : Int) ≤ (a : Int) := by omega
  have hb0 : (0 : Int) ≤ (b : Int) := by omega
  go_enter Try.func5, Try.ntmps5
  go_wp2_with (first
    | (go_at_call 18; refine HN.out.mono ?_; rintro e w1 ⟨va, vn, vc, rfl, h1⟩; have H1 := Lib.hid h1; clear h1)
    | (go_at_call 9; refine (own_any va vn vc _ _ H1.out.own.read H1.out.own.nilc (by have := H1.out.own.read.1; have := HLN.out; omega)).mono ?_; rintro e w2 ⟨wa, wn, wc, rfl, h2, h3⟩; have H2 := Lib.hid h2; have H3 := Lib.hid h3; clear h2 h3)
    | (go_at_call 8; refine (reachF_any ((20 : Nat) : Int) wa wn wc (nodesF l) (some ⟨w2.heap.size, 0, none⟩) 1 1 [(a : Int)] _ (H2.out.read.since ((Below.refl _ w2).alloc (Nat.le_refl _) _)) (nums1 w2 _) (by have := H2.out.read.1; have := HLN.out; omega) (by omega)).mono ?_; rintro e w3 ⟨pa, pk, pc, rfl, h4, h5⟩; rw [HF1.out]; have H4 := Lib.hid h4; have H5 := Lib.hid h5; clear h4 h5))
  have HB3 : RowKit.Hid (Below w1.heap.size w1 w3) := Lib.hid (H3.out.trans ((((Below.refl _ w2).alloc (Nat.le_refl _) _).trans (H5.out.mono (by simp))).mono H3.out.size))
  go_wp2_with (first
    | (go_at_call 9; refine (own_any va vn vc _ _ (H1.out.own.read.since HB3.out) H1.out.own.nilc (by have := H1.out.own.read.1; have := HLN.out; omega)).mono ?_; rintro e w4 ⟨xa, xn, xc, rfl, h2, h3⟩; have H6 := Lib.hid h2; have H7 := Lib.hid h3; clear h2 h3)
    | (go_at_call 11; refine (backF_any ((20 : Nat) : Int) xa xn xc (nodesF l) (some ⟨w4.heap.size, 0, none⟩) 1 1 [(b : Int)] _ (H6.out.read.since ((Below.refl _ w4).alloc (Nat.le_refl _) _)) (nums1 w4 _) (by have := H6.out.read.1; have := HLN.out; omega) (by omega)).mono ?_; rintro e w5 ⟨qa, qk, qc, rfl, h4, h5⟩; rw [HF2.out]; have H8 := Lib.hid h4; have H9 := Lib.hid h5; clear h4 h5))
  have HB5 : RowKit.Hid (Below w3.heap.size w3 w5) := Lib.hid (H7.out.trans ((((Below.refl _ w4).alloc (Nat.le_refl _) _).trans (H9.out.mono (by simp))).mono H7.out.size))
  have HBW : RowKit.Hid (Below w.heap.size w w5) := Lib.hid (H1.out.bel.trans ((HB3.out.trans (HB5.out.mono HB3.out.size)).mono H1.out.bel.size))
  obtain ⟨hpk, hp⟩ := metL_at HF1.out (H4.out.since HB5.out)
  obtain ⟨hqk, hq⟩ := metL_at HF2.out H8.out
  obtain ⟨g1, o1, r1, rfl, hg1, c1, m1⟩ := hp b hb2
  obtain ⟨g2, o2, r2, rfl, hg2, c2, m2⟩ := hq a ha2
  subst hpk hqk
  have hrr : r1 = r2 := by
    rw [Bool.eq_iff_iff, m1, m2]
    exact meet_both
  subst hrr
  have hbe : (r1 == r1) = true := by simp
  have cL : ∀ d os, Calls Try.prog 14 #[] (Go.Sort.grow (redrawn w5 d) os) fun e w'' => e = .returned (.bool true) ∧ ∃ p : Regrown, w'' = Go.Sort.grow (redrawn w5 p.d) p.os := fun d os => Calls.regrown_of (lives14_any _)
  have k1 := cell_regrown c1
  have k2 := cell_regrown c2
  clear hp hq m1 m2 c1 c2
  refine wp_region_quiet_below (by kernel_rfl) (by kernel_rfl) ?_
  repeat (go_big_quiet_step (exact cL _ _))
  refine wpQuiet_nil ?_
  rintro w' ⟨⟨dq, osq⟩, rfl⟩
  go_wp2
  go_ret
  exact ⟨rfl, HBW.out.trans ((below_regrown w5 dq osq).mono HBW.out.size)⟩
end Go.Proofs.Ytgncpiamokeohaa
