/- Layer 14: the laws' own helpers: few, own, same, lives, nodes. -/
import Derived.Test.YtgncpiamokeohaaFlowRa
namespace Go.Proofs.Ytgncpiamokeohaa
open Go.RowKit (wrap64 intOf Below)
set_option linter.unusedVariables false
set_option linter.unusedSimpArgs false
set_option maxRecDepth 100000 in
theorem few_any (ea : Option Addr) (en ec : Nat) (E : List (Int × Int)) (w : World) (hE : PairsAt w ea en E) (hec : en ≤ ec) (hcm : ec ≤ 9223372036854775807) :
    Calls Try.prog 7 #[.slice ea en ec] w fun e w' => ∃ k, e = .returned (.slice ea k ec) ∧ k = (E.take 60).length ∧ PairsAt w' ea k (E.take 60) ∧ w' = w := by
  have HE := Lib.hid hE
  have hl := hE.1
  clear hE
  by_cases h : 60 < en
  · have hz : (60 : Int) < (en : Int) := by omega
    have hc : 60 ≤ ec := by omega
    have hc2 : (60 : Int) ≤ (ec : Int) := by omega
    have HK : RowKit.Hid ((60 : Nat) = (E.take 60).length) := Lib.hid (by rw [List.length_take]; omega)
    go_enter Try.func7, Try.ntmps7
    go_wp2_with fail
    go_ret
    exact ⟨60, rfl, HK.out, HE.out.cut (by omega), rfl⟩
  · have hz : ¬ ((60 : Int) < (en : Int)) := by omega
    have HK : RowKit.Hid (E.take 60 = E) := Lib.hid (List.take_of_length_le (by omega))
    go_enter Try.func7, Try.ntmps7
    go_wp2_with fail
    go_ret
    exact ⟨en, rfl, by first | (rw [HK.out, hl]) | (simp; omega) | omega, by rw [HK.out]; exact HE.out, rfl⟩
theorem below_drewF {B : Nat} {w u : World} (q : Nat) (h : Below B w u) : Below B w (u.drewN q) := h.trans ⟨rfl, rfl, rfl, Nat.le_refl _, fun _ _ => rfl⟩
theorem owns_none (w : World) : OwnsPr (w.alloc (.cells #[] 43)) w.heap.size 43 (.slice (some ⟨w.heap.size, 0, none⟩) 0 0) [] :=
  World.ownsRow_lit (base := w.heap.size) (e := 43) (size := 2) w #[] 0 (Nat.le_refl _) (by unfold maxLen; omega) rfl
set_option maxRecDepth 100000 in
theorem own_any (ea : Option Addr) (en ec : Nat) (E : List (Int × Int)) (w : World) (hE : PairsAt w ea en E) (hnil : ea = none → ec = 0) (hen : en ≤ 1000000) :
    Calls Try.prog 9 #[.slice ea en ec] w fun e w' => ∃ va vn vc, e = .returned (.slice va vn vc) ∧ OwnsPr w' w.heap.size 43 (.slice va vn vc) E ∧ Below w.heap.size w w' := by
  have HE : RowKit.Hid (PairsAt (w.alloc (.cells #[] 43)) ea en E) := Lib.hid (hE.since ((Below.refl _ w).alloc (Nat.le_refl _) _))
  have HN := Lib.hid hnil
  have HO := Lib.hid (owns_none w)
  have HB : RowKit.Hid (Below w.heap.size w (w.alloc (.cells #[] 43)) ∧ w.heap.size ≤ (w.alloc (.cells #[] 43)).heap.size) := Lib.hid ⟨(Below.refl _ w).alloc (Nat.le_refl _) _, by simp⟩
  clear hE hnil
  go_enter Try.func9, Try.ntmps9
  go_wp2_with ((with_reducible refine wpList_append_prs _ rfl _ _ 22 rfl 43 Try.underlying22 info_prF w.heap.size (.slice (some ⟨w.heap.size, 0, none⟩) 0 0) [] ?_ ?_ ?_ ea en ec E ?_ ?_ ?_ ?_ ?_); (next => rfl); (next => exact HO.out); (next => exact HB.out.2); (next => rfl); (next => exact HN.out); (next => exact HE.out); (next => simp; omega); intro va vn vc w5 ho5 hb5; rw [List.nil_append] at ho5; have HO5 := Lib.hid ho5; have HB5 := Lib.hid hb5; clear ho5 hb5)
  go_ret
  exact ⟨va, vn, vc, rfl, HO5.out, HB.out.1.trans HB5.out⟩
set_option maxRecDepth 100000 in
set_option maxHeartbeats 2000000 in
theorem same_any (a : Option Addr) (n c : Nat) (L : List Bool) (b : Option Addr) (m d : Nat) (w : World) (hL : BoolsAt w a n L) (hM : BoolsAt w b m L) (hn : n ≤ 1099511627776) :
    Calls Try.prog 13 #[.slice a n c, .slice b m d] w fun e w' => e = .returned (.bool true) ∧ Below w.heap.size w w' := by
  have hm : m = n := by rw [← hM.1, hL.1]
  subst hm
  have hl := hL.1
  have HL := Lib.hid hL
  have HM := Lib.hid hM
  clear hL hM
  go_enter Try.func13, Try.ntmps13
  go_upto_region 4 with fail
  go_loopw [5] (fun v5 wr => ∃ i : Nat, i ≤ m ∧ v5 = .int .i64 (i : Int) ∧ RowKit.Hid (Below w.heap.size w wr)) (fun v5 _ => m - (intOf v5).toNat)
  case atStart => exact ⟨0, Nat.zero_le _, rfl, Lib.hid (Below.refl _ _)⟩
  case round =>
    obtain ⟨i, hi, rfl, HB⟩ := hrel
    by_cases hlt : i < m
    · have hltz : (i : Int) < (m : Int) := by omega
      have hi0 : (0 : Int) ≤ (i : Int) := by omega
      have hiL : i < L.length := by omega
      obtain ⟨g, off, rfl, hg, hc⟩ := (HL.out.since HB.out).2 (by omega)
      obtain ⟨g2, off2, rfl, hg2, hc2⟩ := (HM.out.since HB.out).2 (by omega)
      have c1 := hc i hiL
      have c2 := hc2 i hiL
      clear hc hc2
      generalize L[i] = x at *
      have hxx : (x != x) = false := by simp
      go_wp2_with fail
      go_quiet (fail)
      go_wp2_with fail
      go_roundw
      case rel => exact ⟨i + 1, by omega, by go_num, Lib.hid (below_drewF _ HB.out)⟩
      case measure => simp [intOf]; omega
    · obtain rfl : m = i := by omega
      have hge : ¬ ((m : Int) < (m : Int)) := by omega
      go_wp2_with fail
      go_ret
      exact ⟨rfl, HB.out⟩
/-- What the small living call tells. -/
theorem lives_plain : fitF 4 [(0, 1), (1, 2)] [1] = 0 ∧ metL 4 [(0, 1), (1, 2)] [1] = [false, true, true, false] := by
  have hf : fitF 4 [(0, 1), (1, 2)] [1] = 0 := by decide
  refine ⟨hf, ?_⟩
  unfold metL
  rw [if_pos hf]
  refine (metF_of (M := [false, true, true, false]) rfl fun v hv => ?_).symm
  have key : ∀ v : Int, MeetF [(0, 1), (1, 2)] [1] v → v = 1 ∨ v = 2 := fun v h => MeetF.least (M := fun v => v = 1 ∨ v = 2) (fun v hv => by simp at hv; exact .inl hv) (fun u v hu he => by simp at he; omega) h
  have m1 : MeetF [(0, 1), (1, 2)] [1] 1 := .start (by simp)
  have m2 : MeetF [(0, 1), (1, 2)] [1] 2 := m1.on (by simp)
  match v, hv with
  | 0, _ => exact ⟨fun h => by simp at h, fun h => by have := key _ h; simp at this⟩
  | 1, _ => exact ⟨fun _ => m1, fun _ => rfl⟩
  | 2, _ => exact ⟨fun _ => m2, fun _ => rfl⟩
  | 3, _ => exact ⟨fun h => by simp at h, fun h => by have := key _ h; simp at this⟩
theorem bools4 (u : World) : BoolsAt (u.alloc (.cells #[.bool false, .bool true, .bool true, .bool false] 4)) (some ⟨u.heap.size, 0, none⟩) 4 [false, true, true, false] := by
  refine ⟨rfl, fun _ => ⟨u.heap.size, 0, rfl, by simp, fun j hj => ?_⟩⟩
  rw [World.cell?_alloc_mark]
  match j, hj with
  | 0, _ => rfl
  | 1, _ => rfl
  | 2, _ => rfl
  | 3, _ => rfl
set_option maxRecDepth 100000 in
set_option maxHeartbeats 4000000 in
theorem lives14_any (w : World) : Calls Try.prog 14 #[] w fun e w' => e = .returned (.bool true) ∧ Below w.heap.size w w' := by
  obtain ⟨w1, hw1⟩ : ∃ w1, w1 = (w.alloc (.cells #[.int .i64 0, .int .i64 1, .int .i64 1, .int .i64 2] 43)).alloc (.cells #[.int .i64 1] 3) := ⟨_, rfl⟩
  have hb1 : Below w.heap.size w w1 := by rw [hw1]; exact ((Below.refl _ w).alloc (Nat.le_refl _) _).alloc (by simp) _
  have hE : PairsAt w1 (some ⟨w.heap.size, 0, none⟩) 2 [(0, 1), (1, 2)] := by
    refine ⟨rfl, fun _ => ⟨w.heap.size, 0, rfl, by rw [hw1]; simp; omega, fun i hi => ?_⟩⟩
    have hc : ∀ j, w1.cell? ⟨w.heap.size, j, none⟩ = (#[.int .i64 0, .int .i64 1, .int .i64 1, .int .i64 2] : Array Value)[j]? := fun j => by
      rw [hw1, World.cell?_of_block (a := ⟨w.heap.size, j, none⟩) (Below.heap_alloc _ _ w.heap.size (by simp)), World.cell?_alloc_mark]
    match i, hi with
    | 0, _ => exact ⟨hc _, hc _⟩
    | 1, _ => exact ⟨hc _, hc _⟩
  have hS : NumsAt w1 (some ⟨w.heap.size + 1, 0, none⟩) 1 [1] := ⟨rfl, fun _ => ⟨w.heap.size + 1, 0, rfl, by rw [hw1]; simp, fun j hj => by
    obtain rfl : j = 0 := by simp at hj; omega
    have hz : (w.alloc (.cells #[.int .i64 0, .int .i64 1, .int .i64 1, .int .i64 2] 43)).heap.size = w.heap.size + 1 := by simp
    rw [hw1, Nat.zero_add, ← hz, World.cell?_alloc_mark]; rfl⟩⟩
  have HC := Lib.hid (reachF_any 4 (some ⟨w.heap.size, 0, none⟩) 2 2 [(0, 1), (1, 2)] (some ⟨w.heap.size + 1, 0, none⟩) 1 1 [1] w1 hE hS (by omega) (by omega))
  have HB1 := Lib.hid hb1
  rw [hw1] at HC
  have HLP := Lib.hid lives_plain
  clear hE hS hb1
  go_enter Try.func14, Try.ntmps14
  go_wp2_with (first
    | (go_at_call 8; refine HC.out.mono ?_; rw [← hw1]; rintro e w2 ⟨a, k, c, rfl, h1, h2⟩; rw [HLP.out.1]; rw [HLP.out.2] at h1; have H1 := Lib.hid h1; have H2 := Lib.hid h2; clear h1 h2)
    | (go_at_call 13; refine (same_any a k c _ _ 4 4 _ (H1.out.since ((Below.refl _ w2).alloc (Nat.le_refl _) _)) (bools4 w2) (by have := H1.out.1; simp at this; omega)).mono ?_; rintro e w3 ⟨rfl, h3⟩; have H3 := Lib.hid h3; clear h3))
  go_ret
  exact ⟨rfl, HB1.out.trans ((H2.out.mono HB1.out.size).trans ((((Below.refl _ w2).alloc (Nat.le_refl _) _).trans (H3.out.mono (by simp))).mono (Nat.le_trans HB1.out.size H2.out.size)))⟩
end Go.Proofs.Ytgncpiamokeohaa
