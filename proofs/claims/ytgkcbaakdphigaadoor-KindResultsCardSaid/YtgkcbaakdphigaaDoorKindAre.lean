/- Layer 4, P4.3: package kind's are, match (with the library's EqualFunc at its closure), pointer, walked. -/
import Derived.Test.YtgkcbaakdphigaaDoorKindTypK
import Derived.Test.YtgkcbaakdphigaaDoorKindSign
namespace Go.Proofs.YtgkcbaakdphigaaDoor
open Go.RowKit (wrap64 intOf Below)
set_option linter.unusedVariables false

/-- The type of a value. -/
def tyAt (ts : List Int) (v : Int) : Int := nth ts v.toNat
def Among (vs : List Int) (n : Nat) : Prop := ∀ v ∈ vs, 0 ≤ v ∧ v < (n : Int)
def areB (ts : List Int) (t : Int) (vs : List Int) : Bool := vs.all fun v => tyAt ts v == t
/-- The cell of a value's type. -/
theorem NumsAt.type {w : World} {a : Option Addr} {n : Nat} {ts : List Int} (h : NumsAt w a n ts) {v : Int} (hv : 0 ≤ v ∧ v < (n : Int)) : ∃ (g off k : Nat), a = some ⟨g, off, none⟩ ∧ v = (k : Int) ∧ k < n ∧ w.cell? ⟨g, off + k, none⟩ = some (.int .i64 (tyAt ts v)) := by
  obtain ⟨k, rfl⟩ := Int.eq_ofNat_of_zero_le hv.1
  have hk : k < n := by omega
  obtain ⟨g, off, e, _, hc⟩ := h.2 (by omega)
  refine ⟨g, off, k, e, rfl, hk, ?_⟩
  have hl := h.1
  rw [hc k (by omega)]
  show some (Value.int .i64 _) = _
  rw [show tyAt ts (k : Int) = nth ts k from rfl, nth_is (by omega)]

set_option maxRecDepth 100000 in
theorem are_any (ta : Option Addr) (tn tc : Nat) (ts : List Int) (t : Int) (va : Option Addr) (vn vc : Nat) (vs : List Int) (w : World) (ht : NumsAt w ta tn ts) (hv : NumsAt w va vn vs) (ham : Among vs tn) (hvn : vn ≤ 140737488355328) (htn : tn ≤ 140737488355328) :
    Calls Tryd.prog 38 #[.slice ta tn tc, .int .i64 t, .slice va vn vc] w fun e w' => e = .returned (.bool (areB ts t vs)) ∧ w = w' := by
  have HT := Lib.hid ht
  have HV := Lib.hid hv
  have HAM := Lib.hid ham
  have HVL := Lib.hid hv.1
  clear ht hv ham
  go_enter Tryd.func38, Tryd.ntmps38
  go_wp2_with fail
  go_loop [11] (fun iv => ∃ k : Nat, k ≤ vn ∧ iv = .int .i64 (k : Int) ∧ RowKit.Hid (areB ts t (vs.take k) = true)) (fun iv => vn - (intOf iv).toNat)
  case atStart => exact ⟨0, Nat.zero_le _, rfl, Lib.hid rfl⟩
  case round =>
    obtain ⟨k, hk, rfl, HA⟩ := hrel
    by_cases hlt : k < vn
    · have hkl : k < vs.length := by rw [HVL.out]; exact hlt
      obtain ⟨vg, vo, rfl, _, hvc⟩ := HV.out.2 (by omega)
      have hcv := hvc k hkl
      unfold numV at hcv
      obtain ⟨v, hv⟩ : ∃ v, vs[k] = v := ⟨_, rfl⟩
      obtain ⟨tg, tq, j, rfl, e2, hj, hct⟩ := HT.out.type (HAM.out v (by rw [← hv]; exact List.getElem_mem _))
      rw [hv, e2] at hcv
      have HN : RowKit.Hid (areB ts t (vs.take (k + 1)) = (areB ts t (vs.take k) && (tyAt ts v == t))) := Lib.hid (by
        unfold areB
        rw [List.take_succ_eq_append_getElem hkl, hv, List.all_append]
        simp)
      obtain ⟨y, hy⟩ : ∃ y, tyAt ts v = y := ⟨_, rfl⟩
      rw [hy] at hct HN
      clear hvc hv e2 hy
      by_cases hyt : y = t
      · subst hyt
        go_wp2_with fail
        go_round
        case rel => exact ⟨k + 1, by omega, by go_num, Lib.hid (by rw [HN.out, HA.out]; simp)⟩
        case measure => simp [intOf]; omega
      · have hd : (y != t) = true := by simpa using hyt
        have HE : RowKit.Hid (areB ts t vs = false) := Lib.hid (by
          have h1 := HN.out
          have h2 : areB ts t (vs.take (k + 1)) = false := by rw [h1, show (y == t) = false by simpa using hyt]; simp
          unfold areB at h2 ⊢
          rw [List.all_eq_false] at h2 ⊢
          obtain ⟨x, hx, hp⟩ := h2
          exact ⟨x, List.mem_of_mem_take hx, hp⟩)
        clear hyt
        go_wp2_with fail
        go_ret
        exact ⟨by rw [HE.out]; rfl, rfl⟩
    · obtain rfl : k = vn := by omega
      have HE : RowKit.Hid (areB ts t vs = true) := Lib.hid (by
        have := HA.out
        rwa [List.take_of_length_le (by rw [HVL.out]; exact Nat.le_refl _)] at this)
      go_wp2_with fail
      go_ret
      exact ⟨by rw [HE.out]; rfl, rfl⟩

theorem match1_any (b : Nat) (ta : Option Addr) (tn tc : Nat) (ts : List Int) (v want : Int) (w : World) (ht : NumsAt w ta tn ts) (hb : w.cell? ⟨b, 0, none⟩ = some (.slice ta tn tc)) (hv : 0 ≤ v ∧ v < (tn : Int)) (htn : tn ≤ 140737488355328) :
    Calls Tryd.prog 49 #[.int .i64 v, .int .i64 want, .pointer (some ⟨b, 0, none⟩)] w fun e w' => e = .returned (.bool (tyAt ts v == want)) ∧ w = w' := by
  obtain ⟨tg, tq, j, rfl, rfl, hj, hct⟩ := ht.type hv
  obtain ⟨y, hy⟩ : ∃ y, tyAt ts (j : Int) = y := ⟨_, rfl⟩
  rw [hy] at hct ⊢
  clear hy hv ht
  go_enter Tryd.func49, Tryd.ntmps49
  go_wp2_with fail
  go_ret
  exact ⟨rfl, rfl⟩
def matchB (ts vs ws : List Int) : Bool := decide (vs.map (tyAt ts) = ws)
set_option maxRecDepth 100000 in
theorem eqf_any (b : Nat) (ta : Option Addr) (tn tc : Nat) (ts : List Int) (va : Option Addr) (vn vc : Nat) (vs : List Int) (wa : Option Addr) (wn wc : Nat) (ws : List Int) (w : World) (ht : NumsAt w ta tn ts) (hb : w.cell? ⟨b, 0, none⟩ = some (.slice ta tn tc)) (hv : NumsAt w va vn vs) (hw : NumsAt w wa wn ws) (ham : Among vs tn) (hvn : vn ≤ 140737488355328) (hwn : wn ≤ 140737488355328) (htn : tn ≤ 140737488355328) :
    Calls Tryd.prog 48 #[.slice va vn vc, .slice wa wn wc, .func (.func 49) #[] #[.pointer (some ⟨b, 0, none⟩)]] w fun e w' => e = .returned (.bool (matchB ts vs ws)) ∧ w = w' := by
  have HVL := Lib.hid hv.1
  have HWL := Lib.hid hw.1
  by_cases hne : vn = wn
  · subst hne
    have HV := Lib.hid hv
    have HW := Lib.hid hw
    have HAM := Lib.hid ham
    have HC := Lib.hid (fun v want hv => match1_any b ta tn tc ts v want w ht hb hv htn)
    clear hv hw ham ht hb
    go_enter Tryd.func48, Tryd.ntmps48
    go_wp2_with fail
    go_loop [17] (fun iv => ∃ k : Nat, k ≤ vn ∧ iv = .int .i64 (k : Int) ∧ RowKit.Hid ((vs.take k).map (tyAt ts) = ws.take k)) (fun iv => vn - (intOf iv).toNat)
    case atStart => exact ⟨0, Nat.zero_le _, rfl, Lib.hid rfl⟩
    case round =>
      obtain ⟨k, hk, rfl, HA⟩ := hrel
      by_cases hlt : k < vn
      · have hkl : k < vs.length := by rw [HVL.out]; exact hlt
        have hkw : k < ws.length := by rw [HWL.out]; exact hlt
        obtain ⟨vg, vo, rfl, _, hvc⟩ := HV.out.2 (by omega)
        obtain ⟨wg, wo, rfl, _, hwc⟩ := HW.out.2 (by omega)
        have hcv := hvc k hkl
        have hcw := hwc k hkw
        unfold numV at hcv hcw
        obtain ⟨v, hv⟩ : ∃ v, vs[k] = v := ⟨_, rfl⟩
        obtain ⟨x, hx⟩ : ∃ x, ws[k] = x := ⟨_, rfl⟩
        rw [hv] at hcv
        rw [hx] at hcw
        have HR := Lib.hid (HAM.out v (by rw [← hv]; exact List.getElem_mem _))
        clear hvc hwc
        by_cases hyt : tyAt ts v = x
        · have HN : RowKit.Hid ((vs.take (k + 1)).map (tyAt ts) = ws.take (k + 1)) := Lib.hid (by
            rw [List.take_succ_eq_append_getElem hkl, List.take_succ_eq_append_getElem hkw, List.map_append, HA.out, hv, hx, List.map_cons, hyt]; rfl)
          have HB := Lib.hid (show (tyAt ts v == x) = true by simpa using hyt)
          clear hyt hv hx
          go_wp2_with (go_at_call 49; (with_reducible refine (HC.out v x HR.out).mono ?_); rintro e w' ⟨rfl, rfl⟩; rw [HB.out])
          go_round
          case rel => exact ⟨k + 1, by omega, by go_num, HN⟩
          case measure => simp [intOf]; omega
        · have HE : RowKit.Hid (matchB ts vs ws = false) := Lib.hid (by
            unfold matchB
            rw [decide_eq_false_iff_not]
            intro he
            apply hyt
            have h1 : (vs.map (tyAt ts))[k]? = ws[k]? := by rw [he]
            rw [List.getElem?_map, List.getElem?_eq_getElem hkl, List.getElem?_eq_getElem hkw, hv, hx] at h1
            simpa using h1)
          have HB := Lib.hid (show (tyAt ts v == x) = false by simpa using hyt)
          clear hyt hv hx
          go_wp2_with (go_at_call 49; (with_reducible refine (HC.out v x HR.out).mono ?_); rintro e w' ⟨rfl, rfl⟩; rw [HB.out])
          go_ret
          exact ⟨by rw [HE.out]; rfl, rfl⟩
      · obtain rfl : k = vn := by omega
        have HE : RowKit.Hid (matchB ts vs ws = true) := Lib.hid (by
          have := HA.out
          rw [List.take_of_length_le (by rw [HVL.out]; exact Nat.le_refl _), List.take_of_length_le (by rw [HWL.out]; exact Nat.le_refl _)] at this
          exact decide_eq_true this)
        go_wp2_with fail
        go_ret
        exact ⟨by rw [HE.out]; rfl, rfl⟩
  · have HE : RowKit.Hid (matchB ts vs ws = false) := Lib.hid (by
      unfold matchB
      rw [decide_eq_false_iff_not]
      intro he
      have := congrArg List.length he
      rw [List.length_map, HVL.out, HWL.out] at this
      exact hne this)
    have hd : ((vn : Int) != (wn : Int)) = true := by simp; omega
    clear hne hv hw ham ht hb
    go_enter Tryd.func48, Tryd.ntmps48
    go_wp2_with fail
    go_ret
    exact ⟨by rw [HE.out]; rfl, rfl⟩
theorem match_any (ta : Option Addr) (tn tc : Nat) (ts : List Int) (va : Option Addr) (vn vc : Nat) (vs : List Int) (wa : Option Addr) (wn wc : Nat) (ws : List Int) (w : World) (ht : NumsAt w ta tn ts) (hv : NumsAt w va vn vs) (hw : NumsAt w wa wn ws) (ham : Among vs tn) (hvn : vn ≤ 140737488355328) (hwn : wn ≤ 140737488355328) (htn : tn ≤ 140737488355328) :
    Calls Tryd.prog 44 #[.slice ta tn tc, .slice va vn vc, .slice wa wn wc] w fun e w' => e = .returned (.bool (matchB ts vs ws)) ∧ Below w.heap.size w w' := by
  have HB : RowKit.Hid (Below w.heap.size w (w.alloc (.cells #[.slice ta tn tc] 22))) := Lib.hid ((Below.refl _ w).alloc (Nat.le_refl _) _)
  have HC := Lib.hid (eqf_any w.heap.size ta tn tc ts va vn vc vs wa wn wc ws (w.alloc (.cells #[.slice ta tn tc] 22)) (ht.since HB.out) (World.cell?_alloc_mark _ _ _ _ _) (hv.since HB.out) (hw.since HB.out) ham hvn hwn htn)
  clear ht hv hw ham
  go_enter Tryd.func44, Tryd.ntmps44
  go_wp2_with (go_at_call 48; (refine (HC.out).mono ?_); rintro e w' ⟨rfl, rfl⟩)
  go_ret
  exact ⟨rfl, HB.out⟩
/-- Whether a type points to one of so many classes. -/
def ptrB (n : Nat) (t : Int) : Bool := decide (6 ≤ t ∧ t - 6 < n)
theorem pointer_any (g : Nat) (ca : Option Addr) (cn cc : Nat) (t : Int) (w : World) (hc : w.cell? ⟨g, 1, none⟩ = some (.slice ca cn cc)) (ht : -9223372036854775808 ≤ t ∧ t ≤ 9223372036854775807) (hn : cn ≤ 140737488355328) :
    Calls Tryd.prog 46 #[.pointer (some ⟨g, 0, none⟩), .int .i64 t] w fun e w' => e = .returned (.bool (ptrB cn t)) ∧ w = w' := by
  have HC := Lib.hid (ktype_any g ca cn cc t w hc ht hn)
  clear hc
  by_cases h6 : 6 ≤ t
  · have HB : RowKit.Hid (typB cn t = ptrB cn t) := Lib.hid (by
      unfold typB ptrB
      rw [decide_eq_decide]
      omega)
    go_enter Tryd.func46, Tryd.ntmps46
    go_wp2_with (go_at_call 25; (with_reducible refine (HC.out).mono ?_); rintro e w' ⟨rfl, rfl⟩; rw [HB.out])
    go_ret
    exact ⟨rfl, rfl⟩
  · have HB := Lib.hid (show ptrB cn t = false from decide_eq_false (fun h => h6 h.1))
    have h6' : t < 6 := by omega
    go_enter Tryd.func46, Tryd.ntmps46
    go_wp2_with fail
    go_ret
    exact ⟨by rw [HB.out]; rfl, rfl⟩
end Go.Proofs.YtgkcbaakdphigaaDoor
