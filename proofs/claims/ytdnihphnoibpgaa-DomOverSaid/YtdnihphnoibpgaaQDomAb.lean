/- Layer 8: the document's Above. -/
import Derived.Test.YtdnihphnoibpgaaQT4

namespace Go.Proofs.Ytdnihphnoibpgaa
open Go.RowKit (wrap64 intOf Below)
set_option linter.unusedVariables false
set_option linter.unusedSimpArgs false

/-- What the document's Above says of block b. -/
def AbV (f : FuncD) (n b : Nat) (v : Int) : Prop := (∃ a : Nat, v = (a : Int) ∧ a < n ∧ NextOver f n b a) ∨ (v = -1 ∧ ∀ a, a < n → ¬ NextOver f n b a)
theorem abv_up {f : FuncD} {n m : Nat} {UP : List Int} (hs : Settled (EdgeF f) (MetF f) (plF f) n UP m) (hn : n = f.blocks.length) {b : Nat} (hb : b < n) {v : Int} (h : AbV f n b v) : nth UP b = v := by
  have e := upOf_lt (UP := UP) hb
  rcases h with ⟨a, rfl, _, h⟩ | ⟨rfl, h⟩
  · rw [← e]; exact (nextOver_up hs hn).1 h
  · rw [← e]
    have hl := hs.tree.low b
    refine Classical.byContradiction fun hne => ?_
    obtain ⟨c, hc⟩ := Int.eq_ofNat_of_zero_le (show 0 ≤ upOf n UP b by omega)
    exact h c (by rw [hn]; exact met_lt (hs.tree.lt _ _ hc).1) ((nextOver_up hs hn).2 hc)
open Classical in
noncomputable def okB (f : FuncD) (b a x : Nat) : Bool := decide (∀ c, c < x → c ≠ b → OverF f c b → OverF f c a)
theorem okB_zero (f : FuncD) (b a : Nat) : okB f b a 0 = true := by unfold okB; simp
theorem okB_more (f : FuncD) (b a x : Nat) : okB f b a (x + 1) = (okB f b a x && (decide (x = b) || !overB f x b || overB f x a)) := by
  unfold okB
  rw [Bool.eq_iff_iff]
  simp only [decide_eq_true_eq, Bool.and_eq_true, Bool.or_eq_true, Bool.not_eq_true', overB_iff]
  constructor
  · intro h
    refine ⟨fun c hc => h c (by omega), ?_⟩
    by_cases e : x = b
    · exact .inl (.inl e)
    · cases ho : overB f x b with
      | false => exact .inl (.inr rfl)
      | true => exact .inr (h x (by omega) e (overB_iff.1 ho))
  · rintro ⟨h, hx⟩ c hc hcb hco
    by_cases e : c = x
    · subst e
      rcases hx with (hx | hx) | hx
      · exact absurd hx hcb
      · rw [overB_iff.2 hco] at hx; cases hx
      · exact hx
    · exact h c (by omega) hcb hco
theorem okB_next {f : FuncD} {n b a : Nat} (h1 : a ≠ b) (h2 : overB f a b = true) : okB f b a n = true ↔ NextOver f n b a := by
  unfold okB NextOver
  simp only [decide_eq_true_eq]
  exact ⟨fun h => ⟨h1, overB_iff.1 h2, h⟩, fun h => h.2.2⟩
set_option maxRecDepth 100000 in
set_option maxHeartbeats 4000000 in
theorem refabove_any (r : Int) (a : Option Addr) (n c : Nat) (f : FuncD) (b : Nat) (w : World) (hrow : RowV BlockQ 8 w (.slice a n c) f.blocks) (hn : n ≤ 1099511627776) :
    Calls Try.prog 26 #[.agg #[.int .i64 r, .slice a n c], .int .i64 (b : Int)] w fun e w' => ∃ v : Int, e = .returned (.int .i64 v) ∧ AbV f n b v ∧ Below w.heap.size w w' := by
  have HROW := Lib.hid hrow
  clear hrow
  have CO : RowKit.Hid (∀ (x y : Int) (u : World), Below w.heap.size w u → Calls Try.prog 25 #[.agg #[.int .i64 r, .slice a n c], .int .i64 x, .int .i64 y] u fun e w' => e = .returned (.bool (overB f x y)) ∧ Below u.heap.size u w') := Lib.hid fun x y u hu => refover_any r a n c f x y u (HROW.out.since BlockQ.lasts hu) hn
  obtain ⟨W0, hW0⟩ : ∃ W0, w.alloc (.cells #[.int .i64 r, .slice a n c] 24) = W0 := ⟨_, rfl⟩
  have HS0 : RowKit.Hid (LawSt w r a n c none 0 [] W0) := Lib.hid (by rw [← hW0]; exact law_enter w r a n c)
  go_enter Try.func26, Try.ntmps26
  go_wp2_with fail
  try rw [hW0]
  clear hW0
  go_loopw [5] (fun v5 wr => ∃ i : Nat, i ≤ n ∧ v5 = .int .i64 (i : Int) ∧ RowKit.Hid (LawSt w r a n c none 0 [] wr) ∧ RowKit.Hid (∀ x, x < i → ¬ NextOver f n b x)) (fun v5 _ => n - (intOf v5).toNat)
  case atStart => exact ⟨0, Nat.zero_le _, rfl, HS0, Lib.hid fun x hx => absurd hx (by omega)⟩
  case round =>
    obtain ⟨i, hi, rfl, HI, HNO⟩ := hrel
    clear HS0
    obtain ⟨wo, hwo⟩ : ∃ u, u = wr := ⟨_, rfl⟩
    rw [← hwo] at HI ⊢
    clear hwo
    have hc0 := HI.out.c0
    have hc1 := HI.out.c1
    have hw : wrap64 ((i : Int) + 1) = (i : Int) + 1 := by unfold wrap64; omega
    by_cases hlt : i < n
    · by_cases hib : i = b
      · have hbe : ((i : Int) == (b : Int)) = true := by rw [hib]; simp
        have HN2 : RowKit.Hid (∀ x, x < i + 1 → ¬ NextOver f n b x) := Lib.hid fun x hx => by
          by_cases e : x = i
          · rw [e, hib]; exact fun h => h.1 rfl
          · exact HNO.out x (by omega)
        go_wp2_with fail
        go_roundw
        case rel => exact ⟨i + 1, hlt, by go_num, HI, HN2⟩
        case measure => simp [intOf, hw]; omega
      · have hbe : ((i : Int) == (b : Int)) = false := by rw [beq_eq_false_iff_ne]; omega
        obtain ⟨q1, hq1⟩ : ∃ q, overB f (i : Int) (b : Int) = q := ⟨_, rfl⟩
        have HQ1 := Lib.hid hq1
        clear hq1
        have HW := Lib.hid hw
        cases q1 with
        | false =>
          have HN2 : RowKit.Hid (∀ x, x < i + 1 → ¬ NextOver f n b x) := Lib.hid fun x hx => by
            by_cases e : x = i
            · rw [e]; exact fun h => by have := overB_iff.2 h.2.1; rw [HQ1.out] at this; cases this
            · exact HNO.out x (by omega)
          go_wp2_with (go_at_call 25; (with_reducible refine (CO.out i b wo HI.out.bel).mono ?_); rintro e w3 ⟨rfl, hb⟩; rw [HQ1.out]; have HI3 := Lib.hid (HI.out.since hb); clear hb)
          go_roundw
          case rel => exact ⟨i + 1, hlt, by go_num, HI3, HN2⟩
          case measure => simp [intOf, hw]; omega
        | true =>
          have HOK0 : RowKit.Hid (Value.bool true = Value.bool (okB f b i 0)) := Lib.hid (by rw [okB_zero])
          go_wp2_with (go_at_call 25; (with_reducible refine (CO.out i b wo HI.out.bel).mono ?_); rintro e w3 ⟨rfl, hb⟩; rw [HQ1.out]; have HI3 := Lib.hid (HI.out.since hb); clear hb)
          go_loopw [6, 7] (fun v6 v7 wr => ∃ x : Nat, x ≤ n ∧ v6 = .bool (okB f b i x) ∧ v7 = .int .i64 (x : Int) ∧ RowKit.Hid (LawSt w r a n c none 0 [] wr)) (fun _ v7 _ => n - (intOf v7).toNat)
          case atStart => exact ⟨0, Nat.zero_le _, HOK0.out, rfl, HI3⟩
          case round =>
            obtain ⟨x, hx, rfl, rfl, HX⟩ := hrel
            clear hc0 hc1 HI3
            obtain ⟨wx, hwx⟩ : ∃ u, u = wr := ⟨_, rfl⟩
            rw [← hwx] at HX ⊢
            clear hwx
            have hd0 := HX.out.c0
            have hd1 := HX.out.c1
            have hwx : wrap64 ((x : Int) + 1) = (x : Int) + 1 := by unfold wrap64; omega
            have HM := Lib.hid (okB_more f b i x)
            obtain ⟨ok, hok⟩ : ∃ q, okB f b i x = q := ⟨_, rfl⟩
            have HOK := Lib.hid hok
            rw [hok]
            clear hok
            by_cases hxl : x < n
            · by_cases hxb : x = b
              · have hbx : ((x : Int) != (b : Int)) = false := by rw [hxb]; simp
                have HV : RowKit.Hid (Value.bool ok = Value.bool (okB f b i (x + 1))) := Lib.hid (by rw [HM.out, HOK.out]; simp [hxb])
                go_wp2_with fail
                go_roundw
                case rel => exact ⟨x + 1, hxl, HV.out, by go_num, HX⟩
                case measure => simp [intOf, hwx]; omega
              · have hbx : ((x : Int) != (b : Int)) = true := by simp [bne]; omega
                obtain ⟨q2, hq2⟩ : ∃ q, overB f (x : Int) (b : Int) = q := ⟨_, rfl⟩
                have HQ2 := Lib.hid hq2
                clear hq2
                cases q2 with
                | false =>
                  have HV : RowKit.Hid (Value.bool ok = Value.bool (okB f b i (x + 1))) := Lib.hid (by rw [HM.out, HOK.out, HQ2.out]; simp)
                  go_wp2_with (go_at_call 25; (with_reducible refine (CO.out x b wx HX.out.bel).mono ?_); rintro e w4 ⟨rfl, hb⟩; rw [HQ2.out]; have HX4 := Lib.hid (HX.out.since hb); clear hb)
                  go_roundw
                  case rel => exact ⟨x + 1, hxl, HV.out, by go_num, HX4⟩
                  case measure => simp [intOf, hwx]; omega
                | true =>
                  obtain ⟨q3, hq3⟩ : ∃ q, overB f (x : Int) (i : Int) = q := ⟨_, rfl⟩
                  have HQ3 := Lib.hid hq3
                  clear hq3
                  cases q3 with
                  | true =>
                    have HV : RowKit.Hid (Value.bool ok = Value.bool (okB f b i (x + 1))) := Lib.hid (by rw [HM.out, HOK.out, HQ3.out]; simp)
                    go_wp2_with (first
                      | (go_at_call 25; (with_reducible refine (CO.out x b wx HX.out.bel).mono ?_); rintro e w4 ⟨rfl, hb⟩; rw [HQ2.out]; have HX4 := Lib.hid (HX.out.since hb); have he0 := HX4.out.c0; have he1 := HX4.out.c1; clear hb)
                      | (go_at_call 25; (with_reducible refine (CO.out x i w4 HX4.out.bel).mono ?_); rintro e w5 ⟨rfl, hb⟩; rw [HQ3.out]; have HX5 := Lib.hid (HX4.out.since hb); clear hb))
                    go_roundw
                    case rel => exact ⟨x + 1, hxl, HV.out, by go_num, HX5⟩
                    case measure => simp [intOf, hwx]; omega
                  | false =>
                    have HV : RowKit.Hid (Value.bool false = Value.bool (okB f b i (x + 1))) := Lib.hid (by rw [HM.out, HQ2.out, HQ3.out]; simp [hxb])
                    go_wp2_with (first
                      | (go_at_call 25; (with_reducible refine (CO.out x b wx HX.out.bel).mono ?_); rintro e w4 ⟨rfl, hb⟩; rw [HQ2.out]; have HX4 := Lib.hid (HX.out.since hb); have he0 := HX4.out.c0; have he1 := HX4.out.c1; clear hb)
                      | (go_at_call 25; (with_reducible refine (CO.out x i w4 HX4.out.bel).mono ?_); rintro e w5 ⟨rfl, hb⟩; rw [HQ3.out]; have HX5 := Lib.hid (HX4.out.since hb); clear hb))
                    go_roundw
                    case rel => exact ⟨x + 1, hxl, HV.out, by go_num, HX5⟩
                    case measure => simp [intOf, hwx]; omega
            · obtain rfl : x = n := by omega
              have hw := HW.out
              cases ok with
              | true =>
                have HR : RowKit.Hid (AbV f x b (i : Int)) := Lib.hid (.inl ⟨i, rfl, hlt, (okB_next hib HQ1.out).1 HOK.out⟩)
                go_wp2_with fail
                go_ret
                exact ⟨_, rfl, HR.out, HX.out.bel⟩
              | false =>
                have HN2 : RowKit.Hid (∀ y, y < i + 1 → ¬ NextOver f x b y) := Lib.hid fun y hy => by
                  by_cases e : y = i
                  · rw [e]; exact fun h => by have := (okB_next hib HQ1.out).2 h; rw [HOK.out] at this; cases this
                  · exact HNO.out y (by omega)
                go_wp2_with fail
                go_roundw
                case rel => exact ⟨i + 1, hlt, by go_num, HX, HN2⟩
                case measure => simp [intOf, hw]; omega
    · obtain rfl : i = n := by omega
      have HR : RowKit.Hid (AbV f i b (-1)) := Lib.hid (.inr ⟨rfl, HNO.out⟩)
      go_wp2_with fail
      go_ret
      exact ⟨_, rfl, HR.out, HI.out.bel⟩
end Go.Proofs.Ytdnihphnoibpgaa
