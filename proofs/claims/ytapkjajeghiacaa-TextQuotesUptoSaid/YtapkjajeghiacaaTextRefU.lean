/- Layer 2, P2.2: the document's own Unquote, walked: it reads just the quotes, each as the text that it tells. -/
import Derived.Test.YtapkjajeghiacaaTextRefQ
import Derived.Test.YtapkjajeghiacaaTextPlainR
import Derived.Test.YtapkjajeghiacaaTextUnquote
import Derived.IntWalk
namespace Go.Proofs.Ytapkjajeghiacaa
open Go.RowKit (wrap64 intOf Below)
set_option linter.unusedVariables false

theorem hx_of_digit {c : UInt8} {k : Nat} (h : k < 16) (e : digit k = c) : hv c = k := by
  have := digit_hx k h
  rw [e] at this
  unfold hv; rw [this, if_neg (by omega)]
theorem hv_none {c : UInt8} (h : ∀ j, j < 16 → digit j ≠ c) : hv c = 16 := by
  unfold hv
  by_cases hn : hx c < 0
  · rw [if_pos hn]
  · have := hx_digit c (by omega)
    have r := hx_range c
    exact absurd this.1 (h _ (by omega))
theorem beq_byte (a b : UInt8) : (((a.toNat : Int)) == (b.toNat : Int)) = (a == b) := by
  by_cases h : a = b
  · subst h; simp
  · have h2 : ¬ ((a.toNat : Int) = (b.toNat : Int)) := fun e => h (UInt8.toNat_inj.1 (by omega))
    rw [beq_eq_false_iff_ne.2 h, beq_eq_false_iff_ne.2 h2]
theorem value_any (c : UInt8) (w : World) :
    Calls Try.prog 22 #[.int .u8 (c.toNat : Int)] w fun e w' => e = .returned (.int .u8 (hv c)) ∧ w = w' := by
  go_enter Try.func22, Try.ntmps22
  go_wp2
  go_loop [3] (fun i => ∃ k : Nat, k ≤ 16 ∧ i = .int .u8 k ∧ RowKit.Hid (∀ j, j < k → digit j ≠ c)) (fun i => 16 - (intOf i).toNat)
  case atStart => exact ⟨0, by omega, rfl, Lib.hid (fun j hj => by omega)⟩
  case round =>
    obtain ⟨k, hk, rfl, HN⟩ := hrel
    by_cases hlt : k < 16
    · by_cases hd : digit k = c
      · have HV := Lib.hid (hx_of_digit hlt hd)
        have hb : (((digit k).toNat : Int) == (c.toNat : Int)) = true := by rw [beq_byte, hd]; simp
        clear hd
        go_wp2_with (go_at_call 21; (with_reducible refine (digit_ref k _ hlt).mono ?_); rintro e w' ⟨rfl, rfl⟩)
        go_ret
        exact ⟨by rw [HV.out]; rfl, rfl⟩
      · have hb : (((digit k).toNat : Int) == (c.toNat : Int)) = false := by rw [beq_byte]; simpa using hd
        have HN2 := Lib.hid (show ∀ j, j < k + 1 → digit j ≠ c from fun j hj => by
          by_cases hjk : j = k
          · subst hjk; exact hd
          · exact HN.out j (by omega))
        clear hd
        go_wp2_with (go_at_call 21; (with_reducible refine (digit_ref k _ hlt).mono ?_); rintro e w' ⟨rfl, rfl⟩)
        go_round
        case rel => exact ⟨k + 1, by omega, by go_num, HN2⟩
        case measure => simp [intOf]; omega
    · obtain rfl : k = 16 := by omega
      have HV := Lib.hid (hv_none HN.out)
      go_wp2
      go_ret
      exact ⟨by rw [HV.out]; rfl, rfl⟩

theorem OwnsB.drewN {w : World} {B : Nat} {e : TypeId} {v : Value} {l : List UInt8} (h : OwnsB w B e v l) (n : Nat) : OwnsB (w.drewN n) B e v l := h
set_option maxHeartbeats 1000000 in
theorem runq_any (s : ByteArray) (w : World) (hs : s.size ≤ 35184372088832) :
    Calls Try.prog 15 #[.string s] w (UnqPost s.data.toList w) := by
  have hLs := list_len s
  have HL := Lib.hid hLs
  clear hLs
  go_enter Try.func15, Try.ntmps15
  go_wp2
  have HB1 := Lib.hid ((Below.refl w.heap.size w).alloc (Nat.le_refl _) (.cells #[] 5))
  have HO1 := Lib.hid (OwnsB.built (w := w) (B := w.heap.size) (e := 5) [] #[] 0 rfl (Nat.le_refl _) rfl (by unfold maxLen; omega))
  go_loopw [4, 5] (fun lv iv wr => ∃ (acc : List UInt8) (i : Nat), iv = .int .i64 i ∧ 1 ≤ i ∧ i ≤ 35184372088833 ∧ i ≤ s.size + 1 ∧ acc.length + 1 ≤ i ∧ RowKit.Hid (RInv s.data.toList acc i) ∧ RowKit.Hid (OwnsB wr w.heap.size 5 lv acc) ∧ RowKit.Hid (Below w.heap.size w wr)) (fun _ iv _ => s.size + 1 - (intOf iv).toNat)
  case atStart => exact ⟨[], 1, rfl, by omega, by omega, by omega, by simp, Lib.hid (RInv.start _), HO1, HB1⟩
  case round =>
    obtain ⟨acc, i, rfl, hi1, hi2, hi3, hacc, HR, HO, HB⟩ := hrel
    have hsz := HB.out.size
    by_cases hlt : i + 1 < s.size
    · have hlt' : (i : Int) < (s.size : Int) - 1 := by omega
      have hi0 : s.data.toList[i]? = some s[i] := list_at s i (by omega)
      by_cases h92 : s[i] = 92
      · by_cases hl1 : i + 2 < s.size
        · have hi1' : s.data.toList[i + 1]? = some s[i + 1] := list_at s (i + 1) (by omega)
          cases hm : mark s[i + 1]
          · by_cases hl2 : i + 3 < s.size
            · have hi2' : s.data.toList[i + 2]? = some s[i + 2] := list_at s (i + 2) (by omega)
              have HR2 := Lib.hid (HR.out.stepB (by rw [HL.out]; omega) (by rw [hi0, h92]) hi1' hi2' hm)
              obtain ⟨hm1, hm2⟩ := mark_parts hm
              clear hi0 hi1' hi2' hm
              have hB := hvB_val s[i + 1] s[i + 2]
              have ra := hv_range s[i + 1]
              have rb := hv_range s[i + 2]
              obtain ⟨c, hc⟩ : ∃ c, hvB s[i + 1] s[i + 2] = c := ⟨_, rfl⟩
              rw [hc] at hB HR2
              clear hc
              have HV := Lib.hid hB
              clear hB
              go_wp2_with fail
              have e1 : IntKind.i64.wrap ((i : Int) + 1) = (i : Int) + 1 := IntWalk.i64_in _ (by omega)
              have e2 : IntKind.i64.wrap ((i : Int) + 2) = (i : Int) + 2 := IntWalk.i64_in _ (by omega)
              have e3 : ((i : Int) + 1).toNat = i + 1 := by omega
              have e4 : ((i : Int) + 2).toNat = i + 2 := by omega
              have e5 : (0 : Int) ≤ (i : Int) + 1 := by omega
              have e6 : (0 : Int) ≤ (i : Int) + 2 := by omega
              have e7 : (i : Int) + 1 < (s.size : Int) := by omega
              have e8 : (i : Int) + 2 < (s.size : Int) := by omega
              go_quiet ((go_at_call 22; first | exact quiet_add_left (value_any _ _) | exact quiet_left (value_any _ _)))
              clear e1 e2
              have E : hv s[i + 1] * 16 % 256 + hv s[i + 2] % 16 = (c.toNat : Int) := by have := HV.out; omega
              rw [E]
              clear E
              go_wp2_with (at_builtin; refine wpList_append_bytes _ rfl _ _ 35 rfl 5 Try.underlying35 info_u8 w.heap.size _ _ rfl (HO.out.drewN _) (by simp; omega) _ 1 1 _ [c] rfl (by simp) rfl rfl (by omega) ?_; intro v2 w2 hown2 hb2 hz2; have HO2 := Lib.hid hown2; have HB2 := Lib.hid ((HB.out.trans ((below_drewN wr _).mono hsz)).trans hb2); clear hown2 hb2 hz2)
              go_roundw
              case rel => exact ⟨acc ++ [c], i + 3, by go_num, by omega, by omega, by omega, by simp; omega, HR2, HO2, HB2⟩
              case measure => simp [intOf]; omega
            · have HR2 := Lib.hid (HR.out.stepC (by rw [HL.out]; omega) hi0 (fun _ => ⟨fun _ x hx => by rw [hi1'] at hx; cases hx; exact hm, by rw [HL.out]; exact hl2⟩))
              obtain ⟨hm1, hm2⟩ := mark_parts hm
              rw [h92] at HR2
              clear hi0 hi1' hm
              go_wp2_with (at_builtin; refine wpList_append_bytes _ rfl _ _ 35 rfl 5 Try.underlying35 info_u8 w.heap.size _ _ rfl HO.out hsz _ 1 1 _ [92] rfl (by simp) rfl rfl (by omega) ?_; intro v2 w2 hown2 hb2 hz2; have HO2 := Lib.hid hown2; have HB2 := Lib.hid (HB.out.trans hb2); clear hown2 hb2 hz2)
              go_roundw
              case rel => exact ⟨acc ++ [92], i + 1, by go_num, by omega, by omega, by omega, by simp; omega, HR2, HO2, HB2⟩
              case measure => simp [intOf]; omega
          · have HR2 := Lib.hid (HR.out.stepA (by rw [HL.out]; omega) (by rw [hi0, h92]) hi1' hm)
            have hp : ((s[i + 1].toNat : Int) == 34) = true ∨ (((s[i + 1].toNat : Int) == 34) = false ∧ ((s[i + 1].toNat : Int) == 92) = true) := by
              have hm' : markI (s[i + 1].toNat : Int) = true := hm
              unfold markI at hm'
              cases h34 : ((s[i + 1].toNat : Int) == 34)
              · rw [h34] at hm'; exact Or.inr ⟨rfl, by simpa using hm'⟩
              · exact Or.inl rfl
            clear hi0 hi1' hm
            rcases hp with hp | ⟨hp0, hp⟩
            all_goals
              go_wp2_with (at_builtin; refine wpList_append_bytes _ rfl _ _ 35 rfl 5 Try.underlying35 info_u8 w.heap.size _ _ rfl HO.out hsz _ 1 1 _ [s[i + 1]] rfl (by simp) rfl rfl (by omega) ?_; intro v2 w2 hown2 hb2 hz2; have HO2 := Lib.hid hown2; have HB2 := Lib.hid (HB.out.trans hb2); clear hown2 hb2 hz2)
              go_roundw
              case rel => exact ⟨acc ++ [s[i + 1]], i + 2, by go_num, by omega, by omega, by omega, by simp; omega, HR2, HO2, HB2⟩
              case measure => simp [intOf]; omega
        · have HR2 := Lib.hid (HR.out.stepC (by rw [HL.out]; omega) hi0 (fun _ => ⟨fun h2 => by rw [HL.out] at h2; exact absurd h2 hl1, by rw [HL.out]; omega⟩))
          rw [h92] at HR2
          clear hi0
          go_wp2_with (at_builtin; refine wpList_append_bytes _ rfl _ _ 35 rfl 5 Try.underlying35 info_u8 w.heap.size _ _ rfl HO.out hsz _ 1 1 _ [92] rfl (by simp) rfl rfl (by omega) ?_; intro v2 w2 hown2 hb2 hz2; have HO2 := Lib.hid hown2; have HB2 := Lib.hid (HB.out.trans hb2); clear hown2 hb2 hz2)
          go_roundw
          case rel => exact ⟨acc ++ [92], i + 1, by go_num, by omega, by omega, by omega, by simp; omega, HR2, HO2, HB2⟩
          case measure => simp [intOf]; omega
      · have HR2 := Lib.hid (HR.out.stepC (by rw [HL.out]; omega) hi0 (fun h => absurd h h92))
        have hb : ((s[i].toNat : Int) == 92) = false := by
          have := beq_byte s[i] 92
          rw [show (((92 : UInt8).toNat : Int)) = 92 from rfl] at this
          rw [this]; simpa using h92
        clear hi0 h92
        go_wp2_with (at_builtin; refine wpList_append_bytes _ rfl _ _ 35 rfl 5 Try.underlying35 info_u8 w.heap.size _ _ rfl HO.out hsz _ 1 1 _ [s[i]] rfl (by simp) rfl rfl (by omega) ?_; intro v2 w2 hown2 hb2 hz2; have HO2 := Lib.hid hown2; have HB2 := Lib.hid (HB.out.trans hb2); clear hown2 hb2 hz2)
        go_roundw
        case rel => exact ⟨acc ++ [s[i]], i + 1, by go_num, by omega, by omega, by omega, by simp; omega, HR2, HO2, HB2⟩
        case measure => simp [intOf]; omega
    · have hlt' : ¬ (i : Int) < (s.size : Int) - 1 := by omega
      have hrun := run_string_own_all (P := Try.prog) HO.out 35 9 Try.underlying35 Try.underlying5 Try.underlying9
      have hal : (mk acc).size ≤ 35184372088832 := by rw [mk_size]; omega
      have C := fun w => ref_quote (mk acc) w hal
      rw [mk_list] at C
      by_cases hq : quoteL acc = s.data.toList
      · have hq2 : mk (quoteL acc) = s := by rw [hq, mk_of]
        rw [hq2] at C
        have HC := Lib.hid C
        have HQ := Lib.hid hq
        clear C hq hq2 hal
        go_wp2_with (go_at_call 14; (with_reducible refine (HC.out _).mono ?_); rintro e w1 ⟨rfl, hb1⟩; have hrun2 := run_string_own_all (P := Try.prog) (HO.out.below hb1) 35 9 Try.underlying35 Try.underlying5 Try.underlying9; have HB1 := Lib.hid (HB.out.trans (hb1.mono hsz)); clear hb1)
        go_ret2
        exact UnqPost.yes HQ.out HB1.out
      · have hne : ∀ t, quoteL t ≠ s.data.toList := fun t ht => hq (by rw [← HR.out.fin (by rw [HL.out]; omega) ht]; exact ht)
        obtain ⟨q, hqq⟩ : ∃ q, mk (quoteL acc) = q := ⟨_, rfl⟩
        rw [hqq] at C
        have hb : (q.toList == s.toList) = false := by
          rw [Lib.toList_data, Lib.toList_data, ← hqq, mk_list]
          simpa using hq
        have HC := Lib.hid C
        have HN := Lib.hid hne
        clear C hq hqq hal hne
        go_wp2_with (go_at_call 14; (with_reducible refine (HC.out _).mono ?_); rintro e w1 ⟨rfl, hb1⟩; have HB1 := Lib.hid (HB.out.trans (hb1.mono hsz)); clear hb1)
        go_ret2
        exact UnqPost.no HN.out HB1.out
end Go.Proofs.Ytapkjajeghiacaa
