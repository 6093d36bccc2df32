/- Layer 2, P2.2: the document's own Quote, walked: it makes the quote of whatever text, as text.Quote does. -/
import Derived.Test.YtfnkmigcklmghaaDoorTextQuote
namespace Go.Proofs.YtfnkmigcklmghaaDoor
open Go.RowKit (wrap64 intOf Below)
set_option linter.unusedVariables false

theorem digit_val (n : Nat) (h : n < 16) : ((digit n).toNat : Int) = if n < 10 then 48 + (n : Int) else 87 + (n : Int) := by
  have H : ∀ k : Fin 16, ((digit k.val).toNat : Int) = if k.val < 10 then 48 + (k.val : Int) else 87 + (k.val : Int) := by decide +kernel
  exact H ⟨n, h⟩
theorem digit_ref (n : Nat) (w : World) (h : n < 16) :
    Calls Tryd.prog 73 #[.int .u8 (n : Int)] w fun e w' => e = .returned (.int .u8 ((digit n).toNat : Int)) ∧ w = w' := by
  have hv := Lib.hid (digit_val n h)
  have h0 : (0 : Int) ≤ (n : Int) := Int.natCast_nonneg _
  have h1 : (n : Int) < 16 := by omega
  by_cases h10 : n < 10
  · go_enter Tryd.func73, Tryd.ntmps73
    go_wp2
    all_goals go_ret
    all_goals refine ⟨?_, rfl⟩
    all_goals rw [hv.out, if_pos h10]
    all_goals first | rfl | (congr 2; simp; omega)
  · go_enter Tryd.func73, Tryd.ntmps73
    go_wp2
    all_goals go_ret
    all_goals refine ⟨?_, rfl⟩
    all_goals rw [hv.out, if_neg h10]
    all_goals first | rfl | (congr 2; simp; omega)
theorem digit_hi (c : UInt8) (w : World) :
    Calls Tryd.prog 73 #[.int .u8 ((c.toNat : Int) / 16)] w fun e w' => e = .returned (.int .u8 ((digit (c.toNat / 16)).toNat : Int)) ∧ w = w' := by
  have := c.toNat_lt
  exact digit_ref (c.toNat / 16) w (by omega)
theorem digit_lo (c : UInt8) (w : World) :
    Calls Tryd.prog 73 #[.int .u8 ((c.toNat : Int) % 16)] w fun e w' => e = .returned (.int .u8 ((digit (c.toNat % 16)).toNat : Int)) ∧ w = w' := by
  have := c.toNat_lt
  exact digit_ref (c.toNat % 16) w (by omega)

theorem mark_parts {n : Int} (h : markI n = false) : (n == 34) = false ∧ (n == 92) = false := by
  simpa [markI] using h
theorem shown_parts {n : Int} (h : shownI n = true) : decide (n < 32) = false ∧ decide (126 < n) = false := by
  simp [shownI] at h
  constructor
  · simp; omega
  · simp; omega
theorem hidden_parts {n : Int} (h : shownI n = false) : n < 32 ∨ (¬ n < 32 ∧ 126 < n) := by
  simp [shownI] at h
  omega

theorem ref_quote (s : ByteArray) (w : World) (hs : s.size ≤ 35184372088832) :
    Calls Tryd.prog 42 #[.string s] w fun e w' => e = .returned (.string (mk (quoteL s.data.toList))) ∧ Below w.heap.size w w' := by
  go_enter Tryd.func42, Tryd.ntmps42
  go_wp2
  go_loopw [3, 4] (fun v i wr => ∃ k : Nat, k ≤ s.size ∧ i = .int .i64 k ∧ RowKit.Hid (OwnsB wr w.heap.size 5 v (34 :: encs (s.data.toList.take k))) ∧ RowKit.Hid (Below w.heap.size w wr)) (fun _ i _ => s.size - (intOf i).toNat)
  case atStart => exact ⟨0, Nat.zero_le _, rfl, Lib.hid (OwnsB.built [34] _ 1 rfl (Nat.le_refl _) rfl (by unfold maxLen; omega)), Lib.hid ((Below.refl _ _).alloc (Nat.le_refl _) _)⟩
  case round =>
    obtain ⟨k, hk, rfl, HO, HB⟩ := hrel
    have hsz := HB.out.size
    have hrm := room_step hs hk
    by_cases hlt : k < s.size
    · have hc1 := s[k].toNat_lt
      cases hm : mark s[k]
      · cases hsh : shown s[k]
        · have hN := Lib.hid (enc_hex hsh)
          obtain ⟨hm1, hm2⟩ := mark_parts hm
          have hp := hidden_parts hsh
          clear hm hsh
          rcases hp with hp | ⟨hp0, hp⟩
          all_goals
            go_wp2_with (first | (go_at_call 73; (with_reducible (first | refine (digit_hi s[k] _).mono ?_ | refine (digit_lo s[k] _).mono ?_)); rintro e w' ⟨rfl, rfl⟩) | (at_builtin; refine wpList_append_bytes _ rfl _ _ 30 rfl 5 Tryd.underlying30 info_u8 w.heap.size _ _ rfl HO.out hsz _ 3 3 _ [92, digit (s[k].toNat / 16), digit (s[k].toNat % 16)] rfl (by simp) rfl rfl (by omega) ?_; intro v2 w2 hown2 hb2 hz2))
            have HO2 := Lib.hid (own_step hlt hN.out hown2)
            have HB2 := Lib.hid (HB.out.trans hb2)
            clear hown2 hb2 hz2
            go_wp2
            go_roundw
            case rel => exact ⟨k + 1, by omega, by go_num, HO2, HB2⟩
            case measure => simp [intOf]; omega
        · have hN := Lib.hid (enc_plain hm hsh)
          obtain ⟨hm1, hm2⟩ := mark_parts hm
          obtain ⟨hp1, hp2⟩ := shown_parts hsh
          clear hm hsh
          go_wp2_with (at_builtin; refine wpList_append_bytes _ rfl _ _ 30 rfl 5 Tryd.underlying30 info_u8 w.heap.size _ _ rfl HO.out hsz _ 1 1 _ [s[k]] rfl (by simp) rfl rfl (by omega) ?_; intro v2 w2 hown2 hb2 hz2)
          have HO2 := Lib.hid (own_step hlt hN.out hown2)
          have HB2 := Lib.hid (HB.out.trans hb2)
          clear hown2 hb2 hz2
          go_wp2
          go_roundw
          case rel => exact ⟨k + 1, by omega, by go_num, HO2, HB2⟩
          case measure => simp [intOf]; omega
      · have hN := Lib.hid (enc_mark hm)
        have hp : ((s[k].toNat : Int) == 34) = true ∨ (((s[k].toNat : Int) == 34) = false ∧ ((s[k].toNat : Int) == 92) = true) := by
          have hm' : markI (s[k].toNat : Int) = true := hm
          unfold markI at hm'
          cases h34 : ((s[k].toNat : Int) == 34)
          · rw [h34] at hm'; exact Or.inr ⟨rfl, by simpa using hm'⟩
          · exact Or.inl rfl
        clear hm
        rcases hp with hp | ⟨hp0, hp⟩
        all_goals
          go_wp2_with (at_builtin; refine wpList_append_bytes _ rfl _ _ 30 rfl 5 Tryd.underlying30 info_u8 w.heap.size _ _ rfl HO.out hsz _ 2 2 _ [92, s[k]] rfl (by simp) rfl rfl (by omega) ?_; intro v2 w2 hown2 hb2 hz2)
          have HO2 := Lib.hid (own_step hlt hN.out hown2)
          have HB2 := Lib.hid (HB.out.trans hb2)
          clear hown2 hb2 hz2
          go_wp2
          go_roundw
          case rel => exact ⟨k + 1, by omega, by go_num, HO2, HB2⟩
          case measure => simp [intOf]; omega
    · obtain rfl : k = s.size := by omega
      have hrun := fun (v : Value) (u : World) (h : OwnsB u w.heap.size 5 v ((34 :: encs (s.data.toList.take s.size)) ++ [34])) => run_string_own (P := Tryd.prog) h 30 9 Tryd.underlying30 Tryd.underlying5 Tryd.underlying9 (by simp)
      have hq : (34 :: encs (s.data.toList.take s.size)) ++ [34] = quoteL s.data.toList := by
        rw [List.take_of_length_le (by rw [list_len]; exact Nat.le_refl _)]; rfl
      rw [hq] at hrun
      have HR := Lib.hid hrun
      have HQ := Lib.hid hq
      clear hrun hq
      go_wp2_with (at_builtin; refine wpList_append_bytes _ rfl _ _ 30 rfl 5 Tryd.underlying30 info_u8 w.heap.size _ _ rfl HO.out hsz _ 1 1 _ [34] rfl (by simp) rfl rfl (by omega) ?_; intro v2 w2 hown2 hb2 hz2; rw [HQ.out] at hown2; have hr2 := HR.out v2 w2 hown2; have HB2 := Lib.hid (HB.out.trans hb2); clear hown2 hb2 hz2)
      go_ret
      exact ⟨rfl, HB2.out⟩
end Go.Proofs.YtfnkmigcklmghaaDoor
