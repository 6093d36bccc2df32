/- Layer 2, P2.2: text.Quote, walked: it makes the quote of whatever text. -/
import Derived.Test.YtfnkmigcklmghaaDoorOwnB
import Derived.Test.YtfnkmigcklmghaaDoorRows
import Derived.Lib.Hide
import Derived.Outline
import Derived.Deep.RegionLaw
import Derived.Deep.QuietTactic
import Derived.BigQuiet
import Derived.Handy
import Derived.Deep.RegionHeld3
namespace Go.Proofs.YtfnkmigcklmghaaDoor
open Go.RowKit (wrap64 intOf Below)
set_option linter.unusedVariables false

theorem info_u8 : (Tryd.prog.info? 5).map (fun i => (i.zero, i.size, i.bytes)) = some (some (.int .u8 0), 1, 1) := by kernel_rfl

theorem marks_any (n : Int) (w : World) (h0 : 0 ≤ n) (h1 : n ≤ 255) :
    Calls Tryd.prog 94 #[.int .u8 n] w fun e w' => e = .returned (.bool (markI n)) ∧ w = w' := by
  go_enter Tryd.func94, Tryd.ntmps94
  go_wp2
  all_goals go_ret
  all_goals refine ⟨?_, rfl⟩
  all_goals simp_all [markI]
theorem shown_any (n : Int) (w : World) (h0 : 0 ≤ n) (h1 : n ≤ 255) :
    Calls Tryd.prog 95 #[.int .u8 n] w fun e w' => e = .returned (.bool (shownI n)) ∧ w = w' := by
  go_enter Tryd.func95, Tryd.ntmps95
  go_wp2
  all_goals go_ret
  all_goals refine ⟨?_, rfl⟩
  all_goals first | (simp_all [shownI]; done) | (simp_all [shownI]; omega)

theorem take_snoc (s : ByteArray) (k : Nat) (h : k < s.size) : s.data.toList.take (k + 1) = s.data.toList.take k ++ [s[k]] := by
  rw [List.take_succ_eq_append_getElem (by rw [list_len]; exact h)]; rfl
theorem own_step {w : World} {B : Nat} {e : TypeId} {v : Value} {s : ByteArray} {k : Nat} {news : List UInt8} (h : k < s.size) (hn : enc s[k] = news) (hown : OwnsB w B e v ((34 :: encs (s.data.toList.take k)) ++ news)) :
    OwnsB w B e v (34 :: encs (s.data.toList.take (k + 1))) := by
  rw [take_snoc s k h, encs_snoc, hn]; exact hown
theorem room_step {s : ByteArray} {k : Nat} (hs : s.size ≤ 35184372088832) (h : k ≤ s.size) : (34 :: encs (s.data.toList.take k)).length ≤ 3 * k + 1 := by
  have := (encs_len (s.data.toList.take k)).2
  have h2 : (s.data.toList.take k).length ≤ k := List.length_take_le _ _
  simp only [List.length_cons]
  omega

theorem and15 (c : UInt8) : bits BinOp.and IntKind.u8 (c.toNat : Int) 15 = (c.toNat : Int) % 16 := by
  revert c; apply bytes_all; decide +kernel
theorem digit_at (n : Nat) (h : n < 16) (w : World) : (Instr.index 9 (.string ⟨#[48, 49, 50, 51, 52, 53, 54, 55, 56, 57, 97, 98, 99, 100, 101, 102]⟩) (.int .u8 (n : Int))).run Tryd.prog w = .ok (.int .u8 ((digit n).toNat : Int)) w := by
  have H : ∀ k : Fin 16, ((⟨#[48, 49, 50, 51, 52, 53, 54, 55, 56, 57, 97, 98, 99, 100, 101, 102]⟩ : ByteArray)[k.val]'(k.isLt)).toNat = (digit k.val).toNat := by decide +kernel
  have h0 : (0 : Int) ≤ (n : Int) := Int.natCast_nonneg _
  have h1 : (n : Int) < 16 := by omega
  go_simp
  have := H ⟨n, h⟩
  simp at this ⊢
  exact congrArg (fun k : Nat => (k : Int)) this

theorem quote_any (s : ByteArray) (w : World) (hs : s.size ≤ 35184372088832) :
    Calls Tryd.prog 67 #[.string s] w fun e w' => e = .returned (.string (mk (quoteL s.data.toList))) ∧ Below w.heap.size w w' := by
  obtain ⟨i0, hi, hz0, hz1, hz2⟩ := info_parts info_u8
  have hmk : ∀ u : World, (Instr.makeSlice 30 (.int .i64 0) (.int .i64 ((s.size : Int) + 2))).run Tryd.prog u =
      .ok (.slice (some ⟨u.heap.size, 0, none⟩) 0 (s.size + 2)) (u.alloc (.cells (madeCells #[.int .u8 0] (s.size + 2)) 5)) := fun u => by
    have h := run_make (P := Tryd.prog) u 30 5 i0 (.int .u8 0) Tryd.underlying30 hi hz0 .i64 .i64 0 ((s.size : Int) + 2) (by omega) (by omega) (by rw [hz2]; omega) (by omega)
    have e : ((s.size : Int) + 2).toNat = s.size + 2 := by omega
    rw [e] at h
    simpa [hz1, Value.cells] using h
  clear hz0 hz1 hz2 hi
  go_enter Tryd.func67, Tryd.ntmps67
  go_wp2_with (at_builtin; (refine wpList_append_bytes _ rfl _ _ 30 rfl 5 Tryd.underlying30 info_u8 w.heap.size (.slice (some ⟨w.heap.size, 0, none⟩) 0 (s.size + 2)) [] rfl (OwnsB.made _ _ (Nat.le_refl _) (by unfold maxLen; omega) (by simp [size_madeCells])) (by simp) _ 1 1 _ [34] rfl (by simp) rfl rfl (by simp) ?_); intro v1 w1 hown1 hb1 hz1)
  have HB1 := Lib.hid (((Below.refl w.heap.size w).alloc (Nat.le_refl _) (.cells (madeCells #[.int .u8 0] (s.size + 2)) 5)).trans hb1)
  have HO1 := Lib.hid hown1
  clear hown1 hb1 hz1 hmk
  go_loopw [3, 15] (fun v i wr => ∃ k : Nat, k ≤ s.size ∧ i = .int .i64 k ∧ RowKit.Hid (OwnsB wr w.heap.size 5 v (34 :: encs (s.data.toList.take k))) ∧ RowKit.Hid (Below w.heap.size w wr)) (fun _ i _ => s.size - (intOf i).toNat)
  case atStart => exact ⟨0, Nat.zero_le _, rfl, HO1, HB1⟩
  case round =>
    obtain ⟨k, hk, rfl, HO, HB⟩ := hrel
    have hsz := HB.out.size
    have hrm := room_step hs hk
    by_cases hlt : k < s.size
    · have hc1 := s[k].toNat_lt
      cases hm : mark s[k]
      · cases hsh : shown s[k]
        · have hN := Lib.hid (enc_hex hsh)
          have hm2 : markI (s[k].toNat : Int) = false := hm
          have hs2 : shownI (s[k].toNat : Int) = false := hsh
          clear hm hsh
          go_wp2_with (first | (go_at_call 94; (with_reducible refine (marks_any _ _ (by omega) (by omega)).mono ?_); rintro e w' ⟨rfl, rfl⟩) | (go_at_call 95; (with_reducible refine (shown_any _ _ (by omega) (by omega)).mono ?_); rintro e w' ⟨rfl, rfl⟩))
          have ha15 := and15 s[k]
          have hd1 : ∀ w, (Instr.index 9 (.string ⟨#[48, 49, 50, 51, 52, 53, 54, 55, 56, 57, 97, 98, 99, 100, 101, 102]⟩) (.int .u8 ((s[k].toNat : Int) / 16))).run Tryd.prog w = .ok (.int .u8 ((digit (s[k].toNat / 16)).toNat : Int)) w := digit_at (s[k].toNat / 16) (by omega)
          have hd2 : ∀ w, (Instr.index 9 (.string ⟨#[48, 49, 50, 51, 52, 53, 54, 55, 56, 57, 97, 98, 99, 100, 101, 102]⟩) (.int .u8 ((s[k].toNat : Int) % 16))).run Tryd.prog w = .ok (.int .u8 ((digit (s[k].toNat % 16)).toNat : Int)) w := digit_at (s[k].toNat % 16) (by omega)
          go_region_held3 (fun _ => True) (trivial) ((refine step_append_bytes (by rfl) _ _ 30 (by rfl) 5 Tryd.underlying30 info_u8 w.heap.size _ _ (by rfl) ((HO.out.alloc _).drew) (by simp; omega) 3 3 _ [92, digit (s[k].toNat / 16), digit (s[k].toNat % 16)] (by rfl) _ (heap_alloc_new wr _) rfl (by decide) (by omega) ?_; intro v2 w2 hown2 hb2))
          all_goals
            have HO2 := Lib.hid (own_step hlt hN.out hown2)
            have HB2 := Lib.hid (HB.out.trans ((((Below.refl w.heap.size wr).alloc hsz _).drew).trans hb2))
            clear hown2 hb2 hd1 hd2 ha15
            go_wp2
            go_roundw
            case rel => exact ⟨k + 1, by omega, by go_num, HO2, HB2⟩
            case measure => simp [intOf]; omega
        · have hN := Lib.hid (enc_plain hm hsh)
          have hm2 : markI (s[k].toNat : Int) = false := hm
          have hs2 : shownI (s[k].toNat : Int) = true := hsh
          clear hm hsh
          go_wp2_with (first | (go_at_call 94; (with_reducible refine (marks_any _ _ (by omega) (by omega)).mono ?_); rintro e w' ⟨rfl, rfl⟩) | (go_at_call 95; (with_reducible refine (shown_any _ _ (by omega) (by omega)).mono ?_); rintro e w' ⟨rfl, rfl⟩) | (at_builtin; refine wpList_append_bytes _ rfl _ _ 30 rfl 5 Tryd.underlying30 info_u8 w.heap.size _ _ rfl HO.out hsz _ 1 1 _ [s[k]] rfl (by simp) rfl rfl (by omega) ?_; intro v2 w2 hown2 hb2 hz2))
          have HO2 := Lib.hid (own_step hlt hN.out hown2)
          have HB2 := Lib.hid (HB.out.trans hb2)
          clear hown2 hb2 hz2
          go_wp2
          go_roundw
          case rel => exact ⟨k + 1, by omega, by go_num, HO2, HB2⟩
          case measure => simp [intOf]; omega
      · have hN := Lib.hid (enc_mark hm)
        have hm2 : markI (s[k].toNat : Int) = true := hm
        clear hm
        go_wp2_with (first | (go_at_call 94; (with_reducible refine (marks_any _ _ (by omega) (by omega)).mono ?_); rintro e w' ⟨rfl, rfl⟩) | (at_builtin; refine wpList_append_bytes _ rfl _ _ 30 rfl 5 Tryd.underlying30 info_u8 w.heap.size _ _ rfl HO.out hsz _ 2 2 _ [92, s[k]] rfl (by simp) rfl rfl (by omega) ?_; intro v2 w2 hown2 hb2 hz2))
        have HO2 := Lib.hid (own_step hlt hN.out hown2)
        have HB2 := Lib.hid (HB.out.trans hb2)
        clear hown2 hb2 hz2
        go_wp2
        go_roundw
        case rel => exact ⟨k + 1, by omega, by go_num, HO2, HB2⟩
        case measure => simp [intOf]; omega
    · obtain rfl : k = s.size := by omega
      have hrun := fun (v : Value) (u : World) (h : OwnsB u w.heap.size 5 v ((34 :: encs (s.data.toList.take s.size)) ++ [34])) => run_string_own (P := Tryd.prog) h 30 9 Tryd.underlying30 Tryd.underlying5 Tryd.underlying9 (by simp)
      have hq : (34 :: encs (s.data.toList.take s.size)) ++ [34] = quoteL s.data.toList := by
        rw [List.take_of_length_le (by rw [list_len]; exact Nat.le_refl _)]; rfl
      rw [hq] at hrun
      have HR := Lib.hid hrun
      have HQ := Lib.hid hq
      clear hrun hq
      go_wp2_with (at_builtin; refine wpList_append_bytes _ rfl _ _ 30 rfl 5 Tryd.underlying30 info_u8 w.heap.size _ _ rfl HO.out hsz _ 1 1 _ [34] rfl (by simp) rfl rfl (by omega) ?_; intro v2 w2 hown2 hb2 hz2; rw [HQ.out] at hown2; have hr2 := HR.out v2 w2 hown2; have HB2 := Lib.hid (HB.out.trans hb2); clear hown2 hb2 hz2)
      go_ret
      exact ⟨rfl, HB2.out⟩
end Go.Proofs.YtfnkmigcklmghaaDoor
