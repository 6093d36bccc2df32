/- Layer 2, P2.2 and P2.3: what the statements TextQuotes and TextReads ask, walked. -/
import Derived.Test.YtapkjajeghiacaaTextRefU
namespace Go.Proofs.Ytapkjajeghiacaa
open Go.RowKit (wrap64 intOf Below)
set_option linter.unusedVariables false

theorem unq_quote (s q : ByteArray) (w : World) (hq : q.size ≤ 140737488351232) (h : q.data.toList = quoteL s.data.toList) :
    Calls Try.prog 13 #[.string q] w fun e w' => e = .returned (.tuple #[.string s, .bool true]) ∧ Below w.heap.size w w' := by
  refine (unq_any q w hq).mono ?_
  rintro e w' ⟨v, ok, rfl, hr, hb⟩
  obtain ⟨rfl, rfl⟩ := hr.same (Or.inl ⟨rfl, h.symm⟩)
  rw [mk_of]
  exact ⟨rfl, hb⟩

theorem quotes_walk (s : ByteArray) (w : World) (hs : s.size ≤ 1048576) :
    Calls Try.prog 7 #[.string s] w fun e w' => e = .returned (.bool true) ∧ Below w.heap.size w w' := by
  obtain ⟨q, hqq⟩ : ∃ q, mk (quoteL s.data.toList) = q := ⟨_, rfl⟩
  have hql : q.data.toList = quoteL s.data.toList := by rw [← hqq, mk_list]
  have hqs : q.size ≤ 3145730 := by
    have h1 := quoteL_len s.data.toList
    have h2 := (encs_len s.data.toList).2
    rw [← hql, list_len] at h1
    rw [list_len] at h2
    omega
  have c1 := fun w => quote_any s w (by omega)
  have c3 := fun w => ref_quote s w (by omega)
  rw [hqq] at c1 c3
  have C1 := Lib.hid c1
  have C2 := Lib.hid fun w => unq_quote s q w (by omega) hql
  have C3 := Lib.hid c3
  have HS : RowKit.Hid (∀ k (h : k < q.size), 32 ≤ (q[k].toNat : Int) ∧ (q[k].toNat : Int) ≤ 126) := Lib.hid fun k h => by
    have hm : q[k] ∈ q.data.toList := List.mem_iff_getElem?.2 ⟨k, list_at q k h⟩
    rw [hql] at hm
    have := quoteL_shown _ _ hm
    simp only [shown, shownI, Bool.and_eq_true, decide_eq_true_eq] at this
    exact this
  clear c1 c3 hqq hql
  go_enter Try.func7, Try.ntmps7
  go_wp2_with (first | (go_at_call 12; (with_reducible refine (C1.out _).mono ?_); rintro e w1 ⟨rfl, hb1⟩; have HB1 := Lib.hid hb1; clear hb1) | (go_at_call 13; (with_reducible refine (C2.out _).mono ?_); rintro e w2 ⟨rfl, hb2⟩; have HB2 := Lib.hid (HB1.out.trans (hb2.mono HB1.out.size)); clear hb2) | (go_at_call 14; (with_reducible refine (C3.out _).mono ?_); rintro e w3 ⟨rfl, hb3⟩; have HB3 := Lib.hid (HB2.out.trans (hb3.mono HB2.out.size)); clear hb3))
  go_loop [6] (fun i => ∃ k : Nat, k ≤ q.size ∧ i = .int .i64 k) (fun i => q.size - (intOf i).toNat)
  case atStart => exact ⟨0, Nat.zero_le _, rfl⟩
  case round =>
    obtain ⟨k, hk, rfl⟩ := hrel
    by_cases hlt : k < q.size
    · obtain ⟨h1, h2⟩ := HS.out k hlt
      go_wp2
      go_round
      case rel => exact ⟨k + 1, by omega, by go_num⟩
      case measure => simp [intOf]; omega
    · go_wp2
      go_ret
      exact ⟨rfl, HB3.out⟩

theorem newline_quote : mk (quoteL (⟨#[10]⟩ : ByteArray).data.toList) = ⟨#[34, 92, 48, 97, 34]⟩ := by decide +kernel
theorem reads_walk (s : ByteArray) (w : World) (hs : s.size ≤ 1048576) :
    Calls Try.prog 8 #[.string s] w fun e w' => e = .returned (.bool true) ∧ Below w.heap.size w w' := by
  have c4 := fun w => quote_any ⟨#[10]⟩ w (by decide)
  rw [newline_quote] at c4
  have C1 := Lib.hid fun w => unq_any s w (by omega)
  have C2 := Lib.hid fun w => runq_any s w (by omega)
  have C4 := Lib.hid c4
  clear c4
  go_enter Try.func8, Try.ntmps8
  go_wp2_with (first | (go_at_call 13; (with_reducible refine (C1.out _).mono ?_); rintro e w1 ⟨v, ok, rfl, hr1, hb1⟩; have HR1 := Lib.hid hr1; have HB1 := Lib.hid hb1; clear hr1 hb1) | (go_at_call 15; (with_reducible refine (C2.out _).mono ?_); rintro e w2 ⟨v2, ok2, rfl, hr2, hb2⟩; (obtain ⟨rfl, rfl⟩ := HR1.out.same hr2); have HB2 := Lib.hid (HB1.out.trans (hb2.mono HB1.out.size)); clear hr2 hb2) | (go_at_call 12; (with_reducible refine (C4.out _).mono ?_); rintro e w3 ⟨rfl, hb3⟩; have HB3 := Lib.hid (HB2.out.trans (hb3.mono HB2.out.size)); clear hb3))
  go_ret
  exact ⟨rfl, HB3.out⟩
end Go.Proofs.Ytapkjajeghiacaa
