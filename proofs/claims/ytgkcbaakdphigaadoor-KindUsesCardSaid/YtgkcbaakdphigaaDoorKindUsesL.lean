/- Layer 4, P4.1, P4.4: what the statement KindUses asks, walked out of the contracts of package kind's calls. -/
import Derived.Test.YtgkcbaakdphigaaDoorKindFieldsL
import Derived.Test.YtgkcbaakdphigaaDoorKindRenK
import Derived.Deep.DeepCutAuto
import Derived.Deep.RegionHeld3
namespace Go.Proofs.YtgkcbaakdphigaaDoor
open Go.RowKit (wrap64 intOf Below)
set_option linter.unusedVariables false

/-- The first numbers, in order. -/
def upTo (k : Nat) : List Int := (List.range k).map fun i : Nat => (i : Int)
theorem upTo_len (k : Nat) : (upTo k).length = k := by simp [upTo]
theorem upTo_next (k : Nat) : upTo k ++ [(k : Int)] = upTo (k + 1) := by simp [upTo, List.range_succ]
theorem toV_same (k : Nat) (n : Int) : toV (upTo k) n = n := by
  by_cases h : n < 0 ∨ ((upTo k).length : Int) ≤ n
  · exact toV_out h
  · obtain ⟨j, rfl⟩ := Int.eq_ofNat_of_zero_le (show 0 ≤ n by omega)
    have hj : j < (upTo k).length := by omega
    have e : (upTo k)[j]'hj = (j : Int) := by simp [upTo]
    exact (toV_in hj).trans e
theorem rnI_same (k : Nat) (b : Bool) (x : Int) : rnI (upTo k) b x = pickI b x := by
  cases b
  · rfl
  · exact toV_same k x
theorem rnL_same (k : Nat) (b : Bool) (l : List Int) : rnL (upTo k) b l = pickL b l := by
  cases b
  · rfl
  · have : toV (upTo k) = id := funext fun n => toV_same k n
    simp [rnL, pickL, this]

theorem krenamed_same (k : Nat) (K A B C N : Int) (S : ByteArray) (la : Option Addr) (ln lc : Nat) (T : Bool) (L : List Int) (ma : Option Addr) (m mc : Nat) (w : World) (hft : FT w) (hat : NumsAt w la ln L) (hnil : la = none → lc = 0) (hn : ln ≤ 17592186044000) (hM : NumsAt w ma m (upTo k)) (hk : k ≤ 140737488355328) :
    Calls Tryd.prog 18 #[.agg #[.int .i64 K, .int .i64 A, .int .i64 B, .int .i64 C, .int .i64 N, .string S, .slice la ln lc, .bool T], .slice ma m mc] w (PlainPost K A B C N S T L w) := by
  refine (krenamed_any K A B C N S la ln lc T L ma m mc (upTo k) w hft hat hnil hn hM (by have := hM.1; rw [upTo_len] at this; omega)).mono ?_
  rintro e w' ⟨va, vn, vc, rfl, hown, hb⟩
  rw [rnL_same] at hown
  refine ⟨va, vn, vc, ?_, hown, hb⟩
  rw [rnI_same, rnI_same, rnI_same]
theorem rnL_len (M : List Int) (b : Bool) (l : List Int) : (rnL M b l).length ≤ l.length := by cases b <;> simp [rnL]
set_option maxRecDepth 100000 in
set_option maxHeartbeats 4000000 in
theorem kuses_walk (K A B C N : Int) (S : ByteArray) (la : Option Addr) (ln lc : Nat) (T : Bool) (L : List Int) (ta : Option Addr) (tn tc : Nat) (M : List Int) (w : World) (hft : FT w) (hat : NumsAt w la ln L) (hnil : la = none → lc = 0) (hn : ln * 8 ≤ 140737488351232) (hs : S.size ≤ 140737488351232)
    (hto : NumsAt w ta tn M) (htn : tn * 8 ≤ 140737488351232) :
    Calls Tryd.prog 4 #[.agg #[.int .i64 K, .int .i64 A, .int .i64 B, .int .i64 C, .int .i64 N, .string S, .slice la ln lc, .bool T], .slice ta tn tc] w fun e w' => e = .returned (.bool true) ∧ Below w.heap.size w w' := by
  obtain ⟨W0, hW0⟩ : ∃ W0, W0 = w.alloc (.cells #[.int .i64 K, .int .i64 A, .int .i64 B, .int .i64 C, .int .i64 N, .string S, .slice la ln lc, .bool T] 24) := ⟨_, rfl⟩
  have HA : RowKit.Hid (∀ u, Below (w.heap.size + 1) W0 u → NumsAt u la ln L) := Lib.hid (fun u hu => hat.since (by rw [hW0] at hu; exact first_below hu))
  have HTO : RowKit.Hid (∀ u, Below (w.heap.size + 1) W0 u → NumsAt u ta tn M) := Lib.hid (fun u hu => hto.since (by rw [hW0] at hu; exact first_below hu))
  have HFT : RowKit.Hid (∀ u, Below (w.heap.size + 1) W0 u → FT u) := Lib.hid (fun u hu => hft.since (by rw [hW0] at hu; exact first_below hu))
  have HW : RowKit.Hid (∀ u, Below (w.heap.size + 1) W0 u → Below w.heap.size w u) := Lib.hid (fun u hu => by rw [hW0] at hu; exact first_below hu)
  have HC : RowKit.Hid (∀ u, Below (w.heap.size + 1) W0 u → u.cell? ⟨w.heap.size, 0, none⟩ = some (.int .i64 K) ∧ u.cell? ⟨w.heap.size, 1, none⟩ = some (.int .i64 A) ∧ u.cell? ⟨w.heap.size, 2, none⟩ = some (.int .i64 B) ∧ u.cell? ⟨w.heap.size, 3, none⟩ = some (.int .i64 C) ∧ u.cell? ⟨w.heap.size, 4, none⟩ = some (.int .i64 N) ∧ u.cell? ⟨w.heap.size, 5, none⟩ = some (.string S) ∧ u.cell? ⟨w.heap.size, 6, none⟩ = some (.slice la ln lc) ∧ u.cell? ⟨w.heap.size, 7, none⟩ = some (.bool T)) :=
    Lib.hid (fun u hu => by rw [hW0] at hu; exact ⟨first_cells hu 0 _ rfl, first_cells hu 1 _ rfl, first_cells hu 2 _ rfl, first_cells hu 3 _ rfl, first_cells hu 4 _ rfl, first_cells hu 5 _ rfl, first_cells hu 6 _ rfl, first_cells hu 7 _ rfl⟩)
  have HZ : RowKit.Hid (w.heap.size + 1 ≤ W0.heap.size) := Lib.hid (by rw [hW0]; simp)
  have HN := Lib.hid hnil
  have HLN := Lib.hid hat.1
  clear hat hnil hto hft
  go_enter Tryd.func4, Tryd.ntmps4
  go_wp2_with fail
  rw [← hW0]
  clear hW0
  refine (own_op K A B C N S la ln lc T L _ (HA.out _ (Below.refl _ _)) HN.out (by omega)).mono ?_
  rintro e w1 ⟨va1, vn1, vc1, rfl, hown1, hb1⟩
  have HB1 := Lib.hid (keepN (Below.refl (w.heap.size + 1) W0) HZ.out hb1)
  have HO1 := Lib.hid hown1
  have HL1 : RowKit.Hid (vn1 = ln) := Lib.hid (by rw [← hown1.read.1]; exact HLN.out)
  clear hb1 hown1
  go_wp2_with fail
  refine (kuses_any K A B C N S va1 vn1 vc1 T L _ (HFT.out _ HB1.out) HO1.out.read HO1.out.nilcap (by have := HL1.out; omega)).mono ?_
  rintro e W1 ⟨ua, un, uc, rfl, hown2, hb2⟩
  have HB2 := Lib.hid (keepN HB1.out HZ.out hb2)
  have HO2 := Lib.hid hown2
  have HL2 : RowKit.Hid (un ≤ 17592186044003) := Lib.hid (by
    have h1 := hown2.read.1
    have h2 := HLN.out
    have h3 := pickL_len (hasB K 76) L
    have h4 := oneL_len (hasB K 65) A
    have h5 := oneL_len (hasB K 66) B
    have h6 := oneL_len (hasB K 67) C
    unfold usesL at h1
    simp only [List.length_append] at h1
    omega)
  clear hb2 hown2
  have HX : RowKit.Hid (∀ u, Below W1.heap.size W1 u → Below (w.heap.size + 1) W0 u) := Lib.hid (fun u hu => keepN HB2.out HZ.out hu)
  have H0 : RowKit.Hid (Below W1.heap.size W1 W1.drew) := Lib.hid (Below.refl _ _).drew
  have H00 : RowKit.Hid (Below W1.heap.size W1 W1) := Lib.hid (Below.refl _ _)
  go_upto_region 2 with fail
  go_cut [28] (fun t28 wc => t28 = .bool false ∧ RowKit.Hid (Below W1.heap.size W1 wc))
  case first =>
    go_region_held3 (fun u => u.cell? ⟨w.heap.size, 0, none⟩ = some (.int .i64 K) ∧ u.cell? ⟨w.heap.size, 1, none⟩ = some (.int .i64 A) ∧ u.cell? ⟨w.heap.size, 2, none⟩ = some (.int .i64 B) ∧ u.cell? ⟨w.heap.size, 3, none⟩ = some (.int .i64 C) ∧ u.cell? ⟨w.heap.size, 4, none⟩ = some (.int .i64 N) ∧ u.cell? ⟨w.heap.size, 5, none⟩ = some (.string S) ∧ u.cell? ⟨w.heap.size, 6, none⟩ = some (.slice la ln lc) ∧ u.cell? ⟨w.heap.size, 7, none⟩ = some (.bool T))
      (first | exact HC.out _ (HX.out _ (RowKit.Hid.out (by assumption))) | exact HC.out _ (HX.out _ (below_alloc (RowKit.Hid.out (by assumption)))))
      (first
        | (go_at_call 17; (with_reducible refine (uses_any K A B C N S la ln lc T L _ (HA.out _ (HX.out _ (by first | exact RowKit.Hid.out (by assumption) | exact below_alloc (RowKit.Hid.out (by assumption))))) HN.out (by omega)).mono ?_); rintro e w' ⟨va, vn, vc, rfl, hown, hb⟩; have HU2 := Lib.hid hown.read; have HLU := Lib.hid hown.read.1; have HLU2 := Lib.hid HO2.out.read.1; have HB : RowKit.Hid (Below W1.heap.size W1 _) := Lib.hid (by first | exact keepN (RowKit.Hid.out (by assumption)) (Nat.le_refl _) hb | exact keepN (below_alloc (RowKit.Hid.out (by assumption))) (Nat.le_refl _) hb); clear hb hown)
        | (go_at_call 16; (with_reducible refine (ints_any _ _ _ _ _ _ (usesL K A B C L) (usesL K A B C L) _ (HO2.out.read.since (RowKit.Hid.out (by assumption))) HU2.out (by have := HL2.out; omega) (by have h1 := HL2.out; have h2 := HLU.out; have h3 := HLU2.out; omega)).mono ?_); rintro e w' ⟨rfl, q, rfl⟩; rw [sameB_self]; have HB : RowKit.Hid (Below W1.heap.size W1 _) := Lib.hid (below_drewN q (RowKit.Hid.out (by assumption : RowKit.Hid (Below W1.heap.size W1 _)))))
        | (go_at_call 9; (with_reducible refine (own_op K A B C N S la ln lc T L _ (HA.out _ (HX.out _ (by first | exact RowKit.Hid.out (by assumption) | exact below_alloc (RowKit.Hid.out (by assumption))))) HN.out (by omega)).mono ?_); rintro e w4 ⟨va4, vn4, vc4, rfl, hown4, hb⟩; have HL4 := Lib.hid hown4.read.1; have HB : RowKit.Hid (Below W1.heap.size W1 _) := Lib.hid (by first | exact keepN (RowKit.Hid.out (by assumption)) (Nat.le_refl _) hb | exact keepN (below_alloc (RowKit.Hid.out (by assumption))) (Nat.le_refl _) hb); clear hb)
        | (refine step_copy_read (by first | rfl | simp [Region.wanted, yielded]) _ _ 22 rfl 3 Tryd.underlying22 info_int _ rfl ta tn tc M rfl (HTO.out _ (HX.out _ (by first | exact RowKit.Hid.out (by assumption) | exact below_alloc (RowKit.Hid.out (by assumption))))) (by omega) ?_; intro va5 vc5 w5 hnum5 hb; (have HV4 : RowKit.Hid (NumsAt w5 va4 vn4 L) := Lib.hid (by first | exact hown4.read.since hb | exact (hown4.read.since (below_alloc (Below.refl _ _))).since hb)); have HB : RowKit.Hid (Below W1.heap.size W1 _) := Lib.hid (by first | exact keepN (RowKit.Hid.out (by assumption)) (Nat.le_refl _) hb | exact keepN (below_alloc (RowKit.Hid.out (by assumption))) (Nat.le_refl _) hb); clear hb)
        | (go_at_call 18; (with_reducible refine (krenamed_any K A B C N S va4 vn4 vc4 T L _ _ _ M _ (HFT.out _ (HX.out _ (by first | exact RowKit.Hid.out (by assumption) | exact below_alloc (RowKit.Hid.out (by assumption))))) HV4.out hown4.nilcap (by have h1 := HL4.out; have h2 := HLN.out; omega) hnum5 (by omega)).mono ?_); rintro e w6 ⟨va6, vn6, vc6, rfl, hown6, hb⟩; have HL6 := Lib.hid hown6.read.1; have HB : RowKit.Hid (Below W1.heap.size W1 _) := Lib.hid (by first | exact keepN (RowKit.Hid.out (by assumption)) (Nat.le_refl _) hb | exact keepN (below_alloc (RowKit.Hid.out (by assumption))) (Nat.le_refl _) hb); clear hb)
        | (go_at_call 19; (with_reducible refine (renamed_any K A B C N S la ln lc T L ta tn tc M _ (HA.out _ (HX.out _ (by first | exact RowKit.Hid.out (by assumption) | exact below_alloc (RowKit.Hid.out (by assumption))))) HN.out (by omega) (HTO.out _ (HX.out _ (by first | exact RowKit.Hid.out (by assumption) | exact below_alloc (RowKit.Hid.out (by assumption)))))).mono ?_); rintro e w7 ⟨va7, vn7, vc7, rfl, hown7, hb⟩; have HV6 := Lib.hid (hown6.read.since hb); have HB : RowKit.Hid (Below W1.heap.size W1 _) := Lib.hid (by first | exact keepN (RowKit.Hid.out (by assumption)) (Nat.le_refl _) hb | exact keepN (below_alloc (RowKit.Hid.out (by assumption))) (Nat.le_refl _) hb); clear hb)
        | (go_at_call 12; (with_reducible refine (exact_yes _ _ _ _ _ _ _ _ _ _ _ _ _ (rnL M (hasB K 76) L) _ HV6.out hown7.read (by have h1 := HL6.out; have h2 := HLN.out; have h3 : (rnL M (hasB K 76) L).length ≤ L.length := rnL_len _ _ _; omega) (by have h1 := pickS_size (hasB K 83) S; omega)).mono ?_); rintro e w8 ⟨rfl, hb⟩; have HB : RowKit.Hid (Below W1.heap.size W1 _) := Lib.hid (by first | exact keepN (RowKit.Hid.out (by assumption)) (Nat.le_refl _) hb | exact keepN (below_alloc (RowKit.Hid.out (by assumption))) (Nat.le_refl _) hb); clear hb))
    all_goals (go_wp2_with fail; go_meet; exact ⟨by simp, (by assumption)⟩)
  case rest =>
    obtain ⟨rfl, HB5⟩ := hcut
    go_wp2_with fail
    go_loopw [6, 7] (fun ov iv wr => ∃ k : Nat, k ≤ 20 ∧ iv = .int .i64 (k : Int) ∧ RowKit.Hid (OwnsI wr wc.heap.size 3 ov (upTo k)) ∧ RowKit.Hid (Below wc.heap.size wc wr)) (fun _ iv _ => 20 - (intOf iv).toNat)
    case atStart => exact ⟨0, by omega, rfl, Lib.hid (OwnsI.laid rfl (Nat.le_refl _)), Lib.hid ((Below.refl _ _).alloc (Nat.le_refl _) _)⟩
    case round =>
      obtain ⟨k, hk, rfl, HO, HB6⟩ := hrel
      have hsz := HB6.out.size
      by_cases hlt : k < 20
      · have HS := Lib.hid (upTo_next k)
        have HL : RowKit.Hid (((upTo k).length + 1) * 8 ≤ 140737488355328) := Lib.hid (by rw [upTo_len]; omega)
        go_wp2_with (at_builtin; refine wpList_append_num _ rfl _ _ 22 rfl 3 Tryd.underlying22 info_int wc.heap.size _ _ rfl HO.out hsz _ 1 _ (k : Int) rfl (by simp) rfl HL.out ?_; intro v2 w2 hown hb)
        rw [HS.out] at hown
        have HO2 := Lib.hid hown
        have HB7 := Lib.hid (HB6.out.trans hb)
        clear hown hb
        go_wp2_with fail
        go_roundw
        case rel => exact ⟨k + 1, by omega, by go_num, HO2, HB7⟩
        case measure => simp [intOf]; omega
      · obtain rfl : k = 20 := by omega
        obtain ⟨wE, hwE⟩ : ∃ wE, wE = wr := ⟨_, rfl⟩
        have hown := HO.out
        obtain ⟨sa, sn, sc, rfl, hsm⟩ := hown.nums
        have HB8 : RowKit.Hid (Below W1.heap.size W1 wr) := Lib.hid (keepN HB5.out (Nat.le_refl _) HB6.out)
        have HB9 : RowKit.Hid (Below W1.heap.size W1 wr.drew) := Lib.hid HB8.out.drew
        have HSM : RowKit.Hid (NumsAt wr.drew sa sn (upTo 20)) := Lib.hid (hsm.since (Below.refl _ _).drew)
        clear hown hsm hwE
        go_wp2_with fail
        go_region_held3 (fun u => u.cell? ⟨w.heap.size, 0, none⟩ = some (.int .i64 K) ∧ u.cell? ⟨w.heap.size, 1, none⟩ = some (.int .i64 A) ∧ u.cell? ⟨w.heap.size, 2, none⟩ = some (.int .i64 B) ∧ u.cell? ⟨w.heap.size, 3, none⟩ = some (.int .i64 C) ∧ u.cell? ⟨w.heap.size, 4, none⟩ = some (.int .i64 N) ∧ u.cell? ⟨w.heap.size, 5, none⟩ = some (.string S) ∧ u.cell? ⟨w.heap.size, 6, none⟩ = some (.slice la ln lc) ∧ u.cell? ⟨w.heap.size, 7, none⟩ = some (.bool T))
          (exact HC.out _ (HX.out _ (RowKit.Hid.out (by assumption))))
          (first
            | (go_at_call 9; (with_reducible refine (own_op K A B C N S la ln lc T L _ (HA.out _ (HX.out _ (RowKit.Hid.out (by assumption)))) HN.out (by omega)).mono ?_); rintro e w' ⟨va, vn, vc, rfl, hown, hb⟩; have HL5 := Lib.hid hown.read.1; (try have HSM := Lib.hid (HSM.out.since hb)); (try have HR := Lib.hid (HR.out.since hb)); have HB : RowKit.Hid (Below W1.heap.size W1 _) := Lib.hid (keepN (RowKit.Hid.out (by assumption)) (Nat.le_refl _) hb); clear hb)
            | (go_at_call 18; (with_reducible refine (krenamed_same 20 K A B C N S va vn vc T L sa sn sc _ (HFT.out _ (HX.out _ (RowKit.Hid.out (by assumption)))) hown.read hown.nilcap (by have h1 := HL5.out; have h2 := HLN.out; omega) HSM.out (by decide)).mono ?_); rintro e w' ⟨va6, vn6, vc6, rfl, hown6, hb⟩; have HR := Lib.hid hown6.read; have HRL := Lib.hid hown6.read.1; have HB : RowKit.Hid (Below W1.heap.size W1 _) := Lib.hid (keepN (RowKit.Hid.out (by assumption)) (Nat.le_refl _) hb); clear hb hown6)
            | (go_at_call 8; (with_reducible refine (kplain_any K A B C N S va vn vc T L _ (HFT.out _ (HX.out _ (RowKit.Hid.out (by assumption)))) hown.read hown.nilcap (by have h1 := HL5.out; have h2 := HLN.out; omega)).mono ?_); rintro e w' ⟨va7, vn7, vc7, rfl, hown7, hb⟩; have HR := Lib.hid (HR.out.since hb); have HB : RowKit.Hid (Below W1.heap.size W1 _) := Lib.hid (keepN (RowKit.Hid.out (by assumption)) (Nat.le_refl _) hb); clear hb)
            | (go_at_call 12; (with_reducible refine (exact_yes _ _ _ _ _ _ _ _ _ _ _ _ _ (pickL (hasB K 76) L) _ HR.out hown7.read (by have h1 := HRL.out; have h2 := HLN.out; have h3 := pickL_len (hasB K 76) L; omega) (by have h1 := pickS_size (hasB K 83) S; omega)).mono ?_); rintro e w' ⟨rfl, hb⟩; have HB : RowKit.Hid (Below W1.heap.size W1 _) := Lib.hid (keepN (RowKit.Hid.out (by assumption)) (Nat.le_refl _) hb); clear hb)
            | (go_at_call 14; (with_reducible refine (klives_any _ (HFT.out _ (HX.out _ (RowKit.Hid.out (by assumption))))).mono ?_); rintro e w' ⟨rfl, hb⟩; have HB : RowKit.Hid (Below W1.heap.size W1 _) := Lib.hid (keepN (RowKit.Hid.out (by assumption)) (Nat.le_refl _) hb); clear hb))
        all_goals go_wp2_with fail
        all_goals go_ret
        all_goals exact ⟨rfl, HW.out _ (HX.out _ (RowKit.Hid.out (by assumption)))⟩
end Go.Proofs.YtgkcbaakdphigaaDoor
