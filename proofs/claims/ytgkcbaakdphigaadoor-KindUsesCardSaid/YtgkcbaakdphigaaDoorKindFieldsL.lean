/- Layer 4, P4.1, P4.4: what the statement KindFields asks, walked out of the contracts of package kind's calls. -/
import Derived.Test.YtgkcbaakdphigaaDoorKindFlagsL
import Derived.Test.YtgkcbaakdphigaaDoorKindExact
namespace Go.Proofs.YtgkcbaakdphigaaDoor
open Go.RowKit (wrap64 intOf Below)
set_option linter.unusedVariables false

theorem pickI_pick (b : Bool) (x : Int) : pickI b (pickI b x) = pickI b x := by cases b <;> rfl
theorem pickS_pick (b : Bool) (s : ByteArray) : pickS b (pickS b s) = pickS b s := by cases b <;> rfl
theorem pickL_pick (b : Bool) (l : List Int) : pickL b (pickL b l) = pickL b l := by cases b <;> rfl
theorem and_pick (b c : Bool) : (b && (b && c)) = (b && c) := by cases b <;> rfl
theorem pickL_len (b : Bool) (l : List Int) : (pickL b l).length ≤ l.length := by cases b <;> simp [pickL]
theorem pickS_size (b : Bool) (s : ByteArray) : (pickS b s).size ≤ s.size := by
  cases b
  · exact Nat.zero_le _
  · exact Nat.le_refl _

theorem kplain_same (K A B C N : Int) (S : ByteArray) (la : Option Addr) (ln lc : Nat) (T : Bool) (L : List Int) (w : World) (hft : FT w) (hat : NumsAt w la ln (pickL (hasB K 76) L)) (hnil : la = none → lc = 0) (hn : ln * 8 ≤ 140737488355328) :
    Calls Tryd.prog 8 #[.agg #[.int .i64 K, .int .i64 (pickI (hasB K 65) A), .int .i64 (pickI (hasB K 66) B), .int .i64 (pickI (hasB K 67) C), .int .i64 (pickI (hasB K 78) N), .string (pickS (hasB K 83) S), .slice la ln lc, .bool (hasB K 75 && T)]] w (PlainPost K A B C N S T L w) := by
  refine (kplain_any K _ _ _ _ _ la ln lc _ _ w hft hat hnil hn).mono ?_
  rintro e w' ⟨va, vn, vc, rfl, hown, hb⟩
  rw [pickL_pick] at hown
  refine ⟨va, vn, vc, ?_, hown, hb⟩
  rw [pickI_pick, pickI_pick, pickI_pick, pickI_pick, pickS_pick, and_pick]

set_option maxRecDepth 100000 in
set_option maxHeartbeats 4000000 in
theorem kfields_walk (K A B C N : Int) (S : ByteArray) (la : Option Addr) (ln lc : Nat) (T : Bool) (L : List Int) (w : World) (hft : FT w) (hat : NumsAt w la ln L) (hnil : la = none → lc = 0) (hn : ln * 8 ≤ 140737488351232) (hs : S.size ≤ 140737488351232) :
    Calls Tryd.prog 3 #[.agg #[.int .i64 K, .int .i64 A, .int .i64 B, .int .i64 C, .int .i64 N, .string S, .slice la ln lc, .bool T]] w fun e w' => e = .returned (.bool true) ∧ Below w.heap.size w w' := by
  obtain ⟨W0, hW0⟩ : ∃ W0, W0 = w.alloc (.cells #[.int .i64 K, .int .i64 A, .int .i64 B, .int .i64 C, .int .i64 N, .string S, .slice la ln lc, .bool T] 24) := ⟨_, rfl⟩
  have HA : RowKit.Hid (∀ u, Below (w.heap.size + 1) W0 u → NumsAt u la ln L) := Lib.hid (fun u hu => hat.since (by rw [hW0] at hu; exact first_below hu))
  have HFT : RowKit.Hid (∀ u, Below (w.heap.size + 1) W0 u → FT u) := Lib.hid (fun u hu => hft.since (by rw [hW0] at hu; exact first_below hu))
  have HW : RowKit.Hid (∀ u, Below (w.heap.size + 1) W0 u → Below w.heap.size w u) := Lib.hid (fun u hu => by rw [hW0] at hu; exact first_below hu)
  have HC : RowKit.Hid (∀ u, Below (w.heap.size + 1) W0 u → u.cell? ⟨w.heap.size, 0, none⟩ = some (.int .i64 K) ∧ u.cell? ⟨w.heap.size, 1, none⟩ = some (.int .i64 A) ∧ u.cell? ⟨w.heap.size, 2, none⟩ = some (.int .i64 B) ∧ u.cell? ⟨w.heap.size, 3, none⟩ = some (.int .i64 C) ∧ u.cell? ⟨w.heap.size, 4, none⟩ = some (.int .i64 N) ∧ u.cell? ⟨w.heap.size, 5, none⟩ = some (.string S) ∧ u.cell? ⟨w.heap.size, 6, none⟩ = some (.slice la ln lc) ∧ u.cell? ⟨w.heap.size, 7, none⟩ = some (.bool T)) :=
    Lib.hid (fun u hu => by rw [hW0] at hu; exact ⟨first_cells hu 0 _ rfl, first_cells hu 1 _ rfl, first_cells hu 2 _ rfl, first_cells hu 3 _ rfl, first_cells hu 4 _ rfl, first_cells hu 5 _ rfl, first_cells hu 6 _ rfl, first_cells hu 7 _ rfl⟩)
  have HZ : RowKit.Hid (w.heap.size + 1 ≤ W0.heap.size) := Lib.hid (by rw [hW0]; simp)
  have HN := Lib.hid hnil
  have HLN := Lib.hid hat.1
  have HPL := Lib.hid (pickL_len (hasB K 76) L)
  have HPS := Lib.hid (pickS_size (hasB K 83) S)
  clear hat hnil hft
  go_enter Tryd.func3, Tryd.ntmps3
  go_wp2_with fail
  rw [← hW0]
  clear hW0
  refine (own_op K A B C N S la ln lc T L _ (HA.out _ (Below.refl _ _)) HN.out (by omega)).mono ?_
  rintro e w1 ⟨va1, vn1, vc1, rfl, hown1, hb1⟩
  have HB1 := Lib.hid (keepN (Below.refl (w.heap.size + 1) W0) HZ.out hb1)
  have HO1 := Lib.hid hown1
  clear hb1 hown1
  go_wp2_with fail
  refine (kplain_any K A B C N S va1 vn1 vc1 T L _ (HFT.out _ HB1.out) HO1.out.read HO1.out.nilcap (by have h1 := HO1.out.read.1; have h2 := HLN.out; omega)).mono ?_
  rintro e w2 ⟨va, vn, vc, rfl, hown2, hb2⟩
  have HB2 := Lib.hid (keepN HB1.out HZ.out hb2)
  have HO2 := Lib.hid hown2
  clear hb2 hown2
  go_wp2_with fail
  obtain ⟨W1, hW1⟩ : ∃ W1, W1 = w2.alloc (.cells #[.int .i64 K, .int .i64 (pickI (hasB K 65) A), .int .i64 (pickI (hasB K 66) B), .int .i64 (pickI (hasB K 67) C), .int .i64 (pickI (hasB K 78) N), .string (pickS (hasB K 83) S), .slice va vn vc, .bool (hasB K 75 && T)] 24) := ⟨_, rfl⟩
  have HX : RowKit.Hid (∀ u, Below (w2.heap.size + 1) W1 u → Below (w.heap.size + 1) W0 u) := Lib.hid (fun u hu => keepN HB2.out HZ.out (by rw [hW1] at hu; exact first_below hu))
  have HV : RowKit.Hid (∀ u, Below (w2.heap.size + 1) W1 u → NumsAt u va vn (pickL (hasB K 76) L)) := Lib.hid (fun u hu => HO2.out.read.since (by rw [hW1] at hu; exact first_below hu))
  have HALL : RowKit.Hid (∀ u, Below (w2.heap.size + 1) W1 u → u.cell? ⟨w.heap.size, 0, none⟩ = some (.int .i64 K) ∧ u.cell? ⟨w.heap.size, 1, none⟩ = some (.int .i64 A) ∧ u.cell? ⟨w.heap.size, 2, none⟩ = some (.int .i64 B) ∧ u.cell? ⟨w.heap.size, 3, none⟩ = some (.int .i64 C) ∧ u.cell? ⟨w.heap.size, 4, none⟩ = some (.int .i64 N) ∧ u.cell? ⟨w.heap.size, 5, none⟩ = some (.string S) ∧ u.cell? ⟨w.heap.size, 6, none⟩ = some (.slice la ln lc) ∧ u.cell? ⟨w.heap.size, 7, none⟩ = some (.bool T) ∧ u.cell? ⟨w2.heap.size, 0, none⟩ = some (.int .i64 K) ∧ u.cell? ⟨w2.heap.size, 1, none⟩ = some (.int .i64 (pickI (hasB K 65) A)) ∧ u.cell? ⟨w2.heap.size, 2, none⟩ = some (.int .i64 (pickI (hasB K 66) B)) ∧ u.cell? ⟨w2.heap.size, 3, none⟩ = some (.int .i64 (pickI (hasB K 67) C)) ∧ u.cell? ⟨w2.heap.size, 4, none⟩ = some (.int .i64 (pickI (hasB K 78) N)) ∧ u.cell? ⟨w2.heap.size, 5, none⟩ = some (.string (pickS (hasB K 83) S)) ∧ u.cell? ⟨w2.heap.size, 6, none⟩ = some (.slice va vn vc) ∧ u.cell? ⟨w2.heap.size, 7, none⟩ = some (.bool (hasB K 75 && T))) := Lib.hid (fun u hu => by
    obtain ⟨a0, a1, a2, a3, a4, a5, a6, a7⟩ := HC.out u (HX.out u hu)
    rw [hW1] at hu
    exact ⟨a0, a1, a2, a3, a4, a5, a6, a7, first_cells hu 0 _ rfl, first_cells hu 1 _ rfl, first_cells hu 2 _ rfl, first_cells hu 3 _ rfl, first_cells hu 4 _ rfl, first_cells hu 5 _ rfl, first_cells hu 6 _ rfl, first_cells hu 7 _ rfl⟩)
  have HZ1 : RowKit.Hid (w2.heap.size + 1 ≤ W1.heap.size) := Lib.hid (by rw [hW1]; simp)
  have H0 : RowKit.Hid (Below (w2.heap.size + 1) W1 W1.drew) := Lib.hid (Below.refl _ _).drew
  have HVN := Lib.hid HO2.out.nilcap
  have HVL : RowKit.Hid (vn ≤ ln) := Lib.hid (by have h1 := HO2.out.read.1; have h2 := HPL.out; have h3 := HLN.out; omega)
  rw [← hW1]
  clear hW1
  go_region_held3 (fun u => u.cell? ⟨w.heap.size, 0, none⟩ = some (.int .i64 K) ∧ u.cell? ⟨w.heap.size, 1, none⟩ = some (.int .i64 A) ∧ u.cell? ⟨w.heap.size, 2, none⟩ = some (.int .i64 B) ∧ u.cell? ⟨w.heap.size, 3, none⟩ = some (.int .i64 C) ∧ u.cell? ⟨w.heap.size, 4, none⟩ = some (.int .i64 N) ∧ u.cell? ⟨w.heap.size, 5, none⟩ = some (.string S) ∧ u.cell? ⟨w.heap.size, 6, none⟩ = some (.slice la ln lc) ∧ u.cell? ⟨w.heap.size, 7, none⟩ = some (.bool T) ∧ u.cell? ⟨w2.heap.size, 0, none⟩ = some (.int .i64 K) ∧ u.cell? ⟨w2.heap.size, 1, none⟩ = some (.int .i64 (pickI (hasB K 65) A)) ∧ u.cell? ⟨w2.heap.size, 2, none⟩ = some (.int .i64 (pickI (hasB K 66) B)) ∧ u.cell? ⟨w2.heap.size, 3, none⟩ = some (.int .i64 (pickI (hasB K 67) C)) ∧ u.cell? ⟨w2.heap.size, 4, none⟩ = some (.int .i64 (pickI (hasB K 78) N)) ∧ u.cell? ⟨w2.heap.size, 5, none⟩ = some (.string (pickS (hasB K 83) S)) ∧ u.cell? ⟨w2.heap.size, 6, none⟩ = some (.slice va vn vc) ∧ u.cell? ⟨w2.heap.size, 7, none⟩ = some (.bool (hasB K 75 && T)))
    (exact HALL.out _ (RowKit.Hid.out (by assumption)))
    (first
      | (go_at_call 10; (with_reducible refine (kfields_any K _ (HFT.out _ (HX.out _ (RowKit.Hid.out (by assumption))))).mono ?_); rintro e w' ⟨rfl, rfl⟩)
      | (go_at_call 11; (with_reducible refine (fields_any K _).mono ?_); rintro e w' ⟨rfl, rfl⟩)
      | (go_at_call 13; (with_reducible refine (plain_any K A B C N S la ln lc T L _ (HA.out _ (HX.out _ (RowKit.Hid.out (by assumption)))) HN.out (by omega)).mono ?_); rintro e w' ⟨va3, vn3, vc3, rfl, hown, hb⟩; have HL5 := Lib.hid hown.read.1; have HB := Lib.hid (keepN (RowKit.Hid.out (by assumption : RowKit.Hid (Below (w2.heap.size + 1) W1 _))) HZ1.out hb); clear hb)
      | (go_at_call 9; (with_reducible refine (own_op _ _ _ _ _ _ va vn vc _ (pickL (hasB K 76) L) _ (HV.out _ (RowKit.Hid.out (by assumption))) HVN.out (by have := HVL.out; omega)).mono ?_); rintro e w' ⟨va4, vn4, vc4, rfl, hown, hb⟩; have HL5 := Lib.hid hown.read.1; have HB := Lib.hid (keepN (RowKit.Hid.out (by assumption : RowKit.Hid (Below (w2.heap.size + 1) W1 _))) HZ1.out hb); clear hb)
      | (go_at_call 8; (with_reducible refine (kplain_same K A B C N S _ _ _ T L _ (HFT.out _ (HX.out _ (RowKit.Hid.out (by assumption)))) hown.read hown.nilcap (by have h1 := HL5.out; have h2 := HPL.out; have h3 := HLN.out; omega)).mono ?_); rintro e w' ⟨va5, vn5, vc5, rfl, hown, hb⟩; have HL5 := Lib.hid hown.read.1; have HB := Lib.hid (keepN (RowKit.Hid.out (by assumption : RowKit.Hid (Below (w2.heap.size + 1) W1 _))) HZ1.out hb); clear hb)
      | (go_at_call 12; (with_reducible refine (exact_yes _ _ _ _ _ _ _ _ _ _ _ _ _ (pickL (hasB K 76) L) _ (HV.out _ (RowKit.Hid.out (by assumption))) hown.read (by have := HVL.out; omega) (by have := HPS.out; omega)).mono ?_); rintro e w' ⟨rfl, hb⟩; have HB := Lib.hid (keepN (RowKit.Hid.out (by assumption : RowKit.Hid (Below (w2.heap.size + 1) W1 _))) HZ1.out hb); clear hb)
      | (go_at_call 12; (with_reducible refine (exact_yes _ _ _ _ _ _ _ _ _ _ _ _ _ (pickL (hasB K 76) L) _ hown.read (HV.out _ (RowKit.Hid.out (by assumption))) (by have h1 := HL5.out; have h2 := HPL.out; have h3 := HLN.out; omega) (by have := HPS.out; omega)).mono ?_); rintro e w' ⟨rfl, hb⟩; have HB := Lib.hid (keepN (RowKit.Hid.out (by assumption : RowKit.Hid (Below (w2.heap.size + 1) W1 _))) HZ1.out hb); clear hb)
      | (go_at_call 14; (with_reducible refine (klives_any _ (HFT.out _ (HX.out _ (RowKit.Hid.out (by assumption))))).mono ?_); rintro e w' ⟨rfl, hb⟩; have HB := Lib.hid (keepN (RowKit.Hid.out (by assumption : RowKit.Hid (Below (w2.heap.size + 1) W1 _))) HZ1.out hb); clear hb))
  all_goals go_wp2_with fail
  all_goals go_ret
  all_goals exact ⟨rfl, HW.out _ (HX.out _ (RowKit.Hid.out (by assumption)))⟩
end Go.Proofs.YtgkcbaakdphigaaDoor
