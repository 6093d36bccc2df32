/- Layer 6, P6.2: the statement ShowOps, walked. -/
import Derived.Test.YtfnkmigcklmghaaDoorShowRo
namespace Go.Proofs.YtfnkmigcklmghaaDoor
open Go.RowKit (wrap64 intOf Below)
set_option linter.unusedVariables false
set_option linter.unusedSimpArgs false

set_option maxRecDepth 100000 in
theorem field_text (K A B C N : Int) (S : ByteArray) (la : Option Addr) (ln lc : Nat) (T : Bool) (w : World) (hS : S.size ≤ 1048576) :
    Calls Tryd.prog 37 #[.agg #[.int .i64 K, .int .i64 A, .int .i64 B, .int .i64 C, .int .i64 N, .string S, .slice la ln lc, .bool T], .int .i32 83] w fun e w' => e = .returned (.string (mk (quoteL S.data.toList))) ∧ Below w.heap.size w w' := by
  have hb0 : Below w.heap.size w (w.alloc (.cells #[.int .i64 K, .int .i64 A, .int .i64 B, .int .i64 C, .int .i64 N, .string S, .slice la ln lc, .bool T] 38)) := (Below.refl _ _).alloc (Nat.le_refl _) _
  have HB0 := Lib.hid hb0
  have HC := Lib.hid (quote_any S (w.alloc (.cells #[.int .i64 K, .int .i64 A, .int .i64 B, .int .i64 C, .int .i64 N, .string S, .slice la ln lc, .bool T] 38)) (by omega))
  clear hb0
  go_enter Tryd.func37, Tryd.ntmps37
  go_wp2_with fail
  refine HC.out.mono ?_
  rintro e w1 ⟨rfl, hb⟩
  have HB := Lib.hid (keepS HB0.out hb)
  clear hb
  go_wp2_with fail
  go_ret
  exact ⟨rfl, HB.out⟩
set_option maxRecDepth 100000 in
theorem field_list (K A B C N : Int) (S : ByteArray) (la : Option Addr) (ln lc : Nat) (L : List Int) (T : Bool) (w : World) (hat : NumsAt w la ln L) (hln : ln ≤ 1048576) (hr : ∀ z ∈ L, InR z) (hp : PT w) :
    Calls Tryd.prog 37 #[.agg #[.int .i64 K, .int .i64 A, .int .i64 B, .int .i64 C, .int .i64 N, .string S, .slice la ln lc, .bool T], .int .i32 76] w fun e w' => e = .returned (.string (mk (listV L))) ∧ Below w.heap.size w w' := by
  have hb0 : Below w.heap.size w (w.alloc (.cells #[.int .i64 K, .int .i64 A, .int .i64 B, .int .i64 C, .int .i64 N, .string S, .slice la ln lc, .bool T] 38)) := (Below.refl _ _).alloc (Nat.le_refl _) _
  have HB0 := Lib.hid hb0
  have HC := Lib.hid (values_any la ln lc L (w.alloc (.cells #[.int .i64 K, .int .i64 A, .int .i64 B, .int .i64 C, .int .i64 N, .string S, .slice la ln lc, .bool T] 38)) (hat.below hb0 (Nat.le_refl _)) hln hr (hp.since hb0))
  clear hb0 hat hr hp
  go_enter Tryd.func37, Tryd.ntmps37
  go_wp2_with fail
  refine HC.out.mono ?_
  rintro e w1 ⟨rfl, hb⟩
  have HB := Lib.hid (keepS HB0.out hb)
  clear hb
  go_wp2_with fail
  go_ret
  exact ⟨rfl, HB.out⟩
theorem fields6 (K A B C N : Int) (S : ByteArray) (la : Option Addr) (ln lc : Nat) (L : List Int) (T : Bool) (w : World) (hA : InR A) (hB : InR B) (hC : InR C) (hN : InR N) (hS : S.size ≤ 1048576) (hat : NumsAt w la ln L) (hln : ln ≤ 1048576) (hr : ∀ z ∈ L, InR z) (ht : Tabs w) :
    FieldsAre w (.agg #[.int .i64 K, .int .i64 A, .int .i64 B, .int .i64 C, .int .i64 N, .string S, .slice la ln lc, .bool T]) K (fieldF K A B C N S L T) 200000000 := by
  intro c hc
  by_cases h83 : c = 83
  · subst h83
    refine ⟨?_, fun u hb => field_text K A B C N S la ln lc T u hS⟩
    show (quoteL S.data.toList).length ≤ _
    rw [quoteL_len]
    have h1 := encs_len S.data.toList
    have h2 := list_len S
    omega
  · by_cases h76 : c = 76
    · subst h76
      refine ⟨?_, fun u hb => field_list K A B C N S la ln lc L T u (hat.below hb (Nat.le_refl _)) hln hr (ht.since hb).pow⟩
      show (listV L).length ≤ _
      have := values_len (by rw [hat.1]; exact hln) hr
      unfold listV
      simp only [List.length_cons, List.length_append, List.length_nil]
      omega
    · have hF : fieldF K A B C N S L T c = plainField K A B C N T c := by unfold fieldF; rw [if_neg h83, if_neg h76]
      rw [hF]
      refine ⟨Nat.le_trans (plain_len K A B C N T hA hB hC hN c) (by decide), fun u hb => field_plain K A B C N S la ln lc T c ?_ u hA hB hC hN (ht.since hb)⟩
      rcases letters K c hc with h | h | h | h | h | h | h
      · exact .inl h
      · exact absurd h h83
      · exact .inr (.inl h)
      · exact .inr (.inr (.inl h))
      · exact .inr (.inr (.inr (.inl h)))
      · exact absurd h h76
      · exact .inr (.inr (.inr (.inr h)))

set_option maxRecDepth 100000 in
theorem showops_walk (K A B C N : Int) (S : ByteArray) (la : Option Addr) (ln lc : Nat) (L : List Int) (T : Bool) (w : World) (hA : InR A) (hB : InR B) (hC : InR C) (hN : InR N) (hS : S.size ≤ 1048576) (hat : NumsAt w la ln L) (hln : ln ≤ 1048576) (hr : ∀ z ∈ L, InR z) (ht : Tabs w) :
    Calls Tryd.prog 4 #[.agg #[.int .i64 K, .int .i64 A, .int .i64 B, .int .i64 C, .int .i64 N, .string S, .slice la ln lc, .bool T]] w fun e w' => e = .returned (.bool true) ∧ Below w.heap.size w w' := by
  obtain ⟨W, hW⟩ : ∃ W, W = w.alloc (.cells #[.int .i64 K, .int .i64 A, .int .i64 B, .int .i64 C, .int .i64 N, .string S, .slice la ln lc, .bool T] 38) := ⟨_, rfl⟩
  have hb0 : Below w.heap.size w W := by rw [hW]; exact (Below.refl _ _).alloc (Nat.le_refl _) _
  have hblk : W.heap[w.heap.size]? = some (.cells #[.int .i64 K, .int .i64 A, .int .i64 B, .int .i64 C, .int .i64 N, .string S, .slice la ln lc, .bool T] 38 (0, 0)) := by rw [hW]; exact heap_alloc_new w _
  have hbx : ∀ u, Below W.heap.size W u → ∀ j, u.cell? ⟨w.heap.size, j, none⟩ = (#[.int .i64 K, .int .i64 A, .int .i64 B, .int .i64 C, .int .i64 N, .string S, .slice la ln lc, .bool T] : Array Value)[j]? := fun u hb j => by
    have : u.heap[w.heap.size]? = _ := (hb.block _ (Array.getElem?_eq_some_iff.1 hblk).1).trans hblk
    simp [World.cell?, this]
  have HBX := Lib.hid hbx
  have HB0 := Lib.hid hb0
  have hat0 := hat.below hb0 (Nat.le_refl _)
  have ht0 := ht.since hb0
  have HT := Lib.hid ht0
  have HAT := Lib.hid hat0
  have HC := Lib.hid (show_op K A B C N S la ln lc T (fieldF K A B C N S L T) 200000000 (by decide) W.drew (ht0.since (Below.refl _ _).drew).fields (ht0.since (Below.refl _ _).drew).steps (fields6 K A B C N S la ln lc L T W.drew hA hB hC hN hS (hat0.below (Below.refl _ _).drew (Nat.le_refl _)) hln hr (ht0.since (Below.refl _ _).drew)))
  have HR : RowKit.Hid (∀ u, NumsAt u la ln L → Ref6 K A B C N S la ln lc L T u) := Lib.hid fun u hu => ref6_any K A B C N S la ln lc L T u hA hB hC hN hS hu hln hr
  clear hat hat0 ht ht0 hr hbx hblk hb0
  go_enter Tryd.func4, Tryd.ntmps4
  go_upto_region 1 with fail
  rw [← hW]
  clear hW
  have HKS : RowKit.Hid (∀ u, Below W.heap.size W u → (fun u => u.cell? ⟨w.heap.size, 0, none⟩ = some (.int .i64 K) ∧ u.cell? ⟨w.heap.size, 1, none⟩ = some (.int .i64 A) ∧ u.cell? ⟨w.heap.size, 2, none⟩ = some (.int .i64 B) ∧ u.cell? ⟨w.heap.size, 3, none⟩ = some (.int .i64 C) ∧ u.cell? ⟨w.heap.size, 4, none⟩ = some (.int .i64 N) ∧ u.cell? ⟨w.heap.size, 5, none⟩ = some (.string S) ∧ u.cell? ⟨w.heap.size, 6, none⟩ = some (.slice la ln lc) ∧ u.cell? ⟨w.heap.size, 7, none⟩ = some (.bool T)) u) := Lib.hid fun u hb => ⟨HBX.out u hb 0, HBX.out u hb 1, HBX.out u hb 2, HBX.out u hb 3, HBX.out u hb 4, HBX.out u hb 5, HBX.out u hb 6, HBX.out u hb 7⟩
  refine wp_region_held_drew (S := (fun u => u.cell? ⟨w.heap.size, 0, none⟩ = some (.int .i64 K) ∧ u.cell? ⟨w.heap.size, 1, none⟩ = some (.int .i64 A) ∧ u.cell? ⟨w.heap.size, 2, none⟩ = some (.int .i64 B) ∧ u.cell? ⟨w.heap.size, 3, none⟩ = some (.int .i64 C) ∧ u.cell? ⟨w.heap.size, 4, none⟩ = some (.int .i64 N) ∧ u.cell? ⟨w.heap.size, 5, none⟩ = some (.string S) ∧ u.cell? ⟨w.heap.size, 6, none⟩ = some (.slice la ln lc) ∧ u.cell? ⟨w.heap.size, 7, none⟩ = some (.bool T))) (by kernel_rfl) (HKS.out _ (Below.refl _ _).drew) (fun hHeld => ?_)
  refine wpAnyH_take (i := 0) (oi := ⟨some 3, _, _, _, _, _⟩) (v := ?_) rfl (by kernel_rfl) (by kernel_rfl) (by kernel_rfl) (fun _ _ _ h => h) (Or.inl ⟨by rfl, ?_⟩) (by assumption) ?_
  rotate_left
  · ((intro w hSw; (try dsimp only at hSw); go_simp); try with_reducible rfl)
  (try simp only [Act.put, List.setIfInBounds_toArray, List.set_cons_zero, List.set_cons_succ])
  refine wpAnyH_take (i := 2) (oi := ⟨some 5, _, _, _, _, _⟩) (v := ?_) rfl (by kernel_rfl) (by kernel_rfl) (by kernel_rfl) (fun _ _ _ h => h) (Or.inl ⟨by rfl, ?_⟩) (by assumption) ?_
  rotate_left
  · ((intro w hSw; (try dsimp only at hSw); go_simp); try with_reducible rfl)
  (try simp only [Act.put, List.setIfInBounds_toArray, List.set_cons_zero, List.set_cons_succ])
  refine wpAnyH_ready (rs := [1]) (by kernel_rfl) (by simp) (AllReadyH.cons rfl (fun K hK => ?_) AllReadyH.nil)
  rw [if_pos (by rfl)]
  go_simp
  go_at_call 13
  (with_reducible refine HC.out.mono ?_)
  rintro e w1 ⟨rfl, hb1⟩
  have HB1 := Lib.hid (keepS (Below.refl W.heap.size W).drew hb1)
  have HR1 := Lib.hid (HR.out w1 (HAT.out.below HB1.out (Nat.le_refl _)))
  clear hb1
  refine hK.out _ _ (HKS.out _ HB1.out) (fun hHeld => ?_)
  clear hK K
  (try simp only [Act.put, List.setIfInBounds_toArray, List.set_cons_zero, List.set_cons_succ])
  obtain ⟨t, ht⟩ : ∃ t, t = mk (opText K (fieldF K A B C N S L T)) := ⟨_, rfl⟩
  unfold Ref6 at HR1
  rw [← ht] at HR1 ⊢
  clear ht
  refine wpAnyH_ready (rs := [3]) (by kernel_rfl) (by simp) (AllReadyH.cons rfl (fun K hK => ?_) AllReadyH.nil)
  rw [if_pos (by rfl)]
  go_simp
  go_at_call 14
  (with_reducible refine HR1.out.mono ?_)
  rintro e w2 ⟨rfl, hb2⟩
  have HB2 := Lib.hid (keepS HB1.out hb2)
  clear hb2
  refine hK.out _ _ (HKS.out _ HB2.out) (fun hHeld => ?_)
  clear hK K
  (try simp only [Act.put, List.setIfInBounds_toArray, List.set_cons_zero, List.set_cons_succ])
  have hse : (t.toList == t.toList) = true := by simp
  refine wpAnyH_take (i := 4) (oi := ⟨some 7, _, _, _, _, _⟩) (v := ?_) rfl (by kernel_rfl) (by kernel_rfl) (by kernel_rfl) (fun _ _ _ h => h) (Or.inl ⟨by rfl, ?_⟩) (by assumption) ?_
  rotate_left
  · ((intro w hSw; (try dsimp only at hSw); go_simp); try with_reducible rfl)
  (try simp only [Act.put, List.setIfInBounds_toArray, List.set_cons_zero, List.set_cons_succ])
  refine wpAnyH_take (i := 5) (oi := ⟨some 8, _, _, _, _, _⟩) (v := ?_) rfl (by kernel_rfl) (by kernel_rfl) (by kernel_rfl) (fun _ _ _ h => h) (Or.inl ⟨by rfl, ?_⟩) (by assumption) ?_
  rotate_left
  · ((intro w hSw; (try dsimp only at hSw); go_simp); try with_reducible rfl)
  (try simp only [Act.put, List.setIfInBounds_toArray, List.set_cons_zero, List.set_cons_succ])
  refine wpAnyH_ready (rs := [6]) (by kernel_rfl) (by simp) (AllReadyH.cons rfl (fun K hK => ?_) AllReadyH.nil)
  rw [if_pos (by rfl)]
  go_simp
  go_at_call 15
  (with_reducible refine (lives6 w2 (HT.out.since HB2.out)).mono ?_)
  rintro e w3 ⟨rfl, hb3⟩
  have HB3 := Lib.hid (keepS HB2.out hb3)
  clear hb3
  refine hK.out _ _ (HKS.out _ HB3.out) (fun hHeld => ?_)
  clear hK K
  (try simp only [Act.put, List.setIfInBounds_toArray, List.set_cons_zero, List.set_cons_succ])
  refine wpAnyH_take (i := 7) (oi := ⟨some 10, _, _, _, _, _⟩) (v := ?_) rfl (by kernel_rfl) (by kernel_rfl) (by kernel_rfl) (fun _ _ _ h => h) (Or.inl ⟨by rfl, ?_⟩) (by assumption) ?_
  rotate_left
  · ((intro w hSw; (try dsimp only at hSw); go_simp); try with_reducible rfl)
  (try simp only [Act.put, List.setIfInBounds_toArray, List.set_cons_zero, List.set_cons_succ])
  refine wpAnyH_take (i := 8) (oi := ⟨some 2, _, _, _, _, _⟩) (v := ?_) rfl (by kernel_rfl) (by kernel_rfl) (by kernel_rfl) (fun _ _ _ h => h) (Or.inl ⟨by rfl, ?_⟩) (by assumption) ?_
  rotate_left
  · ((intro w hSw; (try dsimp only at hSw); go_simp); try with_reducible rfl)
  (try simp only [Act.put, List.setIfInBounds_toArray, List.set_cons_zero, List.set_cons_succ])
  refine wpAnyH_done (by kernel_rfl) ?_ _
  have HB4 := Lib.hid (keepS HB0.out HB3.out)
  go_wp2_with fail
  go_ret
  exact ⟨rfl, HB4.out⟩
end Go.Proofs.YtfnkmigcklmghaaDoor
