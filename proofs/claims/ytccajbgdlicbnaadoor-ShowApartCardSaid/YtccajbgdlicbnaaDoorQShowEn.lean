/- Layer 6: a signature's line, a class's line, an end's text: package show's and the document's (written by a program). -/
import Derived.Test.YtccajbgdlicbnaaDoorQT0
import Derived.Test.YtccajbgdlicbnaaDoorQT4
import Derived.Deep.RegionHeld3
namespace Go.Proofs.YtccajbgdlicbnaaDoor
open Go.RowKit (wrap64 intOf Below)
set_option linter.unusedVariables false
set_option linter.unusedSimpArgs false

def sigText (y : SigD) : List UInt8 := [115, 105, 103, 32] ++ listT typeText y.params ++ [32] ++ typeText y.ret ++ [10]
def classText (y : ClassD) : List UInt8 := [99, 108, 97, 115, 115, 32] ++ listT typeText y.fields ++ [32, 91] ++ listText Lib.itoa y.methods ++ [93, 10]
def targetText (tg : Int) (L : List Int) : List UInt8 := Lib.itoa tg ++ listV L
def endText (y : EndD) : List UInt8 :=
  if y.K = 0 then [106, 117, 109, 112, 32] ++ targetText y.To y.L
  else if y.K = 1 then [98, 114, 97, 110, 99, 104, 32] ++ valueText y.A ++ [32] ++ targetText y.To y.L ++ [32] ++ targetText y.Else y.M
  else if y.K = 2 then [114, 101, 116, 32] ++ valueText y.A else if y.K = 3 then [115, 116, 111, 112, 32] ++ valueText y.A else [63]
theorem listT_txt {T : Int → List UInt8} (hT : ∀ z, InR z → (T z).length ≤ 22) {L : List Int} (h2 : L.length ≤ 1048576) (hr : ∀ z ∈ L, InR z) : Txt (mk (listT T L)) (listT T L) 100000002 :=
  ⟨rfl, by have := texts_len hT h2 hr; unfold listT; simp only [List.length_cons, List.length_append, List.length_nil]; omega⟩
theorem listV_txt {L : List Int} (h2 : L.length ≤ 1048576) (hr : ∀ z ∈ L, InR z) : Txt (mk (listV L)) (listV L) 100000002 := listT_txt value_len h2 hr
theorem itoa_txt {z : Int} (h : InR z) : Txt (mkB (Lib.itoa z)) (Lib.itoa z) 22 := ⟨rfl, itoa_len z h⟩
theorem value_txt {z : Int} (h : InR z) : Txt (mk (valueText z)) (valueText z) 22 := ⟨rfl, value_len z h⟩
theorem type_txt {z : Int} (h : InR z) : Txt (mk (typeText z)) (typeText z) 22 := ⟨rfl, type_len z h⟩
/-- A text from a call, wherever the walk stands behind W. -/
def Says (W : World) (f : Nat) (args : Array Value) (t : ByteArray) : Prop := ∀ u, Below W.heap.size W u → Calls Tryd.prog f args u fun e u' => e = .returned (.string t) ∧ Below u.heap.size u u'
theorem Says.go {W : World} {f : Nat} {args : Array Value} {t : ByteArray} (h : Says W f args t) {u : World} (hb : Below W.heap.size W u) : Calls Tryd.prog f args u fun e u' => e = .returned (.string t) ∧ Below u.heap.size u u' := h u hb
theorem InR.lo {z : Int} (h : InR z) : -9223372036854775808 ≤ z := by obtain ⟨h0, h1⟩ := h; omega
theorem InR.hi {z : Int} (h : InR z) : z ≤ 9223372036854775807 := by obtain ⟨h0, h1⟩ := h; omega
theorem says_types {W : World} {a : Option Addr} {n c : Nat} {Z : List Int} (hat : NumsAt W a n Z) (hn : n ≤ 1048576) (hr : ∀ z ∈ Z, InR z) (hp : PT W) (ht : TN W) : Says W 34 #[.slice a n c] (mk (listT typeText Z)) :=
  fun u hb => types_any a n c Z u (hat.below hb (Nat.le_refl _)) hn hr (hp.since hb) (StrTab.since ht hb)
theorem says_values {W : World} {a : Option Addr} {n c : Nat} {Z : List Int} (hat : NumsAt W a n Z) (hn : n ≤ 1048576) (hr : ∀ z ∈ Z, InR z) (hp : PT W) : Says W 54 #[.slice a n c] (mk (listV Z)) :=
  fun u hb => values_any a n c Z u (hat.below hb (Nat.le_refl _)) hn hr (hp.since hb)
theorem says_type {W : World} {z : Int} (h : InR z) (hp : PT W) (ht : TN W) : Says W 20 #[.int .i64 z] (mk (typeText z)) := fun u hb => type_any z u h.lo h.hi (hp.since hb) (StrTab.since ht hb)
theorem says_value {W : World} {z : Int} (h : InR z) (hp : PT W) : Says W 39 #[.int .i64 z] (mk (valueText z)) := fun u hb => value_any z u h.lo h.hi (hp.since hb)
theorem says_digits {W : World} {z : Int} (h : InR z) (hp : PT W) : Says W 37 #[.int .i64 z] (mkB (Lib.itoa z)) := fun u hb => itoa_text z u h.lo h.hi (hp.since hb)
theorem says_methods {W : World} {a : Option Addr} {n c : Nat} {Z : List Int} (hat : NumsAt W a n Z) (hn : n ≤ 1048576) (hr : ∀ z ∈ Z, InR z) (hp : PT W) : Says W 35 #[.slice a n c, .func (.func 36) #[] #[]] (mk (listText Lib.itoa Z)) :=
  fun u hb => joined_any 36 enters_class1 Lib.itoa 22 (by decide) a n c Z (fun z hz => itoa_len z (hr z hz)) u (hat.below hb (Nat.le_refl _)) hn (fun z hz u' hb' => class1_any z u' (hr z hz).lo (hr z hz).hi ((hp.since hb).since hb'))
theorem says_num {W : World} {z : Int} (h : InR z) : Says W 23 #[.int .i64 z] (mkB (Lib.itoa z)) := fun u hb => itoa_ref z u h.lo h.hi
theorem says_list1 {W : World} {a : Option Addr} {n c : Nat} {Z : List Int} (hat : NumsAt W a n Z) (hn : n ≤ 1048576) (hr : ∀ z ∈ Z, InR z) : Says W 18 #[.slice a n c, .int .i64 1] (mk (listText valueText Z)) :=
  fun u hb => list_values a n c Z u (hat.below hb (Nat.le_refl _)) hn hr
theorem Says.since {W W' : World} {f : Nat} {args : Array Value} {t : ByteArray} (h : Says W f args t) (hb : Below W.heap.size W W') : Says W' f args t := fun u hu => h u (keepS hb hu)
theorem target_any (tg : Int) (a : Option Addr) (n c : Nat) (Z : List Int) (w : World) (ht : InR tg) (hat : NumsAt w a n Z) (hn : n ≤ 1048576) (hr : ∀ z ∈ Z, InR z) (hp : PT w) :
    Calls Tryd.prog 58 #[.int .i64 tg, .slice a n c] w fun e w' => e = .returned (.string (mk (targetText tg Z))) ∧ Below w.heap.size w w' := by
  have X1 := Lib.hid (itoa_txt ht)
  have X2 := Lib.hid (listV_txt (by rw [hat.1]; exact hn) hr)
  have C1 := Lib.hid (says_digits ht hp)
  have C2 := Lib.hid (says_values (c := c) hat hn hr hp)
  obtain ⟨t1, h1⟩ : ∃ t, t = mkB (Lib.itoa tg) := ⟨_, rfl⟩
  obtain ⟨t2, h2⟩ : ∃ t, t = mk (listV Z) := ⟨_, rfl⟩
  rw [← h1] at X1 C1
  rw [← h2] at X2 C2
  have z1 := X1.out.size
  have z2 := X2.out.size
  clear hat hr hp h1 h2 ht
  go_enter Tryd.func58, Tryd.ntmps58
  go_wp2_with fail
  refine (C1.out w (Below.refl _ _)).mono ?_
  rintro e w1 ⟨rfl, hb1⟩
  have HB1 := Lib.hid hb1
  go_wp2_with fail
  refine (C2.out w1 HB1.out).mono ?_
  rintro e w2 ⟨rfl, hb2⟩
  have HB2 := Lib.hid (keepS HB1.out hb2)
  clear hb1 hb2
  go_wp2_with fail
  go_ret
  exact ⟨congrArg (fun b : ByteArray => Ending.returned (Value.string b)) (X1.out.app X2.out).is, HB2.out⟩
theorem target_txt {tg : Int} {Z : List Int} (ht : InR tg) (h2 : Z.length ≤ 1048576) (hr : ∀ z ∈ Z, InR z) : Txt (mk (targetText tg Z)) (targetText tg Z) 100000024 :=
  ⟨rfl, by have h1 := (itoa_txt ht).len; have h2 := (listV_txt h2 hr).len; unfold targetText; rw [List.length_append]; omega⟩
theorem says_target {W : World} {tg : Int} {a : Option Addr} {n c : Nat} {Z : List Int} (ht : InR tg) (hat : NumsAt W a n Z) (hn : n ≤ 1048576) (hr : ∀ z ∈ Z, InR z) (hp : PT W) : Says W 58 #[.int .i64 tg, .slice a n c] (mk (targetText tg Z)) :=
  fun u hb => target_any tg a n c Z u ht (hat.below hb (Nat.le_refl _)) hn hr (hp.since hb)
-- made
set_option maxRecDepth 100000 in
set_option maxHeartbeats 2000000 in
theorem sig_any (a : Option Addr) (n c : Nat) (y : SigD) (w : World) (h : SigQ w [.slice a n c, .int .i64 y.ret] y) (hn : n ≤ 1048576) (hp : PT w) (ht : TN w) :
    Calls Tryd.prog 15 #[.agg #[.slice a n c, .int .i64 y.ret]] w fun e w' => e = .returned (.string (mk (sigText y))) ∧ Below w.heap.size w w' := by
  obtain ⟨p, he, hpv, hr⟩ := h
  cases he
  obtain ⟨a', n', c', he, hat, hnil, hm, hrz⟩ := hpv
  cases he
  have hlen : y.params.length ≤ 1048576 := by rw [hat.1]; exact hn
  obtain ⟨W, hW⟩ : ∃ W, W = w.alloc (.cells #[.slice a n c, .int .i64 y.ret] 41) := ⟨_, rfl⟩
  have hb0 : Below w.heap.size w W := by rw [hW]; exact (Below.refl _ _).alloc (Nat.le_refl _) _
  have hblk : W.heap[w.heap.size]? = some (.cells #[.slice a n c, .int .i64 y.ret] 41 (0, 0)) := by rw [hW]; exact heap_alloc_new w _
  have HB0 := Lib.hid hb0
  have HBX : RowKit.Hid (∀ u, Below W.heap.size W u → ∀ j, u.cell? ⟨w.heap.size, j, none⟩ = (#[.slice a n c, .int .i64 y.ret] : Array Value)[j]?) := Lib.hid fun u hb j => by
    have : u.heap[w.heap.size]? = _ := (hb.block _ (Array.getElem?_eq_some_iff.1 hblk).1).trans hblk
    simp [World.cell?, this]
  have HKS : RowKit.Hid (∀ u, Below W.heap.size W u → (fun u => u.cell? ⟨w.heap.size, 0, none⟩ = some (.slice a n c) ∧ u.cell? ⟨w.heap.size, 1, none⟩ = some (.int .i64 y.ret)) u) := Lib.hid fun u hb => ⟨HBX.out u hb 0, HBX.out u hb 1⟩
  have X1 := Lib.hid (listT_txt type_len hlen hrz)
  have C1 := Lib.hid (Says.since (says_types (c := c) hat hn hrz hp ht) hb0)
  obtain ⟨t1, h1⟩ : ∃ t, t = mk (listT typeText y.params) := ⟨_, rfl⟩
  rw [← h1] at X1 C1
  have z1 := X1.out.size
  have X2 := Lib.hid (type_txt hr)
  have C2 := Lib.hid (Says.since (says_type hr hp ht) hb0)
  obtain ⟨t2, h2⟩ : ∃ t, t = mk (typeText y.ret) := ⟨_, rfl⟩
  rw [← h2] at X2 C2
  have z2 := X2.out.size
  clear h1 h2 hblk hb0
  have hk0 : Below W.heap.size W W.drew := (Below.refl _ _).drew
  go_enter Tryd.func15, Tryd.ntmps15
  go_upto_region 1 with fail
  rw [← hW]
  clear hW
  refine wp_region_held_drew (S := (fun u => u.cell? ⟨w.heap.size, 0, none⟩ = some (.slice a n c) ∧ u.cell? ⟨w.heap.size, 1, none⟩ = some (.int .i64 y.ret))) (by kernel_rfl) (HKS.out _ hk0) (fun hHeld => ?_)
  refine wpAnyH_take (i := 0) (oi := ⟨some 3, _, _, _, _, _⟩) (v := ?_) rfl (by kernel_rfl) (by kernel_rfl) (by kernel_rfl) (fun _ _ _ h => h) (Or.inl ⟨by rfl, ?_⟩) (by assumption) ?_
  rotate_left
  · ((intro w hSw; (try dsimp only at hSw); go_simp); try with_reducible rfl)
  (try simp only [Act.put, List.setIfInBounds_toArray, List.set_cons_zero, List.set_cons_succ])
  refine wpAnyH_take (i := 1) (oi := ⟨some 4, _, _, _, _, _⟩) (v := ?_) rfl (by kernel_rfl) (by kernel_rfl) (by kernel_rfl) (fun _ _ _ h => h) (Or.inl ⟨by rfl, ?_⟩) (by assumption) ?_
  rotate_left
  · ((intro w hSw; (try dsimp only at hSw); go_simp); try with_reducible rfl)
  (try simp only [Act.put, List.setIfInBounds_toArray, List.set_cons_zero, List.set_cons_succ])
  refine wpAnyH_take (i := 5) (oi := ⟨some 8, _, _, _, _, _⟩) (v := ?_) rfl (by kernel_rfl) (by kernel_rfl) (by kernel_rfl) (fun _ _ _ h => h) (Or.inl ⟨by rfl, ?_⟩) (by assumption) ?_
  rotate_left
  · ((intro w hSw; (try dsimp only at hSw); go_simp); try with_reducible rfl)
  (try simp only [Act.put, List.setIfInBounds_toArray, List.set_cons_zero, List.set_cons_succ])
  refine wpAnyH_take (i := 6) (oi := ⟨some 9, _, _, _, _, _⟩) (v := ?_) rfl (by kernel_rfl) (by kernel_rfl) (by kernel_rfl) (fun _ _ _ h => h) (Or.inl ⟨by rfl, ?_⟩) (by assumption) ?_
  rotate_left
  · ((intro w hSw; (try dsimp only at hSw); go_simp); try with_reducible rfl)
  (try simp only [Act.put, List.setIfInBounds_toArray, List.set_cons_zero, List.set_cons_succ])
  refine wpAnyH_ready (rs := [2]) (by kernel_rfl) (by simp) (AllReadyH.cons rfl (fun K hK => ?_) AllReadyH.nil)
  rw [if_pos (by rfl)]
  go_simp
  go_at_call 34
  (with_reducible refine (C1.out.go hk0).mono ?_)
  rintro e w1 ⟨rfl, hb1⟩
  have hk1 := keepS hk0 hb1
  clear hb1
  refine hK.out _ _ (HKS.out _ hk1) (fun hHeld => ?_)
  clear hK K
  (try simp only [Act.put, List.setIfInBounds_toArray, List.set_cons_zero, List.set_cons_succ])
  refine wpAnyH_take (i := 3) (oi := ⟨some 6, _, _, _, _, _⟩) (v := ?_) rfl (by kernel_rfl) (by kernel_rfl) (by kernel_rfl) (fun _ _ _ h => h) (Or.inl ⟨by rfl, ?_⟩) (by assumption) ?_
  rotate_left
  · ((intro w hSw; (try dsimp only at hSw); go_simp; rw [if_neg (by omega)]); try with_reducible rfl)
  (try simp only [Act.put, List.setIfInBounds_toArray, List.set_cons_zero, List.set_cons_succ])
  refine wpAnyH_take (i := 4) (oi := ⟨some 7, _, _, _, _, _⟩) (v := ?_) rfl (by kernel_rfl) (by kernel_rfl) (by kernel_rfl) (fun _ _ _ h => h) (Or.inl ⟨by rfl, ?_⟩) (by assumption) ?_
  rotate_left
  · ((intro w hSw; (try dsimp only at hSw); go_simp; rw [if_neg (by omega)]); try with_reducible rfl)
  (try simp only [Act.put, List.setIfInBounds_toArray, List.set_cons_zero, List.set_cons_succ])
  refine wpAnyH_ready (rs := [7]) (by kernel_rfl) (by simp) (AllReadyH.cons rfl (fun K hK => ?_) AllReadyH.nil)
  rw [if_pos (by rfl)]
  go_simp
  go_at_call 20
  (with_reducible refine (C2.out.go hk1).mono ?_)
  rintro e w2 ⟨rfl, hb2⟩
  have hk2 := keepS hk1 hb2
  clear hb2
  refine hK.out _ _ (HKS.out _ hk2) (fun hHeld => ?_)
  clear hK K
  (try simp only [Act.put, List.setIfInBounds_toArray, List.set_cons_zero, List.set_cons_succ])
  refine wpAnyH_take (i := 8) (oi := ⟨some 11, _, _, _, _, _⟩) (v := ?_) rfl (by kernel_rfl) (by kernel_rfl) (by kernel_rfl) (fun _ _ _ h => h) (Or.inl ⟨by rfl, ?_⟩) (by assumption) ?_
  rotate_left
  · ((intro w hSw; (try dsimp only at hSw); go_simp; rw [if_neg (by omega)]); try with_reducible rfl)
  (try simp only [Act.put, List.setIfInBounds_toArray, List.set_cons_zero, List.set_cons_succ])
  refine wpAnyH_take (i := 9) (oi := ⟨some 12, _, _, _, _, _⟩) (v := ?_) rfl (by kernel_rfl) (by kernel_rfl) (by kernel_rfl) (fun _ _ _ h => h) (Or.inl ⟨by rfl, ?_⟩) (by assumption) ?_
  rotate_left
  · ((intro w hSw; (try dsimp only at hSw); go_simp; rw [if_neg (by omega)]); try with_reducible rfl)
  (try simp only [Act.put, List.setIfInBounds_toArray, List.set_cons_zero, List.set_cons_succ])
  refine wpAnyH_take (i := 10) (oi := ⟨some 2, _, _, _, _, _⟩) (v := ?_) rfl (by kernel_rfl) (by kernel_rfl) (by kernel_rfl) (fun _ _ _ h => h) (Or.inl ⟨by rfl, ?_⟩) (by assumption) ?_
  rotate_left
  · ((intro w hSw; (try dsimp only at hSw); go_simp); try with_reducible rfl)
  (try simp only [Act.put, List.setIfInBounds_toArray, List.set_cons_zero, List.set_cons_succ])
  refine wpAnyH_done (by kernel_rfl) ?_ _
  go_wp2_with fail
  go_ret
  exact ⟨congrArg (fun b : ByteArray => Ending.returned (Value.string b)) ((((((Txt.lit [115, 105, 103, 32]).app X1.out).app (Txt.lit [32])).app X2.out).app (Txt.lit [10])).is.trans (congrArg mkB rfl)), keepS HB0.out hk2⟩
set_option maxRecDepth 100000 in
set_option maxHeartbeats 4000000 in
theorem end_0 (A To El : Int) (la ma : Option Addr) (ln lc mn mc : Nat) (L M : List Int) (w : World) (h : EndQ w [.int .i64 0, .int .i64 A, .int .i64 To, .int .i64 El, .slice la ln lc, .slice ma mn mc] ⟨0, A, To, El, L, M⟩) (hn1 : ln ≤ 1048576) (hn2 : mn ≤ 1048576) (hp : PT w) :
    Calls Tryd.prog 40 #[.agg #[.int .i64 0, .int .i64 A, .int .i64 To, .int .i64 El, .slice la ln lc, .slice ma mn mc]] w fun e w' => e = .returned (.string (mk (endText ⟨0, A, To, El, L, M⟩))) ∧ Below w.heap.size w w' := by
  obtain ⟨l1, m1, he, rK, rA, rT, rE, ⟨a', n', c', hl, hat1, hnil1, hm1, hr1⟩, ⟨b', k', d', hm, hat2, hnil2, hm2, hr2⟩⟩ := h
  simp only [List.cons.injEq, Value.int.injEq, true_and, and_true] at he
  obtain ⟨rfl, rfl⟩ := he
  cases hl
  cases hm
  have hlen1 : L.length ≤ 1048576 := by rw [hat1.1]; exact hn1
  have hlen2 : M.length ≤ 1048576 := by rw [hat2.1]; exact hn2
  obtain ⟨W, hW⟩ : ∃ W, W = w.alloc (.cells #[.int .i64 0, .int .i64 A, .int .i64 To, .int .i64 El, .slice la ln lc, .slice ma mn mc] 46) := ⟨_, rfl⟩
  have hb0 : Below w.heap.size w W := by rw [hW]; exact (Below.refl _ _).alloc (Nat.le_refl _) _
  have hblk : W.heap[w.heap.size]? = some (.cells #[.int .i64 0, .int .i64 A, .int .i64 To, .int .i64 El, .slice la ln lc, .slice ma mn mc] 46 (0, 0)) := by rw [hW]; exact heap_alloc_new w _
  have HB0 := Lib.hid hb0
  have HBX : RowKit.Hid (∀ u, Below W.heap.size W u → ∀ j, u.cell? ⟨w.heap.size, j, none⟩ = (#[.int .i64 0, .int .i64 A, .int .i64 To, .int .i64 El, .slice la ln lc, .slice ma mn mc] : Array Value)[j]?) := Lib.hid fun u hb j => by
    have : u.heap[w.heap.size]? = _ := (hb.block _ (Array.getElem?_eq_some_iff.1 hblk).1).trans hblk
    simp [World.cell?, this]
  have HKS : RowKit.Hid (∀ u, Below W.heap.size W u → (fun u => u.cell? ⟨w.heap.size, 0, none⟩ = some (.int .i64 0) ∧ u.cell? ⟨w.heap.size, 1, none⟩ = some (.int .i64 A) ∧ u.cell? ⟨w.heap.size, 2, none⟩ = some (.int .i64 To) ∧ u.cell? ⟨w.heap.size, 3, none⟩ = some (.int .i64 El) ∧ u.cell? ⟨w.heap.size, 4, none⟩ = some (.slice la ln lc) ∧ u.cell? ⟨w.heap.size, 5, none⟩ = some (.slice ma mn mc)) u) := Lib.hid fun u hb => ⟨HBX.out u hb 0, HBX.out u hb 1, HBX.out u hb 2, HBX.out u hb 3, HBX.out u hb 4, HBX.out u hb 5⟩
  have X1 := Lib.hid (target_txt rT hlen1 hr1)
  have C1 := Lib.hid (Says.since (says_target (c := lc) rT hat1 hn1 hr1 hp) hb0)
  obtain ⟨t1, h1⟩ : ∃ t, t = mk (targetText To L) := ⟨_, rfl⟩
  rw [← h1] at X1 C1
  have z1 := X1.out.size
  clear h1
  clear hblk hb0 hat1 hat2 hr1 hr2 rK rA rT rE hp
  have hk0 : Below W.heap.size W W := (Below.refl _ _)
  go_enter Tryd.func40, Tryd.ntmps40
  go_upto_region 1 with fail
  rw [← hW]
  clear hW
  have hx := HBX.out W hk0
  have x0 := hx 0
  have x1 := hx 1
  have x2 := hx 2
  have x3 := hx 3
  have x4 := hx 4
  have x5 := hx 5
  clear hx
  go_wp2_with fail
  refine (C1.out.go hk0).mono ?_
  rintro e w1 ⟨rfl, hb1⟩
  have hk1 := keepS hk0 hb1
  clear hb1 x0 x1 x2 x3 x4 x5
  have hx := HBX.out w1 hk1
  have x0 := hx 0
  have x1 := hx 1
  have x2 := hx 2
  have x3 := hx 3
  have x4 := hx 4
  have x5 := hx 5
  clear hx
  go_wp2_with fail
  go_ret
  exact ⟨congrArg (fun b : ByteArray => Ending.returned (Value.string b)) (((Txt.lit [106, 117, 109, 112, 32]).app X1.out).is.trans (congrArg mkB rfl)), keepS HB0.out hk1⟩
set_option maxRecDepth 100000 in
set_option maxHeartbeats 4000000 in
theorem end_1 (A To El : Int) (la ma : Option Addr) (ln lc mn mc : Nat) (L M : List Int) (w : World) (h : EndQ w [.int .i64 1, .int .i64 A, .int .i64 To, .int .i64 El, .slice la ln lc, .slice ma mn mc] ⟨1, A, To, El, L, M⟩) (hn1 : ln ≤ 1048576) (hn2 : mn ≤ 1048576) (hp : PT w) :
    Calls Tryd.prog 40 #[.agg #[.int .i64 1, .int .i64 A, .int .i64 To, .int .i64 El, .slice la ln lc, .slice ma mn mc]] w fun e w' => e = .returned (.string (mk (endText ⟨1, A, To, El, L, M⟩))) ∧ Below w.heap.size w w' := by
  obtain ⟨l1, m1, he, rK, rA, rT, rE, ⟨a', n', c', hl, hat1, hnil1, hm1, hr1⟩, ⟨b', k', d', hm, hat2, hnil2, hm2, hr2⟩⟩ := h
  simp only [List.cons.injEq, Value.int.injEq, true_and, and_true] at he
  obtain ⟨rfl, rfl⟩ := he
  cases hl
  cases hm
  have hlen1 : L.length ≤ 1048576 := by rw [hat1.1]; exact hn1
  have hlen2 : M.length ≤ 1048576 := by rw [hat2.1]; exact hn2
  obtain ⟨W, hW⟩ : ∃ W, W = w.alloc (.cells #[.int .i64 1, .int .i64 A, .int .i64 To, .int .i64 El, .slice la ln lc, .slice ma mn mc] 46) := ⟨_, rfl⟩
  have hb0 : Below w.heap.size w W := by rw [hW]; exact (Below.refl _ _).alloc (Nat.le_refl _) _
  have hblk : W.heap[w.heap.size]? = some (.cells #[.int .i64 1, .int .i64 A, .int .i64 To, .int .i64 El, .slice la ln lc, .slice ma mn mc] 46 (0, 0)) := by rw [hW]; exact heap_alloc_new w _
  have HB0 := Lib.hid hb0
  have HBX : RowKit.Hid (∀ u, Below W.heap.size W u → ∀ j, u.cell? ⟨w.heap.size, j, none⟩ = (#[.int .i64 1, .int .i64 A, .int .i64 To, .int .i64 El, .slice la ln lc, .slice ma mn mc] : Array Value)[j]?) := Lib.hid fun u hb j => by
    have : u.heap[w.heap.size]? = _ := (hb.block _ (Array.getElem?_eq_some_iff.1 hblk).1).trans hblk
    simp [World.cell?, this]
  have HKS : RowKit.Hid (∀ u, Below W.heap.size W u → (fun u => u.cell? ⟨w.heap.size, 0, none⟩ = some (.int .i64 1) ∧ u.cell? ⟨w.heap.size, 1, none⟩ = some (.int .i64 A) ∧ u.cell? ⟨w.heap.size, 2, none⟩ = some (.int .i64 To) ∧ u.cell? ⟨w.heap.size, 3, none⟩ = some (.int .i64 El) ∧ u.cell? ⟨w.heap.size, 4, none⟩ = some (.slice la ln lc) ∧ u.cell? ⟨w.heap.size, 5, none⟩ = some (.slice ma mn mc)) u) := Lib.hid fun u hb => ⟨HBX.out u hb 0, HBX.out u hb 1, HBX.out u hb 2, HBX.out u hb 3, HBX.out u hb 4, HBX.out u hb 5⟩
  have X1 := Lib.hid (value_txt rA)
  have C1 := Lib.hid (Says.since (says_value rA hp) hb0)
  obtain ⟨t1, h1⟩ : ∃ t, t = mk (valueText A) := ⟨_, rfl⟩
  rw [← h1] at X1 C1
  have z1 := X1.out.size
  have X2 := Lib.hid (target_txt rT hlen1 hr1)
  have C2 := Lib.hid (Says.since (says_target (c := lc) rT hat1 hn1 hr1 hp) hb0)
  obtain ⟨t2, h2⟩ : ∃ t, t = mk (targetText To L) := ⟨_, rfl⟩
  rw [← h2] at X2 C2
  have z2 := X2.out.size
  have X3 := Lib.hid (target_txt rE hlen2 hr2)
  have C3 := Lib.hid (Says.since (says_target (c := mc) rE hat2 hn2 hr2 hp) hb0)
  obtain ⟨t3, h3⟩ : ∃ t, t = mk (targetText El M) := ⟨_, rfl⟩
  rw [← h3] at X3 C3
  have z3 := X3.out.size
  clear h1 h2 h3
  clear hblk hb0 hat1 hat2 hr1 hr2 rK rA rT rE hp
  have hk0 : Below W.heap.size W W.drew := (Below.refl _ _).drew
  go_enter Tryd.func40, Tryd.ntmps40
  go_upto_region 1 with fail
  rw [← hW]
  clear hW
  have hx := HBX.out W (Below.refl _ _)
  have x0 := hx 0
  have x1 := hx 1
  have x2 := hx 2
  have x3 := hx 3
  have x4 := hx 4
  have x5 := hx 5
  clear hx
  go_upto_region 5 with fail
  clear x0 x1 x2 x3 x4 x5
  refine wp_region_held_drew (S := (fun u => u.cell? ⟨w.heap.size, 0, none⟩ = some (.int .i64 1) ∧ u.cell? ⟨w.heap.size, 1, none⟩ = some (.int .i64 A) ∧ u.cell? ⟨w.heap.size, 2, none⟩ = some (.int .i64 To) ∧ u.cell? ⟨w.heap.size, 3, none⟩ = some (.int .i64 El) ∧ u.cell? ⟨w.heap.size, 4, none⟩ = some (.slice la ln lc) ∧ u.cell? ⟨w.heap.size, 5, none⟩ = some (.slice ma mn mc))) (by kernel_rfl) (HKS.out _ hk0) (fun hHeld => ?_)
  refine wpAnyH_take (i := 0) (oi := ⟨some 15, _, _, _, _, _⟩) (v := ?_) rfl (by kernel_rfl) (by kernel_rfl) (by kernel_rfl) (fun _ _ _ h => h) (Or.inl ⟨by rfl, ?_⟩) (by assumption) ?_
  rotate_left
  · ((intro w hSw; (try dsimp only at hSw); go_simp); try with_reducible rfl)
  (try simp only [Act.put, List.setIfInBounds_toArray, List.set_cons_zero, List.set_cons_succ])
  refine wpAnyH_take (i := 1) (oi := ⟨some 16, _, _, _, _, _⟩) (v := ?_) rfl (by kernel_rfl) (by kernel_rfl) (by kernel_rfl) (fun _ _ _ h => h) (Or.inl ⟨by rfl, ?_⟩) (by assumption) ?_
  rotate_left
  · ((intro w hSw; (try dsimp only at hSw); go_simp); try with_reducible rfl)
  (try simp only [Act.put, List.setIfInBounds_toArray, List.set_cons_zero, List.set_cons_succ])
  refine wpAnyH_take (i := 5) (oi := ⟨some 20, _, _, _, _, _⟩) (v := ?_) rfl (by kernel_rfl) (by kernel_rfl) (by kernel_rfl) (fun _ _ _ h => h) (Or.inl ⟨by rfl, ?_⟩) (by assumption) ?_
  rotate_left
  · ((intro w hSw; (try dsimp only at hSw); go_simp); try with_reducible rfl)
  (try simp only [Act.put, List.setIfInBounds_toArray, List.set_cons_zero, List.set_cons_succ])
  refine wpAnyH_take (i := 6) (oi := ⟨some 21, _, _, _, _, _⟩) (v := ?_) rfl (by kernel_rfl) (by kernel_rfl) (by kernel_rfl) (fun _ _ _ h => h) (Or.inl ⟨by rfl, ?_⟩) (by assumption) ?_
  rotate_left
  · ((intro w hSw; (try dsimp only at hSw); go_simp); try with_reducible rfl)
  (try simp only [Act.put, List.setIfInBounds_toArray, List.set_cons_zero, List.set_cons_succ])
  refine wpAnyH_take (i := 7) (oi := ⟨some 22, _, _, _, _, _⟩) (v := ?_) rfl (by kernel_rfl) (by kernel_rfl) (by kernel_rfl) (fun _ _ _ h => h) (Or.inl ⟨by rfl, ?_⟩) (by assumption) ?_
  rotate_left
  · ((intro w hSw; (try dsimp only at hSw); go_simp); try with_reducible rfl)
  (try simp only [Act.put, List.setIfInBounds_toArray, List.set_cons_zero, List.set_cons_succ])
  refine wpAnyH_take (i := 8) (oi := ⟨some 23, _, _, _, _, _⟩) (v := ?_) rfl (by kernel_rfl) (by kernel_rfl) (by kernel_rfl) (fun _ _ _ h => h) (Or.inl ⟨by rfl, ?_⟩) (by assumption) ?_
  rotate_left
  · ((intro w hSw; (try dsimp only at hSw); go_simp); try with_reducible rfl)
  (try simp only [Act.put, List.setIfInBounds_toArray, List.set_cons_zero, List.set_cons_succ])
  refine wpAnyH_take (i := 12) (oi := ⟨some 27, _, _, _, _, _⟩) (v := ?_) rfl (by kernel_rfl) (by kernel_rfl) (by kernel_rfl) (fun _ _ _ h => h) (Or.inl ⟨by rfl, ?_⟩) (by assumption) ?_
  rotate_left
  · ((intro w hSw; (try dsimp only at hSw); go_simp); try with_reducible rfl)
  (try simp only [Act.put, List.setIfInBounds_toArray, List.set_cons_zero, List.set_cons_succ])
  refine wpAnyH_take (i := 13) (oi := ⟨some 28, _, _, _, _, _⟩) (v := ?_) rfl (by kernel_rfl) (by kernel_rfl) (by kernel_rfl) (fun _ _ _ h => h) (Or.inl ⟨by rfl, ?_⟩) (by assumption) ?_
  rotate_left
  · ((intro w hSw; (try dsimp only at hSw); go_simp); try with_reducible rfl)
  (try simp only [Act.put, List.setIfInBounds_toArray, List.set_cons_zero, List.set_cons_succ])
  refine wpAnyH_take (i := 14) (oi := ⟨some 29, _, _, _, _, _⟩) (v := ?_) rfl (by kernel_rfl) (by kernel_rfl) (by kernel_rfl) (fun _ _ _ h => h) (Or.inl ⟨by rfl, ?_⟩) (by assumption) ?_
  rotate_left
  · ((intro w hSw; (try dsimp only at hSw); go_simp); try with_reducible rfl)
  (try simp only [Act.put, List.setIfInBounds_toArray, List.set_cons_zero, List.set_cons_succ])
  refine wpAnyH_take (i := 15) (oi := ⟨some 30, _, _, _, _, _⟩) (v := ?_) rfl (by kernel_rfl) (by kernel_rfl) (by kernel_rfl) (fun _ _ _ h => h) (Or.inl ⟨by rfl, ?_⟩) (by assumption) ?_
  rotate_left
  · ((intro w hSw; (try dsimp only at hSw); go_simp); try with_reducible rfl)
  (try simp only [Act.put, List.setIfInBounds_toArray, List.set_cons_zero, List.set_cons_succ])
  refine wpAnyH_ready (rs := [2]) (by kernel_rfl) (by simp) (AllReadyH.cons rfl (fun K hK => ?_) AllReadyH.nil)
  rw [if_pos (by rfl)]
  go_simp
  go_at_call 39
  (with_reducible refine (C1.out.go hk0).mono ?_)
  rintro e w1 ⟨rfl, hb1⟩
  have hk1 := keepS hk0 hb1
  clear hb1
  refine hK.out _ _ (HKS.out _ hk1) (fun hHeld => ?_)
  clear hK K
  (try simp only [Act.put, List.setIfInBounds_toArray, List.set_cons_zero, List.set_cons_succ])
  refine wpAnyH_take (i := 3) (oi := ⟨some 18, _, _, _, _, _⟩) (v := ?_) rfl (by kernel_rfl) (by kernel_rfl) (by kernel_rfl) (fun _ _ _ h => h) (Or.inl ⟨by rfl, ?_⟩) (by assumption) ?_
  rotate_left
  · ((intro w hSw; (try dsimp only at hSw); go_simp; rw [if_neg (by omega)]); try with_reducible rfl)
  (try simp only [Act.put, List.setIfInBounds_toArray, List.set_cons_zero, List.set_cons_succ])
  refine wpAnyH_take (i := 4) (oi := ⟨some 19, _, _, _, _, _⟩) (v := ?_) rfl (by kernel_rfl) (by kernel_rfl) (by kernel_rfl) (fun _ _ _ h => h) (Or.inl ⟨by rfl, ?_⟩) (by assumption) ?_
  rotate_left
  · ((intro w hSw; (try dsimp only at hSw); go_simp; rw [if_neg (by omega)]); try with_reducible rfl)
  (try simp only [Act.put, List.setIfInBounds_toArray, List.set_cons_zero, List.set_cons_succ])
  refine wpAnyH_ready (rs := [9]) (by kernel_rfl) (by simp) (AllReadyH.cons rfl (fun K hK => ?_) AllReadyH.nil)
  rw [if_pos (by rfl)]
  go_simp
  go_at_call 58
  (with_reducible refine (C2.out.go hk1).mono ?_)
  rintro e w2 ⟨rfl, hb2⟩
  have hk2 := keepS hk1 hb2
  clear hb2
  refine hK.out _ _ (HKS.out _ hk2) (fun hHeld => ?_)
  clear hK K
  (try simp only [Act.put, List.setIfInBounds_toArray, List.set_cons_zero, List.set_cons_succ])
  refine wpAnyH_take (i := 10) (oi := ⟨some 25, _, _, _, _, _⟩) (v := ?_) rfl (by kernel_rfl) (by kernel_rfl) (by kernel_rfl) (fun _ _ _ h => h) (Or.inl ⟨by rfl, ?_⟩) (by assumption) ?_
  rotate_left
  · ((intro w hSw; (try dsimp only at hSw); go_simp; rw [if_neg (by omega)]); try with_reducible rfl)
  (try simp only [Act.put, List.setIfInBounds_toArray, List.set_cons_zero, List.set_cons_succ])
  refine wpAnyH_take (i := 11) (oi := ⟨some 26, _, _, _, _, _⟩) (v := ?_) rfl (by kernel_rfl) (by kernel_rfl) (by kernel_rfl) (fun _ _ _ h => h) (Or.inl ⟨by rfl, ?_⟩) (by assumption) ?_
  rotate_left
  · ((intro w hSw; (try dsimp only at hSw); go_simp; rw [if_neg (by omega)]); try with_reducible rfl)
  (try simp only [Act.put, List.setIfInBounds_toArray, List.set_cons_zero, List.set_cons_succ])
  refine wpAnyH_ready (rs := [16]) (by kernel_rfl) (by simp) (AllReadyH.cons rfl (fun K hK => ?_) AllReadyH.nil)
  rw [if_pos (by rfl)]
  go_simp
  go_at_call 58
  (with_reducible refine (C3.out.go hk2).mono ?_)
  rintro e w3 ⟨rfl, hb3⟩
  have hk3 := keepS hk2 hb3
  clear hb3
  refine hK.out _ _ (HKS.out _ hk3) (fun hHeld => ?_)
  clear hK K
  (try simp only [Act.put, List.setIfInBounds_toArray, List.set_cons_zero, List.set_cons_succ])
  refine wpAnyH_take (i := 17) (oi := ⟨some 32, _, _, _, _, _⟩) (v := ?_) rfl (by kernel_rfl) (by kernel_rfl) (by kernel_rfl) (fun _ _ _ h => h) (Or.inl ⟨by rfl, ?_⟩) (by assumption) ?_
  rotate_left
  · ((intro w hSw; (try dsimp only at hSw); go_simp; rw [if_neg (by omega)]); try with_reducible rfl)
  (try simp only [Act.put, List.setIfInBounds_toArray, List.set_cons_zero, List.set_cons_succ])
  refine wpAnyH_take (i := 18) (oi := ⟨some 2, _, _, _, _, _⟩) (v := ?_) rfl (by kernel_rfl) (by kernel_rfl) (by kernel_rfl) (fun _ _ _ h => h) (Or.inl ⟨by rfl, ?_⟩) (by assumption) ?_
  rotate_left
  · ((intro w hSw; (try dsimp only at hSw); go_simp); try with_reducible rfl)
  (try simp only [Act.put, List.setIfInBounds_toArray, List.set_cons_zero, List.set_cons_succ])
  refine wpAnyH_done (by kernel_rfl) ?_ _
  have hx := HBX.out w3 hk3
  have x0 := hx 0
  have x1 := hx 1
  have x2 := hx 2
  have x3 := hx 3
  have x4 := hx 4
  have x5 := hx 5
  clear hx
  go_wp2_with fail
  go_ret
  exact ⟨congrArg (fun b : ByteArray => Ending.returned (Value.string b)) ((((((((Txt.lit [98, 114, 97, 110, 99, 104, 32]).app X1.out).app (Txt.lit [32])).app X2.out).app (Txt.lit [32])).app X3.out)).is.trans (congrArg mkB rfl)), keepS HB0.out hk3⟩
set_option maxRecDepth 100000 in
set_option maxHeartbeats 4000000 in
theorem end_2 (A To El : Int) (la ma : Option Addr) (ln lc mn mc : Nat) (L M : List Int) (w : World) (h : EndQ w [.int .i64 2, .int .i64 A, .int .i64 To, .int .i64 El, .slice la ln lc, .slice ma mn mc] ⟨2, A, To, El, L, M⟩) (hn1 : ln ≤ 1048576) (hn2 : mn ≤ 1048576) (hp : PT w) :
    Calls Tryd.prog 40 #[.agg #[.int .i64 2, .int .i64 A, .int .i64 To, .int .i64 El, .slice la ln lc, .slice ma mn mc]] w fun e w' => e = .returned (.string (mk (endText ⟨2, A, To, El, L, M⟩))) ∧ Below w.heap.size w w' := by
  obtain ⟨l1, m1, he, rK, rA, rT, rE, ⟨a', n', c', hl, hat1, hnil1, hm1, hr1⟩, ⟨b', k', d', hm, hat2, hnil2, hm2, hr2⟩⟩ := h
  simp only [List.cons.injEq, Value.int.injEq, true_and, and_true] at he
  obtain ⟨rfl, rfl⟩ := he
  cases hl
  cases hm
  have hlen1 : L.length ≤ 1048576 := by rw [hat1.1]; exact hn1
  have hlen2 : M.length ≤ 1048576 := by rw [hat2.1]; exact hn2
  obtain ⟨W, hW⟩ : ∃ W, W = w.alloc (.cells #[.int .i64 2, .int .i64 A, .int .i64 To, .int .i64 El, .slice la ln lc, .slice ma mn mc] 46) := ⟨_, rfl⟩
  have hb0 : Below w.heap.size w W := by rw [hW]; exact (Below.refl _ _).alloc (Nat.le_refl _) _
  have hblk : W.heap[w.heap.size]? = some (.cells #[.int .i64 2, .int .i64 A, .int .i64 To, .int .i64 El, .slice la ln lc, .slice ma mn mc] 46 (0, 0)) := by rw [hW]; exact heap_alloc_new w _
  have HB0 := Lib.hid hb0
  have HBX : RowKit.Hid (∀ u, Below W.heap.size W u → ∀ j, u.cell? ⟨w.heap.size, j, none⟩ = (#[.int .i64 2, .int .i64 A, .int .i64 To, .int .i64 El, .slice la ln lc, .slice ma mn mc] : Array Value)[j]?) := Lib.hid fun u hb j => by
    have : u.heap[w.heap.size]? = _ := (hb.block _ (Array.getElem?_eq_some_iff.1 hblk).1).trans hblk
    simp [World.cell?, this]
  have HKS : RowKit.Hid (∀ u, Below W.heap.size W u → (fun u => u.cell? ⟨w.heap.size, 0, none⟩ = some (.int .i64 2) ∧ u.cell? ⟨w.heap.size, 1, none⟩ = some (.int .i64 A) ∧ u.cell? ⟨w.heap.size, 2, none⟩ = some (.int .i64 To) ∧ u.cell? ⟨w.heap.size, 3, none⟩ = some (.int .i64 El) ∧ u.cell? ⟨w.heap.size, 4, none⟩ = some (.slice la ln lc) ∧ u.cell? ⟨w.heap.size, 5, none⟩ = some (.slice ma mn mc)) u) := Lib.hid fun u hb => ⟨HBX.out u hb 0, HBX.out u hb 1, HBX.out u hb 2, HBX.out u hb 3, HBX.out u hb 4, HBX.out u hb 5⟩
  have X1 := Lib.hid (value_txt rA)
  have C1 := Lib.hid (Says.since (says_value rA hp) hb0)
  obtain ⟨t1, h1⟩ : ∃ t, t = mk (valueText A) := ⟨_, rfl⟩
  rw [← h1] at X1 C1
  have z1 := X1.out.size
  clear h1
  clear hblk hb0 hat1 hat2 hr1 hr2 rK rA rT rE hp
  have hk0 : Below W.heap.size W W := (Below.refl _ _)
  go_enter Tryd.func40, Tryd.ntmps40
  go_upto_region 1 with fail
  rw [← hW]
  clear hW
  have hx := HBX.out W hk0
  have x0 := hx 0
  have x1 := hx 1
  have x2 := hx 2
  have x3 := hx 3
  have x4 := hx 4
  have x5 := hx 5
  clear hx
  go_wp2_with fail
  refine (C1.out.go hk0).mono ?_
  rintro e w1 ⟨rfl, hb1⟩
  have hk1 := keepS hk0 hb1
  clear hb1 x0 x1 x2 x3 x4 x5
  have hx := HBX.out w1 hk1
  have x0 := hx 0
  have x1 := hx 1
  have x2 := hx 2
  have x3 := hx 3
  have x4 := hx 4
  have x5 := hx 5
  clear hx
  go_wp2_with fail
  go_ret
  exact ⟨congrArg (fun b : ByteArray => Ending.returned (Value.string b)) (((Txt.lit [114, 101, 116, 32]).app X1.out).is.trans (congrArg mkB rfl)), keepS HB0.out hk1⟩
set_option maxRecDepth 100000 in
set_option maxHeartbeats 4000000 in
theorem end_3 (A To El : Int) (la ma : Option Addr) (ln lc mn mc : Nat) (L M : List Int) (w : World) (h : EndQ w [.int .i64 3, .int .i64 A, .int .i64 To, .int .i64 El, .slice la ln lc, .slice ma mn mc] ⟨3, A, To, El, L, M⟩) (hn1 : ln ≤ 1048576) (hn2 : mn ≤ 1048576) (hp : PT w) :
    Calls Tryd.prog 40 #[.agg #[.int .i64 3, .int .i64 A, .int .i64 To, .int .i64 El, .slice la ln lc, .slice ma mn mc]] w fun e w' => e = .returned (.string (mk (endText ⟨3, A, To, El, L, M⟩))) ∧ Below w.heap.size w w' := by
  obtain ⟨l1, m1, he, rK, rA, rT, rE, ⟨a', n', c', hl, hat1, hnil1, hm1, hr1⟩, ⟨b', k', d', hm, hat2, hnil2, hm2, hr2⟩⟩ := h
  simp only [List.cons.injEq, Value.int.injEq, true_and, and_true] at he
  obtain ⟨rfl, rfl⟩ := he
  cases hl
  cases hm
  have hlen1 : L.length ≤ 1048576 := by rw [hat1.1]; exact hn1
  have hlen2 : M.length ≤ 1048576 := by rw [hat2.1]; exact hn2
  obtain ⟨W, hW⟩ : ∃ W, W = w.alloc (.cells #[.int .i64 3, .int .i64 A, .int .i64 To, .int .i64 El, .slice la ln lc, .slice ma mn mc] 46) := ⟨_, rfl⟩
  have hb0 : Below w.heap.size w W := by rw [hW]; exact (Below.refl _ _).alloc (Nat.le_refl _) _
  have hblk : W.heap[w.heap.size]? = some (.cells #[.int .i64 3, .int .i64 A, .int .i64 To, .int .i64 El, .slice la ln lc, .slice ma mn mc] 46 (0, 0)) := by rw [hW]; exact heap_alloc_new w _
  have HB0 := Lib.hid hb0
  have HBX : RowKit.Hid (∀ u, Below W.heap.size W u → ∀ j, u.cell? ⟨w.heap.size, j, none⟩ = (#[.int .i64 3, .int .i64 A, .int .i64 To, .int .i64 El, .slice la ln lc, .slice ma mn mc] : Array Value)[j]?) := Lib.hid fun u hb j => by
    have : u.heap[w.heap.size]? = _ := (hb.block _ (Array.getElem?_eq_some_iff.1 hblk).1).trans hblk
    simp [World.cell?, this]
  have HKS : RowKit.Hid (∀ u, Below W.heap.size W u → (fun u => u.cell? ⟨w.heap.size, 0, none⟩ = some (.int .i64 3) ∧ u.cell? ⟨w.heap.size, 1, none⟩ = some (.int .i64 A) ∧ u.cell? ⟨w.heap.size, 2, none⟩ = some (.int .i64 To) ∧ u.cell? ⟨w.heap.size, 3, none⟩ = some (.int .i64 El) ∧ u.cell? ⟨w.heap.size, 4, none⟩ = some (.slice la ln lc) ∧ u.cell? ⟨w.heap.size, 5, none⟩ = some (.slice ma mn mc)) u) := Lib.hid fun u hb => ⟨HBX.out u hb 0, HBX.out u hb 1, HBX.out u hb 2, HBX.out u hb 3, HBX.out u hb 4, HBX.out u hb 5⟩
  have X1 := Lib.hid (value_txt rA)
  have C1 := Lib.hid (Says.since (says_value rA hp) hb0)
  obtain ⟨t1, h1⟩ : ∃ t, t = mk (valueText A) := ⟨_, rfl⟩
  rw [← h1] at X1 C1
  have z1 := X1.out.size
  clear h1
  clear hblk hb0 hat1 hat2 hr1 hr2 rK rA rT rE hp
  have hk0 : Below W.heap.size W W := (Below.refl _ _)
  go_enter Tryd.func40, Tryd.ntmps40
  go_upto_region 1 with fail
  rw [← hW]
  clear hW
  have hx := HBX.out W hk0
  have x0 := hx 0
  have x1 := hx 1
  have x2 := hx 2
  have x3 := hx 3
  have x4 := hx 4
  have x5 := hx 5
  clear hx
  go_wp2_with fail
  refine (C1.out.go hk0).mono ?_
  rintro e w1 ⟨rfl, hb1⟩
  have hk1 := keepS hk0 hb1
  clear hb1 x0 x1 x2 x3 x4 x5
  have hx := HBX.out w1 hk1
  have x0 := hx 0
  have x1 := hx 1
  have x2 := hx 2
  have x3 := hx 3
  have x4 := hx 4
  have x5 := hx 5
  clear hx
  go_wp2_with fail
  go_ret
  exact ⟨congrArg (fun b : ByteArray => Ending.returned (Value.string b)) (((Txt.lit [115, 116, 111, 112, 32]).app X1.out).is.trans (congrArg mkB rfl)), keepS HB0.out hk1⟩
set_option maxRecDepth 100000 in
set_option maxHeartbeats 4000000 in
theorem end_x (K A To El : Int) (la ma : Option Addr) (ln lc mn mc : Nat) (L M : List Int) (w : World) (h : EndQ w [.int .i64 K, .int .i64 A, .int .i64 To, .int .i64 El, .slice la ln lc, .slice ma mn mc] ⟨K, A, To, El, L, M⟩) (hn1 : ln ≤ 1048576) (hn2 : mn ≤ 1048576) (hp : PT w) (hk : K ≠ 0 ∧ K ≠ 1 ∧ K ≠ 2 ∧ K ≠ 3) (q0 : (K == 0) = false) (q1 : (K == 1) = false) (q2 : (K == 2) = false) (q3 : (K == 3) = false) :
    Calls Tryd.prog 40 #[.agg #[.int .i64 K, .int .i64 A, .int .i64 To, .int .i64 El, .slice la ln lc, .slice ma mn mc]] w fun e w' => e = .returned (.string (mk (endText ⟨K, A, To, El, L, M⟩))) ∧ Below w.heap.size w w' := by
  obtain ⟨l1, m1, he, rK, rA, rT, rE, ⟨a', n', c', hl, hat1, hnil1, hm1, hr1⟩, ⟨b', k', d', hm, hat2, hnil2, hm2, hr2⟩⟩ := h
  simp only [List.cons.injEq, Value.int.injEq, true_and, and_true] at he
  obtain ⟨rfl, rfl⟩ := he
  cases hl
  cases hm
  have hlen1 : L.length ≤ 1048576 := by rw [hat1.1]; exact hn1
  have hlen2 : M.length ≤ 1048576 := by rw [hat2.1]; exact hn2
  obtain ⟨W, hW⟩ : ∃ W, W = w.alloc (.cells #[.int .i64 K, .int .i64 A, .int .i64 To, .int .i64 El, .slice la ln lc, .slice ma mn mc] 46) := ⟨_, rfl⟩
  have hb0 : Below w.heap.size w W := by rw [hW]; exact (Below.refl _ _).alloc (Nat.le_refl _) _
  have hblk : W.heap[w.heap.size]? = some (.cells #[.int .i64 K, .int .i64 A, .int .i64 To, .int .i64 El, .slice la ln lc, .slice ma mn mc] 46 (0, 0)) := by rw [hW]; exact heap_alloc_new w _
  have HB0 := Lib.hid hb0
  have HBX : RowKit.Hid (∀ u, Below W.heap.size W u → ∀ j, u.cell? ⟨w.heap.size, j, none⟩ = (#[.int .i64 K, .int .i64 A, .int .i64 To, .int .i64 El, .slice la ln lc, .slice ma mn mc] : Array Value)[j]?) := Lib.hid fun u hb j => by
    have : u.heap[w.heap.size]? = _ := (hb.block _ (Array.getElem?_eq_some_iff.1 hblk).1).trans hblk
    simp [World.cell?, this]
  have HKS : RowKit.Hid (∀ u, Below W.heap.size W u → (fun u => u.cell? ⟨w.heap.size, 0, none⟩ = some (.int .i64 K) ∧ u.cell? ⟨w.heap.size, 1, none⟩ = some (.int .i64 A) ∧ u.cell? ⟨w.heap.size, 2, none⟩ = some (.int .i64 To) ∧ u.cell? ⟨w.heap.size, 3, none⟩ = some (.int .i64 El) ∧ u.cell? ⟨w.heap.size, 4, none⟩ = some (.slice la ln lc) ∧ u.cell? ⟨w.heap.size, 5, none⟩ = some (.slice ma mn mc)) u) := Lib.hid fun u hb => ⟨HBX.out u hb 0, HBX.out u hb 1, HBX.out u hb 2, HBX.out u hb 3, HBX.out u hb 4, HBX.out u hb 5⟩
  clear hblk hb0 hat1 hat2 hr1 hr2 rK rA rT rE hp
  have hk0 : Below W.heap.size W W := (Below.refl _ _)
  go_enter Tryd.func40, Tryd.ntmps40
  go_upto_region 1 with fail
  rw [← hW]
  clear hW
  have hx := HBX.out W hk0
  have x0 := hx 0
  have x1 := hx 1
  have x2 := hx 2
  have x3 := hx 3
  have x4 := hx 4
  have x5 := hx 5
  clear hx
  go_wp2_with fail
  go_ret
  exact ⟨congrArg (fun b : ByteArray => Ending.returned (Value.string b)) ((Txt.lit [63]).is.trans (congrArg mkB (by unfold endText; simp only; rw [if_neg hk.1, if_neg hk.2.1, if_neg hk.2.2.1, if_neg hk.2.2.2]))), keepS HB0.out hk0⟩
theorem end_any (la ma : Option Addr) (ln lc mn mc : Nat) (y : EndD) (w : World) (h : EndQ w [.int .i64 y.K, .int .i64 y.A, .int .i64 y.To, .int .i64 y.Else, .slice la ln lc, .slice ma mn mc] y) (hn1 : ln ≤ 1048576) (hn2 : mn ≤ 1048576) (hp : PT w) :
    Calls Tryd.prog 40 #[.agg #[.int .i64 y.K, .int .i64 y.A, .int .i64 y.To, .int .i64 y.Else, .slice la ln lc, .slice ma mn mc]] w fun e w' => e = .returned (.string (mk (endText y))) ∧ Below w.heap.size w w' := by
  obtain ⟨K, A, To, El, L, M⟩ := y
  by_cases h0 : K = 0
  · subst h0; exact end_0 A To El la ma ln lc mn mc L M w h hn1 hn2 hp
  by_cases h1 : K = 1
  · subst h1; exact end_1 A To El la ma ln lc mn mc L M w h hn1 hn2 hp
  by_cases h2 : K = 2
  · subst h2; exact end_2 A To El la ma ln lc mn mc L M w h hn1 hn2 hp
  by_cases h3 : K = 3
  · subst h3; exact end_3 A To El la ma ln lc mn mc L M w h hn1 hn2 hp
  exact end_x K A To El la ma ln lc mn mc L M w h hn1 hn2 hp ⟨h0, h1, h2, h3⟩ (by rw [beq_eq_false_iff_ne]; exact h0) (by rw [beq_eq_false_iff_ne]; exact h1) (by rw [beq_eq_false_iff_ne]; exact h2) (by rw [beq_eq_false_iff_ne]; exact h3)
theorem nums_txt {L : List Int} (h2 : L.length ≤ 1048576) (hr : ∀ z ∈ L, InR z) : Txt (mk (listText valueText L)) (listText valueText L) 100000000 := ⟨rfl, texts_len value_len h2 hr⟩
theorem digits_txt {L : List Int} (h2 : L.length ≤ 1048576) (hr : ∀ z ∈ L, InR z) : Txt (mk (listText Lib.itoa L)) (listText Lib.itoa L) 100000000 := ⟨rfl, texts_len itoa_len h2 hr⟩
set_option maxRecDepth 100000 in
set_option maxHeartbeats 4000000 in
theorem rend_0 (A To El : Int) (la ma : Option Addr) (ln lc mn mc : Nat) (L M : List Int) (w : World) (h : EndQ w [.int .i64 0, .int .i64 A, .int .i64 To, .int .i64 El, .slice la ln lc, .slice ma mn mc] ⟨0, A, To, El, L, M⟩) (hn1 : ln ≤ 1048576) (hn2 : mn ≤ 1048576) :
    Calls Tryd.prog 25 #[.agg #[.int .i64 0, .int .i64 A, .int .i64 To, .int .i64 El, .slice la ln lc, .slice ma mn mc]] w fun e w' => e = .returned (.string (mk (endText ⟨0, A, To, El, L, M⟩))) ∧ Below w.heap.size w w' := by
  obtain ⟨l1, m1, he, rK, rA, rT, rE, ⟨a', n', c', hl, hat1, hnil1, hm1, hr1⟩, ⟨b', k', d', hm, hat2, hnil2, hm2, hr2⟩⟩ := h
  simp only [List.cons.injEq, Value.int.injEq, true_and, and_true] at he
  obtain ⟨rfl, rfl⟩ := he
  cases hl
  cases hm
  have hlen1 : L.length ≤ 1048576 := by rw [hat1.1]; exact hn1
  have hlen2 : M.length ≤ 1048576 := by rw [hat2.1]; exact hn2
  obtain ⟨W, hW⟩ : ∃ W, W = w.alloc (.cells #[.int .i64 0, .int .i64 A, .int .i64 To, .int .i64 El, .slice la ln lc, .slice ma mn mc] 46) := ⟨_, rfl⟩
  have hb0 : Below w.heap.size w W := by rw [hW]; exact (Below.refl _ _).alloc (Nat.le_refl _) _
  have hblk : W.heap[w.heap.size]? = some (.cells #[.int .i64 0, .int .i64 A, .int .i64 To, .int .i64 El, .slice la ln lc, .slice ma mn mc] 46 (0, 0)) := by rw [hW]; exact heap_alloc_new w _
  have HB0 := Lib.hid hb0
  have HBX : RowKit.Hid (∀ u, Below W.heap.size W u → ∀ j, u.cell? ⟨w.heap.size, j, none⟩ = (#[.int .i64 0, .int .i64 A, .int .i64 To, .int .i64 El, .slice la ln lc, .slice ma mn mc] : Array Value)[j]?) := Lib.hid fun u hb j => by
    have : u.heap[w.heap.size]? = _ := (hb.block _ (Array.getElem?_eq_some_iff.1 hblk).1).trans hblk
    simp [World.cell?, this]
  have HKS : RowKit.Hid (∀ u, Below W.heap.size W u → (fun u => u.cell? ⟨w.heap.size, 0, none⟩ = some (.int .i64 0) ∧ u.cell? ⟨w.heap.size, 1, none⟩ = some (.int .i64 A) ∧ u.cell? ⟨w.heap.size, 2, none⟩ = some (.int .i64 To) ∧ u.cell? ⟨w.heap.size, 3, none⟩ = some (.int .i64 El) ∧ u.cell? ⟨w.heap.size, 4, none⟩ = some (.slice la ln lc) ∧ u.cell? ⟨w.heap.size, 5, none⟩ = some (.slice ma mn mc)) u) := Lib.hid fun u hb => ⟨HBX.out u hb 0, HBX.out u hb 1, HBX.out u hb 2, HBX.out u hb 3, HBX.out u hb 4, HBX.out u hb 5⟩
  have X1 := Lib.hid (itoa_txt rT)
  have C1 := Lib.hid (Says.since (says_num rT) hb0)
  obtain ⟨t1, h1⟩ : ∃ t, t = mkB (Lib.itoa To) := ⟨_, rfl⟩
  rw [← h1] at X1 C1
  have z1 := X1.out.size
  have X2 := Lib.hid (nums_txt hlen1 hr1)
  have C2 := Lib.hid (Says.since (says_list1 (c := lc) hat1 hn1 hr1) hb0)
  obtain ⟨t2, h2⟩ : ∃ t, t = mk (listText valueText L) := ⟨_, rfl⟩
  rw [← h2] at X2 C2
  have z2 := X2.out.size
  have X3 := Lib.hid (itoa_txt rE)
  have C3 := Lib.hid (Says.since (says_num rE) hb0)
  obtain ⟨t3, h3⟩ : ∃ t, t = mkB (Lib.itoa El) := ⟨_, rfl⟩
  rw [← h3] at X3 C3
  have z3 := X3.out.size
  have X4 := Lib.hid (nums_txt hlen2 hr2)
  have C4 := Lib.hid (Says.since (says_list1 (c := mc) hat2 hn2 hr2) hb0)
  obtain ⟨t4, h4⟩ : ∃ t, t = mk (listText valueText M) := ⟨_, rfl⟩
  rw [← h4] at X4 C4
  have z4 := X4.out.size
  clear h1 h2 h3 h4
  clear hblk hb0 hat1 hat2 hr1 hr2 rK rA rT rE
  have hk0 : Below W.heap.size W W.drew := (Below.refl _ _).drew
  go_enter Tryd.func25, Tryd.ntmps25
  go_upto_region 1 with fail
  rw [← hW]
  clear hW
  refine wp_region_held_drew (S := (fun u => u.cell? ⟨w.heap.size, 0, none⟩ = some (.int .i64 0) ∧ u.cell? ⟨w.heap.size, 1, none⟩ = some (.int .i64 A) ∧ u.cell? ⟨w.heap.size, 2, none⟩ = some (.int .i64 To) ∧ u.cell? ⟨w.heap.size, 3, none⟩ = some (.int .i64 El) ∧ u.cell? ⟨w.heap.size, 4, none⟩ = some (.slice la ln lc) ∧ u.cell? ⟨w.heap.size, 5, none⟩ = some (.slice ma mn mc))) (by kernel_rfl) (HKS.out _ hk0) (fun hHeld => ?_)
  refine wpAnyH_take (i := 0) (oi := ⟨some 5, _, _, _, _, _⟩) (v := ?_) rfl (by kernel_rfl) (by kernel_rfl) (by kernel_rfl) (fun _ _ _ h => h) (Or.inl ⟨by rfl, ?_⟩) (by assumption) ?_
  rotate_left
  · ((intro w hSw; (try dsimp only at hSw); go_simp); try with_reducible rfl)
  (try simp only [Act.put, List.setIfInBounds_toArray, List.set_cons_zero, List.set_cons_succ])
  refine wpAnyH_take (i := 1) (oi := ⟨some 6, _, _, _, _, _⟩) (v := ?_) rfl (by kernel_rfl) (by kernel_rfl) (by kernel_rfl) (fun _ _ _ h => h) (Or.inl ⟨by rfl, ?_⟩) (by assumption) ?_
  rotate_left
  · ((intro w hSw; (try dsimp only at hSw); go_simp); try with_reducible rfl)
  (try simp only [Act.put, List.setIfInBounds_toArray, List.set_cons_zero, List.set_cons_succ])
  refine wpAnyH_take (i := 4) (oi := ⟨some 9, _, _, _, _, _⟩) (v := ?_) rfl (by kernel_rfl) (by kernel_rfl) (by kernel_rfl) (fun _ _ _ h => h) (Or.inl ⟨by rfl, ?_⟩) (by assumption) ?_
  rotate_left
  · ((intro w hSw; (try dsimp only at hSw); go_simp); try with_reducible rfl)
  (try simp only [Act.put, List.setIfInBounds_toArray, List.set_cons_zero, List.set_cons_succ])
  refine wpAnyH_take (i := 5) (oi := ⟨some 10, _, _, _, _, _⟩) (v := ?_) rfl (by kernel_rfl) (by kernel_rfl) (by kernel_rfl) (fun _ _ _ h => h) (Or.inl ⟨by rfl, ?_⟩) (by assumption) ?_
  rotate_left
  · ((intro w hSw; (try dsimp only at hSw); go_simp); try with_reducible rfl)
  (try simp only [Act.put, List.setIfInBounds_toArray, List.set_cons_zero, List.set_cons_succ])
  refine wpAnyH_take (i := 9) (oi := ⟨some 14, _, _, _, _, _⟩) (v := ?_) rfl (by kernel_rfl) (by kernel_rfl) (by kernel_rfl) (fun _ _ _ h => h) (Or.inl ⟨by rfl, ?_⟩) (by assumption) ?_
  rotate_left
  · ((intro w hSw; (try dsimp only at hSw); go_simp); try with_reducible rfl)
  (try simp only [Act.put, List.setIfInBounds_toArray, List.set_cons_zero, List.set_cons_succ])
  refine wpAnyH_take (i := 10) (oi := ⟨some 15, _, _, _, _, _⟩) (v := ?_) rfl (by kernel_rfl) (by kernel_rfl) (by kernel_rfl) (fun _ _ _ h => h) (Or.inl ⟨by rfl, ?_⟩) (by assumption) ?_
  rotate_left
  · ((intro w hSw; (try dsimp only at hSw); go_simp); try with_reducible rfl)
  (try simp only [Act.put, List.setIfInBounds_toArray, List.set_cons_zero, List.set_cons_succ])
  refine wpAnyH_take (i := 13) (oi := ⟨some 18, _, _, _, _, _⟩) (v := ?_) rfl (by kernel_rfl) (by kernel_rfl) (by kernel_rfl) (fun _ _ _ h => h) (Or.inl ⟨by rfl, ?_⟩) (by assumption) ?_
  rotate_left
  · ((intro w hSw; (try dsimp only at hSw); go_simp); try with_reducible rfl)
  (try simp only [Act.put, List.setIfInBounds_toArray, List.set_cons_zero, List.set_cons_succ])
  refine wpAnyH_take (i := 14) (oi := ⟨some 19, _, _, _, _, _⟩) (v := ?_) rfl (by kernel_rfl) (by kernel_rfl) (by kernel_rfl) (fun _ _ _ h => h) (Or.inl ⟨by rfl, ?_⟩) (by assumption) ?_
  rotate_left
  · ((intro w hSw; (try dsimp only at hSw); go_simp); try with_reducible rfl)
  (try simp only [Act.put, List.setIfInBounds_toArray, List.set_cons_zero, List.set_cons_succ])
  refine wpAnyH_ready (rs := [2]) (by kernel_rfl) (by simp) (AllReadyH.cons rfl (fun K hK => ?_) AllReadyH.nil)
  rw [if_pos (by rfl)]
  go_simp
  go_at_call 23
  (with_reducible refine (C1.out.go hk0).mono ?_)
  rintro e w1 ⟨rfl, hb1⟩
  have hk1 := keepS hk0 hb1
  clear hb1
  refine hK.out _ _ (HKS.out _ hk1) (fun hHeld => ?_)
  clear hK K
  (try simp only [Act.put, List.setIfInBounds_toArray, List.set_cons_zero, List.set_cons_succ])
  refine wpAnyH_take (i := 3) (oi := ⟨some 8, _, _, _, _, _⟩) (v := ?_) rfl (by kernel_rfl) (by kernel_rfl) (by kernel_rfl) (fun _ _ _ h => h) (Or.inl ⟨by rfl, ?_⟩) (by assumption) ?_
  rotate_left
  · ((intro w hSw; (try dsimp only at hSw); go_simp; rw [if_neg (by omega)]); try with_reducible rfl)
  (try simp only [Act.put, List.setIfInBounds_toArray, List.set_cons_zero, List.set_cons_succ])
  refine wpAnyH_ready (rs := [6]) (by kernel_rfl) (by simp) (AllReadyH.cons rfl (fun K hK => ?_) AllReadyH.nil)
  rw [if_pos (by rfl)]
  go_simp
  go_at_call 18
  (with_reducible refine (C2.out.go hk1).mono ?_)
  rintro e w2 ⟨rfl, hb2⟩
  have hk2 := keepS hk1 hb2
  clear hb2
  refine hK.out _ _ (HKS.out _ hk2) (fun hHeld => ?_)
  clear hK K
  (try simp only [Act.put, List.setIfInBounds_toArray, List.set_cons_zero, List.set_cons_succ])
  refine wpAnyH_take (i := 7) (oi := ⟨some 12, _, _, _, _, _⟩) (v := ?_) rfl (by kernel_rfl) (by kernel_rfl) (by kernel_rfl) (fun _ _ _ h => h) (Or.inl ⟨by rfl, ?_⟩) (by assumption) ?_
  rotate_left
  · ((intro w hSw; (try dsimp only at hSw); go_simp; rw [if_neg (by omega)]); try with_reducible rfl)
  (try simp only [Act.put, List.setIfInBounds_toArray, List.set_cons_zero, List.set_cons_succ])
  refine wpAnyH_take (i := 8) (oi := ⟨some 13, _, _, _, _, _⟩) (v := ?_) rfl (by kernel_rfl) (by kernel_rfl) (by kernel_rfl) (fun _ _ _ h => h) (Or.inl ⟨by rfl, ?_⟩) (by assumption) ?_
  rotate_left
  · ((intro w hSw; (try dsimp only at hSw); go_simp; rw [if_neg (by omega)]); try with_reducible rfl)
  (try simp only [Act.put, List.setIfInBounds_toArray, List.set_cons_zero, List.set_cons_succ])
  refine wpAnyH_ready (rs := [11]) (by kernel_rfl) (by simp) (AllReadyH.cons rfl (fun K hK => ?_) AllReadyH.nil)
  rw [if_pos (by rfl)]
  go_simp
  go_at_call 23
  (with_reducible refine (C3.out.go hk2).mono ?_)
  rintro e w3 ⟨rfl, hb3⟩
  have hk3 := keepS hk2 hb3
  clear hb3
  refine hK.out _ _ (HKS.out _ hk3) (fun hHeld => ?_)
  clear hK K
  (try simp only [Act.put, List.setIfInBounds_toArray, List.set_cons_zero, List.set_cons_succ])
  refine wpAnyH_take (i := 12) (oi := ⟨some 17, _, _, _, _, _⟩) (v := ?_) rfl (by kernel_rfl) (by kernel_rfl) (by kernel_rfl) (fun _ _ _ h => h) (Or.inl ⟨by rfl, ?_⟩) (by assumption) ?_
  rotate_left
  · ((intro w hSw; (try dsimp only at hSw); go_simp; rw [if_neg (by omega)]); try with_reducible rfl)
  (try simp only [Act.put, List.setIfInBounds_toArray, List.set_cons_zero, List.set_cons_succ])
  refine wpAnyH_ready (rs := [15]) (by kernel_rfl) (by simp) (AllReadyH.cons rfl (fun K hK => ?_) AllReadyH.nil)
  rw [if_pos (by rfl)]
  go_simp
  go_at_call 18
  (with_reducible refine (C4.out.go hk3).mono ?_)
  rintro e w4 ⟨rfl, hb4⟩
  have hk4 := keepS hk3 hb4
  clear hb4
  refine hK.out _ _ (HKS.out _ hk4) (fun hHeld => ?_)
  clear hK K
  (try simp only [Act.put, List.setIfInBounds_toArray, List.set_cons_zero, List.set_cons_succ])
  refine wpAnyH_take (i := 16) (oi := ⟨some 21, _, _, _, _, _⟩) (v := ?_) rfl (by kernel_rfl) (by kernel_rfl) (by kernel_rfl) (fun _ _ _ h => h) (Or.inl ⟨by rfl, ?_⟩) (by assumption) ?_
  rotate_left
  · ((intro w hSw; (try dsimp only at hSw); go_simp; rw [if_neg (by omega)]); try with_reducible rfl)
  (try simp only [Act.put, List.setIfInBounds_toArray, List.set_cons_zero, List.set_cons_succ])
  refine wpAnyH_take (i := 17) (oi := ⟨some 22, _, _, _, _, _⟩) (v := ?_) rfl (by kernel_rfl) (by kernel_rfl) (by kernel_rfl) (fun _ _ _ h => h) (Or.inl ⟨by rfl, ?_⟩) (by assumption) ?_
  rotate_left
  · ((intro w hSw; (try dsimp only at hSw); go_simp; rw [if_neg (by omega)]); try with_reducible rfl)
  (try simp only [Act.put, List.setIfInBounds_toArray, List.set_cons_zero, List.set_cons_succ])
  refine wpAnyH_take (i := 18) (oi := ⟨some 3, _, _, _, _, _⟩) (v := ?_) rfl (by kernel_rfl) (by kernel_rfl) (by kernel_rfl) (fun _ _ _ h => h) (Or.inl ⟨by rfl, ?_⟩) (by assumption) ?_
  rotate_left
  · ((intro w hSw; (try dsimp only at hSw); go_simp); try with_reducible rfl)
  (try simp only [Act.put, List.setIfInBounds_toArray, List.set_cons_zero, List.set_cons_succ])
  refine wpAnyH_take (i := 19) (oi := ⟨some 4, _, _, _, _, _⟩) (v := ?_) rfl (by kernel_rfl) (by kernel_rfl) (by kernel_rfl) (fun _ _ _ h => h) (Or.inl ⟨by rfl, ?_⟩) (by assumption) ?_
  rotate_left
  · ((intro w hSw; (try dsimp only at hSw); go_simp); try with_reducible rfl)
  (try simp only [Act.put, List.setIfInBounds_toArray, List.set_cons_zero, List.set_cons_succ])
  refine wpAnyH_done (by kernel_rfl) ?_ _
  have hx := HBX.out w4 hk4
  have x0 := hx 0
  have x1 := hx 1
  have x2 := hx 2
  have x3 := hx 3
  have x4 := hx 4
  have x5 := hx 5
  clear hx
  go_wp2_with fail
  go_ret
  exact ⟨congrArg (fun b : ByteArray => Ending.returned (Value.string b)) (((Txt.lit [106, 117, 109, 112, 32]).app (((X1.out.app (Txt.lit [40])).app X2.out).app (Txt.lit [41]))).is.trans (congrArg mkB (by simp [endText, targetText, listV, valueText]))), keepS HB0.out hk4⟩
set_option maxRecDepth 100000 in
set_option maxHeartbeats 4000000 in
theorem rend_1 (A To El : Int) (la ma : Option Addr) (ln lc mn mc : Nat) (L M : List Int) (w : World) (h : EndQ w [.int .i64 1, .int .i64 A, .int .i64 To, .int .i64 El, .slice la ln lc, .slice ma mn mc] ⟨1, A, To, El, L, M⟩) (hn1 : ln ≤ 1048576) (hn2 : mn ≤ 1048576) :
    Calls Tryd.prog 25 #[.agg #[.int .i64 1, .int .i64 A, .int .i64 To, .int .i64 El, .slice la ln lc, .slice ma mn mc]] w fun e w' => e = .returned (.string (mk (endText ⟨1, A, To, El, L, M⟩))) ∧ Below w.heap.size w w' := by
  obtain ⟨l1, m1, he, rK, rA, rT, rE, ⟨a', n', c', hl, hat1, hnil1, hm1, hr1⟩, ⟨b', k', d', hm, hat2, hnil2, hm2, hr2⟩⟩ := h
  simp only [List.cons.injEq, Value.int.injEq, true_and, and_true] at he
  obtain ⟨rfl, rfl⟩ := he
  cases hl
  cases hm
  have hlen1 : L.length ≤ 1048576 := by rw [hat1.1]; exact hn1
  have hlen2 : M.length ≤ 1048576 := by rw [hat2.1]; exact hn2
  obtain ⟨W, hW⟩ : ∃ W, W = w.alloc (.cells #[.int .i64 1, .int .i64 A, .int .i64 To, .int .i64 El, .slice la ln lc, .slice ma mn mc] 46) := ⟨_, rfl⟩
  have hb0 : Below w.heap.size w W := by rw [hW]; exact (Below.refl _ _).alloc (Nat.le_refl _) _
  have hblk : W.heap[w.heap.size]? = some (.cells #[.int .i64 1, .int .i64 A, .int .i64 To, .int .i64 El, .slice la ln lc, .slice ma mn mc] 46 (0, 0)) := by rw [hW]; exact heap_alloc_new w _
  have HB0 := Lib.hid hb0
  have HBX : RowKit.Hid (∀ u, Below W.heap.size W u → ∀ j, u.cell? ⟨w.heap.size, j, none⟩ = (#[.int .i64 1, .int .i64 A, .int .i64 To, .int .i64 El, .slice la ln lc, .slice ma mn mc] : Array Value)[j]?) := Lib.hid fun u hb j => by
    have : u.heap[w.heap.size]? = _ := (hb.block _ (Array.getElem?_eq_some_iff.1 hblk).1).trans hblk
    simp [World.cell?, this]
  have HKS : RowKit.Hid (∀ u, Below W.heap.size W u → (fun u => u.cell? ⟨w.heap.size, 0, none⟩ = some (.int .i64 1) ∧ u.cell? ⟨w.heap.size, 1, none⟩ = some (.int .i64 A) ∧ u.cell? ⟨w.heap.size, 2, none⟩ = some (.int .i64 To) ∧ u.cell? ⟨w.heap.size, 3, none⟩ = some (.int .i64 El) ∧ u.cell? ⟨w.heap.size, 4, none⟩ = some (.slice la ln lc) ∧ u.cell? ⟨w.heap.size, 5, none⟩ = some (.slice ma mn mc)) u) := Lib.hid fun u hb => ⟨HBX.out u hb 0, HBX.out u hb 1, HBX.out u hb 2, HBX.out u hb 3, HBX.out u hb 4, HBX.out u hb 5⟩
  have X1 := Lib.hid (itoa_txt rT)
  have C1 := Lib.hid (Says.since (says_num rT) hb0)
  obtain ⟨t1, h1⟩ : ∃ t, t = mkB (Lib.itoa To) := ⟨_, rfl⟩
  rw [← h1] at X1 C1
  have z1 := X1.out.size
  have X2 := Lib.hid (nums_txt hlen1 hr1)
  have C2 := Lib.hid (Says.since (says_list1 (c := lc) hat1 hn1 hr1) hb0)
  obtain ⟨t2, h2⟩ : ∃ t, t = mk (listText valueText L) := ⟨_, rfl⟩
  rw [← h2] at X2 C2
  have z2 := X2.out.size
  have X3 := Lib.hid (itoa_txt rE)
  have C3 := Lib.hid (Says.since (says_num rE) hb0)
  obtain ⟨t3, h3⟩ : ∃ t, t = mkB (Lib.itoa El) := ⟨_, rfl⟩
  rw [← h3] at X3 C3
  have z3 := X3.out.size
  have X4 := Lib.hid (nums_txt hlen2 hr2)
  have C4 := Lib.hid (Says.since (says_list1 (c := mc) hat2 hn2 hr2) hb0)
  obtain ⟨t4, h4⟩ : ∃ t, t = mk (listText valueText M) := ⟨_, rfl⟩
  rw [← h4] at X4 C4
  have z4 := X4.out.size
  have X5 := Lib.hid (itoa_txt rA)
  have C5 := Lib.hid (Says.since (says_num rA) hb0)
  obtain ⟨t5, h5⟩ : ∃ t, t = mkB (Lib.itoa A) := ⟨_, rfl⟩
  rw [← h5] at X5 C5
  have z5 := X5.out.size
  clear h1 h2 h3 h4 h5
  clear hblk hb0 hat1 hat2 hr1 hr2 rK rA rT rE
  have hk0 : Below W.heap.size W W.drew := (Below.refl _ _).drew
  go_enter Tryd.func25, Tryd.ntmps25
  go_upto_region 1 with fail
  rw [← hW]
  clear hW
  refine wp_region_held_drew (S := (fun u => u.cell? ⟨w.heap.size, 0, none⟩ = some (.int .i64 1) ∧ u.cell? ⟨w.heap.size, 1, none⟩ = some (.int .i64 A) ∧ u.cell? ⟨w.heap.size, 2, none⟩ = some (.int .i64 To) ∧ u.cell? ⟨w.heap.size, 3, none⟩ = some (.int .i64 El) ∧ u.cell? ⟨w.heap.size, 4, none⟩ = some (.slice la ln lc) ∧ u.cell? ⟨w.heap.size, 5, none⟩ = some (.slice ma mn mc))) (by kernel_rfl) (HKS.out _ hk0) (fun hHeld => ?_)
  refine wpAnyH_take (i := 0) (oi := ⟨some 5, _, _, _, _, _⟩) (v := ?_) rfl (by kernel_rfl) (by kernel_rfl) (by kernel_rfl) (fun _ _ _ h => h) (Or.inl ⟨by rfl, ?_⟩) (by assumption) ?_
  rotate_left
  · ((intro w hSw; (try dsimp only at hSw); go_simp); try with_reducible rfl)
  (try simp only [Act.put, List.setIfInBounds_toArray, List.set_cons_zero, List.set_cons_succ])
  refine wpAnyH_take (i := 1) (oi := ⟨some 6, _, _, _, _, _⟩) (v := ?_) rfl (by kernel_rfl) (by kernel_rfl) (by kernel_rfl) (fun _ _ _ h => h) (Or.inl ⟨by rfl, ?_⟩) (by assumption) ?_
  rotate_left
  · ((intro w hSw; (try dsimp only at hSw); go_simp); try with_reducible rfl)
  (try simp only [Act.put, List.setIfInBounds_toArray, List.set_cons_zero, List.set_cons_succ])
  refine wpAnyH_take (i := 4) (oi := ⟨some 9, _, _, _, _, _⟩) (v := ?_) rfl (by kernel_rfl) (by kernel_rfl) (by kernel_rfl) (fun _ _ _ h => h) (Or.inl ⟨by rfl, ?_⟩) (by assumption) ?_
  rotate_left
  · ((intro w hSw; (try dsimp only at hSw); go_simp); try with_reducible rfl)
  (try simp only [Act.put, List.setIfInBounds_toArray, List.set_cons_zero, List.set_cons_succ])
  refine wpAnyH_take (i := 5) (oi := ⟨some 10, _, _, _, _, _⟩) (v := ?_) rfl (by kernel_rfl) (by kernel_rfl) (by kernel_rfl) (fun _ _ _ h => h) (Or.inl ⟨by rfl, ?_⟩) (by assumption) ?_
  rotate_left
  · ((intro w hSw; (try dsimp only at hSw); go_simp); try with_reducible rfl)
  (try simp only [Act.put, List.setIfInBounds_toArray, List.set_cons_zero, List.set_cons_succ])
  refine wpAnyH_take (i := 9) (oi := ⟨some 14, _, _, _, _, _⟩) (v := ?_) rfl (by kernel_rfl) (by kernel_rfl) (by kernel_rfl) (fun _ _ _ h => h) (Or.inl ⟨by rfl, ?_⟩) (by assumption) ?_
  rotate_left
  · ((intro w hSw; (try dsimp only at hSw); go_simp); try with_reducible rfl)
  (try simp only [Act.put, List.setIfInBounds_toArray, List.set_cons_zero, List.set_cons_succ])
  refine wpAnyH_take (i := 10) (oi := ⟨some 15, _, _, _, _, _⟩) (v := ?_) rfl (by kernel_rfl) (by kernel_rfl) (by kernel_rfl) (fun _ _ _ h => h) (Or.inl ⟨by rfl, ?_⟩) (by assumption) ?_
  rotate_left
  · ((intro w hSw; (try dsimp only at hSw); go_simp); try with_reducible rfl)
  (try simp only [Act.put, List.setIfInBounds_toArray, List.set_cons_zero, List.set_cons_succ])
  refine wpAnyH_take (i := 13) (oi := ⟨some 18, _, _, _, _, _⟩) (v := ?_) rfl (by kernel_rfl) (by kernel_rfl) (by kernel_rfl) (fun _ _ _ h => h) (Or.inl ⟨by rfl, ?_⟩) (by assumption) ?_
  rotate_left
  · ((intro w hSw; (try dsimp only at hSw); go_simp); try with_reducible rfl)
  (try simp only [Act.put, List.setIfInBounds_toArray, List.set_cons_zero, List.set_cons_succ])
  refine wpAnyH_take (i := 14) (oi := ⟨some 19, _, _, _, _, _⟩) (v := ?_) rfl (by kernel_rfl) (by kernel_rfl) (by kernel_rfl) (fun _ _ _ h => h) (Or.inl ⟨by rfl, ?_⟩) (by assumption) ?_
  rotate_left
  · ((intro w hSw; (try dsimp only at hSw); go_simp); try with_reducible rfl)
  (try simp only [Act.put, List.setIfInBounds_toArray, List.set_cons_zero, List.set_cons_succ])
  refine wpAnyH_ready (rs := [2]) (by kernel_rfl) (by simp) (AllReadyH.cons rfl (fun K hK => ?_) AllReadyH.nil)
  rw [if_pos (by rfl)]
  go_simp
  go_at_call 23
  (with_reducible refine (C1.out.go hk0).mono ?_)
  rintro e w1 ⟨rfl, hb1⟩
  have hk1 := keepS hk0 hb1
  clear hb1
  refine hK.out _ _ (HKS.out _ hk1) (fun hHeld => ?_)
  clear hK K
  (try simp only [Act.put, List.setIfInBounds_toArray, List.set_cons_zero, List.set_cons_succ])
  refine wpAnyH_take (i := 3) (oi := ⟨some 8, _, _, _, _, _⟩) (v := ?_) rfl (by kernel_rfl) (by kernel_rfl) (by kernel_rfl) (fun _ _ _ h => h) (Or.inl ⟨by rfl, ?_⟩) (by assumption) ?_
  rotate_left
  · ((intro w hSw; (try dsimp only at hSw); go_simp; rw [if_neg (by omega)]); try with_reducible rfl)
  (try simp only [Act.put, List.setIfInBounds_toArray, List.set_cons_zero, List.set_cons_succ])
  refine wpAnyH_ready (rs := [6]) (by kernel_rfl) (by simp) (AllReadyH.cons rfl (fun K hK => ?_) AllReadyH.nil)
  rw [if_pos (by rfl)]
  go_simp
  go_at_call 18
  (with_reducible refine (C2.out.go hk1).mono ?_)
  rintro e w2 ⟨rfl, hb2⟩
  have hk2 := keepS hk1 hb2
  clear hb2
  refine hK.out _ _ (HKS.out _ hk2) (fun hHeld => ?_)
  clear hK K
  (try simp only [Act.put, List.setIfInBounds_toArray, List.set_cons_zero, List.set_cons_succ])
  refine wpAnyH_take (i := 7) (oi := ⟨some 12, _, _, _, _, _⟩) (v := ?_) rfl (by kernel_rfl) (by kernel_rfl) (by kernel_rfl) (fun _ _ _ h => h) (Or.inl ⟨by rfl, ?_⟩) (by assumption) ?_
  rotate_left
  · ((intro w hSw; (try dsimp only at hSw); go_simp; rw [if_neg (by omega)]); try with_reducible rfl)
  (try simp only [Act.put, List.setIfInBounds_toArray, List.set_cons_zero, List.set_cons_succ])
  refine wpAnyH_take (i := 8) (oi := ⟨some 13, _, _, _, _, _⟩) (v := ?_) rfl (by kernel_rfl) (by kernel_rfl) (by kernel_rfl) (fun _ _ _ h => h) (Or.inl ⟨by rfl, ?_⟩) (by assumption) ?_
  rotate_left
  · ((intro w hSw; (try dsimp only at hSw); go_simp; rw [if_neg (by omega)]); try with_reducible rfl)
  (try simp only [Act.put, List.setIfInBounds_toArray, List.set_cons_zero, List.set_cons_succ])
  refine wpAnyH_ready (rs := [11]) (by kernel_rfl) (by simp) (AllReadyH.cons rfl (fun K hK => ?_) AllReadyH.nil)
  rw [if_pos (by rfl)]
  go_simp
  go_at_call 23
  (with_reducible refine (C3.out.go hk2).mono ?_)
  rintro e w3 ⟨rfl, hb3⟩
  have hk3 := keepS hk2 hb3
  clear hb3
  refine hK.out _ _ (HKS.out _ hk3) (fun hHeld => ?_)
  clear hK K
  (try simp only [Act.put, List.setIfInBounds_toArray, List.set_cons_zero, List.set_cons_succ])
  refine wpAnyH_take (i := 12) (oi := ⟨some 17, _, _, _, _, _⟩) (v := ?_) rfl (by kernel_rfl) (by kernel_rfl) (by kernel_rfl) (fun _ _ _ h => h) (Or.inl ⟨by rfl, ?_⟩) (by assumption) ?_
  rotate_left
  · ((intro w hSw; (try dsimp only at hSw); go_simp; rw [if_neg (by omega)]); try with_reducible rfl)
  (try simp only [Act.put, List.setIfInBounds_toArray, List.set_cons_zero, List.set_cons_succ])
  refine wpAnyH_ready (rs := [15]) (by kernel_rfl) (by simp) (AllReadyH.cons rfl (fun K hK => ?_) AllReadyH.nil)
  rw [if_pos (by rfl)]
  go_simp
  go_at_call 18
  (with_reducible refine (C4.out.go hk3).mono ?_)
  rintro e w4 ⟨rfl, hb4⟩
  have hk4 := keepS hk3 hb4
  clear hb4
  refine hK.out _ _ (HKS.out _ hk4) (fun hHeld => ?_)
  clear hK K
  (try simp only [Act.put, List.setIfInBounds_toArray, List.set_cons_zero, List.set_cons_succ])
  refine wpAnyH_take (i := 16) (oi := ⟨some 21, _, _, _, _, _⟩) (v := ?_) rfl (by kernel_rfl) (by kernel_rfl) (by kernel_rfl) (fun _ _ _ h => h) (Or.inl ⟨by rfl, ?_⟩) (by assumption) ?_
  rotate_left
  · ((intro w hSw; (try dsimp only at hSw); go_simp; rw [if_neg (by omega)]); try with_reducible rfl)
  (try simp only [Act.put, List.setIfInBounds_toArray, List.set_cons_zero, List.set_cons_succ])
  refine wpAnyH_take (i := 17) (oi := ⟨some 22, _, _, _, _, _⟩) (v := ?_) rfl (by kernel_rfl) (by kernel_rfl) (by kernel_rfl) (fun _ _ _ h => h) (Or.inl ⟨by rfl, ?_⟩) (by assumption) ?_
  rotate_left
  · ((intro w hSw; (try dsimp only at hSw); go_simp; rw [if_neg (by omega)]); try with_reducible rfl)
  (try simp only [Act.put, List.setIfInBounds_toArray, List.set_cons_zero, List.set_cons_succ])
  refine wpAnyH_take (i := 18) (oi := ⟨some 3, _, _, _, _, _⟩) (v := ?_) rfl (by kernel_rfl) (by kernel_rfl) (by kernel_rfl) (fun _ _ _ h => h) (Or.inl ⟨by rfl, ?_⟩) (by assumption) ?_
  rotate_left
  · ((intro w hSw; (try dsimp only at hSw); go_simp); try with_reducible rfl)
  (try simp only [Act.put, List.setIfInBounds_toArray, List.set_cons_zero, List.set_cons_succ])
  refine wpAnyH_take (i := 19) (oi := ⟨some 4, _, _, _, _, _⟩) (v := ?_) rfl (by kernel_rfl) (by kernel_rfl) (by kernel_rfl) (fun _ _ _ h => h) (Or.inl ⟨by rfl, ?_⟩) (by assumption) ?_
  rotate_left
  · ((intro w hSw; (try dsimp only at hSw); go_simp); try with_reducible rfl)
  (try simp only [Act.put, List.setIfInBounds_toArray, List.set_cons_zero, List.set_cons_succ])
  refine wpAnyH_done (by kernel_rfl) ?_ _
  have hx := HBX.out w4 hk4
  have x0 := hx 0
  have x1 := hx 1
  have x2 := hx 2
  have x3 := hx 3
  have x4 := hx 4
  have x5 := hx 5
  clear hx
  go_wp2_with fail
  refine (C5.out.go hk4).mono ?_
  rintro e w5 ⟨rfl, hb5⟩
  have hk5 := keepS hk4 hb5
  clear hb5 x0 x1 x2 x3 x4 x5
  have hx := HBX.out w5 hk5
  have x0 := hx 0
  have x1 := hx 1
  have x2 := hx 2
  have x3 := hx 3
  have x4 := hx 4
  have x5 := hx 5
  clear hx
  go_wp2_with fail
  go_ret
  exact ⟨congrArg (fun b : ByteArray => Ending.returned (Value.string b)) ((((((((Txt.lit [98, 114, 97, 110, 99, 104, 32, 118]).app X5.out).app (Txt.lit [32])).app (((X1.out.app (Txt.lit [40])).app X2.out).app (Txt.lit [41]))).app (Txt.lit [32])).app (((X3.out.app (Txt.lit [40])).app X4.out).app (Txt.lit [41])))).is.trans (congrArg mkB (by simp [endText, targetText, listV, valueText]))), keepS HB0.out hk5⟩
set_option maxRecDepth 100000 in
set_option maxHeartbeats 4000000 in
theorem rend_2 (A To El : Int) (la ma : Option Addr) (ln lc mn mc : Nat) (L M : List Int) (w : World) (h : EndQ w [.int .i64 2, .int .i64 A, .int .i64 To, .int .i64 El, .slice la ln lc, .slice ma mn mc] ⟨2, A, To, El, L, M⟩) (hn1 : ln ≤ 1048576) (hn2 : mn ≤ 1048576) :
    Calls Tryd.prog 25 #[.agg #[.int .i64 2, .int .i64 A, .int .i64 To, .int .i64 El, .slice la ln lc, .slice ma mn mc]] w fun e w' => e = .returned (.string (mk (endText ⟨2, A, To, El, L, M⟩))) ∧ Below w.heap.size w w' := by
  obtain ⟨l1, m1, he, rK, rA, rT, rE, ⟨a', n', c', hl, hat1, hnil1, hm1, hr1⟩, ⟨b', k', d', hm, hat2, hnil2, hm2, hr2⟩⟩ := h
  simp only [List.cons.injEq, Value.int.injEq, true_and, and_true] at he
  obtain ⟨rfl, rfl⟩ := he
  cases hl
  cases hm
  have hlen1 : L.length ≤ 1048576 := by rw [hat1.1]; exact hn1
  have hlen2 : M.length ≤ 1048576 := by rw [hat2.1]; exact hn2
  obtain ⟨W, hW⟩ : ∃ W, W = w.alloc (.cells #[.int .i64 2, .int .i64 A, .int .i64 To, .int .i64 El, .slice la ln lc, .slice ma mn mc] 46) := ⟨_, rfl⟩
  have hb0 : Below w.heap.size w W := by rw [hW]; exact (Below.refl _ _).alloc (Nat.le_refl _) _
  have hblk : W.heap[w.heap.size]? = some (.cells #[.int .i64 2, .int .i64 A, .int .i64 To, .int .i64 El, .slice la ln lc, .slice ma mn mc] 46 (0, 0)) := by rw [hW]; exact heap_alloc_new w _
  have HB0 := Lib.hid hb0
  have HBX : RowKit.Hid (∀ u, Below W.heap.size W u → ∀ j, u.cell? ⟨w.heap.size, j, none⟩ = (#[.int .i64 2, .int .i64 A, .int .i64 To, .int .i64 El, .slice la ln lc, .slice ma mn mc] : Array Value)[j]?) := Lib.hid fun u hb j => by
    have : u.heap[w.heap.size]? = _ := (hb.block _ (Array.getElem?_eq_some_iff.1 hblk).1).trans hblk
    simp [World.cell?, this]
  have HKS : RowKit.Hid (∀ u, Below W.heap.size W u → (fun u => u.cell? ⟨w.heap.size, 0, none⟩ = some (.int .i64 2) ∧ u.cell? ⟨w.heap.size, 1, none⟩ = some (.int .i64 A) ∧ u.cell? ⟨w.heap.size, 2, none⟩ = some (.int .i64 To) ∧ u.cell? ⟨w.heap.size, 3, none⟩ = some (.int .i64 El) ∧ u.cell? ⟨w.heap.size, 4, none⟩ = some (.slice la ln lc) ∧ u.cell? ⟨w.heap.size, 5, none⟩ = some (.slice ma mn mc)) u) := Lib.hid fun u hb => ⟨HBX.out u hb 0, HBX.out u hb 1, HBX.out u hb 2, HBX.out u hb 3, HBX.out u hb 4, HBX.out u hb 5⟩
  have X1 := Lib.hid (itoa_txt rT)
  have C1 := Lib.hid (Says.since (says_num rT) hb0)
  obtain ⟨t1, h1⟩ : ∃ t, t = mkB (Lib.itoa To) := ⟨_, rfl⟩
  rw [← h1] at X1 C1
  have z1 := X1.out.size
  have X2 := Lib.hid (nums_txt hlen1 hr1)
  have C2 := Lib.hid (Says.since (says_list1 (c := lc) hat1 hn1 hr1) hb0)
  obtain ⟨t2, h2⟩ : ∃ t, t = mk (listText valueText L) := ⟨_, rfl⟩
  rw [← h2] at X2 C2
  have z2 := X2.out.size
  have X3 := Lib.hid (itoa_txt rE)
  have C3 := Lib.hid (Says.since (says_num rE) hb0)
  obtain ⟨t3, h3⟩ : ∃ t, t = mkB (Lib.itoa El) := ⟨_, rfl⟩
  rw [← h3] at X3 C3
  have z3 := X3.out.size
  have X4 := Lib.hid (nums_txt hlen2 hr2)
  have C4 := Lib.hid (Says.since (says_list1 (c := mc) hat2 hn2 hr2) hb0)
  obtain ⟨t4, h4⟩ : ∃ t, t = mk (listText valueText M) := ⟨_, rfl⟩
  rw [← h4] at X4 C4
  have z4 := X4.out.size
  have X5 := Lib.hid (itoa_txt rA)
  have C5 := Lib.hid (Says.since (says_num rA) hb0)
  obtain ⟨t5, h5⟩ : ∃ t, t = mkB (Lib.itoa A) := ⟨_, rfl⟩
  rw [← h5] at X5 C5
  have z5 := X5.out.size
  clear h1 h2 h3 h4 h5
  clear hblk hb0 hat1 hat2 hr1 hr2 rK rA rT rE
  have hk0 : Below W.heap.size W W.drew := (Below.refl _ _).drew
  go_enter Tryd.func25, Tryd.ntmps25
  go_upto_region 1 with fail
  rw [← hW]
  clear hW
  refine wp_region_held_drew (S := (fun u => u.cell? ⟨w.heap.size, 0, none⟩ = some (.int .i64 2) ∧ u.cell? ⟨w.heap.size, 1, none⟩ = some (.int .i64 A) ∧ u.cell? ⟨w.heap.size, 2, none⟩ = some (.int .i64 To) ∧ u.cell? ⟨w.heap.size, 3, none⟩ = some (.int .i64 El) ∧ u.cell? ⟨w.heap.size, 4, none⟩ = some (.slice la ln lc) ∧ u.cell? ⟨w.heap.size, 5, none⟩ = some (.slice ma mn mc))) (by kernel_rfl) (HKS.out _ hk0) (fun hHeld => ?_)
  refine wpAnyH_take (i := 0) (oi := ⟨some 5, _, _, _, _, _⟩) (v := ?_) rfl (by kernel_rfl) (by kernel_rfl) (by kernel_rfl) (fun _ _ _ h => h) (Or.inl ⟨by rfl, ?_⟩) (by assumption) ?_
  rotate_left
  · ((intro w hSw; (try dsimp only at hSw); go_simp); try with_reducible rfl)
  (try simp only [Act.put, List.setIfInBounds_toArray, List.set_cons_zero, List.set_cons_succ])
  refine wpAnyH_take (i := 1) (oi := ⟨some 6, _, _, _, _, _⟩) (v := ?_) rfl (by kernel_rfl) (by kernel_rfl) (by kernel_rfl) (fun _ _ _ h => h) (Or.inl ⟨by rfl, ?_⟩) (by assumption) ?_
  rotate_left
  · ((intro w hSw; (try dsimp only at hSw); go_simp); try with_reducible rfl)
  (try simp only [Act.put, List.setIfInBounds_toArray, List.set_cons_zero, List.set_cons_succ])
  refine wpAnyH_take (i := 4) (oi := ⟨some 9, _, _, _, _, _⟩) (v := ?_) rfl (by kernel_rfl) (by kernel_rfl) (by kernel_rfl) (fun _ _ _ h => h) (Or.inl ⟨by rfl, ?_⟩) (by assumption) ?_
  rotate_left
  · ((intro w hSw; (try dsimp only at hSw); go_simp); try with_reducible rfl)
  (try simp only [Act.put, List.setIfInBounds_toArray, List.set_cons_zero, List.set_cons_succ])
  refine wpAnyH_take (i := 5) (oi := ⟨some 10, _, _, _, _, _⟩) (v := ?_) rfl (by kernel_rfl) (by kernel_rfl) (by kernel_rfl) (fun _ _ _ h => h) (Or.inl ⟨by rfl, ?_⟩) (by assumption) ?_
  rotate_left
  · ((intro w hSw; (try dsimp only at hSw); go_simp); try with_reducible rfl)
  (try simp only [Act.put, List.setIfInBounds_toArray, List.set_cons_zero, List.set_cons_succ])
  refine wpAnyH_take (i := 9) (oi := ⟨some 14, _, _, _, _, _⟩) (v := ?_) rfl (by kernel_rfl) (by kernel_rfl) (by kernel_rfl) (fun _ _ _ h => h) (Or.inl ⟨by rfl, ?_⟩) (by assumption) ?_
  rotate_left
  · ((intro w hSw; (try dsimp only at hSw); go_simp); try with_reducible rfl)
  (try simp only [Act.put, List.setIfInBounds_toArray, List.set_cons_zero, List.set_cons_succ])
  refine wpAnyH_take (i := 10) (oi := ⟨some 15, _, _, _, _, _⟩) (v := ?_) rfl (by kernel_rfl) (by kernel_rfl) (by kernel_rfl) (fun _ _ _ h => h) (Or.inl ⟨by rfl, ?_⟩) (by assumption) ?_
  rotate_left
  · ((intro w hSw; (try dsimp only at hSw); go_simp); try with_reducible rfl)
  (try simp only [Act.put, List.setIfInBounds_toArray, List.set_cons_zero, List.set_cons_succ])
  refine wpAnyH_take (i := 13) (oi := ⟨some 18, _, _, _, _, _⟩) (v := ?_) rfl (by kernel_rfl) (by kernel_rfl) (by kernel_rfl) (fun _ _ _ h => h) (Or.inl ⟨by rfl, ?_⟩) (by assumption) ?_
  rotate_left
  · ((intro w hSw; (try dsimp only at hSw); go_simp); try with_reducible rfl)
  (try simp only [Act.put, List.setIfInBounds_toArray, List.set_cons_zero, List.set_cons_succ])
  refine wpAnyH_take (i := 14) (oi := ⟨some 19, _, _, _, _, _⟩) (v := ?_) rfl (by kernel_rfl) (by kernel_rfl) (by kernel_rfl) (fun _ _ _ h => h) (Or.inl ⟨by rfl, ?_⟩) (by assumption) ?_
  rotate_left
  · ((intro w hSw; (try dsimp only at hSw); go_simp); try with_reducible rfl)
  (try simp only [Act.put, List.setIfInBounds_toArray, List.set_cons_zero, List.set_cons_succ])
  refine wpAnyH_ready (rs := [2]) (by kernel_rfl) (by simp) (AllReadyH.cons rfl (fun K hK => ?_) AllReadyH.nil)
  rw [if_pos (by rfl)]
  go_simp
  go_at_call 23
  (with_reducible refine (C1.out.go hk0).mono ?_)
  rintro e w1 ⟨rfl, hb1⟩
  have hk1 := keepS hk0 hb1
  clear hb1
  refine hK.out _ _ (HKS.out _ hk1) (fun hHeld => ?_)
  clear hK K
  (try simp only [Act.put, List.setIfInBounds_toArray, List.set_cons_zero, List.set_cons_succ])
  refine wpAnyH_take (i := 3) (oi := ⟨some 8, _, _, _, _, _⟩) (v := ?_) rfl (by kernel_rfl) (by kernel_rfl) (by kernel_rfl) (fun _ _ _ h => h) (Or.inl ⟨by rfl, ?_⟩) (by assumption) ?_
  rotate_left
  · ((intro w hSw; (try dsimp only at hSw); go_simp; rw [if_neg (by omega)]); try with_reducible rfl)
  (try simp only [Act.put, List.setIfInBounds_toArray, List.set_cons_zero, List.set_cons_succ])
  refine wpAnyH_ready (rs := [6]) (by kernel_rfl) (by simp) (AllReadyH.cons rfl (fun K hK => ?_) AllReadyH.nil)
  rw [if_pos (by rfl)]
  go_simp
  go_at_call 18
  (with_reducible refine (C2.out.go hk1).mono ?_)
  rintro e w2 ⟨rfl, hb2⟩
  have hk2 := keepS hk1 hb2
  clear hb2
  refine hK.out _ _ (HKS.out _ hk2) (fun hHeld => ?_)
  clear hK K
  (try simp only [Act.put, List.setIfInBounds_toArray, List.set_cons_zero, List.set_cons_succ])
  refine wpAnyH_take (i := 7) (oi := ⟨some 12, _, _, _, _, _⟩) (v := ?_) rfl (by kernel_rfl) (by kernel_rfl) (by kernel_rfl) (fun _ _ _ h => h) (Or.inl ⟨by rfl, ?_⟩) (by assumption) ?_
  rotate_left
  · ((intro w hSw; (try dsimp only at hSw); go_simp; rw [if_neg (by omega)]); try with_reducible rfl)
  (try simp only [Act.put, List.setIfInBounds_toArray, List.set_cons_zero, List.set_cons_succ])
  refine wpAnyH_take (i := 8) (oi := ⟨some 13, _, _, _, _, _⟩) (v := ?_) rfl (by kernel_rfl) (by kernel_rfl) (by kernel_rfl) (fun _ _ _ h => h) (Or.inl ⟨by rfl, ?_⟩) (by assumption) ?_
  rotate_left
  · ((intro w hSw; (try dsimp only at hSw); go_simp; rw [if_neg (by omega)]); try with_reducible rfl)
  (try simp only [Act.put, List.setIfInBounds_toArray, List.set_cons_zero, List.set_cons_succ])
  refine wpAnyH_ready (rs := [11]) (by kernel_rfl) (by simp) (AllReadyH.cons rfl (fun K hK => ?_) AllReadyH.nil)
  rw [if_pos (by rfl)]
  go_simp
  go_at_call 23
  (with_reducible refine (C3.out.go hk2).mono ?_)
  rintro e w3 ⟨rfl, hb3⟩
  have hk3 := keepS hk2 hb3
  clear hb3
  refine hK.out _ _ (HKS.out _ hk3) (fun hHeld => ?_)
  clear hK K
  (try simp only [Act.put, List.setIfInBounds_toArray, List.set_cons_zero, List.set_cons_succ])
  refine wpAnyH_take (i := 12) (oi := ⟨some 17, _, _, _, _, _⟩) (v := ?_) rfl (by kernel_rfl) (by kernel_rfl) (by kernel_rfl) (fun _ _ _ h => h) (Or.inl ⟨by rfl, ?_⟩) (by assumption) ?_
  rotate_left
  · ((intro w hSw; (try dsimp only at hSw); go_simp; rw [if_neg (by omega)]); try with_reducible rfl)
  (try simp only [Act.put, List.setIfInBounds_toArray, List.set_cons_zero, List.set_cons_succ])
  refine wpAnyH_ready (rs := [15]) (by kernel_rfl) (by simp) (AllReadyH.cons rfl (fun K hK => ?_) AllReadyH.nil)
  rw [if_pos (by rfl)]
  go_simp
  go_at_call 18
  (with_reducible refine (C4.out.go hk3).mono ?_)
  rintro e w4 ⟨rfl, hb4⟩
  have hk4 := keepS hk3 hb4
  clear hb4
  refine hK.out _ _ (HKS.out _ hk4) (fun hHeld => ?_)
  clear hK K
  (try simp only [Act.put, List.setIfInBounds_toArray, List.set_cons_zero, List.set_cons_succ])
  refine wpAnyH_take (i := 16) (oi := ⟨some 21, _, _, _, _, _⟩) (v := ?_) rfl (by kernel_rfl) (by kernel_rfl) (by kernel_rfl) (fun _ _ _ h => h) (Or.inl ⟨by rfl, ?_⟩) (by assumption) ?_
  rotate_left
  · ((intro w hSw; (try dsimp only at hSw); go_simp; rw [if_neg (by omega)]); try with_reducible rfl)
  (try simp only [Act.put, List.setIfInBounds_toArray, List.set_cons_zero, List.set_cons_succ])
  refine wpAnyH_take (i := 17) (oi := ⟨some 22, _, _, _, _, _⟩) (v := ?_) rfl (by kernel_rfl) (by kernel_rfl) (by kernel_rfl) (fun _ _ _ h => h) (Or.inl ⟨by rfl, ?_⟩) (by assumption) ?_
  rotate_left
  · ((intro w hSw; (try dsimp only at hSw); go_simp; rw [if_neg (by omega)]); try with_reducible rfl)
  (try simp only [Act.put, List.setIfInBounds_toArray, List.set_cons_zero, List.set_cons_succ])
  refine wpAnyH_take (i := 18) (oi := ⟨some 3, _, _, _, _, _⟩) (v := ?_) rfl (by kernel_rfl) (by kernel_rfl) (by kernel_rfl) (fun _ _ _ h => h) (Or.inl ⟨by rfl, ?_⟩) (by assumption) ?_
  rotate_left
  · ((intro w hSw; (try dsimp only at hSw); go_simp); try with_reducible rfl)
  (try simp only [Act.put, List.setIfInBounds_toArray, List.set_cons_zero, List.set_cons_succ])
  refine wpAnyH_take (i := 19) (oi := ⟨some 4, _, _, _, _, _⟩) (v := ?_) rfl (by kernel_rfl) (by kernel_rfl) (by kernel_rfl) (fun _ _ _ h => h) (Or.inl ⟨by rfl, ?_⟩) (by assumption) ?_
  rotate_left
  · ((intro w hSw; (try dsimp only at hSw); go_simp); try with_reducible rfl)
  (try simp only [Act.put, List.setIfInBounds_toArray, List.set_cons_zero, List.set_cons_succ])
  refine wpAnyH_done (by kernel_rfl) ?_ _
  have hx := HBX.out w4 hk4
  have x0 := hx 0
  have x1 := hx 1
  have x2 := hx 2
  have x3 := hx 3
  have x4 := hx 4
  have x5 := hx 5
  clear hx
  go_wp2_with fail
  refine (C5.out.go hk4).mono ?_
  rintro e w5 ⟨rfl, hb5⟩
  have hk5 := keepS hk4 hb5
  clear hb5 x0 x1 x2 x3 x4 x5
  have hx := HBX.out w5 hk5
  have x0 := hx 0
  have x1 := hx 1
  have x2 := hx 2
  have x3 := hx 3
  have x4 := hx 4
  have x5 := hx 5
  clear hx
  go_wp2_with fail
  go_ret
  exact ⟨congrArg (fun b : ByteArray => Ending.returned (Value.string b)) (((Txt.lit [114, 101, 116, 32, 118]).app X5.out).is.trans (congrArg mkB (by simp [endText, targetText, listV, valueText]))), keepS HB0.out hk5⟩
set_option maxRecDepth 100000 in
set_option maxHeartbeats 4000000 in
theorem rend_3 (A To El : Int) (la ma : Option Addr) (ln lc mn mc : Nat) (L M : List Int) (w : World) (h : EndQ w [.int .i64 3, .int .i64 A, .int .i64 To, .int .i64 El, .slice la ln lc, .slice ma mn mc] ⟨3, A, To, El, L, M⟩) (hn1 : ln ≤ 1048576) (hn2 : mn ≤ 1048576) :
    Calls Tryd.prog 25 #[.agg #[.int .i64 3, .int .i64 A, .int .i64 To, .int .i64 El, .slice la ln lc, .slice ma mn mc]] w fun e w' => e = .returned (.string (mk (endText ⟨3, A, To, El, L, M⟩))) ∧ Below w.heap.size w w' := by
  obtain ⟨l1, m1, he, rK, rA, rT, rE, ⟨a', n', c', hl, hat1, hnil1, hm1, hr1⟩, ⟨b', k', d', hm, hat2, hnil2, hm2, hr2⟩⟩ := h
  simp only [List.cons.injEq, Value.int.injEq, true_and, and_true] at he
  obtain ⟨rfl, rfl⟩ := he
  cases hl
  cases hm
  have hlen1 : L.length ≤ 1048576 := by rw [hat1.1]; exact hn1
  have hlen2 : M.length ≤ 1048576 := by rw [hat2.1]; exact hn2
  obtain ⟨W, hW⟩ : ∃ W, W = w.alloc (.cells #[.int .i64 3, .int .i64 A, .int .i64 To, .int .i64 El, .slice la ln lc, .slice ma mn mc] 46) := ⟨_, rfl⟩
  have hb0 : Below w.heap.size w W := by rw [hW]; exact (Below.refl _ _).alloc (Nat.le_refl _) _
  have hblk : W.heap[w.heap.size]? = some (.cells #[.int .i64 3, .int .i64 A, .int .i64 To, .int .i64 El, .slice la ln lc, .slice ma mn mc] 46 (0, 0)) := by rw [hW]; exact heap_alloc_new w _
  have HB0 := Lib.hid hb0
  have HBX : RowKit.Hid (∀ u, Below W.heap.size W u → ∀ j, u.cell? ⟨w.heap.size, j, none⟩ = (#[.int .i64 3, .int .i64 A, .int .i64 To, .int .i64 El, .slice la ln lc, .slice ma mn mc] : Array Value)[j]?) := Lib.hid fun u hb j => by
    have : u.heap[w.heap.size]? = _ := (hb.block _ (Array.getElem?_eq_some_iff.1 hblk).1).trans hblk
    simp [World.cell?, this]
  have HKS : RowKit.Hid (∀ u, Below W.heap.size W u → (fun u => u.cell? ⟨w.heap.size, 0, none⟩ = some (.int .i64 3) ∧ u.cell? ⟨w.heap.size, 1, none⟩ = some (.int .i64 A) ∧ u.cell? ⟨w.heap.size, 2, none⟩ = some (.int .i64 To) ∧ u.cell? ⟨w.heap.size, 3, none⟩ = some (.int .i64 El) ∧ u.cell? ⟨w.heap.size, 4, none⟩ = some (.slice la ln lc) ∧ u.cell? ⟨w.heap.size, 5, none⟩ = some (.slice ma mn mc)) u) := Lib.hid fun u hb => ⟨HBX.out u hb 0, HBX.out u hb 1, HBX.out u hb 2, HBX.out u hb 3, HBX.out u hb 4, HBX.out u hb 5⟩
  have X1 := Lib.hid (itoa_txt rT)
  have C1 := Lib.hid (Says.since (says_num rT) hb0)
  obtain ⟨t1, h1⟩ : ∃ t, t = mkB (Lib.itoa To) := ⟨_, rfl⟩
  rw [← h1] at X1 C1
  have z1 := X1.out.size
  have X2 := Lib.hid (nums_txt hlen1 hr1)
  have C2 := Lib.hid (Says.since (says_list1 (c := lc) hat1 hn1 hr1) hb0)
  obtain ⟨t2, h2⟩ : ∃ t, t = mk (listText valueText L) := ⟨_, rfl⟩
  rw [← h2] at X2 C2
  have z2 := X2.out.size
  have X3 := Lib.hid (itoa_txt rE)
  have C3 := Lib.hid (Says.since (says_num rE) hb0)
  obtain ⟨t3, h3⟩ : ∃ t, t = mkB (Lib.itoa El) := ⟨_, rfl⟩
  rw [← h3] at X3 C3
  have z3 := X3.out.size
  have X4 := Lib.hid (nums_txt hlen2 hr2)
  have C4 := Lib.hid (Says.since (says_list1 (c := mc) hat2 hn2 hr2) hb0)
  obtain ⟨t4, h4⟩ : ∃ t, t = mk (listText valueText M) := ⟨_, rfl⟩
  rw [← h4] at X4 C4
  have z4 := X4.out.size
  have X5 := Lib.hid (itoa_txt rA)
  have C5 := Lib.hid (Says.since (says_num rA) hb0)
  obtain ⟨t5, h5⟩ : ∃ t, t = mkB (Lib.itoa A) := ⟨_, rfl⟩
  rw [← h5] at X5 C5
  have z5 := X5.out.size
  clear h1 h2 h3 h4 h5
  clear hblk hb0 hat1 hat2 hr1 hr2 rK rA rT rE
  have hk0 : Below W.heap.size W W.drew := (Below.refl _ _).drew
  go_enter Tryd.func25, Tryd.ntmps25
  go_upto_region 1 with fail
  rw [← hW]
  clear hW
  refine wp_region_held_drew (S := (fun u => u.cell? ⟨w.heap.size, 0, none⟩ = some (.int .i64 3) ∧ u.cell? ⟨w.heap.size, 1, none⟩ = some (.int .i64 A) ∧ u.cell? ⟨w.heap.size, 2, none⟩ = some (.int .i64 To) ∧ u.cell? ⟨w.heap.size, 3, none⟩ = some (.int .i64 El) ∧ u.cell? ⟨w.heap.size, 4, none⟩ = some (.slice la ln lc) ∧ u.cell? ⟨w.heap.size, 5, none⟩ = some (.slice ma mn mc))) (by kernel_rfl) (HKS.out _ hk0) (fun hHeld => ?_)
  refine wpAnyH_take (i := 0) (oi := ⟨some 5, _, _, _, _, _⟩) (v := ?_) rfl (by kernel_rfl) (by kernel_rfl) (by kernel_rfl) (fun _ _ _ h => h) (Or.inl ⟨by rfl, ?_⟩) (by assumption) ?_
  rotate_left
  · ((intro w hSw; (try dsimp only at hSw); go_simp); try with_reducible rfl)
  (try simp only [Act.put, List.setIfInBounds_toArray, List.set_cons_zero, List.set_cons_succ])
  refine wpAnyH_take (i := 1) (oi := ⟨some 6, _, _, _, _, _⟩) (v := ?_) rfl (by kernel_rfl) (by kernel_rfl) (by kernel_rfl) (fun _ _ _ h => h) (Or.inl ⟨by rfl, ?_⟩) (by assumption) ?_
  rotate_left
  · ((intro w hSw; (try dsimp only at hSw); go_simp); try with_reducible rfl)
  (try simp only [Act.put, List.setIfInBounds_toArray, List.set_cons_zero, List.set_cons_succ])
  refine wpAnyH_take (i := 4) (oi := ⟨some 9, _, _, _, _, _⟩) (v := ?_) rfl (by kernel_rfl) (by kernel_rfl) (by kernel_rfl) (fun _ _ _ h => h) (Or.inl ⟨by rfl, ?_⟩) (by assumption) ?_
  rotate_left
  · ((intro w hSw; (try dsimp only at hSw); go_simp); try with_reducible rfl)
  (try simp only [Act.put, List.setIfInBounds_toArray, List.set_cons_zero, List.set_cons_succ])
  refine wpAnyH_take (i := 5) (oi := ⟨some 10, _, _, _, _, _⟩) (v := ?_) rfl (by kernel_rfl) (by kernel_rfl) (by kernel_rfl) (fun _ _ _ h => h) (Or.inl ⟨by rfl, ?_⟩) (by assumption) ?_
  rotate_left
  · ((intro w hSw; (try dsimp only at hSw); go_simp); try with_reducible rfl)
  (try simp only [Act.put, List.setIfInBounds_toArray, List.set_cons_zero, List.set_cons_succ])
  refine wpAnyH_take (i := 9) (oi := ⟨some 14, _, _, _, _, _⟩) (v := ?_) rfl (by kernel_rfl) (by kernel_rfl) (by kernel_rfl) (fun _ _ _ h => h) (Or.inl ⟨by rfl, ?_⟩) (by assumption) ?_
  rotate_left
  · ((intro w hSw; (try dsimp only at hSw); go_simp); try with_reducible rfl)
  (try simp only [Act.put, List.setIfInBounds_toArray, List.set_cons_zero, List.set_cons_succ])
  refine wpAnyH_take (i := 10) (oi := ⟨some 15, _, _, _, _, _⟩) (v := ?_) rfl (by kernel_rfl) (by kernel_rfl) (by kernel_rfl) (fun _ _ _ h => h) (Or.inl ⟨by rfl, ?_⟩) (by assumption) ?_
  rotate_left
  · ((intro w hSw; (try dsimp only at hSw); go_simp); try with_reducible rfl)
  (try simp only [Act.put, List.setIfInBounds_toArray, List.set_cons_zero, List.set_cons_succ])
  refine wpAnyH_take (i := 13) (oi := ⟨some 18, _, _, _, _, _⟩) (v := ?_) rfl (by kernel_rfl) (by kernel_rfl) (by kernel_rfl) (fun _ _ _ h => h) (Or.inl ⟨by rfl, ?_⟩) (by assumption) ?_
  rotate_left
  · ((intro w hSw; (try dsimp only at hSw); go_simp); try with_reducible rfl)
  (try simp only [Act.put, List.setIfInBounds_toArray, List.set_cons_zero, List.set_cons_succ])
  refine wpAnyH_take (i := 14) (oi := ⟨some 19, _, _, _, _, _⟩) (v := ?_) rfl (by kernel_rfl) (by kernel_rfl) (by kernel_rfl) (fun _ _ _ h => h) (Or.inl ⟨by rfl, ?_⟩) (by assumption) ?_
  rotate_left
  · ((intro w hSw; (try dsimp only at hSw); go_simp); try with_reducible rfl)
  (try simp only [Act.put, List.setIfInBounds_toArray, List.set_cons_zero, List.set_cons_succ])
  refine wpAnyH_ready (rs := [2]) (by kernel_rfl) (by simp) (AllReadyH.cons rfl (fun K hK => ?_) AllReadyH.nil)
  rw [if_pos (by rfl)]
  go_simp
  go_at_call 23
  (with_reducible refine (C1.out.go hk0).mono ?_)
  rintro e w1 ⟨rfl, hb1⟩
  have hk1 := keepS hk0 hb1
  clear hb1
  refine hK.out _ _ (HKS.out _ hk1) (fun hHeld => ?_)
  clear hK K
  (try simp only [Act.put, List.setIfInBounds_toArray, List.set_cons_zero, List.set_cons_succ])
  refine wpAnyH_take (i := 3) (oi := ⟨some 8, _, _, _, _, _⟩) (v := ?_) rfl (by kernel_rfl) (by kernel_rfl) (by kernel_rfl) (fun _ _ _ h => h) (Or.inl ⟨by rfl, ?_⟩) (by assumption) ?_
  rotate_left
  · ((intro w hSw; (try dsimp only at hSw); go_simp; rw [if_neg (by omega)]); try with_reducible rfl)
  (try simp only [Act.put, List.setIfInBounds_toArray, List.set_cons_zero, List.set_cons_succ])
  refine wpAnyH_ready (rs := [6]) (by kernel_rfl) (by simp) (AllReadyH.cons rfl (fun K hK => ?_) AllReadyH.nil)
  rw [if_pos (by rfl)]
  go_simp
  go_at_call 18
  (with_reducible refine (C2.out.go hk1).mono ?_)
  rintro e w2 ⟨rfl, hb2⟩
  have hk2 := keepS hk1 hb2
  clear hb2
  refine hK.out _ _ (HKS.out _ hk2) (fun hHeld => ?_)
  clear hK K
  (try simp only [Act.put, List.setIfInBounds_toArray, List.set_cons_zero, List.set_cons_succ])
  refine wpAnyH_take (i := 7) (oi := ⟨some 12, _, _, _, _, _⟩) (v := ?_) rfl (by kernel_rfl) (by kernel_rfl) (by kernel_rfl) (fun _ _ _ h => h) (Or.inl ⟨by rfl, ?_⟩) (by assumption) ?_
  rotate_left
  · ((intro w hSw; (try dsimp only at hSw); go_simp; rw [if_neg (by omega)]); try with_reducible rfl)
  (try simp only [Act.put, List.setIfInBounds_toArray, List.set_cons_zero, List.set_cons_succ])
  refine wpAnyH_take (i := 8) (oi := ⟨some 13, _, _, _, _, _⟩) (v := ?_) rfl (by kernel_rfl) (by kernel_rfl) (by kernel_rfl) (fun _ _ _ h => h) (Or.inl ⟨by rfl, ?_⟩) (by assumption) ?_
  rotate_left
  · ((intro w hSw; (try dsimp only at hSw); go_simp; rw [if_neg (by omega)]); try with_reducible rfl)
  (try simp only [Act.put, List.setIfInBounds_toArray, List.set_cons_zero, List.set_cons_succ])
  refine wpAnyH_ready (rs := [11]) (by kernel_rfl) (by simp) (AllReadyH.cons rfl (fun K hK => ?_) AllReadyH.nil)
  rw [if_pos (by rfl)]
  go_simp
  go_at_call 23
  (with_reducible refine (C3.out.go hk2).mono ?_)
  rintro e w3 ⟨rfl, hb3⟩
  have hk3 := keepS hk2 hb3
  clear hb3
  refine hK.out _ _ (HKS.out _ hk3) (fun hHeld => ?_)
  clear hK K
  (try simp only [Act.put, List.setIfInBounds_toArray, List.set_cons_zero, List.set_cons_succ])
  refine wpAnyH_take (i := 12) (oi := ⟨some 17, _, _, _, _, _⟩) (v := ?_) rfl (by kernel_rfl) (by kernel_rfl) (by kernel_rfl) (fun _ _ _ h => h) (Or.inl ⟨by rfl, ?_⟩) (by assumption) ?_
  rotate_left
  · ((intro w hSw; (try dsimp only at hSw); go_simp; rw [if_neg (by omega)]); try with_reducible rfl)
  (try simp only [Act.put, List.setIfInBounds_toArray, List.set_cons_zero, List.set_cons_succ])
  refine wpAnyH_ready (rs := [15]) (by kernel_rfl) (by simp) (AllReadyH.cons rfl (fun K hK => ?_) AllReadyH.nil)
  rw [if_pos (by rfl)]
  go_simp
  go_at_call 18
  (with_reducible refine (C4.out.go hk3).mono ?_)
  rintro e w4 ⟨rfl, hb4⟩
  have hk4 := keepS hk3 hb4
  clear hb4
  refine hK.out _ _ (HKS.out _ hk4) (fun hHeld => ?_)
  clear hK K
  (try simp only [Act.put, List.setIfInBounds_toArray, List.set_cons_zero, List.set_cons_succ])
  refine wpAnyH_take (i := 16) (oi := ⟨some 21, _, _, _, _, _⟩) (v := ?_) rfl (by kernel_rfl) (by kernel_rfl) (by kernel_rfl) (fun _ _ _ h => h) (Or.inl ⟨by rfl, ?_⟩) (by assumption) ?_
  rotate_left
  · ((intro w hSw; (try dsimp only at hSw); go_simp; rw [if_neg (by omega)]); try with_reducible rfl)
  (try simp only [Act.put, List.setIfInBounds_toArray, List.set_cons_zero, List.set_cons_succ])
  refine wpAnyH_take (i := 17) (oi := ⟨some 22, _, _, _, _, _⟩) (v := ?_) rfl (by kernel_rfl) (by kernel_rfl) (by kernel_rfl) (fun _ _ _ h => h) (Or.inl ⟨by rfl, ?_⟩) (by assumption) ?_
  rotate_left
  · ((intro w hSw; (try dsimp only at hSw); go_simp; rw [if_neg (by omega)]); try with_reducible rfl)
  (try simp only [Act.put, List.setIfInBounds_toArray, List.set_cons_zero, List.set_cons_succ])
  refine wpAnyH_take (i := 18) (oi := ⟨some 3, _, _, _, _, _⟩) (v := ?_) rfl (by kernel_rfl) (by kernel_rfl) (by kernel_rfl) (fun _ _ _ h => h) (Or.inl ⟨by rfl, ?_⟩) (by assumption) ?_
  rotate_left
  · ((intro w hSw; (try dsimp only at hSw); go_simp); try with_reducible rfl)
  (try simp only [Act.put, List.setIfInBounds_toArray, List.set_cons_zero, List.set_cons_succ])
  refine wpAnyH_take (i := 19) (oi := ⟨some 4, _, _, _, _, _⟩) (v := ?_) rfl (by kernel_rfl) (by kernel_rfl) (by kernel_rfl) (fun _ _ _ h => h) (Or.inl ⟨by rfl, ?_⟩) (by assumption) ?_
  rotate_left
  · ((intro w hSw; (try dsimp only at hSw); go_simp); try with_reducible rfl)
  (try simp only [Act.put, List.setIfInBounds_toArray, List.set_cons_zero, List.set_cons_succ])
  refine wpAnyH_done (by kernel_rfl) ?_ _
  have hx := HBX.out w4 hk4
  have x0 := hx 0
  have x1 := hx 1
  have x2 := hx 2
  have x3 := hx 3
  have x4 := hx 4
  have x5 := hx 5
  clear hx
  go_wp2_with fail
  refine (C5.out.go hk4).mono ?_
  rintro e w5 ⟨rfl, hb5⟩
  have hk5 := keepS hk4 hb5
  clear hb5 x0 x1 x2 x3 x4 x5
  have hx := HBX.out w5 hk5
  have x0 := hx 0
  have x1 := hx 1
  have x2 := hx 2
  have x3 := hx 3
  have x4 := hx 4
  have x5 := hx 5
  clear hx
  go_wp2_with fail
  go_ret
  exact ⟨congrArg (fun b : ByteArray => Ending.returned (Value.string b)) (((Txt.lit [115, 116, 111, 112, 32, 118]).app X5.out).is.trans (congrArg mkB (by simp [endText, targetText, listV, valueText]))), keepS HB0.out hk5⟩
set_option maxRecDepth 100000 in
set_option maxHeartbeats 4000000 in
theorem rend_x (K A To El : Int) (la ma : Option Addr) (ln lc mn mc : Nat) (L M : List Int) (w : World) (h : EndQ w [.int .i64 K, .int .i64 A, .int .i64 To, .int .i64 El, .slice la ln lc, .slice ma mn mc] ⟨K, A, To, El, L, M⟩) (hn1 : ln ≤ 1048576) (hn2 : mn ≤ 1048576) (hk : K ≠ 0 ∧ K ≠ 1 ∧ K ≠ 2 ∧ K ≠ 3) (q0 : (K == 0) = false) (q1 : (K == 1) = false) (q2 : (K == 2) = false) (q3 : (K == 3) = false) :
    Calls Tryd.prog 25 #[.agg #[.int .i64 K, .int .i64 A, .int .i64 To, .int .i64 El, .slice la ln lc, .slice ma mn mc]] w fun e w' => e = .returned (.string (mk (endText ⟨K, A, To, El, L, M⟩))) ∧ Below w.heap.size w w' := by
  obtain ⟨l1, m1, he, rK, rA, rT, rE, ⟨a', n', c', hl, hat1, hnil1, hm1, hr1⟩, ⟨b', k', d', hm, hat2, hnil2, hm2, hr2⟩⟩ := h
  simp only [List.cons.injEq, Value.int.injEq, true_and, and_true] at he
  obtain ⟨rfl, rfl⟩ := he
  cases hl
  cases hm
  have hlen1 : L.length ≤ 1048576 := by rw [hat1.1]; exact hn1
  have hlen2 : M.length ≤ 1048576 := by rw [hat2.1]; exact hn2
  obtain ⟨W, hW⟩ : ∃ W, W = w.alloc (.cells #[.int .i64 K, .int .i64 A, .int .i64 To, .int .i64 El, .slice la ln lc, .slice ma mn mc] 46) := ⟨_, rfl⟩
  have hb0 : Below w.heap.size w W := by rw [hW]; exact (Below.refl _ _).alloc (Nat.le_refl _) _
  have hblk : W.heap[w.heap.size]? = some (.cells #[.int .i64 K, .int .i64 A, .int .i64 To, .int .i64 El, .slice la ln lc, .slice ma mn mc] 46 (0, 0)) := by rw [hW]; exact heap_alloc_new w _
  have HB0 := Lib.hid hb0
  have HBX : RowKit.Hid (∀ u, Below W.heap.size W u → ∀ j, u.cell? ⟨w.heap.size, j, none⟩ = (#[.int .i64 K, .int .i64 A, .int .i64 To, .int .i64 El, .slice la ln lc, .slice ma mn mc] : Array Value)[j]?) := Lib.hid fun u hb j => by
    have : u.heap[w.heap.size]? = _ := (hb.block _ (Array.getElem?_eq_some_iff.1 hblk).1).trans hblk
    simp [World.cell?, this]
  have HKS : RowKit.Hid (∀ u, Below W.heap.size W u → (fun u => u.cell? ⟨w.heap.size, 0, none⟩ = some (.int .i64 K) ∧ u.cell? ⟨w.heap.size, 1, none⟩ = some (.int .i64 A) ∧ u.cell? ⟨w.heap.size, 2, none⟩ = some (.int .i64 To) ∧ u.cell? ⟨w.heap.size, 3, none⟩ = some (.int .i64 El) ∧ u.cell? ⟨w.heap.size, 4, none⟩ = some (.slice la ln lc) ∧ u.cell? ⟨w.heap.size, 5, none⟩ = some (.slice ma mn mc)) u) := Lib.hid fun u hb => ⟨HBX.out u hb 0, HBX.out u hb 1, HBX.out u hb 2, HBX.out u hb 3, HBX.out u hb 4, HBX.out u hb 5⟩
  have X1 := Lib.hid (itoa_txt rT)
  have C1 := Lib.hid (Says.since (says_num rT) hb0)
  obtain ⟨t1, h1⟩ : ∃ t, t = mkB (Lib.itoa To) := ⟨_, rfl⟩
  rw [← h1] at X1 C1
  have z1 := X1.out.size
  have X2 := Lib.hid (nums_txt hlen1 hr1)
  have C2 := Lib.hid (Says.since (says_list1 (c := lc) hat1 hn1 hr1) hb0)
  obtain ⟨t2, h2⟩ : ∃ t, t = mk (listText valueText L) := ⟨_, rfl⟩
  rw [← h2] at X2 C2
  have z2 := X2.out.size
  have X3 := Lib.hid (itoa_txt rE)
  have C3 := Lib.hid (Says.since (says_num rE) hb0)
  obtain ⟨t3, h3⟩ : ∃ t, t = mkB (Lib.itoa El) := ⟨_, rfl⟩
  rw [← h3] at X3 C3
  have z3 := X3.out.size
  have X4 := Lib.hid (nums_txt hlen2 hr2)
  have C4 := Lib.hid (Says.since (says_list1 (c := mc) hat2 hn2 hr2) hb0)
  obtain ⟨t4, h4⟩ : ∃ t, t = mk (listText valueText M) := ⟨_, rfl⟩
  rw [← h4] at X4 C4
  have z4 := X4.out.size
  clear h1 h2 h3 h4
  clear hblk hb0 hat1 hat2 hr1 hr2 rK rA rT rE
  have hk0 : Below W.heap.size W W.drew := (Below.refl _ _).drew
  go_enter Tryd.func25, Tryd.ntmps25
  go_upto_region 1 with fail
  rw [← hW]
  clear hW
  refine wp_region_held_drew (S := (fun u => u.cell? ⟨w.heap.size, 0, none⟩ = some (.int .i64 K) ∧ u.cell? ⟨w.heap.size, 1, none⟩ = some (.int .i64 A) ∧ u.cell? ⟨w.heap.size, 2, none⟩ = some (.int .i64 To) ∧ u.cell? ⟨w.heap.size, 3, none⟩ = some (.int .i64 El) ∧ u.cell? ⟨w.heap.size, 4, none⟩ = some (.slice la ln lc) ∧ u.cell? ⟨w.heap.size, 5, none⟩ = some (.slice ma mn mc))) (by kernel_rfl) (HKS.out _ hk0) (fun hHeld => ?_)
  refine wpAnyH_take (i := 0) (oi := ⟨some 5, _, _, _, _, _⟩) (v := ?_) rfl (by kernel_rfl) (by kernel_rfl) (by kernel_rfl) (fun _ _ _ h => h) (Or.inl ⟨by rfl, ?_⟩) (by assumption) ?_
  rotate_left
  · ((intro w hSw; (try dsimp only at hSw); go_simp); try with_reducible rfl)
  (try simp only [Act.put, List.setIfInBounds_toArray, List.set_cons_zero, List.set_cons_succ])
  refine wpAnyH_take (i := 1) (oi := ⟨some 6, _, _, _, _, _⟩) (v := ?_) rfl (by kernel_rfl) (by kernel_rfl) (by kernel_rfl) (fun _ _ _ h => h) (Or.inl ⟨by rfl, ?_⟩) (by assumption) ?_
  rotate_left
  · ((intro w hSw; (try dsimp only at hSw); go_simp); try with_reducible rfl)
  (try simp only [Act.put, List.setIfInBounds_toArray, List.set_cons_zero, List.set_cons_succ])
  refine wpAnyH_take (i := 4) (oi := ⟨some 9, _, _, _, _, _⟩) (v := ?_) rfl (by kernel_rfl) (by kernel_rfl) (by kernel_rfl) (fun _ _ _ h => h) (Or.inl ⟨by rfl, ?_⟩) (by assumption) ?_
  rotate_left
  · ((intro w hSw; (try dsimp only at hSw); go_simp); try with_reducible rfl)
  (try simp only [Act.put, List.setIfInBounds_toArray, List.set_cons_zero, List.set_cons_succ])
  refine wpAnyH_take (i := 5) (oi := ⟨some 10, _, _, _, _, _⟩) (v := ?_) rfl (by kernel_rfl) (by kernel_rfl) (by kernel_rfl) (fun _ _ _ h => h) (Or.inl ⟨by rfl, ?_⟩) (by assumption) ?_
  rotate_left
  · ((intro w hSw; (try dsimp only at hSw); go_simp); try with_reducible rfl)
  (try simp only [Act.put, List.setIfInBounds_toArray, List.set_cons_zero, List.set_cons_succ])
  refine wpAnyH_take (i := 9) (oi := ⟨some 14, _, _, _, _, _⟩) (v := ?_) rfl (by kernel_rfl) (by kernel_rfl) (by kernel_rfl) (fun _ _ _ h => h) (Or.inl ⟨by rfl, ?_⟩) (by assumption) ?_
  rotate_left
  · ((intro w hSw; (try dsimp only at hSw); go_simp); try with_reducible rfl)
  (try simp only [Act.put, List.setIfInBounds_toArray, List.set_cons_zero, List.set_cons_succ])
  refine wpAnyH_take (i := 10) (oi := ⟨some 15, _, _, _, _, _⟩) (v := ?_) rfl (by kernel_rfl) (by kernel_rfl) (by kernel_rfl) (fun _ _ _ h => h) (Or.inl ⟨by rfl, ?_⟩) (by assumption) ?_
  rotate_left
  · ((intro w hSw; (try dsimp only at hSw); go_simp); try with_reducible rfl)
  (try simp only [Act.put, List.setIfInBounds_toArray, List.set_cons_zero, List.set_cons_succ])
  refine wpAnyH_take (i := 13) (oi := ⟨some 18, _, _, _, _, _⟩) (v := ?_) rfl (by kernel_rfl) (by kernel_rfl) (by kernel_rfl) (fun _ _ _ h => h) (Or.inl ⟨by rfl, ?_⟩) (by assumption) ?_
  rotate_left
  · ((intro w hSw; (try dsimp only at hSw); go_simp); try with_reducible rfl)
  (try simp only [Act.put, List.setIfInBounds_toArray, List.set_cons_zero, List.set_cons_succ])
  refine wpAnyH_take (i := 14) (oi := ⟨some 19, _, _, _, _, _⟩) (v := ?_) rfl (by kernel_rfl) (by kernel_rfl) (by kernel_rfl) (fun _ _ _ h => h) (Or.inl ⟨by rfl, ?_⟩) (by assumption) ?_
  rotate_left
  · ((intro w hSw; (try dsimp only at hSw); go_simp); try with_reducible rfl)
  (try simp only [Act.put, List.setIfInBounds_toArray, List.set_cons_zero, List.set_cons_succ])
  refine wpAnyH_ready (rs := [2]) (by kernel_rfl) (by simp) (AllReadyH.cons rfl (fun K hK => ?_) AllReadyH.nil)
  rw [if_pos (by rfl)]
  go_simp
  go_at_call 23
  (with_reducible refine (C1.out.go hk0).mono ?_)
  rintro e w1 ⟨rfl, hb1⟩
  have hk1 := keepS hk0 hb1
  clear hb1
  refine hK.out _ _ (HKS.out _ hk1) (fun hHeld => ?_)
  clear hK K
  (try simp only [Act.put, List.setIfInBounds_toArray, List.set_cons_zero, List.set_cons_succ])
  refine wpAnyH_take (i := 3) (oi := ⟨some 8, _, _, _, _, _⟩) (v := ?_) rfl (by kernel_rfl) (by kernel_rfl) (by kernel_rfl) (fun _ _ _ h => h) (Or.inl ⟨by rfl, ?_⟩) (by assumption) ?_
  rotate_left
  · ((intro w hSw; (try dsimp only at hSw); go_simp; rw [if_neg (by omega)]); try with_reducible rfl)
  (try simp only [Act.put, List.setIfInBounds_toArray, List.set_cons_zero, List.set_cons_succ])
  refine wpAnyH_ready (rs := [6]) (by kernel_rfl) (by simp) (AllReadyH.cons rfl (fun K hK => ?_) AllReadyH.nil)
  rw [if_pos (by rfl)]
  go_simp
  go_at_call 18
  (with_reducible refine (C2.out.go hk1).mono ?_)
  rintro e w2 ⟨rfl, hb2⟩
  have hk2 := keepS hk1 hb2
  clear hb2
  refine hK.out _ _ (HKS.out _ hk2) (fun hHeld => ?_)
  clear hK K
  (try simp only [Act.put, List.setIfInBounds_toArray, List.set_cons_zero, List.set_cons_succ])
  refine wpAnyH_take (i := 7) (oi := ⟨some 12, _, _, _, _, _⟩) (v := ?_) rfl (by kernel_rfl) (by kernel_rfl) (by kernel_rfl) (fun _ _ _ h => h) (Or.inl ⟨by rfl, ?_⟩) (by assumption) ?_
  rotate_left
  · ((intro w hSw; (try dsimp only at hSw); go_simp; rw [if_neg (by omega)]); try with_reducible rfl)
  (try simp only [Act.put, List.setIfInBounds_toArray, List.set_cons_zero, List.set_cons_succ])
  refine wpAnyH_take (i := 8) (oi := ⟨some 13, _, _, _, _, _⟩) (v := ?_) rfl (by kernel_rfl) (by kernel_rfl) (by kernel_rfl) (fun _ _ _ h => h) (Or.inl ⟨by rfl, ?_⟩) (by assumption) ?_
  rotate_left
  · ((intro w hSw; (try dsimp only at hSw); go_simp; rw [if_neg (by omega)]); try with_reducible rfl)
  (try simp only [Act.put, List.setIfInBounds_toArray, List.set_cons_zero, List.set_cons_succ])
  refine wpAnyH_ready (rs := [11]) (by kernel_rfl) (by simp) (AllReadyH.cons rfl (fun K hK => ?_) AllReadyH.nil)
  rw [if_pos (by rfl)]
  go_simp
  go_at_call 23
  (with_reducible refine (C3.out.go hk2).mono ?_)
  rintro e w3 ⟨rfl, hb3⟩
  have hk3 := keepS hk2 hb3
  clear hb3
  refine hK.out _ _ (HKS.out _ hk3) (fun hHeld => ?_)
  clear hK K
  (try simp only [Act.put, List.setIfInBounds_toArray, List.set_cons_zero, List.set_cons_succ])
  refine wpAnyH_take (i := 12) (oi := ⟨some 17, _, _, _, _, _⟩) (v := ?_) rfl (by kernel_rfl) (by kernel_rfl) (by kernel_rfl) (fun _ _ _ h => h) (Or.inl ⟨by rfl, ?_⟩) (by assumption) ?_
  rotate_left
  · ((intro w hSw; (try dsimp only at hSw); go_simp; rw [if_neg (by omega)]); try with_reducible rfl)
  (try simp only [Act.put, List.setIfInBounds_toArray, List.set_cons_zero, List.set_cons_succ])
  refine wpAnyH_ready (rs := [15]) (by kernel_rfl) (by simp) (AllReadyH.cons rfl (fun K hK => ?_) AllReadyH.nil)
  rw [if_pos (by rfl)]
  go_simp
  go_at_call 18
  (with_reducible refine (C4.out.go hk3).mono ?_)
  rintro e w4 ⟨rfl, hb4⟩
  have hk4 := keepS hk3 hb4
  clear hb4
  refine hK.out _ _ (HKS.out _ hk4) (fun hHeld => ?_)
  clear hK K
  (try simp only [Act.put, List.setIfInBounds_toArray, List.set_cons_zero, List.set_cons_succ])
  refine wpAnyH_take (i := 16) (oi := ⟨some 21, _, _, _, _, _⟩) (v := ?_) rfl (by kernel_rfl) (by kernel_rfl) (by kernel_rfl) (fun _ _ _ h => h) (Or.inl ⟨by rfl, ?_⟩) (by assumption) ?_
  rotate_left
  · ((intro w hSw; (try dsimp only at hSw); go_simp; rw [if_neg (by omega)]); try with_reducible rfl)
  (try simp only [Act.put, List.setIfInBounds_toArray, List.set_cons_zero, List.set_cons_succ])
  refine wpAnyH_take (i := 17) (oi := ⟨some 22, _, _, _, _, _⟩) (v := ?_) rfl (by kernel_rfl) (by kernel_rfl) (by kernel_rfl) (fun _ _ _ h => h) (Or.inl ⟨by rfl, ?_⟩) (by assumption) ?_
  rotate_left
  · ((intro w hSw; (try dsimp only at hSw); go_simp; rw [if_neg (by omega)]); try with_reducible rfl)
  (try simp only [Act.put, List.setIfInBounds_toArray, List.set_cons_zero, List.set_cons_succ])
  refine wpAnyH_take (i := 18) (oi := ⟨some 3, _, _, _, _, _⟩) (v := ?_) rfl (by kernel_rfl) (by kernel_rfl) (by kernel_rfl) (fun _ _ _ h => h) (Or.inl ⟨by rfl, ?_⟩) (by assumption) ?_
  rotate_left
  · ((intro w hSw; (try dsimp only at hSw); go_simp); try with_reducible rfl)
  (try simp only [Act.put, List.setIfInBounds_toArray, List.set_cons_zero, List.set_cons_succ])
  refine wpAnyH_take (i := 19) (oi := ⟨some 4, _, _, _, _, _⟩) (v := ?_) rfl (by kernel_rfl) (by kernel_rfl) (by kernel_rfl) (fun _ _ _ h => h) (Or.inl ⟨by rfl, ?_⟩) (by assumption) ?_
  rotate_left
  · ((intro w hSw; (try dsimp only at hSw); go_simp); try with_reducible rfl)
  (try simp only [Act.put, List.setIfInBounds_toArray, List.set_cons_zero, List.set_cons_succ])
  refine wpAnyH_done (by kernel_rfl) ?_ _
  have hx := HBX.out w4 hk4
  have x0 := hx 0
  have x1 := hx 1
  have x2 := hx 2
  have x3 := hx 3
  have x4 := hx 4
  have x5 := hx 5
  clear hx
  go_wp2_with fail
  go_ret
  exact ⟨congrArg (fun b : ByteArray => Ending.returned (Value.string b)) ((Txt.lit [63]).is.trans (congrArg mkB (by unfold endText; simp only; rw [if_neg hk.1, if_neg hk.2.1, if_neg hk.2.2.1, if_neg hk.2.2.2]))), keepS HB0.out hk4⟩
theorem rend_any (la ma : Option Addr) (ln lc mn mc : Nat) (y : EndD) (w : World) (h : EndQ w [.int .i64 y.K, .int .i64 y.A, .int .i64 y.To, .int .i64 y.Else, .slice la ln lc, .slice ma mn mc] y) (hn1 : ln ≤ 1048576) (hn2 : mn ≤ 1048576) :
    Calls Tryd.prog 25 #[.agg #[.int .i64 y.K, .int .i64 y.A, .int .i64 y.To, .int .i64 y.Else, .slice la ln lc, .slice ma mn mc]] w fun e w' => e = .returned (.string (mk (endText y))) ∧ Below w.heap.size w w' := by
  obtain ⟨K, A, To, El, L, M⟩ := y
  by_cases h0 : K = 0
  · subst h0; exact rend_0 A To El la ma ln lc mn mc L M w h hn1 hn2
  by_cases h1 : K = 1
  · subst h1; exact rend_1 A To El la ma ln lc mn mc L M w h hn1 hn2
  by_cases h2 : K = 2
  · subst h2; exact rend_2 A To El la ma ln lc mn mc L M w h hn1 hn2
  by_cases h3 : K = 3
  · subst h3; exact rend_3 A To El la ma ln lc mn mc L M w h hn1 hn2
  exact rend_x K A To El la ma ln lc mn mc L M w h hn1 hn2 ⟨h0, h1, h2, h3⟩ (by rw [beq_eq_false_iff_ne]; exact h0) (by rw [beq_eq_false_iff_ne]; exact h1) (by rw [beq_eq_false_iff_ne]; exact h2) (by rw [beq_eq_false_iff_ne]; exact h3)
set_option maxRecDepth 100000 in
set_option maxHeartbeats 4000000 in
theorem class_any (a b : Option Addr) (n c m d : Nat) (y : ClassD) (w : World) (h : ClassQ w [.slice a n c, .slice b m d] y) (hn : n ≤ 1048576) (hm : m ≤ 1048576) (hp : PT w) (ht : TN w) :
    Calls Tryd.prog 16 #[.agg #[.slice a n c, .slice b m d]] w fun e w' => e = .returned (.string (mk (classText y))) ∧ Below w.heap.size w w' := by
  obtain ⟨p, q, he, ⟨a', n', c', h1, hat1, _, _, hr1⟩, ⟨b', m', d', h2, hat2, _, _, hr2⟩⟩ := h
  cases he
  cases h1
  cases h2
  have hlen1 : y.fields.length ≤ 1048576 := by rw [hat1.1]; exact hn
  have hlen2 : y.methods.length ≤ 1048576 := by rw [hat2.1]; exact hm
  obtain ⟨W, hW⟩ : ∃ W, W = w.alloc (.cells #[.slice a n c, .slice b m d] 43) := ⟨_, rfl⟩
  have hb0 : Below w.heap.size w W := by rw [hW]; exact (Below.refl _ _).alloc (Nat.le_refl _) _
  have hblk : W.heap[w.heap.size]? = some (.cells #[.slice a n c, .slice b m d] 43 (0, 0)) := by rw [hW]; exact heap_alloc_new w _
  have HB0 := Lib.hid hb0
  have HBX : RowKit.Hid (∀ u, Below W.heap.size W u → ∀ j, u.cell? ⟨w.heap.size, j, none⟩ = (#[.slice a n c, .slice b m d] : Array Value)[j]?) := Lib.hid fun u hb j => by
    have : u.heap[w.heap.size]? = _ := (hb.block _ (Array.getElem?_eq_some_iff.1 hblk).1).trans hblk
    simp [World.cell?, this]
  have X1 := Lib.hid (digits_txt hlen2 hr2)
  have C1 := Lib.hid (Says.since (says_methods (c := d) hat2 hm hr2 hp) hb0)
  obtain ⟨t1, h1⟩ : ∃ t, t = mk (listText Lib.itoa y.methods) := ⟨_, rfl⟩
  rw [← h1] at X1 C1
  have z1 := X1.out.size
  have X2 := Lib.hid (listT_txt type_len hlen1 hr1)
  have C2 := Lib.hid (Says.since (says_types (c := c) hat1 hn hr1 hp ht) hb0)
  obtain ⟨t2, h2⟩ : ∃ t, t = mk (listT typeText y.fields) := ⟨_, rfl⟩
  rw [← h2] at X2 C2
  have z2 := X2.out.size
  clear h1 h2 hblk hb0 hat1 hat2 hr1 hr2 hp ht
  have hk0 : Below W.heap.size W W := Below.refl _ _
  go_enter Tryd.func16, Tryd.ntmps16
  go_upto_region 1 with fail
  rw [← hW]
  clear hW
  have x1 := HBX.out W hk0 1
  go_wp2_with fail
  refine (C1.out.go hk0).mono ?_
  rintro e w1 ⟨rfl, hb1⟩
  have hk1 := keepS hk0 hb1
  clear hb1 x1
  have x0 := HBX.out w1 hk1 0
  go_wp2_with fail
  refine (C2.out.go hk1).mono ?_
  rintro e w2 ⟨rfl, hb2⟩
  have hk2 := keepS hk1 hb2
  clear hb2 x0
  go_wp2_with fail
  go_ret
  exact ⟨congrArg (fun b : ByteArray => Ending.returned (Value.string b)) (((((Txt.lit [99, 108, 97, 115, 115, 32]).app X2.out).app (Txt.lit [32, 91])).app X1.out).app (Txt.lit [93, 10])).is, keepS HB0.out hk2⟩
end Go.Proofs.YtccajbgdlicbnaaDoor
