/- Layer 6, P6.2: the document's Op, walked: a walk for each set of letters (mk_so.py). -/
import Derived.Test.YtccajbgdlicbnaaDoorQKindRef
import Derived.Test.YtccajbgdlicbnaaDoorQT0
import Derived.Test.YtccajbgdlicbnaaDoorQT3

namespace Go.Proofs.YtccajbgdlicbnaaDoor
open Go.RowKit (wrap64 intOf Below)
set_option linter.unusedVariables false
set_option linter.unusedSimpArgs false

def fieldF (K A B C N : Int) (S : ByteArray) (L : List Int) (T : Bool) (c : UInt8) : List UInt8 :=
  if c = 83 then quoteL S.data.toList else if c = 76 then listV L else plainField K A B C N T c
def partText (F : UInt8 → List UInt8) (cs : List UInt8) : List UInt8 := fieldsText F cs
theorem values_len {L : List Int} (h2 : L.length ≤ 1048576) (hr : ∀ z ∈ L, InR z) : (listText valueText L).length ≤ 100000000 := by
  have h1 := listText_len (M := 22) L (fun x hx => value_len x (hr x hx))
  have h3 : L.length * (22 + 1) ≤ 1048576 * 23 := Nat.mul_le_mul_right _ h2
  omega
theorem itoa_ne (n : Int) : Lib.itoa n ≠ [] := by
  unfold Lib.itoa
  split
  · simp
  · intro h
    by_cases h10 : n.toNat < 10
    · rw [dec_small h10] at h; cases h
    · rw [dec_big h10] at h; simp at h
theorem name_ne {n : Int} {ls : List (List UInt8)} (h : ∀ k, k < ls.length → ls.getD k [] ≠ []) : nameOf ls n ≠ [] := by
  unfold nameOf
  split
  · simp
  · rename_i h'
    exact h n.toNat (by omega)
theorem number_ne (K N : Int) : numberText K N ≠ [] := by
  unfold numberText
  split
  · exact name_ne (by decide)
  · exact itoa_ne N
/-- A string that is known by its bytes, and small. -/
structure Txt (s : ByteArray) (l : List UInt8) (m : Nat) : Prop where
  is : s = mkB l
  len : l.length ≤ m
theorem Txt.size {s : ByteArray} {l : List UInt8} {m : Nat} (h : Txt s l m) : s.size ≤ m := by rw [h.is, mkB_size]; exact h.len
theorem Txt.app {s t : ByteArray} {l r : List UInt8} {m k : Nat} (h : Txt s l m) (h' : Txt t r k) : Txt (s ++ t) (l ++ r) (m + k) := ⟨by rw [h.is, h'.is, mkB_append], by rw [List.length_append]; have := h.len; have := h'.len; omega⟩
theorem Txt.lit (l : List UInt8) : Txt (mkB l) l l.length := ⟨rfl, Nat.le_refl _⟩
def Ref6 (K A B C N : Int) (S : ByteArray) (la : Option Addr) (ln lc : Nat) (L : List Int) (T : Bool) (w : World) : Prop :=
  Calls Tryd.prog 24 #[.agg #[.int .i64 K, .int .i64 A, .int .i64 B, .int .i64 C, .int .i64 N, .string S, .slice la ln lc, .bool T]] w fun e w' => e = .returned (.string (mk (opText K (fieldF K A B C N S L T)))) ∧ Below w.heap.size w w'
theorem has_set {K : Int} {cs : List UInt8} (h : fieldsL K = cs) (c : UInt8) (b : Bool) (hb : cs.contains c = b) (w : World) : Calls Tryd.prog 43 #[.int .i64 K, .int .u8 (c.toNat : Int)] w fun e w' => e = .returned (.bool b) ∧ w = w' := by
  have h1 := has_any c K w
  unfold hasB at h1
  rw [h, hb] at h1
  exact h1
theorem shown_some {F : UInt8 → List UInt8} {c : UInt8} (h : F c ≠ []) : shownF F c = 32 :: F c := by unfold shownF; rw [if_neg h]
theorem sign_len : ∀ n : Int, (nameOf signNames n).length ≤ 4 := fun n => by
  unfold nameOf
  split
  · simp
  · rename_i h
    obtain ⟨k, rfl⟩ := Int.eq_ofNat_of_zero_le (show 0 ≤ n by omega)
    have hk : k < signNames.length := by omega
    have hall : ∀ k, k < signNames.length → (signNames.getD k []).length ≤ 4 := by decide
    exact hall k hk
set_option maxRecDepth 100000 in
set_option maxHeartbeats 4000000 in
theorem ref6_0 (K A B C N : Int) (S : ByteArray) (la : Option Addr) (ln lc : Nat) (L : List Int) (T : Bool) (w : World) (hset : fieldsL K = [78]) (hK : K ≠ 3) (hA : InR A) (hB : InR B) (hC : InR C) (hN : InR N) (hS : S.size ≤ 1048576) (hat : NumsAt w la ln L) (hln : ln ≤ 1048576) (hr : ∀ z ∈ L, InR z) : Ref6 K A B C N S la ln lc L T w := by
  unfold Ref6
  obtain ⟨hA0, hA1⟩ := hA
  obtain ⟨hB0, hB1⟩ := hB
  obtain ⟨hC0, hC1⟩ := hC
  obtain ⟨hN0, hN1⟩ := hN
  have hb0 : Below w.heap.size w (w.alloc (.cells #[.int .i64 K, .int .i64 A, .int .i64 B, .int .i64 C, .int .i64 N, .string S, .slice la ln lc, .bool T] 50)) := (Below.refl _ _).alloc (Nat.le_refl _) _
  have hblk := heap_alloc_new w (.cells #[.int .i64 K, .int .i64 A, .int .i64 B, .int .i64 C, .int .i64 N, .string S, .slice la ln lc, .bool T] 50)
  obtain ⟨W, hW⟩ : ∃ W, W = w.alloc (.cells #[.int .i64 K, .int .i64 A, .int .i64 B, .int .i64 C, .int .i64 N, .string S, .slice la ln lc, .bool T] 50) := ⟨_, rfl⟩
  rw [← hW] at hb0 hblk
  have HB0 := Lib.hid hb0
  have HLT : RowKit.Hid (w.heap.size < W.heap.size) := Lib.hid (Array.getElem?_eq_some_iff.1 hblk).1
  have HBX : RowKit.Hid (∀ u, Below W.heap.size W u → ∀ j, u.cell? ⟨w.heap.size, j, none⟩ = (#[.int .i64 K, .int .i64 A, .int .i64 B, .int .i64 C, .int .i64 N, .string S, .slice la ln lc, .bool T] : Array Value)[j]?) := Lib.hid fun u hb j => by
    have : u.heap[w.heap.size]? = _ := (hb.block _ HLT.out).trans hblk
    simp [World.cell?, this]
  have HSET := Lib.hid hset
  have HAT := Lib.hid (hat.below hb0 (Nat.le_refl _))
  have HR := Lib.hid hr
  have HX0 : RowKit.Hid (Txt (mk (nameOf stepNames K)) (nameOf stepNames K) 5) := Lib.hid ⟨rfl, names_len K⟩
  have HTN : RowKit.Hid (Txt (mkB (Lib.itoa N)) (Lib.itoa N) 21) := Lib.hid ⟨rfl, Lib.itoa_length_le N (by omega) (by omega)⟩
  have hk3 : (K == 3) = false := by rw [beq_eq_false_iff_ne]; exact hK
  have HWD := Lib.hid (word_any (mk stepWords) K W (by rw [mk_size]; decide))
  rw [mk_list, words_steps] at HWD
  obtain ⟨t0, ht0⟩ : ∃ t, t = mk (nameOf stepNames K) := ⟨_, rfl⟩
  rw [← ht0] at HWD HX0
  have hz0 := HX0.out.size
  clear hat hr hset hb0 hblk ht0
  go_enter Tryd.func24, Tryd.ntmps24
  go_upto_region 1 with fail
  rw [← hW]
  clear hW
  have x0 := HBX.out W (Below.refl _ _) 0
  go_wp2_with fail
  refine HWD.out.mono ?_
  rintro e w0 ⟨rfl, rfl⟩
  clear HWD
  have x1 := HBX.out W (Below.refl _ _) 1
  have x2 := HBX.out W (Below.refl _ _) 2
  have x3 := HBX.out W (Below.refl _ _) 3
  have x4 := HBX.out W (Below.refl _ _) 4
  have x5 := HBX.out W (Below.refl _ _) 5
  have x6 := HBX.out W (Below.refl _ _) 6
  have x7 := HBX.out W (Below.refl _ _) 7
  go_wp2_with fail
  refine (has_set HSET.out 78 true (by decide) W).mono ?_
  rintro e w0 ⟨rfl, rfl⟩
  go_wp2_with fail
  refine (has_set HSET.out 78 true (by decide) W).mono ?_
  rintro e w0 ⟨rfl, rfl⟩
  have HC1 := Lib.hid (ref_digits N W (by omega) (by omega))
  obtain ⟨s1, hs1⟩ : ∃ t, t = mkB (Lib.itoa N) := ⟨_, rfl⟩
  rw [← hs1] at HC1 HTN
  have hz1 := HTN.out.size
  clear hs1
  go_wp2_with fail
  refine HC1.out.mono ?_
  rintro e w1 ⟨rfl, hb1⟩
  have HB1 := Lib.hid (keepS (Below.refl W.heap.size W) hb1)
  clear hb1 x0 x1 x2 x3 x4 x5 x6 x7
  have x0 := HBX.out w1 HB1.out 0
  have x1 := HBX.out w1 HB1.out 1
  have x2 := HBX.out w1 HB1.out 2
  have x3 := HBX.out w1 HB1.out 3
  have x4 := HBX.out w1 HB1.out 4
  have x5 := HBX.out w1 HB1.out 5
  have x6 := HBX.out w1 HB1.out 6
  have x7 := HBX.out w1 HB1.out 7
  go_wp2_with fail
  refine (has_set HSET.out 83 false (by decide) w1).mono ?_
  rintro e w0 ⟨rfl, rfl⟩
  go_wp2_with fail
  refine (has_set HSET.out 65 false (by decide) w1).mono ?_
  rintro e w0 ⟨rfl, rfl⟩
  go_wp2_with fail
  refine (has_set HSET.out 66 false (by decide) w1).mono ?_
  rintro e w0 ⟨rfl, rfl⟩
  go_wp2_with fail
  refine (has_set HSET.out 67 false (by decide) w1).mono ?_
  rintro e w0 ⟨rfl, rfl⟩
  go_wp2_with fail
  refine (has_set HSET.out 76 false (by decide) w1).mono ?_
  rintro e w0 ⟨rfl, rfl⟩
  cases T
  · go_wp2_with fail
    refine (has_set HSET.out 75 false (by decide) w1).mono ?_
    rintro e w0 ⟨rfl, rfl⟩
    go_wp2_with fail
    go_ret
    have HFIN := ((HX0.out).app (Txt.lit [32])).app HTN.out
    refine ⟨congrArg (fun b : ByteArray => Ending.returned (Value.string b)) (HFIN.is.trans ?_), keepS HB0.out HB1.out⟩
    show mkB _ = mkB _
    congr 1
    unfold opText fieldsText
    rw [HSET.out]
    (try simp only [List.map_cons, List.map_nil, List.flatten_cons, List.flatten_nil, List.append_nil])
    rw [(show shownF (fieldF K A B C N S L false) 78 = 32 :: numberText K N from shown_some (number_ne _ _))]
    rw [show numberText K N = Lib.itoa N from if_neg hK]
    (try simp [valueText, listV])
  · go_wp2_with fail
    refine (has_set HSET.out 75 false (by decide) w1).mono ?_
    rintro e w0 ⟨rfl, rfl⟩
    go_wp2_with fail
    go_ret
    have HFIN := ((HX0.out).app (Txt.lit [32])).app HTN.out
    refine ⟨congrArg (fun b : ByteArray => Ending.returned (Value.string b)) (HFIN.is.trans ?_), keepS HB0.out HB1.out⟩
    show mkB _ = mkB _
    congr 1
    unfold opText fieldsText
    rw [HSET.out]
    (try simp only [List.map_cons, List.map_nil, List.flatten_cons, List.flatten_nil, List.append_nil])
    rw [(show shownF (fieldF K A B C N S L true) 78 = 32 :: numberText K N from shown_some (number_ne _ _))]
    rw [show numberText K N = Lib.itoa N from if_neg hK]
    (try simp [valueText, listV])

set_option maxRecDepth 100000 in
set_option maxHeartbeats 4000000 in
theorem ref6_1 (K A B C N : Int) (S : ByteArray) (la : Option Addr) (ln lc : Nat) (L : List Int) (T : Bool) (w : World) (hset : fieldsL K = [83]) (hA : InR A) (hB : InR B) (hC : InR C) (hN : InR N) (hS : S.size ≤ 1048576) (hat : NumsAt w la ln L) (hln : ln ≤ 1048576) (hr : ∀ z ∈ L, InR z) : Ref6 K A B C N S la ln lc L T w := by
  unfold Ref6
  obtain ⟨hA0, hA1⟩ := hA
  obtain ⟨hB0, hB1⟩ := hB
  obtain ⟨hC0, hC1⟩ := hC
  obtain ⟨hN0, hN1⟩ := hN
  have hb0 : Below w.heap.size w (w.alloc (.cells #[.int .i64 K, .int .i64 A, .int .i64 B, .int .i64 C, .int .i64 N, .string S, .slice la ln lc, .bool T] 50)) := (Below.refl _ _).alloc (Nat.le_refl _) _
  have hblk := heap_alloc_new w (.cells #[.int .i64 K, .int .i64 A, .int .i64 B, .int .i64 C, .int .i64 N, .string S, .slice la ln lc, .bool T] 50)
  obtain ⟨W, hW⟩ : ∃ W, W = w.alloc (.cells #[.int .i64 K, .int .i64 A, .int .i64 B, .int .i64 C, .int .i64 N, .string S, .slice la ln lc, .bool T] 50) := ⟨_, rfl⟩
  rw [← hW] at hb0 hblk
  have HB0 := Lib.hid hb0
  have HLT : RowKit.Hid (w.heap.size < W.heap.size) := Lib.hid (Array.getElem?_eq_some_iff.1 hblk).1
  have HBX : RowKit.Hid (∀ u, Below W.heap.size W u → ∀ j, u.cell? ⟨w.heap.size, j, none⟩ = (#[.int .i64 K, .int .i64 A, .int .i64 B, .int .i64 C, .int .i64 N, .string S, .slice la ln lc, .bool T] : Array Value)[j]?) := Lib.hid fun u hb j => by
    have : u.heap[w.heap.size]? = _ := (hb.block _ HLT.out).trans hblk
    simp [World.cell?, this]
  have HSET := Lib.hid hset
  have HAT := Lib.hid (hat.below hb0 (Nat.le_refl _))
  have HR := Lib.hid hr
  have HX0 : RowKit.Hid (Txt (mk (nameOf stepNames K)) (nameOf stepNames K) 5) := Lib.hid ⟨rfl, names_len K⟩
  have HQS : RowKit.Hid (Txt (mk (quoteL S.data.toList)) (quoteL S.data.toList) 4000000) := Lib.hid ⟨rfl, by rw [quoteL_len]; have h1 := encs_len S.data.toList; have h2 := list_len S; omega⟩
  have HWD := Lib.hid (word_any (mk stepWords) K W (by rw [mk_size]; decide))
  rw [mk_list, words_steps] at HWD
  obtain ⟨t0, ht0⟩ : ∃ t, t = mk (nameOf stepNames K) := ⟨_, rfl⟩
  rw [← ht0] at HWD HX0
  have hz0 := HX0.out.size
  clear hat hr hset hb0 hblk ht0
  go_enter Tryd.func24, Tryd.ntmps24
  go_upto_region 1 with fail
  rw [← hW]
  clear hW
  have x0 := HBX.out W (Below.refl _ _) 0
  go_wp2_with fail
  refine HWD.out.mono ?_
  rintro e w0 ⟨rfl, rfl⟩
  clear HWD
  have x1 := HBX.out W (Below.refl _ _) 1
  have x2 := HBX.out W (Below.refl _ _) 2
  have x3 := HBX.out W (Below.refl _ _) 3
  have x4 := HBX.out W (Below.refl _ _) 4
  have x5 := HBX.out W (Below.refl _ _) 5
  have x6 := HBX.out W (Below.refl _ _) 6
  have x7 := HBX.out W (Below.refl _ _) 7
  go_wp2_with fail
  refine (has_set HSET.out 78 false (by decide) W).mono ?_
  rintro e w0 ⟨rfl, rfl⟩
  go_wp2_with fail
  refine (has_set HSET.out 78 false (by decide) W).mono ?_
  rintro e w0 ⟨rfl, rfl⟩
  go_wp2_with fail
  refine (has_set HSET.out 83 true (by decide) W).mono ?_
  rintro e w0 ⟨rfl, rfl⟩
  have HC1 := Lib.hid (ref_quote S W (by omega))
  obtain ⟨s1, hs1⟩ : ∃ t, t = mk (quoteL S.data.toList) := ⟨_, rfl⟩
  rw [← hs1] at HC1 HQS
  have hz1 := HQS.out.size
  clear hs1
  go_wp2_with fail
  refine HC1.out.mono ?_
  rintro e w1 ⟨rfl, hb1⟩
  have HB1 := Lib.hid (keepS (Below.refl W.heap.size W) hb1)
  clear hb1 x0 x1 x2 x3 x4 x5 x6 x7
  have x0 := HBX.out w1 HB1.out 0
  have x1 := HBX.out w1 HB1.out 1
  have x2 := HBX.out w1 HB1.out 2
  have x3 := HBX.out w1 HB1.out 3
  have x4 := HBX.out w1 HB1.out 4
  have x5 := HBX.out w1 HB1.out 5
  have x6 := HBX.out w1 HB1.out 6
  have x7 := HBX.out w1 HB1.out 7
  go_wp2_with fail
  refine (has_set HSET.out 65 false (by decide) w1).mono ?_
  rintro e w0 ⟨rfl, rfl⟩
  go_wp2_with fail
  refine (has_set HSET.out 66 false (by decide) w1).mono ?_
  rintro e w0 ⟨rfl, rfl⟩
  go_wp2_with fail
  refine (has_set HSET.out 67 false (by decide) w1).mono ?_
  rintro e w0 ⟨rfl, rfl⟩
  go_wp2_with fail
  refine (has_set HSET.out 76 false (by decide) w1).mono ?_
  rintro e w0 ⟨rfl, rfl⟩
  cases T
  · go_wp2_with fail
    refine (has_set HSET.out 75 false (by decide) w1).mono ?_
    rintro e w0 ⟨rfl, rfl⟩
    go_wp2_with fail
    go_ret
    have HFIN := ((HX0.out).app (Txt.lit [32])).app HQS.out
    refine ⟨congrArg (fun b : ByteArray => Ending.returned (Value.string b)) (HFIN.is.trans ?_), keepS HB0.out HB1.out⟩
    show mkB _ = mkB _
    congr 1
    unfold opText fieldsText
    rw [HSET.out]
    (try simp only [List.map_cons, List.map_nil, List.flatten_cons, List.flatten_nil, List.append_nil])
    rw [(show shownF (fieldF K A B C N S L false) 83 = 32 :: quoteL S.data.toList from shown_some (by show quoteL S.data.toList ≠ []; unfold quoteL; simp))]
    (try simp [valueText, listV])
  · go_wp2_with fail
    refine (has_set HSET.out 75 false (by decide) w1).mono ?_
    rintro e w0 ⟨rfl, rfl⟩
    go_wp2_with fail
    go_ret
    have HFIN := ((HX0.out).app (Txt.lit [32])).app HQS.out
    refine ⟨congrArg (fun b : ByteArray => Ending.returned (Value.string b)) (HFIN.is.trans ?_), keepS HB0.out HB1.out⟩
    show mkB _ = mkB _
    congr 1
    unfold opText fieldsText
    rw [HSET.out]
    (try simp only [List.map_cons, List.map_nil, List.flatten_cons, List.flatten_nil, List.append_nil])
    rw [(show shownF (fieldF K A B C N S L true) 83 = 32 :: quoteL S.data.toList from shown_some (by show quoteL S.data.toList ≠ []; unfold quoteL; simp))]
    (try simp [valueText, listV])

set_option maxRecDepth 100000 in
set_option maxHeartbeats 4000000 in
theorem ref6_2 (K A B C N : Int) (S : ByteArray) (la : Option Addr) (ln lc : Nat) (L : List Int) (T : Bool) (w : World) (hset : fieldsL K = [78, 65, 66]) (hK : K = 3) (hA : InR A) (hB : InR B) (hC : InR C) (hN : InR N) (hS : S.size ≤ 1048576) (hat : NumsAt w la ln L) (hln : ln ≤ 1048576) (hr : ∀ z ∈ L, InR z) : Ref6 K A B C N S la ln lc L T w := by
  unfold Ref6
  obtain ⟨hA0, hA1⟩ := hA
  obtain ⟨hB0, hB1⟩ := hB
  obtain ⟨hC0, hC1⟩ := hC
  obtain ⟨hN0, hN1⟩ := hN
  have hb0 : Below w.heap.size w (w.alloc (.cells #[.int .i64 K, .int .i64 A, .int .i64 B, .int .i64 C, .int .i64 N, .string S, .slice la ln lc, .bool T] 50)) := (Below.refl _ _).alloc (Nat.le_refl _) _
  have hblk := heap_alloc_new w (.cells #[.int .i64 K, .int .i64 A, .int .i64 B, .int .i64 C, .int .i64 N, .string S, .slice la ln lc, .bool T] 50)
  obtain ⟨W, hW⟩ : ∃ W, W = w.alloc (.cells #[.int .i64 K, .int .i64 A, .int .i64 B, .int .i64 C, .int .i64 N, .string S, .slice la ln lc, .bool T] 50) := ⟨_, rfl⟩
  rw [← hW] at hb0 hblk
  have HB0 := Lib.hid hb0
  have HLT : RowKit.Hid (w.heap.size < W.heap.size) := Lib.hid (Array.getElem?_eq_some_iff.1 hblk).1
  have HBX : RowKit.Hid (∀ u, Below W.heap.size W u → ∀ j, u.cell? ⟨w.heap.size, j, none⟩ = (#[.int .i64 K, .int .i64 A, .int .i64 B, .int .i64 C, .int .i64 N, .string S, .slice la ln lc, .bool T] : Array Value)[j]?) := Lib.hid fun u hb j => by
    have : u.heap[w.heap.size]? = _ := (hb.block _ HLT.out).trans hblk
    simp [World.cell?, this]
  have HSET := Lib.hid hset
  have HAT := Lib.hid (hat.below hb0 (Nat.le_refl _))
  have HR := Lib.hid hr
  have HX0 : RowKit.Hid (Txt (mk (nameOf stepNames K)) (nameOf stepNames K) 5) := Lib.hid ⟨rfl, names_len K⟩
  have HTN : RowKit.Hid (Txt (mkB (Lib.itoa N)) (Lib.itoa N) 21) := Lib.hid ⟨rfl, Lib.itoa_length_le N (by omega) (by omega)⟩
  have HTA : RowKit.Hid (Txt (mkB (Lib.itoa A)) (Lib.itoa A) 21) := Lib.hid ⟨rfl, Lib.itoa_length_le A (by omega) (by omega)⟩
  have HTB : RowKit.Hid (Txt (mkB (Lib.itoa B)) (Lib.itoa B) 21) := Lib.hid ⟨rfl, Lib.itoa_length_le B (by omega) (by omega)⟩
  have hk3 : (K == 3) = true := by rw [beq_iff_eq]; exact hK
  have HK := Lib.hid hK
  clear hK
  have HSG : RowKit.Hid (Txt (mk (nameOf signNames N)) (nameOf signNames N) 4) := Lib.hid ⟨rfl, sign_len N⟩
  have HWD := Lib.hid (word_any (mk stepWords) K W (by rw [mk_size]; decide))
  rw [mk_list, words_steps] at HWD
  obtain ⟨t0, ht0⟩ : ∃ t, t = mk (nameOf stepNames K) := ⟨_, rfl⟩
  rw [← ht0] at HWD HX0
  have hz0 := HX0.out.size
  clear hat hr hset hb0 hblk ht0
  go_enter Tryd.func24, Tryd.ntmps24
  go_upto_region 1 with fail
  rw [← hW]
  clear hW
  have x0 := HBX.out W (Below.refl _ _) 0
  go_wp2_with fail
  refine HWD.out.mono ?_
  rintro e w0 ⟨rfl, rfl⟩
  clear HWD
  have x1 := HBX.out W (Below.refl _ _) 1
  have x2 := HBX.out W (Below.refl _ _) 2
  have x3 := HBX.out W (Below.refl _ _) 3
  have x4 := HBX.out W (Below.refl _ _) 4
  have x5 := HBX.out W (Below.refl _ _) 5
  have x6 := HBX.out W (Below.refl _ _) 6
  have x7 := HBX.out W (Below.refl _ _) 7
  go_wp2_with fail
  refine (has_set HSET.out 78 true (by decide) W).mono ?_
  rintro e w0 ⟨rfl, rfl⟩
  have HC1 := Lib.hid (word_any (mk signWords) N W (by rw [mk_size]; decide))
  rw [mk_list, words_signs] at HC1
  obtain ⟨s1, hs1⟩ : ∃ t, t = mk (nameOf signNames N) := ⟨_, rfl⟩
  rw [← hs1] at HC1 HSG
  have hz1 := HSG.out.size
  clear hs1
  go_wp2_with fail
  refine HC1.out.mono ?_
  rintro e w0 ⟨rfl, rfl⟩
  go_wp2_with fail
  refine (has_set HSET.out 83 false (by decide) W).mono ?_
  rintro e w0 ⟨rfl, rfl⟩
  go_wp2_with fail
  refine (has_set HSET.out 65 true (by decide) W).mono ?_
  rintro e w0 ⟨rfl, rfl⟩
  have HC2 := Lib.hid (itoa_ref A W (by omega) (by omega))
  obtain ⟨s2, hs2⟩ : ∃ t, t = mkB (Lib.itoa A) := ⟨_, rfl⟩
  rw [← hs2] at HC2 HTA
  have hz2 := HTA.out.size
  clear hs2
  go_wp2_with fail
  refine HC2.out.mono ?_
  rintro e w2 ⟨rfl, hb2⟩
  have HB2 := Lib.hid (keepS (Below.refl W.heap.size W) hb2)
  clear hb2 x0 x1 x2 x3 x4 x5 x6 x7
  have x0 := HBX.out w2 HB2.out 0
  have x1 := HBX.out w2 HB2.out 1
  have x2 := HBX.out w2 HB2.out 2
  have x3 := HBX.out w2 HB2.out 3
  have x4 := HBX.out w2 HB2.out 4
  have x5 := HBX.out w2 HB2.out 5
  have x6 := HBX.out w2 HB2.out 6
  have x7 := HBX.out w2 HB2.out 7
  go_wp2_with fail
  refine (has_set HSET.out 66 true (by decide) w2).mono ?_
  rintro e w0 ⟨rfl, rfl⟩
  have HC3 := Lib.hid (itoa_ref B w2 (by omega) (by omega))
  obtain ⟨s3, hs3⟩ : ∃ t, t = mkB (Lib.itoa B) := ⟨_, rfl⟩
  rw [← hs3] at HC3 HTB
  have hz3 := HTB.out.size
  clear hs3
  go_wp2_with fail
  refine HC3.out.mono ?_
  rintro e w3 ⟨rfl, hb3⟩
  have HB3 := Lib.hid (keepS HB2.out hb3)
  clear hb3 x0 x1 x2 x3 x4 x5 x6 x7
  have x0 := HBX.out w3 HB3.out 0
  have x1 := HBX.out w3 HB3.out 1
  have x2 := HBX.out w3 HB3.out 2
  have x3 := HBX.out w3 HB3.out 3
  have x4 := HBX.out w3 HB3.out 4
  have x5 := HBX.out w3 HB3.out 5
  have x6 := HBX.out w3 HB3.out 6
  have x7 := HBX.out w3 HB3.out 7
  go_wp2_with fail
  refine (has_set HSET.out 67 false (by decide) w3).mono ?_
  rintro e w0 ⟨rfl, rfl⟩
  go_wp2_with fail
  refine (has_set HSET.out 76 false (by decide) w3).mono ?_
  rintro e w0 ⟨rfl, rfl⟩
  cases T
  · go_wp2_with fail
    refine (has_set HSET.out 75 false (by decide) w3).mono ?_
    rintro e w0 ⟨rfl, rfl⟩
    go_wp2_with fail
    go_ret
    have HFIN := ((((((HX0.out).app (Txt.lit [32])).app HSG.out).app (Txt.lit [32, 118])).app HTA.out).app (Txt.lit [32, 118])).app HTB.out
    refine ⟨congrArg (fun b : ByteArray => Ending.returned (Value.string b)) (HFIN.is.trans ?_), keepS HB0.out HB3.out⟩
    show mkB _ = mkB _
    congr 1
    unfold opText fieldsText
    rw [HSET.out]
    (try simp only [List.map_cons, List.map_nil, List.flatten_cons, List.flatten_nil, List.append_nil])
    rw [(show shownF (fieldF K A B C N S L false) 78 = 32 :: numberText K N from shown_some (number_ne _ _)), (show shownF (fieldF K A B C N S L false) 65 = 32 :: valueText A from shown_some (by show valueText A ≠ []; unfold valueText; simp)), (show shownF (fieldF K A B C N S L false) 66 = 32 :: valueText B from shown_some (by show valueText B ≠ []; unfold valueText; simp))]
    rw [show numberText K N = nameOf signNames N from if_pos HK.out]
    (try simp [valueText, listV])
  · go_wp2_with fail
    refine (has_set HSET.out 75 false (by decide) w3).mono ?_
    rintro e w0 ⟨rfl, rfl⟩
    go_wp2_with fail
    go_ret
    have HFIN := ((((((HX0.out).app (Txt.lit [32])).app HSG.out).app (Txt.lit [32, 118])).app HTA.out).app (Txt.lit [32, 118])).app HTB.out
    refine ⟨congrArg (fun b : ByteArray => Ending.returned (Value.string b)) (HFIN.is.trans ?_), keepS HB0.out HB3.out⟩
    show mkB _ = mkB _
    congr 1
    unfold opText fieldsText
    rw [HSET.out]
    (try simp only [List.map_cons, List.map_nil, List.flatten_cons, List.flatten_nil, List.append_nil])
    rw [(show shownF (fieldF K A B C N S L true) 78 = 32 :: numberText K N from shown_some (number_ne _ _)), (show shownF (fieldF K A B C N S L true) 65 = 32 :: valueText A from shown_some (by show valueText A ≠ []; unfold valueText; simp)), (show shownF (fieldF K A B C N S L true) 66 = 32 :: valueText B from shown_some (by show valueText B ≠ []; unfold valueText; simp))]
    rw [show numberText K N = nameOf signNames N from if_pos HK.out]
    (try simp [valueText, listV])

set_option maxRecDepth 100000 in
set_option maxHeartbeats 4000000 in
theorem ref6_3 (K A B C N : Int) (S : ByteArray) (la : Option Addr) (ln lc : Nat) (L : List Int) (T : Bool) (w : World) (hset : fieldsL K = [78, 65, 66]) (hK : K ≠ 3) (hA : InR A) (hB : InR B) (hC : InR C) (hN : InR N) (hS : S.size ≤ 1048576) (hat : NumsAt w la ln L) (hln : ln ≤ 1048576) (hr : ∀ z ∈ L, InR z) : Ref6 K A B C N S la ln lc L T w := by
  unfold Ref6
  obtain ⟨hA0, hA1⟩ := hA
  obtain ⟨hB0, hB1⟩ := hB
  obtain ⟨hC0, hC1⟩ := hC
  obtain ⟨hN0, hN1⟩ := hN
  have hb0 : Below w.heap.size w (w.alloc (.cells #[.int .i64 K, .int .i64 A, .int .i64 B, .int .i64 C, .int .i64 N, .string S, .slice la ln lc, .bool T] 50)) := (Below.refl _ _).alloc (Nat.le_refl _) _
  have hblk := heap_alloc_new w (.cells #[.int .i64 K, .int .i64 A, .int .i64 B, .int .i64 C, .int .i64 N, .string S, .slice la ln lc, .bool T] 50)
  obtain ⟨W, hW⟩ : ∃ W, W = w.alloc (.cells #[.int .i64 K, .int .i64 A, .int .i64 B, .int .i64 C, .int .i64 N, .string S, .slice la ln lc, .bool T] 50) := ⟨_, rfl⟩
  rw [← hW] at hb0 hblk
  have HB0 := Lib.hid hb0
  have HLT : RowKit.Hid (w.heap.size < W.heap.size) := Lib.hid (Array.getElem?_eq_some_iff.1 hblk).1
  have HBX : RowKit.Hid (∀ u, Below W.heap.size W u → ∀ j, u.cell? ⟨w.heap.size, j, none⟩ = (#[.int .i64 K, .int .i64 A, .int .i64 B, .int .i64 C, .int .i64 N, .string S, .slice la ln lc, .bool T] : Array Value)[j]?) := Lib.hid fun u hb j => by
    have : u.heap[w.heap.size]? = _ := (hb.block _ HLT.out).trans hblk
    simp [World.cell?, this]
  have HSET := Lib.hid hset
  have HAT := Lib.hid (hat.below hb0 (Nat.le_refl _))
  have HR := Lib.hid hr
  have HX0 : RowKit.Hid (Txt (mk (nameOf stepNames K)) (nameOf stepNames K) 5) := Lib.hid ⟨rfl, names_len K⟩
  have HTN : RowKit.Hid (Txt (mkB (Lib.itoa N)) (Lib.itoa N) 21) := Lib.hid ⟨rfl, Lib.itoa_length_le N (by omega) (by omega)⟩
  have HTA : RowKit.Hid (Txt (mkB (Lib.itoa A)) (Lib.itoa A) 21) := Lib.hid ⟨rfl, Lib.itoa_length_le A (by omega) (by omega)⟩
  have HTB : RowKit.Hid (Txt (mkB (Lib.itoa B)) (Lib.itoa B) 21) := Lib.hid ⟨rfl, Lib.itoa_length_le B (by omega) (by omega)⟩
  have hk3 : (K == 3) = false := by rw [beq_eq_false_iff_ne]; exact hK
  have HWD := Lib.hid (word_any (mk stepWords) K W (by rw [mk_size]; decide))
  rw [mk_list, words_steps] at HWD
  obtain ⟨t0, ht0⟩ : ∃ t, t = mk (nameOf stepNames K) := ⟨_, rfl⟩
  rw [← ht0] at HWD HX0
  have hz0 := HX0.out.size
  clear hat hr hset hb0 hblk ht0
  go_enter Tryd.func24, Tryd.ntmps24
  go_upto_region 1 with fail
  rw [← hW]
  clear hW
  have x0 := HBX.out W (Below.refl _ _) 0
  go_wp2_with fail
  refine HWD.out.mono ?_
  rintro e w0 ⟨rfl, rfl⟩
  clear HWD
  have x1 := HBX.out W (Below.refl _ _) 1
  have x2 := HBX.out W (Below.refl _ _) 2
  have x3 := HBX.out W (Below.refl _ _) 3
  have x4 := HBX.out W (Below.refl _ _) 4
  have x5 := HBX.out W (Below.refl _ _) 5
  have x6 := HBX.out W (Below.refl _ _) 6
  have x7 := HBX.out W (Below.refl _ _) 7
  go_wp2_with fail
  refine (has_set HSET.out 78 true (by decide) W).mono ?_
  rintro e w0 ⟨rfl, rfl⟩
  go_wp2_with fail
  refine (has_set HSET.out 78 true (by decide) W).mono ?_
  rintro e w0 ⟨rfl, rfl⟩
  have HC1 := Lib.hid (ref_digits N W (by omega) (by omega))
  obtain ⟨s1, hs1⟩ : ∃ t, t = mkB (Lib.itoa N) := ⟨_, rfl⟩
  rw [← hs1] at HC1 HTN
  have hz1 := HTN.out.size
  clear hs1
  go_wp2_with fail
  refine HC1.out.mono ?_
  rintro e w1 ⟨rfl, hb1⟩
  have HB1 := Lib.hid (keepS (Below.refl W.heap.size W) hb1)
  clear hb1 x0 x1 x2 x3 x4 x5 x6 x7
  have x0 := HBX.out w1 HB1.out 0
  have x1 := HBX.out w1 HB1.out 1
  have x2 := HBX.out w1 HB1.out 2
  have x3 := HBX.out w1 HB1.out 3
  have x4 := HBX.out w1 HB1.out 4
  have x5 := HBX.out w1 HB1.out 5
  have x6 := HBX.out w1 HB1.out 6
  have x7 := HBX.out w1 HB1.out 7
  go_wp2_with fail
  refine (has_set HSET.out 83 false (by decide) w1).mono ?_
  rintro e w0 ⟨rfl, rfl⟩
  go_wp2_with fail
  refine (has_set HSET.out 65 true (by decide) w1).mono ?_
  rintro e w0 ⟨rfl, rfl⟩
  have HC2 := Lib.hid (itoa_ref A w1 (by omega) (by omega))
  obtain ⟨s2, hs2⟩ : ∃ t, t = mkB (Lib.itoa A) := ⟨_, rfl⟩
  rw [← hs2] at HC2 HTA
  have hz2 := HTA.out.size
  clear hs2
  go_wp2_with fail
  refine HC2.out.mono ?_
  rintro e w2 ⟨rfl, hb2⟩
  have HB2 := Lib.hid (keepS HB1.out hb2)
  clear hb2 x0 x1 x2 x3 x4 x5 x6 x7
  have x0 := HBX.out w2 HB2.out 0
  have x1 := HBX.out w2 HB2.out 1
  have x2 := HBX.out w2 HB2.out 2
  have x3 := HBX.out w2 HB2.out 3
  have x4 := HBX.out w2 HB2.out 4
  have x5 := HBX.out w2 HB2.out 5
  have x6 := HBX.out w2 HB2.out 6
  have x7 := HBX.out w2 HB2.out 7
  go_wp2_with fail
  refine (has_set HSET.out 66 true (by decide) w2).mono ?_
  rintro e w0 ⟨rfl, rfl⟩
  have HC3 := Lib.hid (itoa_ref B w2 (by omega) (by omega))
  obtain ⟨s3, hs3⟩ : ∃ t, t = mkB (Lib.itoa B) := ⟨_, rfl⟩
  rw [← hs3] at HC3 HTB
  have hz3 := HTB.out.size
  clear hs3
  go_wp2_with fail
  refine HC3.out.mono ?_
  rintro e w3 ⟨rfl, hb3⟩
  have HB3 := Lib.hid (keepS HB2.out hb3)
  clear hb3 x0 x1 x2 x3 x4 x5 x6 x7
  have x0 := HBX.out w3 HB3.out 0
  have x1 := HBX.out w3 HB3.out 1
  have x2 := HBX.out w3 HB3.out 2
  have x3 := HBX.out w3 HB3.out 3
  have x4 := HBX.out w3 HB3.out 4
  have x5 := HBX.out w3 HB3.out 5
  have x6 := HBX.out w3 HB3.out 6
  have x7 := HBX.out w3 HB3.out 7
  go_wp2_with fail
  refine (has_set HSET.out 67 false (by decide) w3).mono ?_
  rintro e w0 ⟨rfl, rfl⟩
  go_wp2_with fail
  refine (has_set HSET.out 76 false (by decide) w3).mono ?_
  rintro e w0 ⟨rfl, rfl⟩
  cases T
  · go_wp2_with fail
    refine (has_set HSET.out 75 false (by decide) w3).mono ?_
    rintro e w0 ⟨rfl, rfl⟩
    go_wp2_with fail
    go_ret
    have HFIN := ((((((HX0.out).app (Txt.lit [32])).app HTN.out).app (Txt.lit [32, 118])).app HTA.out).app (Txt.lit [32, 118])).app HTB.out
    refine ⟨congrArg (fun b : ByteArray => Ending.returned (Value.string b)) (HFIN.is.trans ?_), keepS HB0.out HB3.out⟩
    show mkB _ = mkB _
    congr 1
    unfold opText fieldsText
    rw [HSET.out]
    (try simp only [List.map_cons, List.map_nil, List.flatten_cons, List.flatten_nil, List.append_nil])
    rw [(show shownF (fieldF K A B C N S L false) 78 = 32 :: numberText K N from shown_some (number_ne _ _)), (show shownF (fieldF K A B C N S L false) 65 = 32 :: valueText A from shown_some (by show valueText A ≠ []; unfold valueText; simp)), (show shownF (fieldF K A B C N S L false) 66 = 32 :: valueText B from shown_some (by show valueText B ≠ []; unfold valueText; simp))]
    rw [show numberText K N = Lib.itoa N from if_neg hK]
    (try simp [valueText, listV])
  · go_wp2_with fail
    refine (has_set HSET.out 75 false (by decide) w3).mono ?_
    rintro e w0 ⟨rfl, rfl⟩
    go_wp2_with fail
    go_ret
    have HFIN := ((((((HX0.out).app (Txt.lit [32])).app HTN.out).app (Txt.lit [32, 118])).app HTA.out).app (Txt.lit [32, 118])).app HTB.out
    refine ⟨congrArg (fun b : ByteArray => Ending.returned (Value.string b)) (HFIN.is.trans ?_), keepS HB0.out HB3.out⟩
    show mkB _ = mkB _
    congr 1
    unfold opText fieldsText
    rw [HSET.out]
    (try simp only [List.map_cons, List.map_nil, List.flatten_cons, List.flatten_nil, List.append_nil])
    rw [(show shownF (fieldF K A B C N S L true) 78 = 32 :: numberText K N from shown_some (number_ne _ _)), (show shownF (fieldF K A B C N S L true) 65 = 32 :: valueText A from shown_some (by show valueText A ≠ []; unfold valueText; simp)), (show shownF (fieldF K A B C N S L true) 66 = 32 :: valueText B from shown_some (by show valueText B ≠ []; unfold valueText; simp))]
    rw [show numberText K N = Lib.itoa N from if_neg hK]
    (try simp [valueText, listV])

set_option maxRecDepth 100000 in
set_option maxHeartbeats 4000000 in
theorem ref6_4 (K A B C N : Int) (S : ByteArray) (la : Option Addr) (ln lc : Nat) (L : List Int) (T : Bool) (w : World) (hset : fieldsL K = [65]) (hA : InR A) (hB : InR B) (hC : InR C) (hN : InR N) (hS : S.size ≤ 1048576) (hat : NumsAt w la ln L) (hln : ln ≤ 1048576) (hr : ∀ z ∈ L, InR z) : Ref6 K A B C N S la ln lc L T w := by
  unfold Ref6
  obtain ⟨hA0, hA1⟩ := hA
  obtain ⟨hB0, hB1⟩ := hB
  obtain ⟨hC0, hC1⟩ := hC
  obtain ⟨hN0, hN1⟩ := hN
  have hb0 : Below w.heap.size w (w.alloc (.cells #[.int .i64 K, .int .i64 A, .int .i64 B, .int .i64 C, .int .i64 N, .string S, .slice la ln lc, .bool T] 50)) := (Below.refl _ _).alloc (Nat.le_refl _) _
  have hblk := heap_alloc_new w (.cells #[.int .i64 K, .int .i64 A, .int .i64 B, .int .i64 C, .int .i64 N, .string S, .slice la ln lc, .bool T] 50)
  obtain ⟨W, hW⟩ : ∃ W, W = w.alloc (.cells #[.int .i64 K, .int .i64 A, .int .i64 B, .int .i64 C, .int .i64 N, .string S, .slice la ln lc, .bool T] 50) := ⟨_, rfl⟩
  rw [← hW] at hb0 hblk
  have HB0 := Lib.hid hb0
  have HLT : RowKit.Hid (w.heap.size < W.heap.size) := Lib.hid (Array.getElem?_eq_some_iff.1 hblk).1
  have HBX : RowKit.Hid (∀ u, Below W.heap.size W u → ∀ j, u.cell? ⟨w.heap.size, j, none⟩ = (#[.int .i64 K, .int .i64 A, .int .i64 B, .int .i64 C, .int .i64 N, .string S, .slice la ln lc, .bool T] : Array Value)[j]?) := Lib.hid fun u hb j => by
    have : u.heap[w.heap.size]? = _ := (hb.block _ HLT.out).trans hblk
    simp [World.cell?, this]
  have HSET := Lib.hid hset
  have HAT := Lib.hid (hat.below hb0 (Nat.le_refl _))
  have HR := Lib.hid hr
  have HX0 : RowKit.Hid (Txt (mk (nameOf stepNames K)) (nameOf stepNames K) 5) := Lib.hid ⟨rfl, names_len K⟩
  have HTA : RowKit.Hid (Txt (mkB (Lib.itoa A)) (Lib.itoa A) 21) := Lib.hid ⟨rfl, Lib.itoa_length_le A (by omega) (by omega)⟩
  have HWD := Lib.hid (word_any (mk stepWords) K W (by rw [mk_size]; decide))
  rw [mk_list, words_steps] at HWD
  obtain ⟨t0, ht0⟩ : ∃ t, t = mk (nameOf stepNames K) := ⟨_, rfl⟩
  rw [← ht0] at HWD HX0
  have hz0 := HX0.out.size
  clear hat hr hset hb0 hblk ht0
  go_enter Tryd.func24, Tryd.ntmps24
  go_upto_region 1 with fail
  rw [← hW]
  clear hW
  have x0 := HBX.out W (Below.refl _ _) 0
  go_wp2_with fail
  refine HWD.out.mono ?_
  rintro e w0 ⟨rfl, rfl⟩
  clear HWD
  have x1 := HBX.out W (Below.refl _ _) 1
  have x2 := HBX.out W (Below.refl _ _) 2
  have x3 := HBX.out W (Below.refl _ _) 3
  have x4 := HBX.out W (Below.refl _ _) 4
  have x5 := HBX.out W (Below.refl _ _) 5
  have x6 := HBX.out W (Below.refl _ _) 6
  have x7 := HBX.out W (Below.refl _ _) 7
  go_wp2_with fail
  refine (has_set HSET.out 78 false (by decide) W).mono ?_
  rintro e w0 ⟨rfl, rfl⟩
  go_wp2_with fail
  refine (has_set HSET.out 78 false (by decide) W).mono ?_
  rintro e w0 ⟨rfl, rfl⟩
  go_wp2_with fail
  refine (has_set HSET.out 83 false (by decide) W).mono ?_
  rintro e w0 ⟨rfl, rfl⟩
  go_wp2_with fail
  refine (has_set HSET.out 65 true (by decide) W).mono ?_
  rintro e w0 ⟨rfl, rfl⟩
  have HC1 := Lib.hid (itoa_ref A W (by omega) (by omega))
  obtain ⟨s1, hs1⟩ : ∃ t, t = mkB (Lib.itoa A) := ⟨_, rfl⟩
  rw [← hs1] at HC1 HTA
  have hz1 := HTA.out.size
  clear hs1
  go_wp2_with fail
  refine HC1.out.mono ?_
  rintro e w1 ⟨rfl, hb1⟩
  have HB1 := Lib.hid (keepS (Below.refl W.heap.size W) hb1)
  clear hb1 x0 x1 x2 x3 x4 x5 x6 x7
  have x0 := HBX.out w1 HB1.out 0
  have x1 := HBX.out w1 HB1.out 1
  have x2 := HBX.out w1 HB1.out 2
  have x3 := HBX.out w1 HB1.out 3
  have x4 := HBX.out w1 HB1.out 4
  have x5 := HBX.out w1 HB1.out 5
  have x6 := HBX.out w1 HB1.out 6
  have x7 := HBX.out w1 HB1.out 7
  go_wp2_with fail
  refine (has_set HSET.out 66 false (by decide) w1).mono ?_
  rintro e w0 ⟨rfl, rfl⟩
  go_wp2_with fail
  refine (has_set HSET.out 67 false (by decide) w1).mono ?_
  rintro e w0 ⟨rfl, rfl⟩
  go_wp2_with fail
  refine (has_set HSET.out 76 false (by decide) w1).mono ?_
  rintro e w0 ⟨rfl, rfl⟩
  cases T
  · go_wp2_with fail
    refine (has_set HSET.out 75 false (by decide) w1).mono ?_
    rintro e w0 ⟨rfl, rfl⟩
    go_wp2_with fail
    go_ret
    have HFIN := ((HX0.out).app (Txt.lit [32, 118])).app HTA.out
    refine ⟨congrArg (fun b : ByteArray => Ending.returned (Value.string b)) (HFIN.is.trans ?_), keepS HB0.out HB1.out⟩
    show mkB _ = mkB _
    congr 1
    unfold opText fieldsText
    rw [HSET.out]
    (try simp only [List.map_cons, List.map_nil, List.flatten_cons, List.flatten_nil, List.append_nil])
    rw [(show shownF (fieldF K A B C N S L false) 65 = 32 :: valueText A from shown_some (by show valueText A ≠ []; unfold valueText; simp))]
    (try simp [valueText, listV])
  · go_wp2_with fail
    refine (has_set HSET.out 75 false (by decide) w1).mono ?_
    rintro e w0 ⟨rfl, rfl⟩
    go_wp2_with fail
    go_ret
    have HFIN := ((HX0.out).app (Txt.lit [32, 118])).app HTA.out
    refine ⟨congrArg (fun b : ByteArray => Ending.returned (Value.string b)) (HFIN.is.trans ?_), keepS HB0.out HB1.out⟩
    show mkB _ = mkB _
    congr 1
    unfold opText fieldsText
    rw [HSET.out]
    (try simp only [List.map_cons, List.map_nil, List.flatten_cons, List.flatten_nil, List.append_nil])
    rw [(show shownF (fieldF K A B C N S L true) 65 = 32 :: valueText A from shown_some (by show valueText A ≠ []; unfold valueText; simp))]
    (try simp [valueText, listV])

set_option maxRecDepth 100000 in
set_option maxHeartbeats 4000000 in
theorem ref6_5 (K A B C N : Int) (S : ByteArray) (la : Option Addr) (ln lc : Nat) (L : List Int) (T : Bool) (w : World) (hset : fieldsL K = [65, 66]) (hA : InR A) (hB : InR B) (hC : InR C) (hN : InR N) (hS : S.size ≤ 1048576) (hat : NumsAt w la ln L) (hln : ln ≤ 1048576) (hr : ∀ z ∈ L, InR z) : Ref6 K A B C N S la ln lc L T w := by
  unfold Ref6
  obtain ⟨hA0, hA1⟩ := hA
  obtain ⟨hB0, hB1⟩ := hB
  obtain ⟨hC0, hC1⟩ := hC
  obtain ⟨hN0, hN1⟩ := hN
  have hb0 : Below w.heap.size w (w.alloc (.cells #[.int .i64 K, .int .i64 A, .int .i64 B, .int .i64 C, .int .i64 N, .string S, .slice la ln lc, .bool T] 50)) := (Below.refl _ _).alloc (Nat.le_refl _) _
  have hblk := heap_alloc_new w (.cells #[.int .i64 K, .int .i64 A, .int .i64 B, .int .i64 C, .int .i64 N, .string S, .slice la ln lc, .bool T] 50)
  obtain ⟨W, hW⟩ : ∃ W, W = w.alloc (.cells #[.int .i64 K, .int .i64 A, .int .i64 B, .int .i64 C, .int .i64 N, .string S, .slice la ln lc, .bool T] 50) := ⟨_, rfl⟩
  rw [← hW] at hb0 hblk
  have HB0 := Lib.hid hb0
  have HLT : RowKit.Hid (w.heap.size < W.heap.size) := Lib.hid (Array.getElem?_eq_some_iff.1 hblk).1
  have HBX : RowKit.Hid (∀ u, Below W.heap.size W u → ∀ j, u.cell? ⟨w.heap.size, j, none⟩ = (#[.int .i64 K, .int .i64 A, .int .i64 B, .int .i64 C, .int .i64 N, .string S, .slice la ln lc, .bool T] : Array Value)[j]?) := Lib.hid fun u hb j => by
    have : u.heap[w.heap.size]? = _ := (hb.block _ HLT.out).trans hblk
    simp [World.cell?, this]
  have HSET := Lib.hid hset
  have HAT := Lib.hid (hat.below hb0 (Nat.le_refl _))
  have HR := Lib.hid hr
  have HX0 : RowKit.Hid (Txt (mk (nameOf stepNames K)) (nameOf stepNames K) 5) := Lib.hid ⟨rfl, names_len K⟩
  have HTA : RowKit.Hid (Txt (mkB (Lib.itoa A)) (Lib.itoa A) 21) := Lib.hid ⟨rfl, Lib.itoa_length_le A (by omega) (by omega)⟩
  have HTB : RowKit.Hid (Txt (mkB (Lib.itoa B)) (Lib.itoa B) 21) := Lib.hid ⟨rfl, Lib.itoa_length_le B (by omega) (by omega)⟩
  have HWD := Lib.hid (word_any (mk stepWords) K W (by rw [mk_size]; decide))
  rw [mk_list, words_steps] at HWD
  obtain ⟨t0, ht0⟩ : ∃ t, t = mk (nameOf stepNames K) := ⟨_, rfl⟩
  rw [← ht0] at HWD HX0
  have hz0 := HX0.out.size
  clear hat hr hset hb0 hblk ht0
  go_enter Tryd.func24, Tryd.ntmps24
  go_upto_region 1 with fail
  rw [← hW]
  clear hW
  have x0 := HBX.out W (Below.refl _ _) 0
  go_wp2_with fail
  refine HWD.out.mono ?_
  rintro e w0 ⟨rfl, rfl⟩
  clear HWD
  have x1 := HBX.out W (Below.refl _ _) 1
  have x2 := HBX.out W (Below.refl _ _) 2
  have x3 := HBX.out W (Below.refl _ _) 3
  have x4 := HBX.out W (Below.refl _ _) 4
  have x5 := HBX.out W (Below.refl _ _) 5
  have x6 := HBX.out W (Below.refl _ _) 6
  have x7 := HBX.out W (Below.refl _ _) 7
  go_wp2_with fail
  refine (has_set HSET.out 78 false (by decide) W).mono ?_
  rintro e w0 ⟨rfl, rfl⟩
  go_wp2_with fail
  refine (has_set HSET.out 78 false (by decide) W).mono ?_
  rintro e w0 ⟨rfl, rfl⟩
  go_wp2_with fail
  refine (has_set HSET.out 83 false (by decide) W).mono ?_
  rintro e w0 ⟨rfl, rfl⟩
  go_wp2_with fail
  refine (has_set HSET.out 65 true (by decide) W).mono ?_
  rintro e w0 ⟨rfl, rfl⟩
  have HC1 := Lib.hid (itoa_ref A W (by omega) (by omega))
  obtain ⟨s1, hs1⟩ : ∃ t, t = mkB (Lib.itoa A) := ⟨_, rfl⟩
  rw [← hs1] at HC1 HTA
  have hz1 := HTA.out.size
  clear hs1
  go_wp2_with fail
  refine HC1.out.mono ?_
  rintro e w1 ⟨rfl, hb1⟩
  have HB1 := Lib.hid (keepS (Below.refl W.heap.size W) hb1)
  clear hb1 x0 x1 x2 x3 x4 x5 x6 x7
  have x0 := HBX.out w1 HB1.out 0
  have x1 := HBX.out w1 HB1.out 1
  have x2 := HBX.out w1 HB1.out 2
  have x3 := HBX.out w1 HB1.out 3
  have x4 := HBX.out w1 HB1.out 4
  have x5 := HBX.out w1 HB1.out 5
  have x6 := HBX.out w1 HB1.out 6
  have x7 := HBX.out w1 HB1.out 7
  go_wp2_with fail
  refine (has_set HSET.out 66 true (by decide) w1).mono ?_
  rintro e w0 ⟨rfl, rfl⟩
  have HC2 := Lib.hid (itoa_ref B w1 (by omega) (by omega))
  obtain ⟨s2, hs2⟩ : ∃ t, t = mkB (Lib.itoa B) := ⟨_, rfl⟩
  rw [← hs2] at HC2 HTB
  have hz2 := HTB.out.size
  clear hs2
  go_wp2_with fail
  refine HC2.out.mono ?_
  rintro e w2 ⟨rfl, hb2⟩
  have HB2 := Lib.hid (keepS HB1.out hb2)
  clear hb2 x0 x1 x2 x3 x4 x5 x6 x7
  have x0 := HBX.out w2 HB2.out 0
  have x1 := HBX.out w2 HB2.out 1
  have x2 := HBX.out w2 HB2.out 2
  have x3 := HBX.out w2 HB2.out 3
  have x4 := HBX.out w2 HB2.out 4
  have x5 := HBX.out w2 HB2.out 5
  have x6 := HBX.out w2 HB2.out 6
  have x7 := HBX.out w2 HB2.out 7
  go_wp2_with fail
  refine (has_set HSET.out 67 false (by decide) w2).mono ?_
  rintro e w0 ⟨rfl, rfl⟩
  go_wp2_with fail
  refine (has_set HSET.out 76 false (by decide) w2).mono ?_
  rintro e w0 ⟨rfl, rfl⟩
  cases T
  · go_wp2_with fail
    refine (has_set HSET.out 75 false (by decide) w2).mono ?_
    rintro e w0 ⟨rfl, rfl⟩
    go_wp2_with fail
    go_ret
    have HFIN := ((((HX0.out).app (Txt.lit [32, 118])).app HTA.out).app (Txt.lit [32, 118])).app HTB.out
    refine ⟨congrArg (fun b : ByteArray => Ending.returned (Value.string b)) (HFIN.is.trans ?_), keepS HB0.out HB2.out⟩
    show mkB _ = mkB _
    congr 1
    unfold opText fieldsText
    rw [HSET.out]
    (try simp only [List.map_cons, List.map_nil, List.flatten_cons, List.flatten_nil, List.append_nil])
    rw [(show shownF (fieldF K A B C N S L false) 65 = 32 :: valueText A from shown_some (by show valueText A ≠ []; unfold valueText; simp)), (show shownF (fieldF K A B C N S L false) 66 = 32 :: valueText B from shown_some (by show valueText B ≠ []; unfold valueText; simp))]
    (try simp [valueText, listV])
  · go_wp2_with fail
    refine (has_set HSET.out 75 false (by decide) w2).mono ?_
    rintro e w0 ⟨rfl, rfl⟩
    go_wp2_with fail
    go_ret
    have HFIN := ((((HX0.out).app (Txt.lit [32, 118])).app HTA.out).app (Txt.lit [32, 118])).app HTB.out
    refine ⟨congrArg (fun b : ByteArray => Ending.returned (Value.string b)) (HFIN.is.trans ?_), keepS HB0.out HB2.out⟩
    show mkB _ = mkB _
    congr 1
    unfold opText fieldsText
    rw [HSET.out]
    (try simp only [List.map_cons, List.map_nil, List.flatten_cons, List.flatten_nil, List.append_nil])
    rw [(show shownF (fieldF K A B C N S L true) 65 = 32 :: valueText A from shown_some (by show valueText A ≠ []; unfold valueText; simp)), (show shownF (fieldF K A B C N S L true) 66 = 32 :: valueText B from shown_some (by show valueText B ≠ []; unfold valueText; simp))]
    (try simp [valueText, listV])

set_option maxRecDepth 100000 in
set_option maxHeartbeats 4000000 in
theorem ref6_6 (K A B C N : Int) (S : ByteArray) (la : Option Addr) (ln lc : Nat) (L : List Int) (T : Bool) (w : World) (hset : fieldsL K = [78, 76, 75]) (hK : K ≠ 3) (hA : InR A) (hB : InR B) (hC : InR C) (hN : InR N) (hS : S.size ≤ 1048576) (hat : NumsAt w la ln L) (hln : ln ≤ 1048576) (hr : ∀ z ∈ L, InR z) : Ref6 K A B C N S la ln lc L T w := by
  unfold Ref6
  obtain ⟨hA0, hA1⟩ := hA
  obtain ⟨hB0, hB1⟩ := hB
  obtain ⟨hC0, hC1⟩ := hC
  obtain ⟨hN0, hN1⟩ := hN
  have hb0 : Below w.heap.size w (w.alloc (.cells #[.int .i64 K, .int .i64 A, .int .i64 B, .int .i64 C, .int .i64 N, .string S, .slice la ln lc, .bool T] 50)) := (Below.refl _ _).alloc (Nat.le_refl _) _
  have hblk := heap_alloc_new w (.cells #[.int .i64 K, .int .i64 A, .int .i64 B, .int .i64 C, .int .i64 N, .string S, .slice la ln lc, .bool T] 50)
  obtain ⟨W, hW⟩ : ∃ W, W = w.alloc (.cells #[.int .i64 K, .int .i64 A, .int .i64 B, .int .i64 C, .int .i64 N, .string S, .slice la ln lc, .bool T] 50) := ⟨_, rfl⟩
  rw [← hW] at hb0 hblk
  have HB0 := Lib.hid hb0
  have HLT : RowKit.Hid (w.heap.size < W.heap.size) := Lib.hid (Array.getElem?_eq_some_iff.1 hblk).1
  have HBX : RowKit.Hid (∀ u, Below W.heap.size W u → ∀ j, u.cell? ⟨w.heap.size, j, none⟩ = (#[.int .i64 K, .int .i64 A, .int .i64 B, .int .i64 C, .int .i64 N, .string S, .slice la ln lc, .bool T] : Array Value)[j]?) := Lib.hid fun u hb j => by
    have : u.heap[w.heap.size]? = _ := (hb.block _ HLT.out).trans hblk
    simp [World.cell?, this]
  have HSET := Lib.hid hset
  have HAT := Lib.hid (hat.below hb0 (Nat.le_refl _))
  have HR := Lib.hid hr
  have HX0 : RowKit.Hid (Txt (mk (nameOf stepNames K)) (nameOf stepNames K) 5) := Lib.hid ⟨rfl, names_len K⟩
  have HTN : RowKit.Hid (Txt (mkB (Lib.itoa N)) (Lib.itoa N) 21) := Lib.hid ⟨rfl, Lib.itoa_length_le N (by omega) (by omega)⟩
  have HLL : RowKit.Hid ((listText valueText L).length ≤ 100000000) := Lib.hid (values_len (by rw [hat.1]; exact hln) hr)
  have HTL : RowKit.Hid (Txt (mk (listText valueText L)) (listText valueText L) 100000000) := Lib.hid ⟨rfl, HLL.out⟩
  have hk3 : (K == 3) = false := by rw [beq_eq_false_iff_ne]; exact hK
  have HWD := Lib.hid (word_any (mk stepWords) K W (by rw [mk_size]; decide))
  rw [mk_list, words_steps] at HWD
  obtain ⟨t0, ht0⟩ : ∃ t, t = mk (nameOf stepNames K) := ⟨_, rfl⟩
  rw [← ht0] at HWD HX0
  have hz0 := HX0.out.size
  clear hat hr hset hb0 hblk ht0
  go_enter Tryd.func24, Tryd.ntmps24
  go_upto_region 1 with fail
  rw [← hW]
  clear hW
  have x0 := HBX.out W (Below.refl _ _) 0
  go_wp2_with fail
  refine HWD.out.mono ?_
  rintro e w0 ⟨rfl, rfl⟩
  clear HWD
  have x1 := HBX.out W (Below.refl _ _) 1
  have x2 := HBX.out W (Below.refl _ _) 2
  have x3 := HBX.out W (Below.refl _ _) 3
  have x4 := HBX.out W (Below.refl _ _) 4
  have x5 := HBX.out W (Below.refl _ _) 5
  have x6 := HBX.out W (Below.refl _ _) 6
  have x7 := HBX.out W (Below.refl _ _) 7
  go_wp2_with fail
  refine (has_set HSET.out 78 true (by decide) W).mono ?_
  rintro e w0 ⟨rfl, rfl⟩
  go_wp2_with fail
  refine (has_set HSET.out 78 true (by decide) W).mono ?_
  rintro e w0 ⟨rfl, rfl⟩
  have HC1 := Lib.hid (ref_digits N W (by omega) (by omega))
  obtain ⟨s1, hs1⟩ : ∃ t, t = mkB (Lib.itoa N) := ⟨_, rfl⟩
  rw [← hs1] at HC1 HTN
  have hz1 := HTN.out.size
  clear hs1
  go_wp2_with fail
  refine HC1.out.mono ?_
  rintro e w1 ⟨rfl, hb1⟩
  have HB1 := Lib.hid (keepS (Below.refl W.heap.size W) hb1)
  clear hb1 x0 x1 x2 x3 x4 x5 x6 x7
  have x0 := HBX.out w1 HB1.out 0
  have x1 := HBX.out w1 HB1.out 1
  have x2 := HBX.out w1 HB1.out 2
  have x3 := HBX.out w1 HB1.out 3
  have x4 := HBX.out w1 HB1.out 4
  have x5 := HBX.out w1 HB1.out 5
  have x6 := HBX.out w1 HB1.out 6
  have x7 := HBX.out w1 HB1.out 7
  go_wp2_with fail
  refine (has_set HSET.out 83 false (by decide) w1).mono ?_
  rintro e w0 ⟨rfl, rfl⟩
  go_wp2_with fail
  refine (has_set HSET.out 65 false (by decide) w1).mono ?_
  rintro e w0 ⟨rfl, rfl⟩
  go_wp2_with fail
  refine (has_set HSET.out 66 false (by decide) w1).mono ?_
  rintro e w0 ⟨rfl, rfl⟩
  go_wp2_with fail
  refine (has_set HSET.out 67 false (by decide) w1).mono ?_
  rintro e w0 ⟨rfl, rfl⟩
  go_wp2_with fail
  refine (has_set HSET.out 76 true (by decide) w1).mono ?_
  rintro e w0 ⟨rfl, rfl⟩
  have HC2 := Lib.hid (list_values la ln lc L w1 (HAT.out.below HB1.out (Nat.le_refl _)) hln HR.out)
  obtain ⟨s2, hs2⟩ : ∃ t, t = mk (listText valueText L) := ⟨_, rfl⟩
  rw [← hs2] at HC2 HTL
  have hz2 := HTL.out.size
  clear hs2
  go_wp2_with fail
  refine HC2.out.mono ?_
  rintro e w2 ⟨rfl, hb2⟩
  have HB2 := Lib.hid (keepS HB1.out hb2)
  clear hb2 x0 x1 x2 x3 x4 x5 x6 x7
  have x0 := HBX.out w2 HB2.out 0
  have x1 := HBX.out w2 HB2.out 1
  have x2 := HBX.out w2 HB2.out 2
  have x3 := HBX.out w2 HB2.out 3
  have x4 := HBX.out w2 HB2.out 4
  have x5 := HBX.out w2 HB2.out 5
  have x6 := HBX.out w2 HB2.out 6
  have x7 := HBX.out w2 HB2.out 7
  cases T
  · go_wp2_with fail
    refine (has_set HSET.out 75 true (by decide) w2).mono ?_
    rintro e w0 ⟨rfl, rfl⟩
    go_wp2_with fail
    go_ret
    have HFIN := (((((HX0.out).app (Txt.lit [32])).app HTN.out).app (Txt.lit [32, 40])).app HTL.out).app (Txt.lit [41])
    refine ⟨congrArg (fun b : ByteArray => Ending.returned (Value.string b)) (HFIN.is.trans ?_), keepS HB0.out HB2.out⟩
    show mkB _ = mkB _
    congr 1
    unfold opText fieldsText
    rw [HSET.out]
    (try simp only [List.map_cons, List.map_nil, List.flatten_cons, List.flatten_nil, List.append_nil])
    rw [(show shownF (fieldF K A B C N S L false) 78 = 32 :: numberText K N from shown_some (number_ne _ _)), (show shownF (fieldF K A B C N S L false) 76 = 32 :: listV L from shown_some (by show listV L ≠ []; unfold listV; simp)), (show shownF (fieldF K A B C N S L false) 75 = [] from rfl)]
    rw [show numberText K N = Lib.itoa N from if_neg hK]
    (try simp [valueText, listV])
  · go_wp2_with fail
    refine (has_set HSET.out 75 true (by decide) w2).mono ?_
    rintro e w0 ⟨rfl, rfl⟩
    go_wp2_with fail
    go_ret
    have HFIN := ((((((HX0.out).app (Txt.lit [32])).app HTN.out).app (Txt.lit [32, 40])).app HTL.out).app (Txt.lit [41])).app (Txt.lit [32, 115, 116, 97, 99, 107])
    refine ⟨congrArg (fun b : ByteArray => Ending.returned (Value.string b)) (HFIN.is.trans ?_), keepS HB0.out HB2.out⟩
    show mkB _ = mkB _
    congr 1
    unfold opText fieldsText
    rw [HSET.out]
    (try simp only [List.map_cons, List.map_nil, List.flatten_cons, List.flatten_nil, List.append_nil])
    rw [(show shownF (fieldF K A B C N S L true) 78 = 32 :: numberText K N from shown_some (number_ne _ _)), (show shownF (fieldF K A B C N S L true) 76 = 32 :: listV L from shown_some (by show listV L ≠ []; unfold listV; simp)), (show shownF (fieldF K A B C N S L true) 75 = 32 :: [115, 116, 97, 99, 107] from rfl)]
    rw [show numberText K N = Lib.itoa N from if_neg hK]
    (try simp [valueText, listV])

set_option maxRecDepth 100000 in
set_option maxHeartbeats 4000000 in
theorem ref6_7 (K A B C N : Int) (S : ByteArray) (la : Option Addr) (ln lc : Nat) (L : List Int) (T : Bool) (w : World) (hset : fieldsL K = [78, 65]) (hK : K ≠ 3) (hA : InR A) (hB : InR B) (hC : InR C) (hN : InR N) (hS : S.size ≤ 1048576) (hat : NumsAt w la ln L) (hln : ln ≤ 1048576) (hr : ∀ z ∈ L, InR z) : Ref6 K A B C N S la ln lc L T w := by
  unfold Ref6
  obtain ⟨hA0, hA1⟩ := hA
  obtain ⟨hB0, hB1⟩ := hB
  obtain ⟨hC0, hC1⟩ := hC
  obtain ⟨hN0, hN1⟩ := hN
  have hb0 : Below w.heap.size w (w.alloc (.cells #[.int .i64 K, .int .i64 A, .int .i64 B, .int .i64 C, .int .i64 N, .string S, .slice la ln lc, .bool T] 50)) := (Below.refl _ _).alloc (Nat.le_refl _) _
  have hblk := heap_alloc_new w (.cells #[.int .i64 K, .int .i64 A, .int .i64 B, .int .i64 C, .int .i64 N, .string S, .slice la ln lc, .bool T] 50)
  obtain ⟨W, hW⟩ : ∃ W, W = w.alloc (.cells #[.int .i64 K, .int .i64 A, .int .i64 B, .int .i64 C, .int .i64 N, .string S, .slice la ln lc, .bool T] 50) := ⟨_, rfl⟩
  rw [← hW] at hb0 hblk
  have HB0 := Lib.hid hb0
  have HLT : RowKit.Hid (w.heap.size < W.heap.size) := Lib.hid (Array.getElem?_eq_some_iff.1 hblk).1
  have HBX : RowKit.Hid (∀ u, Below W.heap.size W u → ∀ j, u.cell? ⟨w.heap.size, j, none⟩ = (#[.int .i64 K, .int .i64 A, .int .i64 B, .int .i64 C, .int .i64 N, .string S, .slice la ln lc, .bool T] : Array Value)[j]?) := Lib.hid fun u hb j => by
    have : u.heap[w.heap.size]? = _ := (hb.block _ HLT.out).trans hblk
    simp [World.cell?, this]
  have HSET := Lib.hid hset
  have HAT := Lib.hid (hat.below hb0 (Nat.le_refl _))
  have HR := Lib.hid hr
  have HX0 : RowKit.Hid (Txt (mk (nameOf stepNames K)) (nameOf stepNames K) 5) := Lib.hid ⟨rfl, names_len K⟩
  have HTN : RowKit.Hid (Txt (mkB (Lib.itoa N)) (Lib.itoa N) 21) := Lib.hid ⟨rfl, Lib.itoa_length_le N (by omega) (by omega)⟩
  have HTA : RowKit.Hid (Txt (mkB (Lib.itoa A)) (Lib.itoa A) 21) := Lib.hid ⟨rfl, Lib.itoa_length_le A (by omega) (by omega)⟩
  have hk3 : (K == 3) = false := by rw [beq_eq_false_iff_ne]; exact hK
  have HWD := Lib.hid (word_any (mk stepWords) K W (by rw [mk_size]; decide))
  rw [mk_list, words_steps] at HWD
  obtain ⟨t0, ht0⟩ : ∃ t, t = mk (nameOf stepNames K) := ⟨_, rfl⟩
  rw [← ht0] at HWD HX0
  have hz0 := HX0.out.size
  clear hat hr hset hb0 hblk ht0
  go_enter Tryd.func24, Tryd.ntmps24
  go_upto_region 1 with fail
  rw [← hW]
  clear hW
  have x0 := HBX.out W (Below.refl _ _) 0
  go_wp2_with fail
  refine HWD.out.mono ?_
  rintro e w0 ⟨rfl, rfl⟩
  clear HWD
  have x1 := HBX.out W (Below.refl _ _) 1
  have x2 := HBX.out W (Below.refl _ _) 2
  have x3 := HBX.out W (Below.refl _ _) 3
  have x4 := HBX.out W (Below.refl _ _) 4
  have x5 := HBX.out W (Below.refl _ _) 5
  have x6 := HBX.out W (Below.refl _ _) 6
  have x7 := HBX.out W (Below.refl _ _) 7
  go_wp2_with fail
  refine (has_set HSET.out 78 true (by decide) W).mono ?_
  rintro e w0 ⟨rfl, rfl⟩
  go_wp2_with fail
  refine (has_set HSET.out 78 true (by decide) W).mono ?_
  rintro e w0 ⟨rfl, rfl⟩
  have HC1 := Lib.hid (ref_digits N W (by omega) (by omega))
  obtain ⟨s1, hs1⟩ : ∃ t, t = mkB (Lib.itoa N) := ⟨_, rfl⟩
  rw [← hs1] at HC1 HTN
  have hz1 := HTN.out.size
  clear hs1
  go_wp2_with fail
  refine HC1.out.mono ?_
  rintro e w1 ⟨rfl, hb1⟩
  have HB1 := Lib.hid (keepS (Below.refl W.heap.size W) hb1)
  clear hb1 x0 x1 x2 x3 x4 x5 x6 x7
  have x0 := HBX.out w1 HB1.out 0
  have x1 := HBX.out w1 HB1.out 1
  have x2 := HBX.out w1 HB1.out 2
  have x3 := HBX.out w1 HB1.out 3
  have x4 := HBX.out w1 HB1.out 4
  have x5 := HBX.out w1 HB1.out 5
  have x6 := HBX.out w1 HB1.out 6
  have x7 := HBX.out w1 HB1.out 7
  go_wp2_with fail
  refine (has_set HSET.out 83 false (by decide) w1).mono ?_
  rintro e w0 ⟨rfl, rfl⟩
  go_wp2_with fail
  refine (has_set HSET.out 65 true (by decide) w1).mono ?_
  rintro e w0 ⟨rfl, rfl⟩
  have HC2 := Lib.hid (itoa_ref A w1 (by omega) (by omega))
  obtain ⟨s2, hs2⟩ : ∃ t, t = mkB (Lib.itoa A) := ⟨_, rfl⟩
  rw [← hs2] at HC2 HTA
  have hz2 := HTA.out.size
  clear hs2
  go_wp2_with fail
  refine HC2.out.mono ?_
  rintro e w2 ⟨rfl, hb2⟩
  have HB2 := Lib.hid (keepS HB1.out hb2)
  clear hb2 x0 x1 x2 x3 x4 x5 x6 x7
  have x0 := HBX.out w2 HB2.out 0
  have x1 := HBX.out w2 HB2.out 1
  have x2 := HBX.out w2 HB2.out 2
  have x3 := HBX.out w2 HB2.out 3
  have x4 := HBX.out w2 HB2.out 4
  have x5 := HBX.out w2 HB2.out 5
  have x6 := HBX.out w2 HB2.out 6
  have x7 := HBX.out w2 HB2.out 7
  go_wp2_with fail
  refine (has_set HSET.out 66 false (by decide) w2).mono ?_
  rintro e w0 ⟨rfl, rfl⟩
  go_wp2_with fail
  refine (has_set HSET.out 67 false (by decide) w2).mono ?_
  rintro e w0 ⟨rfl, rfl⟩
  go_wp2_with fail
  refine (has_set HSET.out 76 false (by decide) w2).mono ?_
  rintro e w0 ⟨rfl, rfl⟩
  cases T
  · go_wp2_with fail
    refine (has_set HSET.out 75 false (by decide) w2).mono ?_
    rintro e w0 ⟨rfl, rfl⟩
    go_wp2_with fail
    go_ret
    have HFIN := ((((HX0.out).app (Txt.lit [32])).app HTN.out).app (Txt.lit [32, 118])).app HTA.out
    refine ⟨congrArg (fun b : ByteArray => Ending.returned (Value.string b)) (HFIN.is.trans ?_), keepS HB0.out HB2.out⟩
    show mkB _ = mkB _
    congr 1
    unfold opText fieldsText
    rw [HSET.out]
    (try simp only [List.map_cons, List.map_nil, List.flatten_cons, List.flatten_nil, List.append_nil])
    rw [(show shownF (fieldF K A B C N S L false) 78 = 32 :: numberText K N from shown_some (number_ne _ _)), (show shownF (fieldF K A B C N S L false) 65 = 32 :: valueText A from shown_some (by show valueText A ≠ []; unfold valueText; simp))]
    rw [show numberText K N = Lib.itoa N from if_neg hK]
    (try simp [valueText, listV])
  · go_wp2_with fail
    refine (has_set HSET.out 75 false (by decide) w2).mono ?_
    rintro e w0 ⟨rfl, rfl⟩
    go_wp2_with fail
    go_ret
    have HFIN := ((((HX0.out).app (Txt.lit [32])).app HTN.out).app (Txt.lit [32, 118])).app HTA.out
    refine ⟨congrArg (fun b : ByteArray => Ending.returned (Value.string b)) (HFIN.is.trans ?_), keepS HB0.out HB2.out⟩
    show mkB _ = mkB _
    congr 1
    unfold opText fieldsText
    rw [HSET.out]
    (try simp only [List.map_cons, List.map_nil, List.flatten_cons, List.flatten_nil, List.append_nil])
    rw [(show shownF (fieldF K A B C N S L true) 78 = 32 :: numberText K N from shown_some (number_ne _ _)), (show shownF (fieldF K A B C N S L true) 65 = 32 :: valueText A from shown_some (by show valueText A ≠ []; unfold valueText; simp))]
    rw [show numberText K N = Lib.itoa N from if_neg hK]
    (try simp [valueText, listV])

set_option maxRecDepth 100000 in
set_option maxHeartbeats 4000000 in
theorem ref6_8 (K A B C N : Int) (S : ByteArray) (la : Option Addr) (ln lc : Nat) (L : List Int) (T : Bool) (w : World) (hset : fieldsL K = [78, 75]) (hK : K ≠ 3) (hA : InR A) (hB : InR B) (hC : InR C) (hN : InR N) (hS : S.size ≤ 1048576) (hat : NumsAt w la ln L) (hln : ln ≤ 1048576) (hr : ∀ z ∈ L, InR z) : Ref6 K A B C N S la ln lc L T w := by
  unfold Ref6
  obtain ⟨hA0, hA1⟩ := hA
  obtain ⟨hB0, hB1⟩ := hB
  obtain ⟨hC0, hC1⟩ := hC
  obtain ⟨hN0, hN1⟩ := hN
  have hb0 : Below w.heap.size w (w.alloc (.cells #[.int .i64 K, .int .i64 A, .int .i64 B, .int .i64 C, .int .i64 N, .string S, .slice la ln lc, .bool T] 50)) := (Below.refl _ _).alloc (Nat.le_refl _) _
  have hblk := heap_alloc_new w (.cells #[.int .i64 K, .int .i64 A, .int .i64 B, .int .i64 C, .int .i64 N, .string S, .slice la ln lc, .bool T] 50)
  obtain ⟨W, hW⟩ : ∃ W, W = w.alloc (.cells #[.int .i64 K, .int .i64 A, .int .i64 B, .int .i64 C, .int .i64 N, .string S, .slice la ln lc, .bool T] 50) := ⟨_, rfl⟩
  rw [← hW] at hb0 hblk
  have HB0 := Lib.hid hb0
  have HLT : RowKit.Hid (w.heap.size < W.heap.size) := Lib.hid (Array.getElem?_eq_some_iff.1 hblk).1
  have HBX : RowKit.Hid (∀ u, Below W.heap.size W u → ∀ j, u.cell? ⟨w.heap.size, j, none⟩ = (#[.int .i64 K, .int .i64 A, .int .i64 B, .int .i64 C, .int .i64 N, .string S, .slice la ln lc, .bool T] : Array Value)[j]?) := Lib.hid fun u hb j => by
    have : u.heap[w.heap.size]? = _ := (hb.block _ HLT.out).trans hblk
    simp [World.cell?, this]
  have HSET := Lib.hid hset
  have HAT := Lib.hid (hat.below hb0 (Nat.le_refl _))
  have HR := Lib.hid hr
  have HX0 : RowKit.Hid (Txt (mk (nameOf stepNames K)) (nameOf stepNames K) 5) := Lib.hid ⟨rfl, names_len K⟩
  have HTN : RowKit.Hid (Txt (mkB (Lib.itoa N)) (Lib.itoa N) 21) := Lib.hid ⟨rfl, Lib.itoa_length_le N (by omega) (by omega)⟩
  have hk3 : (K == 3) = false := by rw [beq_eq_false_iff_ne]; exact hK
  have HWD := Lib.hid (word_any (mk stepWords) K W (by rw [mk_size]; decide))
  rw [mk_list, words_steps] at HWD
  obtain ⟨t0, ht0⟩ : ∃ t, t = mk (nameOf stepNames K) := ⟨_, rfl⟩
  rw [← ht0] at HWD HX0
  have hz0 := HX0.out.size
  clear hat hr hset hb0 hblk ht0
  go_enter Tryd.func24, Tryd.ntmps24
  go_upto_region 1 with fail
  rw [← hW]
  clear hW
  have x0 := HBX.out W (Below.refl _ _) 0
  go_wp2_with fail
  refine HWD.out.mono ?_
  rintro e w0 ⟨rfl, rfl⟩
  clear HWD
  have x1 := HBX.out W (Below.refl _ _) 1
  have x2 := HBX.out W (Below.refl _ _) 2
  have x3 := HBX.out W (Below.refl _ _) 3
  have x4 := HBX.out W (Below.refl _ _) 4
  have x5 := HBX.out W (Below.refl _ _) 5
  have x6 := HBX.out W (Below.refl _ _) 6
  have x7 := HBX.out W (Below.refl _ _) 7
  go_wp2_with fail
  refine (has_set HSET.out 78 true (by decide) W).mono ?_
  rintro e w0 ⟨rfl, rfl⟩
  go_wp2_with fail
  refine (has_set HSET.out 78 true (by decide) W).mono ?_
  rintro e w0 ⟨rfl, rfl⟩
  have HC1 := Lib.hid (ref_digits N W (by omega) (by omega))
  obtain ⟨s1, hs1⟩ : ∃ t, t = mkB (Lib.itoa N) := ⟨_, rfl⟩
  rw [← hs1] at HC1 HTN
  have hz1 := HTN.out.size
  clear hs1
  go_wp2_with fail
  refine HC1.out.mono ?_
  rintro e w1 ⟨rfl, hb1⟩
  have HB1 := Lib.hid (keepS (Below.refl W.heap.size W) hb1)
  clear hb1 x0 x1 x2 x3 x4 x5 x6 x7
  have x0 := HBX.out w1 HB1.out 0
  have x1 := HBX.out w1 HB1.out 1
  have x2 := HBX.out w1 HB1.out 2
  have x3 := HBX.out w1 HB1.out 3
  have x4 := HBX.out w1 HB1.out 4
  have x5 := HBX.out w1 HB1.out 5
  have x6 := HBX.out w1 HB1.out 6
  have x7 := HBX.out w1 HB1.out 7
  go_wp2_with fail
  refine (has_set HSET.out 83 false (by decide) w1).mono ?_
  rintro e w0 ⟨rfl, rfl⟩
  go_wp2_with fail
  refine (has_set HSET.out 65 false (by decide) w1).mono ?_
  rintro e w0 ⟨rfl, rfl⟩
  go_wp2_with fail
  refine (has_set HSET.out 66 false (by decide) w1).mono ?_
  rintro e w0 ⟨rfl, rfl⟩
  go_wp2_with fail
  refine (has_set HSET.out 67 false (by decide) w1).mono ?_
  rintro e w0 ⟨rfl, rfl⟩
  go_wp2_with fail
  refine (has_set HSET.out 76 false (by decide) w1).mono ?_
  rintro e w0 ⟨rfl, rfl⟩
  cases T
  · go_wp2_with fail
    refine (has_set HSET.out 75 true (by decide) w1).mono ?_
    rintro e w0 ⟨rfl, rfl⟩
    go_wp2_with fail
    go_ret
    have HFIN := ((HX0.out).app (Txt.lit [32])).app HTN.out
    refine ⟨congrArg (fun b : ByteArray => Ending.returned (Value.string b)) (HFIN.is.trans ?_), keepS HB0.out HB1.out⟩
    show mkB _ = mkB _
    congr 1
    unfold opText fieldsText
    rw [HSET.out]
    (try simp only [List.map_cons, List.map_nil, List.flatten_cons, List.flatten_nil, List.append_nil])
    rw [(show shownF (fieldF K A B C N S L false) 78 = 32 :: numberText K N from shown_some (number_ne _ _)), (show shownF (fieldF K A B C N S L false) 75 = [] from rfl)]
    rw [show numberText K N = Lib.itoa N from if_neg hK]
    (try simp [valueText, listV])
  · go_wp2_with fail
    refine (has_set HSET.out 75 true (by decide) w1).mono ?_
    rintro e w0 ⟨rfl, rfl⟩
    go_wp2_with fail
    go_ret
    have HFIN := (((HX0.out).app (Txt.lit [32])).app HTN.out).app (Txt.lit [32, 115, 116, 97, 99, 107])
    refine ⟨congrArg (fun b : ByteArray => Ending.returned (Value.string b)) (HFIN.is.trans ?_), keepS HB0.out HB1.out⟩
    show mkB _ = mkB _
    congr 1
    unfold opText fieldsText
    rw [HSET.out]
    (try simp only [List.map_cons, List.map_nil, List.flatten_cons, List.flatten_nil, List.append_nil])
    rw [(show shownF (fieldF K A B C N S L true) 78 = 32 :: numberText K N from shown_some (number_ne _ _)), (show shownF (fieldF K A B C N S L true) 75 = 32 :: [115, 116, 97, 99, 107] from rfl)]
    rw [show numberText K N = Lib.itoa N from if_neg hK]
    (try simp [valueText, listV])

set_option maxRecDepth 100000 in
set_option maxHeartbeats 4000000 in
theorem ref6_9 (K A B C N : Int) (S : ByteArray) (la : Option Addr) (ln lc : Nat) (L : List Int) (T : Bool) (w : World) (hset : fieldsL K = [65, 66, 67]) (hA : InR A) (hB : InR B) (hC : InR C) (hN : InR N) (hS : S.size ≤ 1048576) (hat : NumsAt w la ln L) (hln : ln ≤ 1048576) (hr : ∀ z ∈ L, InR z) : Ref6 K A B C N S la ln lc L T w := by
  unfold Ref6
  obtain ⟨hA0, hA1⟩ := hA
  obtain ⟨hB0, hB1⟩ := hB
  obtain ⟨hC0, hC1⟩ := hC
  obtain ⟨hN0, hN1⟩ := hN
  have hb0 : Below w.heap.size w (w.alloc (.cells #[.int .i64 K, .int .i64 A, .int .i64 B, .int .i64 C, .int .i64 N, .string S, .slice la ln lc, .bool T] 50)) := (Below.refl _ _).alloc (Nat.le_refl _) _
  have hblk := heap_alloc_new w (.cells #[.int .i64 K, .int .i64 A, .int .i64 B, .int .i64 C, .int .i64 N, .string S, .slice la ln lc, .bool T] 50)
  obtain ⟨W, hW⟩ : ∃ W, W = w.alloc (.cells #[.int .i64 K, .int .i64 A, .int .i64 B, .int .i64 C, .int .i64 N, .string S, .slice la ln lc, .bool T] 50) := ⟨_, rfl⟩
  rw [← hW] at hb0 hblk
  have HB0 := Lib.hid hb0
  have HLT : RowKit.Hid (w.heap.size < W.heap.size) := Lib.hid (Array.getElem?_eq_some_iff.1 hblk).1
  have HBX : RowKit.Hid (∀ u, Below W.heap.size W u → ∀ j, u.cell? ⟨w.heap.size, j, none⟩ = (#[.int .i64 K, .int .i64 A, .int .i64 B, .int .i64 C, .int .i64 N, .string S, .slice la ln lc, .bool T] : Array Value)[j]?) := Lib.hid fun u hb j => by
    have : u.heap[w.heap.size]? = _ := (hb.block _ HLT.out).trans hblk
    simp [World.cell?, this]
  have HSET := Lib.hid hset
  have HAT := Lib.hid (hat.below hb0 (Nat.le_refl _))
  have HR := Lib.hid hr
  have HX0 : RowKit.Hid (Txt (mk (nameOf stepNames K)) (nameOf stepNames K) 5) := Lib.hid ⟨rfl, names_len K⟩
  have HTA : RowKit.Hid (Txt (mkB (Lib.itoa A)) (Lib.itoa A) 21) := Lib.hid ⟨rfl, Lib.itoa_length_le A (by omega) (by omega)⟩
  have HTB : RowKit.Hid (Txt (mkB (Lib.itoa B)) (Lib.itoa B) 21) := Lib.hid ⟨rfl, Lib.itoa_length_le B (by omega) (by omega)⟩
  have HTC : RowKit.Hid (Txt (mkB (Lib.itoa C)) (Lib.itoa C) 21) := Lib.hid ⟨rfl, Lib.itoa_length_le C (by omega) (by omega)⟩
  have HWD := Lib.hid (word_any (mk stepWords) K W (by rw [mk_size]; decide))
  rw [mk_list, words_steps] at HWD
  obtain ⟨t0, ht0⟩ : ∃ t, t = mk (nameOf stepNames K) := ⟨_, rfl⟩
  rw [← ht0] at HWD HX0
  have hz0 := HX0.out.size
  clear hat hr hset hb0 hblk ht0
  go_enter Tryd.func24, Tryd.ntmps24
  go_upto_region 1 with fail
  rw [← hW]
  clear hW
  have x0 := HBX.out W (Below.refl _ _) 0
  go_wp2_with fail
  refine HWD.out.mono ?_
  rintro e w0 ⟨rfl, rfl⟩
  clear HWD
  have x1 := HBX.out W (Below.refl _ _) 1
  have x2 := HBX.out W (Below.refl _ _) 2
  have x3 := HBX.out W (Below.refl _ _) 3
  have x4 := HBX.out W (Below.refl _ _) 4
  have x5 := HBX.out W (Below.refl _ _) 5
  have x6 := HBX.out W (Below.refl _ _) 6
  have x7 := HBX.out W (Below.refl _ _) 7
  go_wp2_with fail
  refine (has_set HSET.out 78 false (by decide) W).mono ?_
  rintro e w0 ⟨rfl, rfl⟩
  go_wp2_with fail
  refine (has_set HSET.out 78 false (by decide) W).mono ?_
  rintro e w0 ⟨rfl, rfl⟩
  go_wp2_with fail
  refine (has_set HSET.out 83 false (by decide) W).mono ?_
  rintro e w0 ⟨rfl, rfl⟩
  go_wp2_with fail
  refine (has_set HSET.out 65 true (by decide) W).mono ?_
  rintro e w0 ⟨rfl, rfl⟩
  have HC1 := Lib.hid (itoa_ref A W (by omega) (by omega))
  obtain ⟨s1, hs1⟩ : ∃ t, t = mkB (Lib.itoa A) := ⟨_, rfl⟩
  rw [← hs1] at HC1 HTA
  have hz1 := HTA.out.size
  clear hs1
  go_wp2_with fail
  refine HC1.out.mono ?_
  rintro e w1 ⟨rfl, hb1⟩
  have HB1 := Lib.hid (keepS (Below.refl W.heap.size W) hb1)
  clear hb1 x0 x1 x2 x3 x4 x5 x6 x7
  have x0 := HBX.out w1 HB1.out 0
  have x1 := HBX.out w1 HB1.out 1
  have x2 := HBX.out w1 HB1.out 2
  have x3 := HBX.out w1 HB1.out 3
  have x4 := HBX.out w1 HB1.out 4
  have x5 := HBX.out w1 HB1.out 5
  have x6 := HBX.out w1 HB1.out 6
  have x7 := HBX.out w1 HB1.out 7
  go_wp2_with fail
  refine (has_set HSET.out 66 true (by decide) w1).mono ?_
  rintro e w0 ⟨rfl, rfl⟩
  have HC2 := Lib.hid (itoa_ref B w1 (by omega) (by omega))
  obtain ⟨s2, hs2⟩ : ∃ t, t = mkB (Lib.itoa B) := ⟨_, rfl⟩
  rw [← hs2] at HC2 HTB
  have hz2 := HTB.out.size
  clear hs2
  go_wp2_with fail
  refine HC2.out.mono ?_
  rintro e w2 ⟨rfl, hb2⟩
  have HB2 := Lib.hid (keepS HB1.out hb2)
  clear hb2 x0 x1 x2 x3 x4 x5 x6 x7
  have x0 := HBX.out w2 HB2.out 0
  have x1 := HBX.out w2 HB2.out 1
  have x2 := HBX.out w2 HB2.out 2
  have x3 := HBX.out w2 HB2.out 3
  have x4 := HBX.out w2 HB2.out 4
  have x5 := HBX.out w2 HB2.out 5
  have x6 := HBX.out w2 HB2.out 6
  have x7 := HBX.out w2 HB2.out 7
  go_wp2_with fail
  refine (has_set HSET.out 67 true (by decide) w2).mono ?_
  rintro e w0 ⟨rfl, rfl⟩
  have HC3 := Lib.hid (itoa_ref C w2 (by omega) (by omega))
  obtain ⟨s3, hs3⟩ : ∃ t, t = mkB (Lib.itoa C) := ⟨_, rfl⟩
  rw [← hs3] at HC3 HTC
  have hz3 := HTC.out.size
  clear hs3
  go_wp2_with fail
  refine HC3.out.mono ?_
  rintro e w3 ⟨rfl, hb3⟩
  have HB3 := Lib.hid (keepS HB2.out hb3)
  clear hb3 x0 x1 x2 x3 x4 x5 x6 x7
  have x0 := HBX.out w3 HB3.out 0
  have x1 := HBX.out w3 HB3.out 1
  have x2 := HBX.out w3 HB3.out 2
  have x3 := HBX.out w3 HB3.out 3
  have x4 := HBX.out w3 HB3.out 4
  have x5 := HBX.out w3 HB3.out 5
  have x6 := HBX.out w3 HB3.out 6
  have x7 := HBX.out w3 HB3.out 7
  go_wp2_with fail
  refine (has_set HSET.out 76 false (by decide) w3).mono ?_
  rintro e w0 ⟨rfl, rfl⟩
  cases T
  · go_wp2_with fail
    refine (has_set HSET.out 75 false (by decide) w3).mono ?_
    rintro e w0 ⟨rfl, rfl⟩
    go_wp2_with fail
    go_ret
    have HFIN := ((((((HX0.out).app (Txt.lit [32, 118])).app HTA.out).app (Txt.lit [32, 118])).app HTB.out).app (Txt.lit [32, 118])).app HTC.out
    refine ⟨congrArg (fun b : ByteArray => Ending.returned (Value.string b)) (HFIN.is.trans ?_), keepS HB0.out HB3.out⟩
    show mkB _ = mkB _
    congr 1
    unfold opText fieldsText
    rw [HSET.out]
    (try simp only [List.map_cons, List.map_nil, List.flatten_cons, List.flatten_nil, List.append_nil])
    rw [(show shownF (fieldF K A B C N S L false) 65 = 32 :: valueText A from shown_some (by show valueText A ≠ []; unfold valueText; simp)), (show shownF (fieldF K A B C N S L false) 66 = 32 :: valueText B from shown_some (by show valueText B ≠ []; unfold valueText; simp)), (show shownF (fieldF K A B C N S L false) 67 = 32 :: valueText C from shown_some (by show valueText C ≠ []; unfold valueText; simp))]
    (try simp [valueText, listV])
  · go_wp2_with fail
    refine (has_set HSET.out 75 false (by decide) w3).mono ?_
    rintro e w0 ⟨rfl, rfl⟩
    go_wp2_with fail
    go_ret
    have HFIN := ((((((HX0.out).app (Txt.lit [32, 118])).app HTA.out).app (Txt.lit [32, 118])).app HTB.out).app (Txt.lit [32, 118])).app HTC.out
    refine ⟨congrArg (fun b : ByteArray => Ending.returned (Value.string b)) (HFIN.is.trans ?_), keepS HB0.out HB3.out⟩
    show mkB _ = mkB _
    congr 1
    unfold opText fieldsText
    rw [HSET.out]
    (try simp only [List.map_cons, List.map_nil, List.flatten_cons, List.flatten_nil, List.append_nil])
    rw [(show shownF (fieldF K A B C N S L true) 65 = 32 :: valueText A from shown_some (by show valueText A ≠ []; unfold valueText; simp)), (show shownF (fieldF K A B C N S L true) 66 = 32 :: valueText B from shown_some (by show valueText B ≠ []; unfold valueText; simp)), (show shownF (fieldF K A B C N S L true) 67 = 32 :: valueText C from shown_some (by show valueText C ≠ []; unfold valueText; simp))]
    (try simp [valueText, listV])

set_option maxRecDepth 100000 in
set_option maxHeartbeats 4000000 in
theorem ref6_10 (K A B C N : Int) (S : ByteArray) (la : Option Addr) (ln lc : Nat) (L : List Int) (T : Bool) (w : World) (hset : fieldsL K = [75]) (hA : InR A) (hB : InR B) (hC : InR C) (hN : InR N) (hS : S.size ≤ 1048576) (hat : NumsAt w la ln L) (hln : ln ≤ 1048576) (hr : ∀ z ∈ L, InR z) : Ref6 K A B C N S la ln lc L T w := by
  unfold Ref6
  obtain ⟨hA0, hA1⟩ := hA
  obtain ⟨hB0, hB1⟩ := hB
  obtain ⟨hC0, hC1⟩ := hC
  obtain ⟨hN0, hN1⟩ := hN
  have hb0 : Below w.heap.size w (w.alloc (.cells #[.int .i64 K, .int .i64 A, .int .i64 B, .int .i64 C, .int .i64 N, .string S, .slice la ln lc, .bool T] 50)) := (Below.refl _ _).alloc (Nat.le_refl _) _
  have hblk := heap_alloc_new w (.cells #[.int .i64 K, .int .i64 A, .int .i64 B, .int .i64 C, .int .i64 N, .string S, .slice la ln lc, .bool T] 50)
  obtain ⟨W, hW⟩ : ∃ W, W = w.alloc (.cells #[.int .i64 K, .int .i64 A, .int .i64 B, .int .i64 C, .int .i64 N, .string S, .slice la ln lc, .bool T] 50) := ⟨_, rfl⟩
  rw [← hW] at hb0 hblk
  have HB0 := Lib.hid hb0
  have HLT : RowKit.Hid (w.heap.size < W.heap.size) := Lib.hid (Array.getElem?_eq_some_iff.1 hblk).1
  have HBX : RowKit.Hid (∀ u, Below W.heap.size W u → ∀ j, u.cell? ⟨w.heap.size, j, none⟩ = (#[.int .i64 K, .int .i64 A, .int .i64 B, .int .i64 C, .int .i64 N, .string S, .slice la ln lc, .bool T] : Array Value)[j]?) := Lib.hid fun u hb j => by
    have : u.heap[w.heap.size]? = _ := (hb.block _ HLT.out).trans hblk
    simp [World.cell?, this]
  have HSET := Lib.hid hset
  have HAT := Lib.hid (hat.below hb0 (Nat.le_refl _))
  have HR := Lib.hid hr
  have HX0 : RowKit.Hid (Txt (mk (nameOf stepNames K)) (nameOf stepNames K) 5) := Lib.hid ⟨rfl, names_len K⟩
  have HWD := Lib.hid (word_any (mk stepWords) K W (by rw [mk_size]; decide))
  rw [mk_list, words_steps] at HWD
  obtain ⟨t0, ht0⟩ : ∃ t, t = mk (nameOf stepNames K) := ⟨_, rfl⟩
  rw [← ht0] at HWD HX0
  have hz0 := HX0.out.size
  clear hat hr hset hb0 hblk ht0
  go_enter Tryd.func24, Tryd.ntmps24
  go_upto_region 1 with fail
  rw [← hW]
  clear hW
  have x0 := HBX.out W (Below.refl _ _) 0
  go_wp2_with fail
  refine HWD.out.mono ?_
  rintro e w0 ⟨rfl, rfl⟩
  clear HWD
  have x1 := HBX.out W (Below.refl _ _) 1
  have x2 := HBX.out W (Below.refl _ _) 2
  have x3 := HBX.out W (Below.refl _ _) 3
  have x4 := HBX.out W (Below.refl _ _) 4
  have x5 := HBX.out W (Below.refl _ _) 5
  have x6 := HBX.out W (Below.refl _ _) 6
  have x7 := HBX.out W (Below.refl _ _) 7
  go_wp2_with fail
  refine (has_set HSET.out 78 false (by decide) W).mono ?_
  rintro e w0 ⟨rfl, rfl⟩
  go_wp2_with fail
  refine (has_set HSET.out 78 false (by decide) W).mono ?_
  rintro e w0 ⟨rfl, rfl⟩
  go_wp2_with fail
  refine (has_set HSET.out 83 false (by decide) W).mono ?_
  rintro e w0 ⟨rfl, rfl⟩
  go_wp2_with fail
  refine (has_set HSET.out 65 false (by decide) W).mono ?_
  rintro e w0 ⟨rfl, rfl⟩
  go_wp2_with fail
  refine (has_set HSET.out 66 false (by decide) W).mono ?_
  rintro e w0 ⟨rfl, rfl⟩
  go_wp2_with fail
  refine (has_set HSET.out 67 false (by decide) W).mono ?_
  rintro e w0 ⟨rfl, rfl⟩
  go_wp2_with fail
  refine (has_set HSET.out 76 false (by decide) W).mono ?_
  rintro e w0 ⟨rfl, rfl⟩
  cases T
  · go_wp2_with fail
    refine (has_set HSET.out 75 true (by decide) W).mono ?_
    rintro e w0 ⟨rfl, rfl⟩
    go_wp2_with fail
    go_ret
    have HFIN := HX0.out
    refine ⟨congrArg (fun b : ByteArray => Ending.returned (Value.string b)) (HFIN.is.trans ?_), keepS HB0.out (Below.refl W.heap.size W)⟩
    show mkB _ = mkB _
    congr 1
    unfold opText fieldsText
    rw [HSET.out]
    (try simp only [List.map_cons, List.map_nil, List.flatten_cons, List.flatten_nil, List.append_nil])
    rw [(show shownF (fieldF K A B C N S L false) 75 = [] from rfl)]
    (try simp [valueText, listV])
  · go_wp2_with fail
    refine (has_set HSET.out 75 true (by decide) W).mono ?_
    rintro e w0 ⟨rfl, rfl⟩
    go_wp2_with fail
    go_ret
    have HFIN := (HX0.out).app (Txt.lit [32, 115, 116, 97, 99, 107])
    refine ⟨congrArg (fun b : ByteArray => Ending.returned (Value.string b)) (HFIN.is.trans ?_), keepS HB0.out (Below.refl W.heap.size W)⟩
    show mkB _ = mkB _
    congr 1
    unfold opText fieldsText
    rw [HSET.out]
    (try simp only [List.map_cons, List.map_nil, List.flatten_cons, List.flatten_nil, List.append_nil])
    rw [(show shownF (fieldF K A B C N S L true) 75 = 32 :: [115, 116, 97, 99, 107] from rfl)]
    (try simp [valueText, listV])

set_option maxRecDepth 100000 in
set_option maxHeartbeats 4000000 in
theorem ref6_11 (K A B C N : Int) (S : ByteArray) (la : Option Addr) (ln lc : Nat) (L : List Int) (T : Bool) (w : World) (hset : fieldsL K = [78, 76]) (hK : K ≠ 3) (hA : InR A) (hB : InR B) (hC : InR C) (hN : InR N) (hS : S.size ≤ 1048576) (hat : NumsAt w la ln L) (hln : ln ≤ 1048576) (hr : ∀ z ∈ L, InR z) : Ref6 K A B C N S la ln lc L T w := by
  unfold Ref6
  obtain ⟨hA0, hA1⟩ := hA
  obtain ⟨hB0, hB1⟩ := hB
  obtain ⟨hC0, hC1⟩ := hC
  obtain ⟨hN0, hN1⟩ := hN
  have hb0 : Below w.heap.size w (w.alloc (.cells #[.int .i64 K, .int .i64 A, .int .i64 B, .int .i64 C, .int .i64 N, .string S, .slice la ln lc, .bool T] 50)) := (Below.refl _ _).alloc (Nat.le_refl _) _
  have hblk := heap_alloc_new w (.cells #[.int .i64 K, .int .i64 A, .int .i64 B, .int .i64 C, .int .i64 N, .string S, .slice la ln lc, .bool T] 50)
  obtain ⟨W, hW⟩ : ∃ W, W = w.alloc (.cells #[.int .i64 K, .int .i64 A, .int .i64 B, .int .i64 C, .int .i64 N, .string S, .slice la ln lc, .bool T] 50) := ⟨_, rfl⟩
  rw [← hW] at hb0 hblk
  have HB0 := Lib.hid hb0
  have HLT : RowKit.Hid (w.heap.size < W.heap.size) := Lib.hid (Array.getElem?_eq_some_iff.1 hblk).1
  have HBX : RowKit.Hid (∀ u, Below W.heap.size W u → ∀ j, u.cell? ⟨w.heap.size, j, none⟩ = (#[.int .i64 K, .int .i64 A, .int .i64 B, .int .i64 C, .int .i64 N, .string S, .slice la ln lc, .bool T] : Array Value)[j]?) := Lib.hid fun u hb j => by
    have : u.heap[w.heap.size]? = _ := (hb.block _ HLT.out).trans hblk
    simp [World.cell?, this]
  have HSET := Lib.hid hset
  have HAT := Lib.hid (hat.below hb0 (Nat.le_refl _))
  have HR := Lib.hid hr
  have HX0 : RowKit.Hid (Txt (mk (nameOf stepNames K)) (nameOf stepNames K) 5) := Lib.hid ⟨rfl, names_len K⟩
  have HTN : RowKit.Hid (Txt (mkB (Lib.itoa N)) (Lib.itoa N) 21) := Lib.hid ⟨rfl, Lib.itoa_length_le N (by omega) (by omega)⟩
  have HLL : RowKit.Hid ((listText valueText L).length ≤ 100000000) := Lib.hid (values_len (by rw [hat.1]; exact hln) hr)
  have HTL : RowKit.Hid (Txt (mk (listText valueText L)) (listText valueText L) 100000000) := Lib.hid ⟨rfl, HLL.out⟩
  have hk3 : (K == 3) = false := by rw [beq_eq_false_iff_ne]; exact hK
  have HWD := Lib.hid (word_any (mk stepWords) K W (by rw [mk_size]; decide))
  rw [mk_list, words_steps] at HWD
  obtain ⟨t0, ht0⟩ : ∃ t, t = mk (nameOf stepNames K) := ⟨_, rfl⟩
  rw [← ht0] at HWD HX0
  have hz0 := HX0.out.size
  clear hat hr hset hb0 hblk ht0
  go_enter Tryd.func24, Tryd.ntmps24
  go_upto_region 1 with fail
  rw [← hW]
  clear hW
  have x0 := HBX.out W (Below.refl _ _) 0
  go_wp2_with fail
  refine HWD.out.mono ?_
  rintro e w0 ⟨rfl, rfl⟩
  clear HWD
  have x1 := HBX.out W (Below.refl _ _) 1
  have x2 := HBX.out W (Below.refl _ _) 2
  have x3 := HBX.out W (Below.refl _ _) 3
  have x4 := HBX.out W (Below.refl _ _) 4
  have x5 := HBX.out W (Below.refl _ _) 5
  have x6 := HBX.out W (Below.refl _ _) 6
  have x7 := HBX.out W (Below.refl _ _) 7
  go_wp2_with fail
  refine (has_set HSET.out 78 true (by decide) W).mono ?_
  rintro e w0 ⟨rfl, rfl⟩
  go_wp2_with fail
  refine (has_set HSET.out 78 true (by decide) W).mono ?_
  rintro e w0 ⟨rfl, rfl⟩
  have HC1 := Lib.hid (ref_digits N W (by omega) (by omega))
  obtain ⟨s1, hs1⟩ : ∃ t, t = mkB (Lib.itoa N) := ⟨_, rfl⟩
  rw [← hs1] at HC1 HTN
  have hz1 := HTN.out.size
  clear hs1
  go_wp2_with fail
  refine HC1.out.mono ?_
  rintro e w1 ⟨rfl, hb1⟩
  have HB1 := Lib.hid (keepS (Below.refl W.heap.size W) hb1)
  clear hb1 x0 x1 x2 x3 x4 x5 x6 x7
  have x0 := HBX.out w1 HB1.out 0
  have x1 := HBX.out w1 HB1.out 1
  have x2 := HBX.out w1 HB1.out 2
  have x3 := HBX.out w1 HB1.out 3
  have x4 := HBX.out w1 HB1.out 4
  have x5 := HBX.out w1 HB1.out 5
  have x6 := HBX.out w1 HB1.out 6
  have x7 := HBX.out w1 HB1.out 7
  go_wp2_with fail
  refine (has_set HSET.out 83 false (by decide) w1).mono ?_
  rintro e w0 ⟨rfl, rfl⟩
  go_wp2_with fail
  refine (has_set HSET.out 65 false (by decide) w1).mono ?_
  rintro e w0 ⟨rfl, rfl⟩
  go_wp2_with fail
  refine (has_set HSET.out 66 false (by decide) w1).mono ?_
  rintro e w0 ⟨rfl, rfl⟩
  go_wp2_with fail
  refine (has_set HSET.out 67 false (by decide) w1).mono ?_
  rintro e w0 ⟨rfl, rfl⟩
  go_wp2_with fail
  refine (has_set HSET.out 76 true (by decide) w1).mono ?_
  rintro e w0 ⟨rfl, rfl⟩
  have HC2 := Lib.hid (list_values la ln lc L w1 (HAT.out.below HB1.out (Nat.le_refl _)) hln HR.out)
  obtain ⟨s2, hs2⟩ : ∃ t, t = mk (listText valueText L) := ⟨_, rfl⟩
  rw [← hs2] at HC2 HTL
  have hz2 := HTL.out.size
  clear hs2
  go_wp2_with fail
  refine HC2.out.mono ?_
  rintro e w2 ⟨rfl, hb2⟩
  have HB2 := Lib.hid (keepS HB1.out hb2)
  clear hb2 x0 x1 x2 x3 x4 x5 x6 x7
  have x0 := HBX.out w2 HB2.out 0
  have x1 := HBX.out w2 HB2.out 1
  have x2 := HBX.out w2 HB2.out 2
  have x3 := HBX.out w2 HB2.out 3
  have x4 := HBX.out w2 HB2.out 4
  have x5 := HBX.out w2 HB2.out 5
  have x6 := HBX.out w2 HB2.out 6
  have x7 := HBX.out w2 HB2.out 7
  cases T
  · go_wp2_with fail
    refine (has_set HSET.out 75 false (by decide) w2).mono ?_
    rintro e w0 ⟨rfl, rfl⟩
    go_wp2_with fail
    go_ret
    have HFIN := (((((HX0.out).app (Txt.lit [32])).app HTN.out).app (Txt.lit [32, 40])).app HTL.out).app (Txt.lit [41])
    refine ⟨congrArg (fun b : ByteArray => Ending.returned (Value.string b)) (HFIN.is.trans ?_), keepS HB0.out HB2.out⟩
    show mkB _ = mkB _
    congr 1
    unfold opText fieldsText
    rw [HSET.out]
    (try simp only [List.map_cons, List.map_nil, List.flatten_cons, List.flatten_nil, List.append_nil])
    rw [(show shownF (fieldF K A B C N S L false) 78 = 32 :: numberText K N from shown_some (number_ne _ _)), (show shownF (fieldF K A B C N S L false) 76 = 32 :: listV L from shown_some (by show listV L ≠ []; unfold listV; simp))]
    rw [show numberText K N = Lib.itoa N from if_neg hK]
    (try simp [valueText, listV])
  · go_wp2_with fail
    refine (has_set HSET.out 75 false (by decide) w2).mono ?_
    rintro e w0 ⟨rfl, rfl⟩
    go_wp2_with fail
    go_ret
    have HFIN := (((((HX0.out).app (Txt.lit [32])).app HTN.out).app (Txt.lit [32, 40])).app HTL.out).app (Txt.lit [41])
    refine ⟨congrArg (fun b : ByteArray => Ending.returned (Value.string b)) (HFIN.is.trans ?_), keepS HB0.out HB2.out⟩
    show mkB _ = mkB _
    congr 1
    unfold opText fieldsText
    rw [HSET.out]
    (try simp only [List.map_cons, List.map_nil, List.flatten_cons, List.flatten_nil, List.append_nil])
    rw [(show shownF (fieldF K A B C N S L true) 78 = 32 :: numberText K N from shown_some (number_ne _ _)), (show shownF (fieldF K A B C N S L true) 76 = 32 :: listV L from shown_some (by show listV L ≠ []; unfold listV; simp))]
    rw [show numberText K N = Lib.itoa N from if_neg hK]
    (try simp [valueText, listV])

set_option maxRecDepth 100000 in
set_option maxHeartbeats 4000000 in
theorem ref6_12 (K A B C N : Int) (S : ByteArray) (la : Option Addr) (ln lc : Nat) (L : List Int) (T : Bool) (w : World) (hset : fieldsL K = [78, 65, 76]) (hK : K ≠ 3) (hA : InR A) (hB : InR B) (hC : InR C) (hN : InR N) (hS : S.size ≤ 1048576) (hat : NumsAt w la ln L) (hln : ln ≤ 1048576) (hr : ∀ z ∈ L, InR z) : Ref6 K A B C N S la ln lc L T w := by
  unfold Ref6
  obtain ⟨hA0, hA1⟩ := hA
  obtain ⟨hB0, hB1⟩ := hB
  obtain ⟨hC0, hC1⟩ := hC
  obtain ⟨hN0, hN1⟩ := hN
  have hb0 : Below w.heap.size w (w.alloc (.cells #[.int .i64 K, .int .i64 A, .int .i64 B, .int .i64 C, .int .i64 N, .string S, .slice la ln lc, .bool T] 50)) := (Below.refl _ _).alloc (Nat.le_refl _) _
  have hblk := heap_alloc_new w (.cells #[.int .i64 K, .int .i64 A, .int .i64 B, .int .i64 C, .int .i64 N, .string S, .slice la ln lc, .bool T] 50)
  obtain ⟨W, hW⟩ : ∃ W, W = w.alloc (.cells #[.int .i64 K, .int .i64 A, .int .i64 B, .int .i64 C, .int .i64 N, .string S, .slice la ln lc, .bool T] 50) := ⟨_, rfl⟩
  rw [← hW] at hb0 hblk
  have HB0 := Lib.hid hb0
  have HLT : RowKit.Hid (w.heap.size < W.heap.size) := Lib.hid (Array.getElem?_eq_some_iff.1 hblk).1
  have HBX : RowKit.Hid (∀ u, Below W.heap.size W u → ∀ j, u.cell? ⟨w.heap.size, j, none⟩ = (#[.int .i64 K, .int .i64 A, .int .i64 B, .int .i64 C, .int .i64 N, .string S, .slice la ln lc, .bool T] : Array Value)[j]?) := Lib.hid fun u hb j => by
    have : u.heap[w.heap.size]? = _ := (hb.block _ HLT.out).trans hblk
    simp [World.cell?, this]
  have HSET := Lib.hid hset
  have HAT := Lib.hid (hat.below hb0 (Nat.le_refl _))
  have HR := Lib.hid hr
  have HX0 : RowKit.Hid (Txt (mk (nameOf stepNames K)) (nameOf stepNames K) 5) := Lib.hid ⟨rfl, names_len K⟩
  have HTN : RowKit.Hid (Txt (mkB (Lib.itoa N)) (Lib.itoa N) 21) := Lib.hid ⟨rfl, Lib.itoa_length_le N (by omega) (by omega)⟩
  have HTA : RowKit.Hid (Txt (mkB (Lib.itoa A)) (Lib.itoa A) 21) := Lib.hid ⟨rfl, Lib.itoa_length_le A (by omega) (by omega)⟩
  have HLL : RowKit.Hid ((listText valueText L).length ≤ 100000000) := Lib.hid (values_len (by rw [hat.1]; exact hln) hr)
  have HTL : RowKit.Hid (Txt (mk (listText valueText L)) (listText valueText L) 100000000) := Lib.hid ⟨rfl, HLL.out⟩
  have hk3 : (K == 3) = false := by rw [beq_eq_false_iff_ne]; exact hK
  have HWD := Lib.hid (word_any (mk stepWords) K W (by rw [mk_size]; decide))
  rw [mk_list, words_steps] at HWD
  obtain ⟨t0, ht0⟩ : ∃ t, t = mk (nameOf stepNames K) := ⟨_, rfl⟩
  rw [← ht0] at HWD HX0
  have hz0 := HX0.out.size
  clear hat hr hset hb0 hblk ht0
  go_enter Tryd.func24, Tryd.ntmps24
  go_upto_region 1 with fail
  rw [← hW]
  clear hW
  have x0 := HBX.out W (Below.refl _ _) 0
  go_wp2_with fail
  refine HWD.out.mono ?_
  rintro e w0 ⟨rfl, rfl⟩
  clear HWD
  have x1 := HBX.out W (Below.refl _ _) 1
  have x2 := HBX.out W (Below.refl _ _) 2
  have x3 := HBX.out W (Below.refl _ _) 3
  have x4 := HBX.out W (Below.refl _ _) 4
  have x5 := HBX.out W (Below.refl _ _) 5
  have x6 := HBX.out W (Below.refl _ _) 6
  have x7 := HBX.out W (Below.refl _ _) 7
  go_wp2_with fail
  refine (has_set HSET.out 78 true (by decide) W).mono ?_
  rintro e w0 ⟨rfl, rfl⟩
  go_wp2_with fail
  refine (has_set HSET.out 78 true (by decide) W).mono ?_
  rintro e w0 ⟨rfl, rfl⟩
  have HC1 := Lib.hid (ref_digits N W (by omega) (by omega))
  obtain ⟨s1, hs1⟩ : ∃ t, t = mkB (Lib.itoa N) := ⟨_, rfl⟩
  rw [← hs1] at HC1 HTN
  have hz1 := HTN.out.size
  clear hs1
  go_wp2_with fail
  refine HC1.out.mono ?_
  rintro e w1 ⟨rfl, hb1⟩
  have HB1 := Lib.hid (keepS (Below.refl W.heap.size W) hb1)
  clear hb1 x0 x1 x2 x3 x4 x5 x6 x7
  have x0 := HBX.out w1 HB1.out 0
  have x1 := HBX.out w1 HB1.out 1
  have x2 := HBX.out w1 HB1.out 2
  have x3 := HBX.out w1 HB1.out 3
  have x4 := HBX.out w1 HB1.out 4
  have x5 := HBX.out w1 HB1.out 5
  have x6 := HBX.out w1 HB1.out 6
  have x7 := HBX.out w1 HB1.out 7
  go_wp2_with fail
  refine (has_set HSET.out 83 false (by decide) w1).mono ?_
  rintro e w0 ⟨rfl, rfl⟩
  go_wp2_with fail
  refine (has_set HSET.out 65 true (by decide) w1).mono ?_
  rintro e w0 ⟨rfl, rfl⟩
  have HC2 := Lib.hid (itoa_ref A w1 (by omega) (by omega))
  obtain ⟨s2, hs2⟩ : ∃ t, t = mkB (Lib.itoa A) := ⟨_, rfl⟩
  rw [← hs2] at HC2 HTA
  have hz2 := HTA.out.size
  clear hs2
  go_wp2_with fail
  refine HC2.out.mono ?_
  rintro e w2 ⟨rfl, hb2⟩
  have HB2 := Lib.hid (keepS HB1.out hb2)
  clear hb2 x0 x1 x2 x3 x4 x5 x6 x7
  have x0 := HBX.out w2 HB2.out 0
  have x1 := HBX.out w2 HB2.out 1
  have x2 := HBX.out w2 HB2.out 2
  have x3 := HBX.out w2 HB2.out 3
  have x4 := HBX.out w2 HB2.out 4
  have x5 := HBX.out w2 HB2.out 5
  have x6 := HBX.out w2 HB2.out 6
  have x7 := HBX.out w2 HB2.out 7
  go_wp2_with fail
  refine (has_set HSET.out 66 false (by decide) w2).mono ?_
  rintro e w0 ⟨rfl, rfl⟩
  go_wp2_with fail
  refine (has_set HSET.out 67 false (by decide) w2).mono ?_
  rintro e w0 ⟨rfl, rfl⟩
  go_wp2_with fail
  refine (has_set HSET.out 76 true (by decide) w2).mono ?_
  rintro e w0 ⟨rfl, rfl⟩
  have HC3 := Lib.hid (list_values la ln lc L w2 (HAT.out.below HB2.out (Nat.le_refl _)) hln HR.out)
  obtain ⟨s3, hs3⟩ : ∃ t, t = mk (listText valueText L) := ⟨_, rfl⟩
  rw [← hs3] at HC3 HTL
  have hz3 := HTL.out.size
  clear hs3
  go_wp2_with fail
  refine HC3.out.mono ?_
  rintro e w3 ⟨rfl, hb3⟩
  have HB3 := Lib.hid (keepS HB2.out hb3)
  clear hb3 x0 x1 x2 x3 x4 x5 x6 x7
  have x0 := HBX.out w3 HB3.out 0
  have x1 := HBX.out w3 HB3.out 1
  have x2 := HBX.out w3 HB3.out 2
  have x3 := HBX.out w3 HB3.out 3
  have x4 := HBX.out w3 HB3.out 4
  have x5 := HBX.out w3 HB3.out 5
  have x6 := HBX.out w3 HB3.out 6
  have x7 := HBX.out w3 HB3.out 7
  cases T
  · go_wp2_with fail
    refine (has_set HSET.out 75 false (by decide) w3).mono ?_
    rintro e w0 ⟨rfl, rfl⟩
    go_wp2_with fail
    go_ret
    have HFIN := (((((((HX0.out).app (Txt.lit [32])).app HTN.out).app (Txt.lit [32, 118])).app HTA.out).app (Txt.lit [32, 40])).app HTL.out).app (Txt.lit [41])
    refine ⟨congrArg (fun b : ByteArray => Ending.returned (Value.string b)) (HFIN.is.trans ?_), keepS HB0.out HB3.out⟩
    show mkB _ = mkB _
    congr 1
    unfold opText fieldsText
    rw [HSET.out]
    (try simp only [List.map_cons, List.map_nil, List.flatten_cons, List.flatten_nil, List.append_nil])
    rw [(show shownF (fieldF K A B C N S L false) 78 = 32 :: numberText K N from shown_some (number_ne _ _)), (show shownF (fieldF K A B C N S L false) 65 = 32 :: valueText A from shown_some (by show valueText A ≠ []; unfold valueText; simp)), (show shownF (fieldF K A B C N S L false) 76 = 32 :: listV L from shown_some (by show listV L ≠ []; unfold listV; simp))]
    rw [show numberText K N = Lib.itoa N from if_neg hK]
    (try simp [valueText, listV])
  · go_wp2_with fail
    refine (has_set HSET.out 75 false (by decide) w3).mono ?_
    rintro e w0 ⟨rfl, rfl⟩
    go_wp2_with fail
    go_ret
    have HFIN := (((((((HX0.out).app (Txt.lit [32])).app HTN.out).app (Txt.lit [32, 118])).app HTA.out).app (Txt.lit [32, 40])).app HTL.out).app (Txt.lit [41])
    refine ⟨congrArg (fun b : ByteArray => Ending.returned (Value.string b)) (HFIN.is.trans ?_), keepS HB0.out HB3.out⟩
    show mkB _ = mkB _
    congr 1
    unfold opText fieldsText
    rw [HSET.out]
    (try simp only [List.map_cons, List.map_nil, List.flatten_cons, List.flatten_nil, List.append_nil])
    rw [(show shownF (fieldF K A B C N S L true) 78 = 32 :: numberText K N from shown_some (number_ne _ _)), (show shownF (fieldF K A B C N S L true) 65 = 32 :: valueText A from shown_some (by show valueText A ≠ []; unfold valueText; simp)), (show shownF (fieldF K A B C N S L true) 76 = 32 :: listV L from shown_some (by show listV L ≠ []; unfold listV; simp))]
    rw [show numberText K N = Lib.itoa N from if_neg hK]
    (try simp [valueText, listV])

set_option maxRecDepth 100000 in
set_option maxHeartbeats 4000000 in
theorem ref6_13 (K A B C N : Int) (S : ByteArray) (la : Option Addr) (ln lc : Nat) (L : List Int) (T : Bool) (w : World) (hset : fieldsL K = []) (hA : InR A) (hB : InR B) (hC : InR C) (hN : InR N) (hS : S.size ≤ 1048576) (hat : NumsAt w la ln L) (hln : ln ≤ 1048576) (hr : ∀ z ∈ L, InR z) : Ref6 K A B C N S la ln lc L T w := by
  unfold Ref6
  obtain ⟨hA0, hA1⟩ := hA
  obtain ⟨hB0, hB1⟩ := hB
  obtain ⟨hC0, hC1⟩ := hC
  obtain ⟨hN0, hN1⟩ := hN
  have hb0 : Below w.heap.size w (w.alloc (.cells #[.int .i64 K, .int .i64 A, .int .i64 B, .int .i64 C, .int .i64 N, .string S, .slice la ln lc, .bool T] 50)) := (Below.refl _ _).alloc (Nat.le_refl _) _
  have hblk := heap_alloc_new w (.cells #[.int .i64 K, .int .i64 A, .int .i64 B, .int .i64 C, .int .i64 N, .string S, .slice la ln lc, .bool T] 50)
  obtain ⟨W, hW⟩ : ∃ W, W = w.alloc (.cells #[.int .i64 K, .int .i64 A, .int .i64 B, .int .i64 C, .int .i64 N, .string S, .slice la ln lc, .bool T] 50) := ⟨_, rfl⟩
  rw [← hW] at hb0 hblk
  have HB0 := Lib.hid hb0
  have HLT : RowKit.Hid (w.heap.size < W.heap.size) := Lib.hid (Array.getElem?_eq_some_iff.1 hblk).1
  have HBX : RowKit.Hid (∀ u, Below W.heap.size W u → ∀ j, u.cell? ⟨w.heap.size, j, none⟩ = (#[.int .i64 K, .int .i64 A, .int .i64 B, .int .i64 C, .int .i64 N, .string S, .slice la ln lc, .bool T] : Array Value)[j]?) := Lib.hid fun u hb j => by
    have : u.heap[w.heap.size]? = _ := (hb.block _ HLT.out).trans hblk
    simp [World.cell?, this]
  have HSET := Lib.hid hset
  have HAT := Lib.hid (hat.below hb0 (Nat.le_refl _))
  have HR := Lib.hid hr
  have HX0 : RowKit.Hid (Txt (mk (nameOf stepNames K)) (nameOf stepNames K) 5) := Lib.hid ⟨rfl, names_len K⟩
  have HWD := Lib.hid (word_any (mk stepWords) K W (by rw [mk_size]; decide))
  rw [mk_list, words_steps] at HWD
  obtain ⟨t0, ht0⟩ : ∃ t, t = mk (nameOf stepNames K) := ⟨_, rfl⟩
  rw [← ht0] at HWD HX0
  have hz0 := HX0.out.size
  clear hat hr hset hb0 hblk ht0
  go_enter Tryd.func24, Tryd.ntmps24
  go_upto_region 1 with fail
  rw [← hW]
  clear hW
  have x0 := HBX.out W (Below.refl _ _) 0
  go_wp2_with fail
  refine HWD.out.mono ?_
  rintro e w0 ⟨rfl, rfl⟩
  clear HWD
  have x1 := HBX.out W (Below.refl _ _) 1
  have x2 := HBX.out W (Below.refl _ _) 2
  have x3 := HBX.out W (Below.refl _ _) 3
  have x4 := HBX.out W (Below.refl _ _) 4
  have x5 := HBX.out W (Below.refl _ _) 5
  have x6 := HBX.out W (Below.refl _ _) 6
  have x7 := HBX.out W (Below.refl _ _) 7
  go_wp2_with fail
  refine (has_set HSET.out 78 false (by decide) W).mono ?_
  rintro e w0 ⟨rfl, rfl⟩
  go_wp2_with fail
  refine (has_set HSET.out 78 false (by decide) W).mono ?_
  rintro e w0 ⟨rfl, rfl⟩
  go_wp2_with fail
  refine (has_set HSET.out 83 false (by decide) W).mono ?_
  rintro e w0 ⟨rfl, rfl⟩
  go_wp2_with fail
  refine (has_set HSET.out 65 false (by decide) W).mono ?_
  rintro e w0 ⟨rfl, rfl⟩
  go_wp2_with fail
  refine (has_set HSET.out 66 false (by decide) W).mono ?_
  rintro e w0 ⟨rfl, rfl⟩
  go_wp2_with fail
  refine (has_set HSET.out 67 false (by decide) W).mono ?_
  rintro e w0 ⟨rfl, rfl⟩
  go_wp2_with fail
  refine (has_set HSET.out 76 false (by decide) W).mono ?_
  rintro e w0 ⟨rfl, rfl⟩
  cases T
  · go_wp2_with fail
    refine (has_set HSET.out 75 false (by decide) W).mono ?_
    rintro e w0 ⟨rfl, rfl⟩
    go_wp2_with fail
    go_ret
    have HFIN := HX0.out
    refine ⟨congrArg (fun b : ByteArray => Ending.returned (Value.string b)) (HFIN.is.trans ?_), keepS HB0.out (Below.refl W.heap.size W)⟩
    show mkB _ = mkB _
    congr 1
    unfold opText fieldsText
    rw [HSET.out]
    (try simp only [List.map_cons, List.map_nil, List.flatten_cons, List.flatten_nil, List.append_nil])
    (try simp [valueText, listV])
  · go_wp2_with fail
    refine (has_set HSET.out 75 false (by decide) W).mono ?_
    rintro e w0 ⟨rfl, rfl⟩
    go_wp2_with fail
    go_ret
    have HFIN := HX0.out
    refine ⟨congrArg (fun b : ByteArray => Ending.returned (Value.string b)) (HFIN.is.trans ?_), keepS HB0.out (Below.refl W.heap.size W)⟩
    show mkB _ = mkB _
    congr 1
    unfold opText fieldsText
    rw [HSET.out]
    (try simp only [List.map_cons, List.map_nil, List.flatten_cons, List.flatten_nil, List.append_nil])
    (try simp [valueText, listV])
theorem ref6_any (K A B C N : Int) (S : ByteArray) (la : Option Addr) (ln lc : Nat) (L : List Int) (T : Bool) (w : World) (hA : InR A) (hB : InR B) (hC : InR C) (hN : InR N) (hS : S.size ≤ 1048576) (hat : NumsAt w la ln L) (hln : ln ≤ 1048576) (hr : ∀ z ∈ L, InR z) : Ref6 K A B C N S la ln lc L T w := by
  by_cases h3 : K = 3
  · exact ref6_2 K A B C N S la ln lc L T w (by rw [h3]; rfl) h3 hA hB hC hN hS hat hln hr
  have hall : fieldsL K = [78] ∨ fieldsL K = [83] ∨ fieldsL K = [78, 65, 66] ∨ fieldsL K = [65] ∨ fieldsL K = [65, 66] ∨ fieldsL K = [78, 76, 75] ∨ fieldsL K = [78, 65] ∨ fieldsL K = [78, 75] ∨ fieldsL K = [65, 66, 67] ∨ fieldsL K = [75] ∨ fieldsL K = [78, 76] ∨ fieldsL K = [78, 65, 76] ∨ fieldsL K = [] := by
    rcases kinds K with h | h
    · rcases h with rfl | rfl | rfl | rfl | rfl | rfl | rfl | rfl | rfl | rfl | rfl | rfl | rfl | rfl | rfl | rfl | rfl | rfl | rfl | rfl | rfl | rfl | rfl | rfl | rfl | rfl
      all_goals decide
    · rw [fields_none h]; decide
  rcases hall with h | h | h | h | h | h | h | h | h | h | h | h | h
  · exact ref6_0 K A B C N S la ln lc L T w h h3 hA hB hC hN hS hat hln hr
  · exact ref6_1 K A B C N S la ln lc L T w h hA hB hC hN hS hat hln hr
  · exact ref6_3 K A B C N S la ln lc L T w h h3 hA hB hC hN hS hat hln hr
  · exact ref6_4 K A B C N S la ln lc L T w h hA hB hC hN hS hat hln hr
  · exact ref6_5 K A B C N S la ln lc L T w h hA hB hC hN hS hat hln hr
  · exact ref6_6 K A B C N S la ln lc L T w h h3 hA hB hC hN hS hat hln hr
  · exact ref6_7 K A B C N S la ln lc L T w h h3 hA hB hC hN hS hat hln hr
  · exact ref6_8 K A B C N S la ln lc L T w h h3 hA hB hC hN hS hat hln hr
  · exact ref6_9 K A B C N S la ln lc L T w h hA hB hC hN hS hat hln hr
  · exact ref6_10 K A B C N S la ln lc L T w h hA hB hC hN hS hat hln hr
  · exact ref6_11 K A B C N S la ln lc L T w h h3 hA hB hC hN hS hat hln hr
  · exact ref6_12 K A B C N S la ln lc L T w h h3 hA hB hC hN hS hat hln hr
  · exact ref6_13 K A B C N S la ln lc L T w h hA hB hC hN hS hat hln hr
end Go.Proofs.YtccajbgdlicbnaaDoor
