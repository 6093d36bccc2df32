/- Layer 14: package flow's Distances. -/
import Derived.Test.YtgncpiamokeohaaFlowRa
namespace Go.Proofs.Ytgncpiamokeohaa
open Go.RowKit
set_option linter.unusedVariables false
set_option linter.unusedSimpArgs false
attribute [local go_sem] Oper.semAt_some
/-- How far nodes are, as far as was told. -/
def toldF (n : Nat) (xs : List (Int × Int)) : List Int := xs.foldl (fun D x => D.set x.1.toNat x.2) (List.replicate n (-1))
theorem toldF_more (n : Nat) (xs : List (Int × Int)) (x : Int × Int) : toldF n (xs ++ [x]) = (toldF n xs).set x.1.toNat x.2 := by unfold toldF; rw [List.foldl_append]; rfl
theorem toldF_len (n : Nat) (xs : List (Int × Int)) : (toldF n xs).length = n := by
  have key : ∀ (xs : List (Int × Int)) (D : List Int), (xs.foldl (fun D x => D.set x.1.toNat x.2) D).length = D.length := by
    intro xs
    induction xs with
    | nil => intro D; rfl
    | cons x xs ih => intro D; rw [List.foldl_cons, ih, List.length_set]
  unfold toldF
  rw [key, List.length_replicate]
theorem toldF_at {n v : Nat} (hv : v < n) : ∀ (m : Nat) (xs : List (Int × Int)), xs.length = m → LnOk n xs → (∀ d, ((v : Int), d) ∈ xs → nth (toldF n xs) v = d) ∧ ((v : Int) ∉ xs.map Prod.fst → nth (toldF n xs) v = -1) := by
  intro m
  induction m with
  | zero =>
    intro xs hl _
    obtain rfl := List.eq_nil_of_length_eq_zero hl
    refine ⟨fun d h => (by cases h), fun _ => ?_⟩
    rw [nth_is (by rw [toldF_len]; exact hv)]
    simp [toldF]
  | succ m ih =>
    intro xs0 hl ho
    rcases List.eq_nil_or_concat xs0 with e | ⟨xs, x, e⟩
    · rw [e] at hl; simp at hl
    rw [List.concat_eq_append] at e
    subst e
    have hnd : (xs.map Prod.fst).Nodup ∧ x.1 ∉ xs.map Prod.fst := by
      have := ho.nd
      rw [List.map_append] at this
      obtain ⟨h1, _, h3⟩ := List.nodup_append.1 this
      exact ⟨h1, fun h => h3 _ h x.1 (by simp) rfl⟩
    obtain ⟨i1, i2⟩ := ih xs (by simp at hl; exact hl) ⟨hnd.1, fun y hy => ho.inr y (List.mem_append_left _ hy)⟩
    have hx := ho.inr x (by simp)
    rw [toldF_more, nth_setF (by rw [toldF_len]; omega)]
    by_cases e : v = x.1.toNat
    · rw [if_pos e]
      have e1 : (v : Int) = x.1 := by omega
      refine ⟨fun d hd => ?_, fun h => absurd (by rw [List.map_append, e1]; simp) h⟩
      rcases List.mem_append.1 hd with hd | hd
      · exact absurd (List.mem_map.2 ⟨_, hd, e1⟩) hnd.2
      · simp at hd; rw [← hd]
    · rw [if_neg e]
      have e1 : (v : Int) ≠ x.1 := by omega
      refine ⟨fun d hd => ?_, fun h => i2 (fun h' => h (by rw [List.map_append]; exact List.mem_append_left _ h'))⟩
      rcases List.mem_append.1 hd with hd | hd
      · exact i1 d hd
      · simp at hd; exact absurd (by rw [← hd]) e1
theorem told_dists {n : Nat} {E : List (Int × Int)} {S : List Int} {xs : List (Int × Int)} (hw : WholeF E S [] xs) (ho : LnOk n xs) : toldF n xs = distsF n E S := by
  refine List.ext_getElem (by rw [toldF_len]; simp [distsF]) fun v h1 h2 => ?_
  have hv : v < n := by rw [toldF_len] at h1; exact h1
  have e : (distsF n E S)[v] = distF E S (v : Int) := by simp [distsF]
  rw [e, ← nth_is h1]
  obtain ⟨i1, i2⟩ := toldF_at hv xs.length xs rfl ho
  by_cases hm : (v : Int) ∈ xs.map Prod.fst
  · obtain ⟨⟨a, d⟩, hx, e⟩ := List.mem_map.1 hm
    simp only at e
    subst e
    rw [i1 d hx, whole_dist hw hx]
  · rw [i2 hm]
    exact (distF_none.2 (fun h => hm ((whole_met hw).2 h))).symm
noncomputable def distL (n : Int) (E : List (Int × Int)) (S : List Int) : List Int := if fitF n E S = 0 then distsF n.toNat E S else []
def DistPost (n : Int) (E : List (Int × Int)) (S : List Int) (w : World) (e : Ending) (w' : World) : Prop :=
  ∃ a k c, e = .returned (.tuple #[.slice a k c, .int .i64 (fitF n E S)]) ∧ NumsAt w' a k (distL n E S) ∧ Below w.heap.size w w'
/-- A row in a box. -/
structure DiSt (w : World) (b q0 n : Nat) (W : World) (D : List Int) : Prop where
  box : Boxed W b 23 (.slice (some ⟨q0, 0, none⟩) n n)
  row : W.ownsRow 0 3 1 (.slice (some ⟨q0, 0, none⟩) n n) n (D.map numV)
  bel : Below w.heap.size w W
  ge : w.heap.size ≤ b ∧ w.heap.size ≤ q0 ∧ b ≠ q0
  len : D.length = n
theorem DiSt.blk {w W : World} {b q0 n : Nat} {D : List Int} (h : DiSt w b q0 n W D) : ∃ cur, W.heap[q0]? = some (.cells cur 3 (0, 0)) := by
  rcases h.row.2 with ⟨e, _⟩ | ⟨g, cap, cur, e, hb, hh, _⟩
  · cases e
  · cases e; exact ⟨cur, hh⟩
theorem DiSt.lies {w W : World} {b q0 n : Nat} {D : List Int} (h : DiSt w b q0 n W D) : LiesO (Two b q0) W := by
  rintro i (rfl | rfl)
  · exact ⟨_, h.box, rfl⟩
  · obtain ⟨cur, hc⟩ := h.blk; exact ⟨_, hc, rfl⟩
theorem DiSt.grown {w W W' : World} {b q0 n : Nat} {D : List Int} (h : DiSt w b q0 n W D) {row : Option Nat} (hg : W.grownBy W' row) (hr : ∀ r, row = some r → w.heap.size ≤ r ∧ ¬ Two b q0 W r) : DiSt w b q0 n W' D :=
  ⟨h.box.kept hg (fun e => (hr _ e.symm).2 (.inl rfl)), World.ownsRow.kept h.row hg (.inr fun e => (hr q0 e.symm).2 (.inr rfl)), Below.grown h.bel hg h.bel.size (fun k e => (hr k e).1), h.ge, h.len⟩
theorem DiSt.tell {w W : World} {b q0 n : Nat} {D : List Int} (h : DiSt w b q0 n W D) (j : Nat) (z : Int) : DiSt w b q0 n (W.setCell ⟨q0, j, none⟩ (.int .i64 z)) (D.set j z) ∧ W.grownBy (W.setCell ⟨q0, j, none⟩ (.int .i64 z)) (some q0) := by
  obtain ⟨hr, hg⟩ := World.ownsRow.stored h.row j (.int .i64 z)
  have e : (D.map numV).set j (.int .i64 z) = (D.set j z).map numV := by rw [List.map_set]; rfl
  rw [e] at hr
  exact ⟨⟨h.box.kept hg (fun e => h.ge.2.2 (Option.some.inj e)), hr, h.bel.setCell (p := ⟨q0, j, none⟩) h.ge.2.1 _, h.ge, by rw [List.length_set]; exact h.len⟩, hg⟩
theorem DiSt.at_ {w W : World} {b q0 n : Nat} {D : List Int} (h : DiSt w b q0 n W D) {j : Nat} (hj : j < n) : W.frozen? ⟨q0, j, none⟩ = false ∧ W.cell? ⟨q0, j, none⟩ = some (.int .i64 (nth D j)) := by
  have hj' : j < D.length := by rw [h.len]; exact hj
  have := World.ownsRow.cells h.row rfl j (numV D[j]) (by rw [List.getElem?_map, List.getElem?_eq_getElem hj']; rfl)
  rw [addr_plain, Nat.zero_add] at this
  exact ⟨World.ownsRow.frozenAt h.row j, by rw [this, nth_is hj']; rfl⟩
theorem DiSt.reads {w W : World} {b q0 n : Nat} {D : List Int} (h : DiSt w b q0 n W D) : NumsAt W (some ⟨q0, 0, none⟩) n D := by
  refine ⟨h.len, fun h0 => ⟨q0, 0, rfl, ?_, fun j hj => ?_⟩⟩
  · obtain ⟨cur, hc⟩ := h.blk; exact (Array.getElem?_eq_some_iff.1 hc).1
  · rw [Nat.zero_add, (h.at_ (by rw [← h.len]; exact hj)).2, nth_is hj]; rfl
/-- The first i are -1. -/
def fillF (n i : Nat) : List Int := List.replicate i (-1) ++ List.replicate (n - i) 0
theorem fillF_more {n i : Nat} (h : i < n) : (fillF n i).set i (-1) = fillF n (i + 1) := by
  unfold fillF
  apply List.ext_getElem
  · simp; omega
  · intro j h1 h2
    rw [List.getElem_set, List.getElem_append, List.getElem_append]
    simp only [List.length_replicate, List.getElem_replicate]
    by_cases e : i = j
    · subst e; rw [if_pos rfl, dif_pos (by omega)]
    · rw [if_neg e]
      by_cases hl : j < i
      · rw [dif_pos hl, dif_pos (by omega)]
      · rw [dif_neg hl, dif_neg (by omega)]
theorem fillF_all (n : Nat) : fillF n n = toldF n [] := by unfold fillF toldF; simp
theorem DiSt.begin {w w1 : World} (n : Nat) (hb : Below w.heap.size w w1) (hn : n ≤ 1099511627776) : DiSt w (w1.heap.size + 1) w1.heap.size n ((w1.alloc (.cells (madeCells #[.int .i64 0] n) 3)).alloc (.cells #[.slice (some ⟨w1.heap.size, 0, none⟩) n n] 23)) (fillF n 0) := by
  have h1 := Boxed.new (w1.alloc (.cells (madeCells #[.int .i64 0] n) 3)) 23 (.slice (some ⟨w1.heap.size, 0, none⟩) n n)
  rw [World.size_alloc] at h1
  have h := World.ownsRow_lit (base := 0) (e := 3) (size := 1) w1 (madeCells #[Value.int .i64 0] n) n (Nat.zero_le _) (by unfold maxLen; omega) (by simp [size_madeCells])
  rw [made_ints, cntsF_none] at h
  have e : fillF n 0 = List.replicate n 0 := by simp [fillF]
  have hs := hb.size
  refine ⟨h1, by rw [e]; exact World.ownsRow.alloc h _, (hb.alloc hs _).alloc (by simp; omega) _, ⟨by omega, hs, by omega⟩, by rw [e]; simp⟩
/-- Both orders of what is laid ahead of the iterator. -/
theorem ready_A {w3 w4 : World} {g R N : Nat} {sa : Option Addr} {sn sc : Nat} {E : List (Int × Int)} {S : List Int} (hb4 : Below w3.drew.heap.size w3.drew w4) (hwa : WaysAt w4 g R N E) (hg4 : w3.drew.heap.size ≤ g) (hR4 : w3.drew.heap.size ≤ R) (hs : NumsAt w3 sa sn S) (hsin : ∀ z ∈ S, 0 ≤ z ∧ z < (N : Int)) (hein : ∀ e ∈ E, 0 ≤ e.2 ∧ e.2 < (N : Int)) (hfew : sn ≤ 17592186044416 ∧ E.length ≤ 1099511627776 ∧ N ≤ 16384) :
    MetReady w3 ((((w4.alloc (.cells (madeCells #[.bool false] N) 4)).alloc (.cells #[.slice (some ⟨g, 0, none⟩) N N] 48)).alloc (.cells #[.slice (some ⟨w4.heap.size, 0, none⟩) N N] 25)).alloc (.cells #[.slice sa sn sc] 23)) (w4.heap.size + 1 + 1) (w4.heap.size + 1 + 2) (w4.heap.size + 1) g R w4.heap.size N sa sn sc E S ∧ True := by
  have hb5 : Below w3.heap.size w3 w4 := (Below.refl _ w3).drew.trans hb4
  have hg5 : w3.heap.size ≤ g := hg4
  have hR5 : w3.heap.size ≤ R := hR4
  have hl4 := hwa.low
  have hr := ready_of (sc := sc) (hb5.alloc hb5.size (.cells (madeCells #[.bool false] N) 4)) (hwa.same (Below.heap_alloc _ _ _ hl4.1) (Below.heap_alloc _ _ _ hl4.2) (by simp)) (bools_new w4 N (by have := hfew.2.2; omega)) hg5 hR5 hb5.size (by omega) (by omega) hs hsin hein hfew
  simp only [World.size_alloc] at hr
  exact ⟨hr, trivial⟩
theorem ready_B {w3 w4 : World} {g R N : Nat} {sa : Option Addr} {sn sc : Nat} {E : List (Int × Int)} {S : List Int} (hb4 : Below (w3.alloc (.cells (madeCells #[.bool false] N) 4)).drew.heap.size (w3.alloc (.cells (madeCells #[.bool false] N) 4)).drew w4) (hwa : WaysAt w4 g R N E) (hg4 : (w3.alloc (.cells (madeCells #[.bool false] N) 4)).drew.heap.size ≤ g) (hR4 : (w3.alloc (.cells (madeCells #[.bool false] N) 4)).drew.heap.size ≤ R) (hs : NumsAt w3 sa sn S) (hsin : ∀ z ∈ S, 0 ≤ z ∧ z < (N : Int)) (hein : ∀ e ∈ E, 0 ≤ e.2 ∧ e.2 < (N : Int)) (hfew : sn ≤ 17592186044416 ∧ E.length ≤ 1099511627776 ∧ N ≤ 16384) :
    MetReady w3 (((w4.alloc (.cells #[.slice (some ⟨g, 0, none⟩) N N] 48)).alloc (.cells #[.slice (some ⟨w3.heap.size, 0, none⟩) N N] 25)).alloc (.cells #[.slice sa sn sc] 23)) (w4.heap.size + 1) (w4.heap.size + 2) w4.heap.size g R w3.heap.size N sa sn sc E S ∧ True := by
  have hb6 : Below w3.heap.size w3 (w3.alloc (.cells (madeCells #[.bool false] N) 4)).drew := ((Below.refl _ w3).alloc (Nat.le_refl _) _).drew
  have hb5 : Below w3.heap.size w3 w4 := hb6.trans (hb4.mono hb6.size)
  have hz : (w3.alloc (.cells (madeCells #[.bool false] N) 4)).drew.heap.size = w3.heap.size + 1 := World.size_alloc _ _
  rw [hz] at hg4 hR4
  have hm := bools_new w3 N (by have := hfew.2.2; omega)
  have hm4 : w4.ownsRow 0 4 1 (.slice (some ⟨w3.heap.size, 0, none⟩) N N) N (metVF N []) := by
    refine ⟨hm.1, ?_⟩
    rcases hm.2 with h' | ⟨g', cap, cur, e, hg', hh, rest⟩
    · exact .inl h'
    · cases e; exact .inr ⟨_, _, cur, rfl, hg', (hb4.block _ (by rw [hz]; omega)).trans hh, rest⟩
  exact ⟨ready_of hb5 hwa hm4 (by omega) (by omega) (Nat.le_refl _) (by omega) (by omega) hs hsin hein hfew, trivial⟩
set_option maxRecDepth 100000 in
set_option maxHeartbeats 4000000 in
theorem distances_any (n fr : Int) (ea : Option Addr) (en ec : Nat) (E : List (Int × Int)) (w : World) (hE : PairsAt w ea en E) (hen : en ≤ 1099511627776) :
    Calls Try.prog 15 #[.int .i64 n, .slice ea en ec, .int .i64 fr] w (DistPost n E [fr] w) := by
  obtain ⟨w0, hw0⟩ : ∃ w0, w0 = w.alloc (.cells #[.int .i64 fr] 3) := ⟨_, rfl⟩
  have hb0 : Below w.heap.size w w0 := by rw [hw0]; exact (Below.refl _ w).alloc (Nat.le_refl _) _
  have hs0 : w0.heap.size = w.heap.size + 1 := by rw [hw0]; simp
  have hS : NumsAt w0 (some ⟨w.heap.size, 0, none⟩) 1 [fr] := ⟨rfl, fun _ => ⟨w.heap.size, 0, rfl, by omega, fun j hj => by
    obtain rfl : j = 0 := by simp at hj; omega
    rw [hw0, World.cell?_alloc_mark]; rfl⟩⟩
  have CF := Lib.hid (fault_any n ea en ec E (some ⟨w.heap.size, 0, none⟩) 1 1 [fr] w0 (hE.since hb0) hS (by omega) (by omega))
  have HB0 := Lib.hid hb0
  have HZ0 := Lib.hid hs0
  have HE := Lib.hid hE
  have HS := Lib.hid hS
  refine (callsIn_wide (n := 9)).1 ?_
  refine callsIn_of_wp_marks Try.func15 rfl trivial ?_ rfl
  simp only [Try.ntmps15, List.size_toArray, List.length_cons, List.length_nil, Nat.reduceAdd, Nat.reduceSub, Array.replicate_succ, Array.replicate_zero, List.push_toArray, List.append_toArray, List.nil_append, List.cons_append]
  rw [hw0] at CF
  clear hb0 hs0 hE hS
  by_cases hf : fitF n E [fr] = 0
  · obtain ⟨hn0, hn1, hee, hss⟩ := fitF_ok hf
    rw [hf] at CF
    obtain ⟨N, rfl⟩ := Int.eq_ofNat_of_zero_le hn0
    have hmk := make_boolF N N rfl (by omega)
    have hmk2 := make_intF N N rfl (by omega)
    have HF := Lib.hid hf
    have CW : RowKit.Hid (∀ u, Below w.heap.size w u → Calls Try.prog 22 #[.int .i64 (N : Int), .slice ea en ec, .int .i64 0] u (WaysPost E N u)) := Lib.hid fun u hu =>
      ways0_any N ea en ec _ u (HE.out.since hu) (by omega) hen (fun e he => ⟨(hee e he).1, (hee e he).2.1⟩)
    have HEE : RowKit.Hid (∀ e ∈ E, 0 ≤ e.2 ∧ e.2 < (N : Int)) := Lib.hid fun e he => by
      have := hee e he; exact ⟨this.2.2.1, this.2.2.2⟩
    have HSS := Lib.hid hss
    have HN : RowKit.Hid (N ≤ 16384) := Lib.hid (by omega)
    clear hf hee hss
    gi_wp2_with (refine ⟨trivial, ?_⟩; gi_at_call 20; refine (callsIn_wide.2 CF.out).mono ?_; rw [← hw0]; rintro e w1 ⟨rfl, hb1⟩)
    have hbw1 := HB0.out.trans (hb1.mono HB0.out.size)
    have HD0 := Lib.hid (DiSt.begin N hbw1 (by omega))
    obtain ⟨w2, hw2⟩ : ∃ w2, w2 = ((w1.alloc (.cells (madeCells #[.int .i64 0] N) 3)).alloc (.cells #[.slice (some ⟨w1.heap.size, 0, none⟩) N N] 23)) := ⟨_, rfl⟩
    have hz2 : w2.heap.size = w1.heap.size + 2 := by rw [hw2]; simp
    have hb2 : Below w1.heap.size w1 w2 := by rw [hw2]; exact ((Below.refl _ w1).alloc (Nat.le_refl _) _).alloc (by simp) _
    have HB2 := Lib.hid hb2
    have HB1 := Lib.hid hb1
    have HZ2 := Lib.hid hz2
    rw [← hw2] at HD0 ⊢
    clear hw2 hb1 hb2 hbw1 hz2 hmk2 hw0
    gi_loopw [26] (fun v26 wr => ∃ i : Nat, i ≤ N ∧ v26 = .int .i64 (i : Int) ∧ RowKit.Hid (DiSt w (w1.heap.size + 1) w1.heap.size N wr (fillF N i) ∧ Below w1.heap.size w1 wr ∧ wr.heap.size = w1.heap.size + 2)) (fun v26 _ => N - (intOf v26).toNat)
    case atStart => exact ⟨0, Nat.zero_le _, rfl, Lib.hid ⟨HD0.out, HB2.out, HZ2.out⟩⟩
    case round =>
      obtain ⟨i, hi, rfl, HI⟩ := hrel
      have hv := HI.out.1.box.cell
      have hbl := HI.out.1.box.lt
      by_cases hlt : i < N
      · have hltz : (i : Int) < (N : Int) := by omega
        have hi0 : (0 : Int) ≤ (i : Int) := by omega
        obtain ⟨hfj, hcj⟩ := HI.out.1.at_ hlt
        have HM := Lib.hid (fillF_more hlt)
        gi_wp2
        go_roundw
        case rel => exact ⟨i + 1, by omega, by go_num, Lib.hid ⟨by rw [← HM.out]; exact (HI.out.1.tell i (-1)).1, HI.out.2.1.setCell (p := ⟨w1.heap.size, i, none⟩) (Nat.le_refl _) _, by simpa using HI.out.2.2⟩⟩
        case measure => simp [intOf]; omega
      · obtain rfl : N = i := by omega
        have hge : ¬ ((N : Int) < (N : Int)) := by omega
        have HD3 : RowKit.Hid (DiSt w (w1.heap.size + 1) w1.heap.size N wr (toldF N [])) := Lib.hid (by rw [← fillF_all]; exact HI.out.1)
        gi_wp2
        obtain ⟨w3, hw3⟩ : ∃ w3, w3 = wr := ⟨_, rfl⟩
        rw [← hw3] at HI HD3 ⊢
        have HB3 : RowKit.Hid (Below w.heap.size w w3) := Lib.hid HD3.out.bel
        have HZ3 : RowKit.Hid (w3.heap.size = w1.heap.size + 2 ∧ w.heap.size < w1.heap.size) := Lib.hid ⟨HI.out.2.2, by have := HB1.out.size; have := HZ0.out; omega⟩
        have HSN : RowKit.Hid (NumsAt w3 (some ⟨w.heap.size, 0, none⟩) 1 [fr]) := Lib.hid ((HS.out.since HB1.out).since HI.out.2.1)
        have HFW : RowKit.Hid ((1 : Nat) ≤ 17592186044416 ∧ E.length ≤ 1099511627776 ∧ N ≤ 16384) := Lib.hid ⟨by omega, by rw [HE.out.1]; exact hen, HN.out⟩
        obtain ⟨Rq, hRq⟩ : ∃ Rq : Act → World → Prop, Rq = fun a' W => ∃ bm bf bw g R q, MetReady w3 W bm bf bw g R q N (some ⟨w.heap.size, 0, none⟩) 1 1 E [fr] ∧ a' = { tmps := #[.int .i64 (N : Int), .slice ea en ec, .int .i64 fr, undef, undef, undef, .slice none 0 0, .int .i64 0, .slice (some ⟨w.heap.size, 0, none⟩) 1 1, .int .i64 0, .pointer (some ⟨w1.heap.size + 1, 0, none⟩), u11, undef, .int .i64 fr, .slice (some ⟨w.heap.size, 0, none⟩) 1 1, .int .i64 (N : Int), .slice ea en ec, .slice (some ⟨w.heap.size, 0, none⟩) 1 1, .int .i64 0, .int .i64 0, .bool false, undef, .int .i64 (N : Int), .slice (some ⟨w1.heap.size, 0, none⟩) N N, .slice (some ⟨w1.heap.size, 0, none⟩) N N, .int .i64 (N : Int), .int .i64 (N : Int), .bool false, u28, u29, u30, u31, u32, .int .i64 (N : Int), .slice ea en ec, .slice (some ⟨g, 0, none⟩) N N, .int .i64 (N : Int), .slice (some ⟨q, 0, none⟩) N N, .slice (some ⟨w.heap.size, 0, none⟩) 1 1, .func (.func 25) #[] #[.pointer (some ⟨bm, 0, none⟩), .pointer (some ⟨bf, 0, none⟩), .pointer (some ⟨bw, 0, none⟩)], undef, undef, undef, undef, undef, undef, undef, undef], defers := [] } := ⟨_, rfl⟩
        have HRI : RowKit.Hid (∀ W bm bf bw g R q, MetReady w3 W bm bf bw g R q N (some ⟨w.heap.size, 0, none⟩) 1 1 E [fr] → Rq { tmps := #[.int .i64 (N : Int), .slice ea en ec, .int .i64 fr, undef, undef, undef, .slice none 0 0, .int .i64 0, .slice (some ⟨w.heap.size, 0, none⟩) 1 1, .int .i64 0, .pointer (some ⟨w1.heap.size + 1, 0, none⟩), u11, undef, .int .i64 fr, .slice (some ⟨w.heap.size, 0, none⟩) 1 1, .int .i64 (N : Int), .slice ea en ec, .slice (some ⟨w.heap.size, 0, none⟩) 1 1, .int .i64 0, .int .i64 0, .bool false, undef, .int .i64 (N : Int), .slice (some ⟨w1.heap.size, 0, none⟩) N N, .slice (some ⟨w1.heap.size, 0, none⟩) N N, .int .i64 (N : Int), .int .i64 (N : Int), .bool false, u28, u29, u30, u31, u32, .int .i64 (N : Int), .slice ea en ec, .slice (some ⟨g, 0, none⟩) N N, .int .i64 (N : Int), .slice (some ⟨q, 0, none⟩) N N, .slice (some ⟨w.heap.size, 0, none⟩) 1 1, .func (.func 25) #[] #[.pointer (some ⟨bm, 0, none⟩), .pointer (some ⟨bf, 0, none⟩), .pointer (some ⟨bw, 0, none⟩)], undef, undef, undef, undef, undef, undef, undef, undef], defers := [] } W) := Lib.hid fun W bm bf bw g R q h => by rw [hRq]; exact ⟨bm, bf, bw, g, R, q, h, rfl⟩
        have HRE : RowKit.Hid (∀ a' W, Rq a' W → ∃ bm bf bw g R q, MetReady w3 W bm bf bw g R q N (some ⟨w.heap.size, 0, none⟩) 1 1 E [fr] ∧ a' = { tmps := #[.int .i64 (N : Int), .slice ea en ec, .int .i64 fr, undef, undef, undef, .slice none 0 0, .int .i64 0, .slice (some ⟨w.heap.size, 0, none⟩) 1 1, .int .i64 0, .pointer (some ⟨w1.heap.size + 1, 0, none⟩), u11, undef, .int .i64 fr, .slice (some ⟨w.heap.size, 0, none⟩) 1 1, .int .i64 (N : Int), .slice ea en ec, .slice (some ⟨w.heap.size, 0, none⟩) 1 1, .int .i64 0, .int .i64 0, .bool false, undef, .int .i64 (N : Int), .slice (some ⟨w1.heap.size, 0, none⟩) N N, .slice (some ⟨w1.heap.size, 0, none⟩) N N, .int .i64 (N : Int), .int .i64 (N : Int), .bool false, u28, u29, u30, u31, u32, .int .i64 (N : Int), .slice ea en ec, .slice (some ⟨g, 0, none⟩) N N, .int .i64 (N : Int), .slice (some ⟨q, 0, none⟩) N N, .slice (some ⟨w.heap.size, 0, none⟩) 1 1, .func (.func 25) #[] #[.pointer (some ⟨bm, 0, none⟩), .pointer (some ⟨bf, 0, none⟩), .pointer (some ⟨bw, 0, none⟩)], undef, undef, undef, undef, undef, undef, undef, undef], defers := [] }) := Lib.hid fun a' W h => by rw [hRq] at h; exact h
        clear hRq hw3 HI
        refine wpIn_mono (Q := onlyA Rq) (wpIn_wide.2 ?_) ?_
        · have CW2 : RowKit.Hid (∀ u, Below w3.heap.size w3 u → Calls Try.prog 22 #[.int .i64 (N : Int), .slice ea en ec, .int .i64 0] u (WaysPost E N u)) := Lib.hid fun u hu => CW.out u (HB3.out.trans (hu.mono HB3.out.size))
          have CA := Lib.hid (CW2.out w3.drew (Below.refl _ w3).drew)
          have CB := Lib.hid (CW2.out (w3.alloc (.cells (madeCells #[.bool false] N) 4)).drew ((Below.refl _ w3).alloc (Nat.le_refl _) _).drew)
          go_region_with (first
            | (go_at_call 22; refine CA.out.mono ?_; rintro e w4 ⟨g, R, rfl, hwa, hb4, hg4, hR4⟩)
            | (go_at_call 22; refine CB.out.mono ?_; rintro e w4 ⟨g, R, rfl, hwa, hb4, hg4, hR4⟩)
            | (go_at_call 21; refine (met_any _ _ _ _ _ _ _).mono ?_; rintro e w5 ⟨rfl, rfl⟩))
          · exact (ready_A hb4 hwa hg4 hR4 HSN.out HSS.out HEE.out HFW.out).elim fun h _ => HRI.out _ _ _ _ _ _ _ h
          · exact (ready_B hb4 hwa hg4 hR4 HSN.out HSS.out HEE.out HFW.out).elim fun h _ => HRI.out _ _ _ _ _ _ _ h
        · rintro e a' W hp
          obtain ⟨rfl, hp⟩ := onlyA_out hp
          obtain ⟨bm, bf, bw, g, R, q, hr, rfl⟩ := HRE.out _ _ hp
          dsimp only
          have HR := Lib.hid hr
          clear HRE HRI hp hr CF CW HSN
          gi_wp2
          have hnew := HR.out.new
          have hz3 := HZ3.out
          have HS0 : RowKit.Hid (DiSt w (w1.heap.size + 1) w1.heap.size N W (toldF N [])) := Lib.hid ⟨(HR.out.bel.block _ HD3.out.box.lt).trans HD3.out.box, by
            have hm := HD3.out.row
            refine ⟨hm.1, ?_⟩
            rcases hm.2 with h' | ⟨g', cap, cur, e, hg', hh, rest⟩
            · exact .inl h'
            · cases e; exact .inr ⟨_, _, cur, rfl, hg', (HR.out.bel.block _ (by omega)).trans hh, rest⟩, HB3.out.trans (HR.out.bel.mono HB3.out.size), HD3.out.ge, HD3.out.len⟩
          have hseq := met_seq (O := Two (w1.heap.size + 1) w1.heap.size) (steady_two _ _) W bm bf bw g R q N (some ⟨w.heap.size, 0, none⟩) 1 1 E [fr] [] HR.out.at_ (fun U _ _ => ⟨by rintro (h | h) <;> omega, by
            rintro i hi (h | h)
            · rcases hi with e | e | e | e | e | ⟨h0, off, e⟩
              all_goals first | omega | skip
              cases e; omega
            · rcases hi with e | e | e | e | e | ⟨h0, off, e⟩
              all_goals first | omega | skip
              cases e; omega⟩)
          have HNEW := Lib.hid hnew
          clear hnew hz3
          refine wpIn_rangeFunc_M (T := fun r => r = q) (steady_two (w1.heap.size + 1) w1.heap.size) rfl (by omega) (gf := 25) (lb := #[.pointer (some ⟨bm, 0, none⟩), .pointer (some ⟨bf, 0, none⟩), .pointer (some ⟨bw, 0, none⟩)]) rfl trivial (enters_of Try.func25 (by kernel_rfl) rfl) hseq (fun r e => by subst e; exact HR.out.at_.lt.1) (Below.refl _ _) (fun _ => rfl)
            (fun pre U => DiSt w (w1.heap.size + 1) w1.heap.size N U (toldF N pre)) (fun s U h => h.lies) ?hI HS0.out
            (fun x a' U => ∃ p, w.heap.size ≤ p ∧ U.heap[p]? = some (.cells #[.int .i64 x.1, .int .i64 x.2] 43 (0, 0)) ∧ a' = { tmps := #[.int .i64 (N : Int), .slice ea en ec, .int .i64 fr, undef, undef, undef, .slice none 0 0, .int .i64 0, .slice (some ⟨w.heap.size, 0, none⟩) 1 1, .int .i64 0, .pointer (some ⟨w1.heap.size + 1, 0, none⟩), u11, .pointer (some ⟨p, 0, none⟩), .int .i64 fr, .slice (some ⟨w.heap.size, 0, none⟩) 1 1, .int .i64 (N : Int), .slice ea en ec, .slice (some ⟨w.heap.size, 0, none⟩) 1 1, .int .i64 0, .int .i64 0, .bool false, undef, .int .i64 (N : Int), .slice (some ⟨w1.heap.size, 0, none⟩) N N, .slice (some ⟨w1.heap.size, 0, none⟩) N N, .int .i64 (N : Int), .int .i64 (N : Int), .bool false, u28, u29, u30, u31, u32, .int .i64 (N : Int), .slice ea en ec, .slice (some ⟨g, 0, none⟩) N N, .int .i64 (N : Int), .slice (some ⟨q, 0, none⟩) N N, .slice (some ⟨w.heap.size, 0, none⟩) 1 1, .func (.func 25) #[] #[.pointer (some ⟨bm, 0, none⟩), .pointer (some ⟨bf, 0, none⟩), .pointer (some ⟨bw, 0, none⟩)], .agg #[.int .i64 x.1, .int .i64 x.2], undef, undef, undef, undef, undef, undef, undef], defers := [] })
            ?hAx ?assign ?body ?ran
          case hI =>
            rintro s U U' row h hg hr
            exact h.grown hg (fun r e => ⟨by rcases (hr r e).1 with h1 | h1; (have := HS0.out.bel.size; omega); (have := HNEW.out; have := HB3.out.size; omega), (hr r e).2⟩)
          case hAx =>
            rintro x a' U U' row ⟨p, h1, h2, h3⟩ hg hr
            refine ⟨p, h1, (hg.block p (Array.getElem?_eq_some_iff.1 h2).1 (fun e => ?_)).trans h2, h3⟩
            obtain ⟨o, ho, hc⟩ := hr p e.symm
            rw [h2] at ho; cases ho; cases hc
          case assign =>
            rintro l pre x U K' hI hK'
            have HI := Lib.hid hI
            clear hI
            gi_wp2
            exact hK' _ _ ⟨by simp, fun i hi _ => Below.heap_alloc _ _ _ hi, fun i hi _ => hi, rfl, rfl, rfl⟩ (HI.out.grown (World.grownBy_alloc U _ none) (fun r e => by cases e)) ⟨U.heap.size, HI.out.bel.size, World.alloc_heap_new U _, rfl⟩
          case body =>
            rintro l pre ⟨v, d⟩ a' U hl0 _ hI ⟨p, hp0, hp, rfl⟩ hV hlen
            obtain ⟨j, hjv⟩ : ∃ j : Nat, v = (j : Int) := ⟨v.toNat, by have := hV.1.1; simp only at this; omega⟩
            subst hjv
            have hj : j < N := by have := hV.1.2; simp only at this; omega
            have hji : (j : Int) < (N : Int) := by omega
            have hj0 : (0 : Int) ≤ (j : Int) := by omega
            have hv := hI.box.cell
            have hbl := hI.box.lt
            obtain ⟨hfj, hcj⟩ := hI.at_ hj
            have hpl : p < U.heap.size := (Array.getElem?_eq_some_iff.1 hp).1
            have hp1 : U.cell? ⟨p, 0, none⟩ = some (.int .i64 (j : Int)) := by simp [World.cell?, hp]
            have hp2 : U.cell? ⟨p, 1, none⟩ = some (.int .i64 d) := by simp [World.cell?, hp]
            have HT := Lib.hid (hI.tell j d)
            clear hI hp hV hlen
            gi_wp2
            obtain ⟨h1, hg⟩ := HT.out
            refine ⟨⟨hg.size, fun i hi hn => hg.block i hi (fun e => hn (.inr (Option.some.inj e))), fun i hi _ => hi, hg.os, hg.tape, hg.output⟩, ?_⟩
            show DiSt w (w1.heap.size + 1) w1.heap.size N _ (toldF N (pre ++ [((j : Int), d)]))
            rw [toldF_more]
            exact h1
          case ran =>
            rintro D ys U hD ⟨hW, hO⟩ hI hK
            have hv := hI.box.cell
            have HI := Lib.hid hI
            have HK := Lib.hid hK
            have HW := Lib.hid (told_dists hW hO)
            clear hI hK hW hO
            gi_wp2
            refine ⟨by simp, .inl ⟨_, _, rfl, run_takeDeferred HK.out, ?_⟩⟩
            have hfree := HI.out.lies.not HK.out rfl
            have h2 := HI.out.grown (grownBy_putObj' U D (.deferred none)) (fun r e => by cases e; exact ⟨by have := HS0.out.bel.size; omega, hfree⟩)
            refine ⟨_, results_tmp2 rfl _ _ _, _, N, N, by rw [HF.out]; rfl, ?_, h2.bel⟩
            unfold distL
            rw [if_pos HF.out, Int.toNat_natCast, ← HW.out]
            exact h2.reads
  · have hbz : (fitF n E [fr] != 0) = true := by simp [hf]
    have HL : RowKit.Hid (distL n E [fr] = []) := Lib.hid (by unfold distL; rw [if_neg hf])
    clear HS
    obtain ⟨er, her⟩ : ∃ er, er = fitF n E [fr] := ⟨_, rfl⟩
    rw [← her] at hf CF hbz
    have HER := Lib.hid her
    clear her
    gi_wp2_with (refine ⟨trivial, ?_⟩; gi_at_call 20; refine (callsIn_wide.2 CF.out).mono ?_; rw [← hw0]; rintro e w1 ⟨rfl, hb1⟩)
    exact ⟨_, results_tmp2 rfl _ _ _, none, 0, 0, by rw [← HER.out]; rfl, by rw [HL.out]; exact NumsAt.nil _ _, HB0.out.trans (hb1.mono HB0.out.size)⟩
end Go.Proofs.Ytgncpiamokeohaa
