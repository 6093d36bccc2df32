/- Layer 7: whether a number is in a list; package cfg's Next: a range over its targets. -/
import Derived.Test.YtdchhfdmingnaaaDoorFT0

namespace Go.Proofs.YtdchhfdmingnaaaDoor
open Go.RowKit
set_option linter.unusedVariables false
set_option linter.unusedSimpArgs false
attribute [local go_sem] Oper.semAt_some
def inL (Z : List Int) (z : Int) : Bool := decide (z ∈ Z)
def IndexPost (Z : List Int) (z : Int) (w : World) (e : Ending) (w' : World) : Prop := ∃ k : Int, e = .returned (.int .i64 k) ∧ (decide (0 ≤ k) = inL Z z) ∧ -1 ≤ k ∧ k ≤ 140737488355328 ∧ w = w'
theorem take_not {Z : List Int} {z : Int} {i : Nat} (h : i < Z.length) (h1 : z ∉ Z.take i) (h2 : Z[i] ≠ z) : z ∉ Z.take (i + 1) := by
  rw [List.take_succ_eq_append_getElem h, List.mem_append, List.mem_singleton]
  intro h'
  rcases h' with h' | h'
  · exact h1 h'
  · exact h2 h'.symm
set_option maxRecDepth 100000 in
theorem index_any (a : Option Addr) (n c : Nat) (Z : List Int) (z : Int) (w : World) (hat : NumsAt w a n Z) (hn : n ≤ 140737488355328) :
    Calls Tryd.prog 81 #[.slice a n c, .int .i64 z] w (IndexPost Z z w) := by
  have HL := Lib.hid hat.1
  have HA := Lib.hid hat
  clear hat
  go_enter Tryd.func81, Tryd.ntmps81
  go_wp2_with fail
  go_loop [8] (fun iv => ∃ i : Nat, i ≤ n ∧ RowKit.Hid (z ∉ Z.take i) ∧ iv = .int .i64 (i : Int)) (fun iv => n - (intOf iv).toNat)
  case atStart => exact ⟨0, Nat.zero_le _, Lib.hid (by simp), rfl⟩
  case round =>
    obtain ⟨i, hi, HU, rfl⟩ := hrel
    by_cases hlt : i < n
    · have hi1 : i < Z.length := by rw [HL.out]; exact hlt
      obtain ⟨g, off, rfl, hg, hc⟩ := HA.out.2 (by omega)
      have hcell := hc i (by omega)
      obtain ⟨y, hy⟩ : ∃ y, y = Z[i] := ⟨_, rfl⟩
      rw [← hy] at hcell
      unfold numV at hcell
      have HY := Lib.hid hy
      clear hc hy
      by_cases he : z = y
      · have het : (z == y) = true := by rw [he]; simp
        have HIN : RowKit.Hid (inL Z z = true) := Lib.hid (by unfold inL; exact decide_eq_true (by rw [he, HY.out]; exact List.getElem_mem _))
        clear he
        go_wp2_with fail
        go_ret
        exact ⟨_, rfl, by rw [HIN.out]; simp, by omega, by omega, rfl⟩
      · have hef : (z == y) = false := by simpa using he
        have HNE := Lib.hid he
        clear he
        go_wp2_with fail
        go_round
        case rel => exact ⟨i + 1, by omega, Lib.hid (take_not hi1 HU.out (by rw [← HY.out]; exact fun h => HNE.out h.symm)), by go_num⟩
        case measure => simp [intOf]; omega
    · obtain rfl : i = n := by omega
      have HIN : RowKit.Hid (inL Z z = false) := Lib.hid (by unfold inL; refine decide_eq_false ?_; have := HU.out; rwa [List.take_of_length_le (by rw [HL.out]; exact Nat.le_refl _)] at this)
      go_wp2_with fail
      go_ret
      exact ⟨_, rfl, by rw [HIN.out]; decide, by omega, by omega, rfl⟩
theorem contains_any (a : Option Addr) (n c : Nat) (Z : List Int) (z : Int) (w : World) (hat : NumsAt w a n Z) (hn : n ≤ 140737488355328) :
    Calls Tryd.prog 75 #[.slice a n c, .int .i64 z] w fun e w' => e = .returned (.bool (inL Z z)) ∧ w = w' := by
  have CI := Lib.hid (index_any a n c Z z w hat hn)
  clear hat
  go_enter Tryd.func75, Tryd.ntmps75
  go_wp2_with fail
  refine CI.out.mono ?_
  rintro e w' ⟨k, rfl, hk, hk0, hk1, rfl⟩
  have HK := Lib.hid hk
  clear hk
  go_wp2_with fail
  go_ret
  exact ⟨by rw [← HK.out]; rfl, rfl⟩
set_option maxRecDepth 100000 in
theorem chas_any (a : Option Addr) (n c : Nat) (Z : List Int) (z : Int) (w : World) (hat : NumsAt w a n Z) (hn : n ≤ 140737488355328) :
    Calls Tryd.prog 20 #[.slice a n c, .int .i64 z] w fun e w' => e = .returned (.bool (inL Z z)) ∧ w = w' := by
  have HL := Lib.hid hat.1
  have HA := Lib.hid hat
  clear hat
  go_enter Tryd.func20, Tryd.ntmps20
  go_wp2_with fail
  go_loop [5] (fun iv => ∃ i : Nat, i ≤ n ∧ RowKit.Hid (z ∉ Z.take i) ∧ iv = .int .i64 (i : Int)) (fun iv => n - (intOf iv).toNat)
  case atStart => exact ⟨0, Nat.zero_le _, Lib.hid (by simp), rfl⟩
  case round =>
    obtain ⟨i, hi, HU, rfl⟩ := hrel
    by_cases hlt : i < n
    · have hi1 : i < Z.length := by rw [HL.out]; exact hlt
      obtain ⟨g, off, rfl, hg, hc⟩ := HA.out.2 (by omega)
      have hcell := hc i (by omega)
      obtain ⟨y, hy⟩ : ∃ y, y = Z[i] := ⟨_, rfl⟩
      rw [← hy] at hcell
      unfold numV at hcell
      have HY := Lib.hid hy
      clear hc hy
      by_cases he : y = z
      · have het : (y == z) = true := by rw [he]; simp
        have HIN : RowKit.Hid (inL Z z = true) := Lib.hid (by unfold inL; exact decide_eq_true (by rw [← he, HY.out]; exact List.getElem_mem _))
        clear he
        go_wp2_with fail
        go_ret
        exact ⟨by rw [HIN.out]; rfl, rfl⟩
      · have hef : (y == z) = false := by simpa using he
        have HNE := Lib.hid he
        clear he
        go_wp2_with fail
        go_round
        case rel => exact ⟨i + 1, by omega, Lib.hid (take_not hi1 HU.out (by rw [← HY.out]; exact HNE.out)), by go_num⟩
        case measure => simp [intOf]; omega
    · obtain rfl : i = n := by omega
      have HIN : RowKit.Hid (inL Z z = false) := Lib.hid (by unfold inL; refine decide_eq_false ?_; have := HU.out; rwa [List.take_of_length_le (by rw [HL.out]; exact Nat.le_refl _)] at this)
      go_wp2_with fail
      go_ret
      exact ⟨by rw [HIN.out]; rfl, rfl⟩
def addN (Z : List Int) (z : Int) : List Int := if inL Z z then Z else Z ++ [z]
def addAll (l : List Int) : List Int := l.foldl addN []
theorem addAll_snoc (l : List Int) (z : Int) : addAll (l ++ [z]) = addN (addAll l) z := by simp [addAll]
theorem addAll_tos (e : EndD) : addAll (tos e) = nextL e := by
  unfold tos tgts nextL
  split
  · simp [addAll, addN, inL]
  · split
    · split
      · rename_i h; simp [addAll, addN, inL, h]
      · rename_i h; have h' : ¬ e.Else = e.To := fun h' => h h'.symm; simp [addAll, addN, inL, h']
    · rfl
theorem addAll_len (l : List Int) : (addAll l).length ≤ l.length := by
  have key : ∀ (l Z : List Int), (l.foldl addN Z).length ≤ Z.length + l.length := by
    intro l
    induction l with
    | nil => intro Z; simp
    | cons z l ih =>
      intro Z
      have h1 := ih (addN Z z)
      have h2 : (addN Z z).length ≤ Z.length + 1 := by unfold addN; split <;> simp
      simp only [List.foldl_cons, List.length_cons]
      omega
  have := key l []
  simpa [addAll] using this
structure NextSt (w W : World) (v : Value) (Z : List Int) : Prop where
  box : Boxed W (w.heap.size + 1) 34 v
  own : OwnsI W (w.heap.size + 3) 3 v Z
  bel : Below w.heap.size w W
  siz : w.heap.size + 3 ≤ W.heap.size
theorem NextSt.grown {w W W' : World} {v : Value} {Z : List Int} {row : Option Nat} (h : NextSt w W v Z) (hg : W.grownBy W' row) (hr : ∀ r, row = some r → w.heap.size + 3 ≤ r ∧ ∃ o : Obj, W.heap[r]? = some o ∧ o.isCells = false) : NextSt w W' v Z := by
  have hb : Below (w.heap.size + 3) W W' := Below.grown (Below.refl _ W) hg h.siz (fun k e => (hr k e).1)
  exact ⟨Boxed.grownRow h.box hg (fun r e => (hr r e).2), h.own.grownRow hg (fun r e => (hr r e).2), h.bel.trans (hb.mono (by omega)), Nat.le_trans h.siz hb.size⟩
theorem NextSt.alloc {w W : World} {v : Value} {Z : List Int} (h : NextSt w W v Z) (o : Obj) : NextSt w (W.alloc o) v Z := h.grown (World.grownBy_alloc W o none) (fun r e => by cases e)
def TgBox (B0 p : Nat) (x : TgV) (W : World) : Prop := B0 ≤ p ∧ W.heap[p]? = some (.cells #[.int .i64 x.1, .slice x.2.1 x.2.2.1 x.2.2.2] 83 (0, 0))
theorem TgBox.grown {B0 p : Nat} {x : TgV} {W W' : World} {row : Option Nat} (h : TgBox B0 p x W) (hg : W.grownBy W' row) (hr : ∀ r, row = some r → ∃ o : Obj, W.heap[r]? = some o ∧ o.isCells = false) : TgBox B0 p x W' := ⟨h.1, cells_grownRow h.2 hg hr⟩
theorem KeptT.off {b : Nat} {X : Nat → Prop} {W W' : World} (h : Off X W W') (hk : KeepsOthers W W') (hb : b < W.heap.size) (hx : ¬ X b) : KeptT b W W' := ⟨hk.walks, fun j => h.cell (p := ⟨b, j, none⟩) hb hx⟩
theorem KeptT.alloc {b : Nat} {W : World} (o : Obj) (hb : b < W.heap.size) : KeptT b W (W.alloc o) := KeptT.off (X := fun _ => False) (Off.since ((Below.refl _ W).alloc (Nat.le_refl _) o)) (KeepsOthers.alloc W o) hb (fun h => h)
set_option maxRecDepth 100000 in
set_option maxHeartbeats 4000000 in
theorem next_any (pa : Option Addr) (pn pc : Nat) (oa : Option Addr) (on oc : Nat) (A : Int) (la : Option Addr) (ln lc : Nat) (ma : Option Addr) (mn mc : Nat) (e : EndD) (w : World) :
    Calls Tryd.prog 62 #[.agg #[.slice pa pn pc, .slice oa on oc, .int .i64 e.K, .int .i64 A, .int .i64 e.To, .int .i64 e.Else, .slice la ln lc, .slice ma mn mc]] w
      fun e' w' => ∃ va vn vc, e' = .returned (.slice va vn vc) ∧ OwnsI w' w.heap.size 3 (.slice va vn vc) (nextL e) ∧ Below w.heap.size w w' := by
  refine (callsIn_wide (n := 9)).1 ?_
  refine callsIn_of_wp_marks Tryd.func62 rfl trivial ?_ rfl
  simp only [Tryd.ntmps62, List.size_toArray, List.length_cons, List.length_nil, Nat.reduceAdd, Nat.reduceSub, Array.replicate_succ, Array.replicate_zero, List.push_toArray, List.append_toArray, List.nil_append, List.cons_append]
  have HFST : RowKit.Hid ((tgV e.K e.To e.Else la ln lc ma mn mc).map (·.1) = tos e) := Lib.hid (tgV_tos e la ln lc ma mn mc)
  have HTL := Lib.hid (tgV_len e.K e.To e.Else la ln lc ma mn mc)
  have HNX := Lib.hid (addAll_tos e)
  generalize e.K = K at *
  generalize e.To = T at *
  generalize e.Else = E at *
  gi_wp2_with (refine ⟨trivial, ?_⟩; gi_at_call 73; refine (callsIn_wide.2 (targets_any K A T E la ln lc ma mn mc _)).mono ?_; rintro e w' ⟨rfl, rfl⟩)
  obtain ⟨W0, hW0⟩ : ∃ W0, (((w.alloc (.cells #[.slice pa pn pc, .slice oa on oc, .int .i64 K, .int .i64 A, .int .i64 T, .int .i64 E, .slice la ln lc, .slice ma mn mc] 57)).alloc (.cells #[.slice none 0 0] 34)).alloc (.cells #[.int .i64 K, .int .i64 A, .int .i64 T, .int .i64 E, .slice la ln lc, .slice ma mn mc] 55)) = W0 := ⟨_, rfl⟩
  have HS0 : RowKit.Hid (NextSt w W0 (.slice none 0 0) []) := Lib.hid (by
    rw [← hW0]
    refine ⟨?_, World.ownsRow_nil _ _ _ 1, (((Below.refl w.heap.size w).alloc (Nat.le_refl _) _).alloc (by simp) _).alloc (by simp <;> omega) _, by simp⟩
    have h := (Boxed.new (w.alloc (.cells #[.slice pa pn pc, .slice oa on oc, .int .i64 K, .int .i64 A, .int .i64 T, .int .i64 E, .slice la ln lc, .slice ma mn mc] 57)) 34 (.slice none 0 0)).alloc (.cells #[.int .i64 K, .int .i64 A, .int .i64 T, .int .i64 E, .slice la ln lc, .slice ma mn mc] 55)
    rw [World.size_alloc] at h
    exact h)
  have hcB : ∀ j, W0.cell? ⟨w.heap.size + 1 + 1, j, none⟩ = (#[.int .i64 K, .int .i64 A, .int .i64 T, .int .i64 E, .slice la ln lc, .slice ma mn mc] : Array Value)[j]? := by
    intro j
    rw [← hW0, show w.heap.size + 1 + 1 = ((w.alloc (.cells #[.slice pa pn pc, .slice oa on oc, .int .i64 K, .int .i64 A, .int .i64 T, .int .i64 E, .slice la ln lc, .slice ma mn mc] 57)).alloc (.cells #[.slice none 0 0] 34)).heap.size by simp]
    exact World.cell?_alloc_mark _ _ _ _ _
  have hz0 : W0.heap.size = w.heap.size + 3 := by rw [← hW0]; simp
  rw [hW0]
  clear hW0
  have hst := tg_stops K A T E la ln lc ma mn mc (w.heap.size + 1 + 1) 8 W0 hcB
  clear hcB
  refine wpIn_rangeFunc_ownH rfl (by omega) (gf := 80) (lb := #[.pointer (some ⟨w.heap.size + 1 + 1, 0, none⟩)]) rfl trivial (enters_of Tryd.func80 (by kernel_rfl) rfl) hst KeptT.trans ?hKb (Below.refl _ _) (fun _ => rfl)
    (fun pre W => ∃ v, NextSt w W v (addAll (pre.map (·.1))) ∧ pre.length ≤ 2)
    (fun _ _ _ => False) ?hI (fun _ _ _ _ _ hs _ _ => hs) ⟨_, HS0.out, by simp⟩
    (fun x a' W => ∃ p, TgBox (w.heap.size + 3) p x W ∧ a' = { tmps := #[.agg #[.slice pa pn pc, .slice oa on oc, .int .i64 K, .int .i64 A, .int .i64 T, .int .i64 E, .slice la ln lc, .slice ma mn mc], .pointer (some ⟨w.heap.size, 0, none⟩), .slice none 0 0, .pointer (some ⟨w.heap.size + 1, 0, none⟩), .pointer (some ⟨p, 0, none⟩), .pointer (some ⟨w.heap.size, 2, none⟩),
      .agg #[.int .i64 K, .int .i64 A, .int .i64 T, .int .i64 E, .slice la ln lc, .slice ma mn mc], .func (.func 80) #[] #[.pointer (some ⟨w.heap.size + 1 + 1, 0, none⟩)], .agg #[.int .i64 x.1, .slice x.2.1 x.2.2.1 x.2.2.2], undef, undef, undef, undef, undef, undef, undef, undef, undef, undef, undef], defers := [] })
    ?hAx ?assign ?body ?done ?stop
  case hKb => exact keptT_putObj (n0 := W0.heap.size) (by omega)
  case hI => rintro pre W W' row ⟨v, hS, hl⟩ hg hr; exact ⟨v, hS.grown hg (fun r e => by rw [← hz0]; exact hr r e), hl⟩
  case hAx => rintro x a' _ W W' row ⟨p, hp, rfl⟩ hg hr; exact ⟨p, hp.grown hg (fun r e => (hr r e).2), rfl⟩
  case assign =>
    rintro l pre x W K' ⟨v, hS, hl⟩ hK
    have HS := Lib.hid hS
    clear hS
    gi_wp2
    refine hK _ _ (KeepsOthers.alloc _ _ |>.from _) (KeptT.alloc _ (by have := HS.out.siz; omega)) ⟨v, HS.out.alloc _, hl⟩ ⟨_, ⟨HS.out.siz, heap_alloc_new W _⟩, rfl⟩
  case body =>
    rintro l pre x a' W hl0 _ ⟨v, hS, hl⟩ ⟨p, hp, rfl⟩ hlen
    have HS := Lib.hid hS
    have HL2 : RowKit.Hid (pre.length < 2) := Lib.hid (by have := HTL.out; omega)
    have hv := Boxed.cell hS.box
    have hvf := Boxed.frozen hS.box
    obtain ⟨va0, vn0, vc0, hve, hnu⟩ := hS.own.nums
    have hln : vn0 ≤ 2 := by have := hnu.1; have h2 := addAll_len (pre.map (·.1)); rw [List.length_map] at h2; omega
    have hpc : W.cell? ⟨p, 0, none⟩ = some (.int .i64 x.1) := by simp [World.cell?, hp.2]
    obtain ⟨t, ta, tn, tc⟩ := x
    dsimp only at hpc hp ⊢
    have HP := Lib.hid hp
    have HNX2 : RowKit.Hid (addAll ((pre ++ [(t, ta, tn, tc)]).map (·.1)) = addN (addAll (pre.map (·.1))) t) := Lib.hid (by rw [List.map_append, List.map_cons, List.map_nil, addAll_snoc])
    have HCN : RowKit.Hid (CallsIn (Fence.wide.inRound l) 6 Tryd.prog 75 #[v, .int .i64 t] W fun e w' => e = .returned (.bool (inL (addAll (pre.map (·.1))) t)) ∧ W = w') := Lib.hid (CallsIn.inRound l (callsIn_wide.2 (by rw [hve]; exact contains_any va0 vn0 vc0 _ t W hnu (by omega))))
    have HLN : RowKit.Hid (((addAll (pre.map (·.1))).length + 1) * 8 ≤ 140737488355328) := Lib.hid (by have := hnu.1; omega)
    have HSZ := Lib.hid hS.siz
    have HOW := Lib.hid hS.own
    clear hS hp hnu hve hln
    cases hin : inL (addAll (pre.map (·.1))) t with
    | true =>
      have HSN : RowKit.Hid (addN (addAll (pre.map (·.1))) t = addAll (pre.map (·.1))) := Lib.hid (by unfold addN; rw [if_pos hin])
      rw [hin] at HCN
      clear hin
      gi_wp2_with (refine ⟨trivial, ?_⟩; gi_at_call 75; refine HCN.out.mono ?_; rintro e w' ⟨rfl, rfl⟩)
      exact ⟨KeepsFrom.refl _ _, KeptT.refl _ _, v, by rw [HNX2.out, HSN.out]; exact HS.out, by simp; have := HL2.out; omega⟩
    | false =>
      have HSN : RowKit.Hid (addN (addAll (pre.map (·.1))) t = addAll (pre.map (·.1)) ++ [t]) := Lib.hid (by unfold addN; rw [if_neg (by rw [hin]; decide)])
      rw [hin] at HCN
      clear hin
      gi_wp2_with (first | (refine ⟨trivial, ?_⟩; gi_at_call 75; refine HCN.out.mono ?_; rintro e w' ⟨rfl, rfl⟩) | (gi_at_builtin; refine wpListIn_append_num W rfl _ _ 34 rfl 3 Tryd.underlying34 info_int (w.heap.size + 3) v (addAll (pre.map (·.1))) rfl HOW.out HSZ.out _ 1 _ t rfl rfl rfl HLN.out ?_; intro va vn vc w1 hown1 hgrow1; obtain ⟨hb1, hb2, ho2, hk2, hoff2⟩ := push_box HS.out.box HS.out.own (by omega) ((Below.refl W.heap.size W).alloc (Nat.le_refl _) _) hown1 hgrow1; have hc1 := hb1.cell; have hf1 := hb1.frozen; have hk3 := Lib.hid hk2; have hoff3 := Lib.hid hoff2; have hb3 := Lib.hid hb2; have ho3 := Lib.hid ho2; clear hb1 hb2 ho2 hk2 hoff2 hown1 hgrow1))
      have hge : ∀ i, PushX (w.heap.size + 1) v i → w.heap.size ≤ i := fun i hi => by
        rcases hi with rfl | hi
        · omega
        · have := (HOW.out.lt i hi).1; omega
      refine ⟨hk3.out.from _, KeptT.off hoff3.out hk3.out (by have := HSZ.out; omega) (fun hi => ?_), _, ⟨hb3.out, by rw [HNX2.out, HSN.out]; exact ho3.out, HS.out.bel.trans (hoff3.out.below (by have := HSZ.out; omega) hge), Nat.le_trans HSZ.out hoff3.out.size⟩, by simp; have := HL2.out; omega⟩
      rcases hi with hi | hi
      · omega
      · have := (HOW.out.lt _ hi).1; omega
  case done =>
    rintro D ys W hD rfl ⟨v, hS, hl⟩ hK
    have hv := Boxed.cell hS.box
    have hvf := Boxed.frozen hS.box
    obtain ⟨va, vn, vc, rfl, hnu⟩ := hS.own.nums
    have HS := Lib.hid hS
    clear hS hnu
    gi_wp2
    refine ⟨by simp, .inl ⟨_, _, rfl, run_takeDeferred hK, ?_⟩⟩
    have hg := HS.out.grown (grownBy_putObj' W D (.deferred none)) (fun r e' => by cases e'; exact ⟨by omega, _, hK, rfl⟩)
    rw [HFST.out, HNX.out] at hg
    exact ⟨_, results_tmp rfl _ _ _, va, vn, vc, rfl, hg.own.mono (by omega), hg.bel⟩
  case stop =>
    rintro D c pre W _ _ h _
    exact h.elim
end Go.Proofs.YtdchhfdmingnaaaDoor
