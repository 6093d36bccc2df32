/- Layer 13: package uses' users: which blocks each value is used in. -/
import Derived.Test.YtdchhfdmingnaaaDoorFT5

namespace Go.Proofs.YtdchhfdmingnaaaDoor
open Go.RowKit
set_option linter.unusedVariables false
set_option linter.unusedSimpArgs false
attribute [local go_sem] Oper.semAt_some
theorem run_store_func {P : Program} {w : World} {a : Addr} {m : Mode} (fn : Fn) (x y : Array Value) : (store a (.func fn x y) m).run P w = stored P w a (.func fn x y) m := run_store P w a _ m rfl
attribute [local go_sem] run_store_func
theorem mem_growL {Z : List Int} {z y : Int} : y ∈ growL Z z ↔ y ∈ Z ∨ y = z := by
  unfold growL
  split
  · rename_i h
    exact ⟨.inl, fun h' => h'.elim id (fun e => e ▸ List.mem_of_getLast? h)⟩
  · simp
theorem growL_len (Z : List Int) (z : Int) : (growL Z z).length ≤ Z.length + 1 := by unfold growL; split <;> simp
structure UsersR (V : Nat) (pre : List UseU) (Zs : List (List Int)) : Prop where
  len : Zs.length = V
  mem : ∀ v (h : v < Zs.length) (z : Int), z ∈ Zs[v] ↔ ∃ x ∈ pre, x.2 = (v : Int) ∧ z = (x.1.1 : Int)
  le : ∀ Z ∈ Zs, Z.length ≤ pre.length
theorem UsersR.start (V : Nat) : UsersR V [] (List.replicate V []) := by
  refine ⟨by simp, fun v h z => ?_, fun Z hZ => ?_⟩
  · simp
  · rw [List.mem_replicate] at hZ; rw [hZ.2]; simp
theorem UsersR.more {V : Nat} {pre : List UseU} {Zs : List (List Int)} (h : UsersR V pre Zs) (x : UseU) (v : Nat) (hx : x.2 = (v : Int)) {Z : List Int} (hz : Zs[v]? = some Z) : UsersR V (pre ++ [x]) (Zs.set v (growL Z (x.1.1 : Int))) := by
  obtain ⟨hv, hZ⟩ := List.getElem?_eq_some_iff.1 hz
  refine ⟨by rw [List.length_set]; exact h.len, fun u hu z => ?_, fun Y hY => ?_⟩
  · rw [List.length_set] at hu
    rw [List.getElem_set]
    by_cases e : v = u
    · subst e
      rw [if_pos rfl, mem_growL, ← hZ, h.mem v hv]
      simp only [List.mem_append, List.mem_singleton]
      constructor
      · rintro (⟨y, hy, h1, h2⟩ | rfl)
        · exact ⟨y, .inl hy, h1, h2⟩
        · exact ⟨x, .inr rfl, hx, rfl⟩
      · rintro ⟨y, hy | rfl, h1, h2⟩
        · exact .inl ⟨y, hy, h1, h2⟩
        · exact .inr h2
    · rw [if_neg e, h.mem u hu]
      simp only [List.mem_append, List.mem_singleton]
      constructor
      · rintro ⟨y, hy, h1, h2⟩; exact ⟨y, .inl hy, h1, h2⟩
      · rintro ⟨y, hy | rfl, h1, h2⟩
        · exact ⟨y, hy, h1, h2⟩
        · rw [hx] at h1; omega
  · rw [List.length_append, List.length_singleton]
    rcases List.mem_or_eq_of_mem_set hY with hY | rfl
    · have := h.le Y hY; omega
    · have h1 := growL_len Z (x.1.1 : Int)
      have h2 := h.le Z (hZ ▸ List.getElem_mem hv)
      omega
def OG (g n : Nat) (W : World) (i : Nat) : Prop := i = g ∨ ∃ j v, j < n ∧ W.cell? ⟨g, j, none⟩ = some v ∧ v.ownBlock = some i
theorem steady_OG (g n : Nat) : SteadyO (OG g n) := by
  intro W W' row hg hl hr i
  have hc : ∀ j, W'.cell? ⟨g, j, none⟩ = W.cell? ⟨g, j, none⟩ := fun j => World.cell?_of_block (hg.block g (hl.lt (.inl rfl)) (fun e => hr g e.symm (.inl rfl)))
  unfold OG
  simp only [hc]
section
variable {B bx g n i : Nat} {W W' : World} {vs : List Value} {Zs Zs' : List (List Int)} {v' : Value}
theorem SetU.og (h : SetU B bx g n W vs Zs) {k : Nat} : OG g n W k ↔ k = g ∨ ∃ j, ∃ hj : j < vs.length, (vs[j]).ownBlock = some k := by
  unfold OG
  constructor
  · rintro (e | ⟨j, v, hj, hc, hv⟩)
    · exact .inl e
    · have hj' : j < vs.length := by rw [h.len]; exact hj
      rw [h.row.cell hj'] at hc
      cases hc
      exact .inr ⟨j, hj', hv⟩
  · rintro (e | ⟨j, hj, hv⟩)
    · exact .inl e
    · exact .inr ⟨j, _, by rw [← h.len]; exact hj, h.row.cell hj, hv⟩
theorem SetU.lies (h : SetU B bx g n W vs Zs) : LiesO (OG g n) W := by
  intro k hk
  rcases h.og.1 hk with rfl | ⟨j, hj, hv⟩
  · obtain ⟨cur, hc, _⟩ := h.blk
    exact ⟨_, hc, rfl⟩
  · obtain ⟨cur, hc, _⟩ := ownsI_blk (h.row.own j hj (by rw [← h.row.len]; exact hj)) hv
    exact ⟨_, hc, rfl⟩
theorem SetU.low (h : SetU B bx g n W vs Zs) {k : Nat} (hk : OG g n W k) : B ≤ k := by
  rcases h.og.1 hk with rfl | ⟨j, hj, hv⟩
  · exact h.blk.choose_spec.2
  · exact (ownsI_blk (h.row.own j hj (by rw [← h.row.len]; exact hj)) hv).choose_spec.2
theorem SetU.grow (h : SetU B bx g n W vs Zs) {k : Nat} (hk : GrowX g vs i k) : OG g n W k := h.og.2 (by
  rcases hk with ⟨hj, hv⟩ | e
  · exact .inr ⟨i, hj, hv⟩
  · exact .inl e)
theorem SetU.keepO (h : SetU B bx g n W vs Zs) (h' : SetU B bx g n W' (vs.set i v') Zs') (hoff : Off (GrowX g vs i) W W') (hw : ∀ k, v'.ownBlock = some k → (∃ h : i < vs.length, (vs[i]).ownBlock = some k) ∨ W.heap.size ≤ k) : KeepO (OG g n) W W' := by
  refine ⟨hoff.size, fun k hk hn => hoff.block k hk (fun e => hn (h.grow e)), fun k hk hlt => ?_, hoff.os, hoff.tape, hoff.output⟩
  refine h.og.2 ?_
  rcases h'.og.1 hk with e | ⟨j, hj, hv⟩
  · exact .inl e
  · rw [List.length_set] at hj
    rw [List.getElem_set] at hv
    split at hv
    · rcases hw k hv with ⟨h1, h2⟩ | h1
      · exact .inr ⟨i, h1, h2⟩
      · omega
    · exact .inr ⟨j, hj, hv⟩
theorem SetU.besides (h : SetU B bx g n W vs Zs) {row : Option Nat} (hg : W.grownBy W' row) (hr : ∀ r, row = some r → ¬ OG g n W r ∧ r ≠ bx) : SetU B bx g n W' vs Zs := by
  have hrg : row ≠ some g := fun e => (hr g e).1 (.inl rfl)
  refine ⟨(hg.block bx h.box.lt (fun e => (hr bx e.symm).2 rfl)).trans h.box, ⟨?_, h.row.len, fun j h1 h2 => ?_, h.row.apart⟩, h.len⟩
  · refine ⟨h.row.row.1, ?_⟩
    rcases h.row.row.2 with hn | ⟨g', cap, cur, e, hB, hh, rest⟩
    · exact .inl hn
    · cases e
      exact .inr ⟨_, _, cur, rfl, hB, (hg.block _ (Array.getElem?_eq_some_iff.1 hh).1 (fun e => hrg e.symm)).trans hh, rest⟩
  · exact (h.row.own j h1 h2).besides hg (fun k hk e => (hr k e).1 (h.og.2 (.inr ⟨j, h1, hk⟩)))
end
structure UsSt (w : World) (B bx g b4 V : Nat) (pre : List UseU) (W : World) (vs : List Value) (Zs : List (List Int)) : Prop where
  set : SetU B bx g V W vs Zs
  rel : UsersR V pre Zs
  bel : Below w.heap.size w W
  box : Boxed W b4 84 (.func (.func 61) #[] #[.pointer (some ⟨bx, 0, none⟩)])
  low : w.heap.size ≤ B
  siz : B ≤ W.heap.size
theorem UsSt.grown {w W W' : World} {B bx g b4 V : Nat} {pre : List UseU} {vs : List Value} {Zs : List (List Int)} (h : UsSt w B bx g b4 V pre W vs Zs) {row : Option Nat} (hg : W.grownBy W' row) (hr : ∀ r, row = some r → ¬ OG g V W r ∧ r ≠ bx ∧ r ≠ b4 ∧ w.heap.size ≤ r) : UsSt w B bx g b4 V pre W' vs Zs :=
  ⟨h.set.besides hg (fun r e => ⟨(hr r e).1, (hr r e).2.1⟩), h.rel, Below.grown h.bel hg h.bel.size (fun k hk => (hr k hk).2.2.2), (hg.block b4 h.box.lt (fun e => (hr b4 e.symm).2.2.1 rfl)).trans h.box, h.low, Nat.le_trans h.siz hg.size⟩
set_option maxRecDepth 100000 in
set_option maxHeartbeats 4000000 in
theorem users_any (r : Int) (a : Option Addr) (n c : Nat) (f : FuncD) (w : World) (hq : FuncQ w [.int .i64 r, .slice a n c] f) (hft : FT w) (hsm : SmU f) (hN : (usesU f).length ≤ 900000) :
    Calls Tryd.prog 45 #[.agg #[.int .i64 r, .slice a n c]] w fun e w' => ∃ B bx g vs Zs, e = .returned (.slice (some ⟨g, 0, none⟩) (valU f) (valU f)) ∧ SetU B bx g (valU f) w' vs Zs ∧ UsersR (valU f) (usesU f) Zs ∧ Below w.heap.size w w' ∧ w.heap.size ≤ B := by
  have HQ := Lib.hid hq
  have HFT := Lib.hid hft
  have HSM := Lib.hid hsm
  have HN := Lib.hid hN
  have HVAL : RowKit.Hid (valuesOf f = (valU f : Int)) := Lib.hid (valuesOf_small (by have := hsm.vals; omega))
  have HVS : RowKit.Hid (valU f ≤ 100000) := Lib.hid hsm.vals
  clear hq hft hsm hN
  refine (callsIn_wide (n := 9)).1 ?_
  refine callsIn_of_wp_marks Tryd.func45 rfl trivial ?_ rfl
  simp only [Tryd.ntmps45, List.size_toArray, List.length_cons, List.length_nil, Nat.reduceAdd, Nat.reduceSub, Array.replicate_succ, Array.replicate_zero, List.push_toArray, List.append_toArray, List.nil_append, List.cons_append]
  obtain ⟨wf, hwf⟩ : ∃ u, u = w.alloc (.cells #[.int .i64 r, .slice a n c] 30) := ⟨_, rfl⟩
  have HBF : RowKit.Hid (Below w.heap.size w wf ∧ w.heap.size < wf.heap.size) := Lib.hid (by rw [hwf]; exact ⟨(Below.refl _ w).alloc (Nat.le_refl _) _, by simp⟩)
  have HCF : RowKit.Hid (∀ u, Below wf.heap.size wf u → u.cell? ⟨w.heap.size, 0, none⟩ = some (.int .i64 r) ∧ u.cell? ⟨w.heap.size, 1, none⟩ = some (.slice a n c)) := Lib.hid fun u hu => by
    have h1 : ∀ j, wf.cell? ⟨w.heap.size, j, none⟩ = (#[.int .i64 r, .slice a n c] : Array Value)[j]? := fun j => by rw [hwf]; exact World.cell?_alloc_mark _ _ _ _ _
    exact ⟨(hu.cell (p := ⟨w.heap.size, 0, none⟩) HBF.out.2).trans (h1 0), (hu.cell (p := ⟨w.heap.size, 1, none⟩) HBF.out.2).trans (h1 1)⟩
  obtain ⟨d0, d1⟩ := HCF.out wf (Below.refl _ _)
  gi_upto_region 1 with fail
  try rw [← hwf]
  clear hwf
  gi_wp2_with (first
    | (refine ⟨trivial, ?_⟩; gi_at_call 24; refine (callsIn_wide.2 (code_values r a n c f _ (FuncQ.lasts _ _ _ _ HBF.out.1 HQ.out))).mono ?_; rintro e w1 ⟨rfl, hb1⟩; have HB1 := Lib.hid hb1; clear hb1; rw [HVAL.out])
    | (refine ⟨trivial, ?_⟩; gi_at_call 42; refine (callsIn_wide.2 (sets_any (valU f) (by have := HVS.out; omega) _)).mono ?_; rintro e w2 ⟨rfl, hs2, hb2⟩; have HS2 := Lib.hid hs2; have HB2 := Lib.hid hb2; obtain ⟨e0, e1⟩ := HCF.out (w2.alloc (.cells #[.func (.func 61) #[] #[.pointer (some ⟨w1.heap.size, 0, none⟩)]] 84)) ((HB1.out.trans (hb2.mono HB1.out.size)).alloc (Nat.le_trans HB1.out.size hb2.size) _); clear hs2 hb2)
    | (refine ⟨trivial, ?_⟩; gi_at_call 25; refine (callsIn_wide.2 (uuses_any r a n c _)).mono ?_; rintro e w' ⟨rfl, rfl⟩))
  obtain ⟨W0, hW0⟩ : ∃ W0, (w2.alloc (.cells #[.func (.func 61) #[] #[.pointer (some ⟨w1.heap.size, 0, none⟩)]] 84)).alloc (.cells #[.int .i64 r, .slice a n c] 30) = W0 := ⟨_, rfl⟩
  have hz0 : W0.heap.size = w2.heap.size + 2 := by rw [← hW0]; simp
  have hb20 : Below w2.heap.size w2 W0 := by rw [← hW0]; exact ((Below.refl _ w2).alloc (Nat.le_refl _) _).alloc (by simp) _
  have hcb : ∀ j, W0.cell? ⟨w2.heap.size + 1, j, none⟩ = (#[.int .i64 r, .slice a n c] : Array Value)[j]? := by
    intro j
    rw [← hW0, show w2.heap.size + 1 = (w2.alloc (.cells #[.func (.func 61) #[] #[.pointer (some ⟨w1.heap.size, 0, none⟩)]] 84)).heap.size by simp]
    exact World.cell?_alloc_mark _ _ _ _ _
  have hbx : Boxed W0 w2.heap.size 84 (.func (.func 61) #[] #[.pointer (some ⟨w1.heap.size, 0, none⟩)]) := by
    rw [← hW0]
    exact (Boxed.new w2 _ _).alloc _
  have hw01 : w.heap.size ≤ w1.heap.size := Nat.le_trans HBF.out.1.size HB1.out.size
  have hbw : Below w.heap.size w W0 := ((HBF.out.1.trans (HB1.out.mono HBF.out.1.size)).trans (HB2.out.mono hw01)).trans (hb20.mono (Nat.le_trans hw01 HB2.out.size))
  have HS0 : RowKit.Hid (UsSt w w1.heap.size w1.heap.size (w1.heap.size + 1) w2.heap.size (valU f) [] W0 (List.replicate (valU f) (.slice none 0 0)) (List.replicate (valU f) [])) := Lib.hid
    ⟨HS2.out.since hb20, UsersR.start _, hbw, hbx, hw01, Nat.le_trans HB2.out.size hb20.size⟩
  rw [hW0]
  clear hW0
  have hogn : ∀ k, OG (w1.heap.size + 1) (valU f) W0 k → k = w1.heap.size + 1 := fun k hk => by
    rcases HS0.out.set.og.1 hk with e | ⟨j, hj, hv⟩
    · exact e
    · simp at hv; cases hv
  have hg2 : w1.heap.size + 1 < w2.heap.size := by
    obtain ⟨cur, hc, _⟩ := HS2.out.blk
    exact (Array.getElem?_eq_some_iff.1 hc).1
  have HG2 := Lib.hid hg2
  have HZ0 := Lib.hid hz0
  have HW01 := Lib.hid hw01
  have hseq := uses_seq (steady_OG (w1.heap.size + 1) (valU f)) r a n c f (w2.heap.size + 1) w W0 HQ.out HFT.out HSM.out hbw hcb (fun e => by have := hogn _ e; omega) (fun i hi => by have := hogn i hi; omega) HS0.out.set.lies 8
  clear hbx hcb hbw hb20 hogn hg2 hz0 hw01 d0 d1 HB1 HB2 HS2 HCF
  refine wpIn_rangeFunc_O (steady_OG (w1.heap.size + 1) (valU f)) rfl (by omega) (gf := 36) (lb := #[.pointer (some ⟨w2.heap.size + 1, 0, none⟩)]) rfl trivial (enters_of Tryd.func36 (by kernel_rfl) rfl) hseq (Below.refl _ _) (fun _ => rfl)
    (fun pre W => ∃ vs Zs, UsSt w w1.heap.size w1.heap.size (w1.heap.size + 1) w2.heap.size (valU f) pre W vs Zs) (fun s W ⟨_, _, h⟩ => h.set.lies) ?hI ⟨_, _, HS0.out⟩
    (fun x a' W => ∃ p, a' = { tmps := #[.agg #[.int .i64 r, .slice a n c], .pointer (some ⟨w.heap.size, 0, none⟩), .slice none 0 0, .slice (some ⟨w1.heap.size + 1, 0, none⟩) (valU f) (valU f), .pointer (some ⟨w2.heap.size, 0, none⟩), .pointer (some ⟨p, 0, none⟩), .int .i64 x.2, .tuple #[.slice (some ⟨w1.heap.size + 1, 0, none⟩) (valU f) (valU f), .func (.func 61) #[] #[.pointer (some ⟨w1.heap.size, 0, none⟩)]], .agg #[.int .i64 r, .slice a n c], .int .i64 (valU f : Int), .tuple #[.slice (some ⟨w1.heap.size + 1, 0, none⟩) (valU f) (valU f), .func (.func 61) #[] #[.pointer (some ⟨w1.heap.size, 0, none⟩)]], .slice (some ⟨w1.heap.size + 1, 0, none⟩) (valU f) (valU f), .func (.func 61) #[] #[.pointer (some ⟨w1.heap.size, 0, none⟩)], .agg #[.int .i64 r, .slice a n c], .func (.func 36) #[] #[.pointer (some ⟨w2.heap.size + 1, 0, none⟩)], siteV x.1, .int .i64 x.2, undef, undef, undef, undef, undef, undef], defers := [] } ∧ W.heap[p]? = some (.cells #[.int .i64 0, .int .i64 (x.1.1 : Int), .int .i64 (x.1.2 : Int)] 41 (0, 0))) ?hAx ?assign ?body ?ran
  case hI =>
    rintro s W W' row ⟨vs, Zs, h⟩ hg hr
    exact ⟨vs, Zs, h.grown hg (fun r e => by have h1 := (hr r e).1; have h2 := HZ0.out; have h3 := HG2.out; have h4 := HW01.out; exact ⟨(hr r e).2, by omega, by omega, by omega⟩)⟩
  case hAx =>
    rintro x a' W W' row ⟨p, rfl, hp⟩ hg hr
    refine ⟨p, rfl, (hg.block p (Array.getElem?_eq_some_iff.1 hp).1 (fun e => ?_)).trans hp⟩
    obtain ⟨o, ho, hc⟩ := hr p e.symm
    rw [hp] at ho
    cases ho
    cases hc
  case assign =>
    rintro l pre x W K' ⟨vs, Zs, hS⟩ hK'
    have HS := Lib.hid hS
    clear hS
    gi_wp2
    refine hK' _ _ (KeepO.alloc (steady_OG _ _) HS.out.set.lies _) ⟨vs, Zs, HS.out.grown (World.grownBy_alloc W _ none) (fun r e => by cases e)⟩ ⟨W.heap.size, rfl, World.alloc_heap_new _ _⟩
  case body =>
    rintro l pre x a' W hl0 _ ⟨vs, Zs, hS⟩ ⟨p, rfl, hp⟩ hV hlen
    obtain ⟨hx1, _, _, hx4⟩ := mem_usesU.1 hV
    unfold inU at hx4
    have hx5 := of_decide_eq_true hx4
    obtain ⟨v, hv⟩ : ∃ v : Nat, x.2 = (v : Int) := ⟨x.2.toNat, by omega⟩
    have HVX := Lib.hid hv
    have hvV : v < valU f := by omega
    have HVV := Lib.hid hvV
    have hcl := hS.box.cell
    have hpc : W.cell? ⟨p, 1, none⟩ = some (.int .i64 (x.1.1 : Int)) := by simp [World.cell?, hp]
    have HLE : RowKit.Hid (∀ Z ∈ Zs, Z.length ≤ 1000000) := Lib.hid fun Z hZ => by have := hS.rel.le Z hZ; have := HN.out; omega
    have HS := Lib.hid hS
    have CG : RowKit.Hid (CallsIn (Fence.wide.inRound l) (9 - 1 - 2 - 1) Tryd.prog 61 #[.int .i64 (v : Int), .int .i64 (x.1.1 : Int), .pointer (some ⟨w1.heap.size, 0, none⟩)] W (GrowPost w1.heap.size w1.heap.size (w1.heap.size + 1) (valU f) W vs Zs v (x.1.1 : Int))) := Lib.hid
      (CallsIn.inRound l (callsIn_wide.2 (grow_any w1.heap.size w1.heap.size (w1.heap.size + 1) (valU f) W vs Zs v (x.1.1 : Int) HS.out.set hvV (by have := HVS.out; omega) HLE.out HS.out.siz)))
    clear hS hV hx1 hx4 hx5 hlen hvV hl0
    rw [hv]
    clear hv
    gi_wp2_with (refine ⟨trivial, ?_⟩; gi_at_call 61; refine CG.out.mono ?_; rintro e w3 ⟨v', Z, hz, rfl, hset, hoff, hw⟩)
    have hX : ∀ k, GrowX (w1.heap.size + 1) vs v k → w.heap.size ≤ k ∧ k ≠ w2.heap.size := fun k hk => by
      refine ⟨Nat.le_trans HS.out.low (HS.out.set.low (HS.out.set.grow hk)), fun e => ?_⟩
      subst e
      have hb : W.heap[w2.heap.size]? = _ := HS.out.box
      rcases hk with ⟨hj, hv⟩ | hg
      · obtain ⟨cur, hc, _⟩ := ownsI_blk (HS.out.set.row.own v hj (by rw [← HS.out.set.row.len]; exact hj)) hv
        rw [hb] at hc; cases hc
      · have := HG2.out; omega
    exact ⟨HS.out.set.keepO hset hoff hw, _, _, hset, HS.out.rel.more x v HVX.out hz, HS.out.bel.trans (hoff.below HS.out.bel.size (fun k hk => (hX k hk).1)), (hoff.block _ HS.out.box.lt (fun e => (hX _ e).2 rfl)).trans HS.out.box, HS.out.low, Nat.le_trans HS.out.siz hoff.size⟩
  case ran =>
    rintro D ys U hD rfl ⟨vs, Zs, hS⟩ hK
    have HS := Lib.hid hS
    have HK := Lib.hid hK
    clear hS hK
    gi_wp2
    refine ⟨by simp, .inl ⟨_, _, rfl, run_takeDeferred HK.out, ?_⟩⟩
    have hD' : w2.heap.size + 2 ≤ D := by rw [← HZ0.out]; exact hD
    have h1 := HS.out.grown (grownBy_putObj' U D (.deferred none)) (fun r e => by
      cases e
      refine ⟨fun ho => ?_, by have := HG2.out; omega, by omega, by have := HG2.out; have := HW01.out; omega⟩
      obtain ⟨o, h2, h3⟩ := HS.out.set.lies _ ho
      rw [HK.out] at h2
      cases h2
      cases h3)
    exact ⟨_, results_tmp rfl _ _ _, _, _, _, _, _, rfl, h1.set, h1.rel, h1.bel, h1.low⟩
end Go.Proofs.YtdchhfdmingnaaaDoor
