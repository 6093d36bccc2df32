/- Layer 13: package uses' Of, walked. -/
import Derived.Test.YtdchhfdmingnaaaDoorWT0
import Derived.Test.YtdchhfdmingnaaaDoorWT6
import Derived.BigQuiet
import Derived.DeepKeys
namespace Go.Proofs.YtdchhfdmingnaaaDoor
open Go.RowKit
set_option linter.unusedVariables false
set_option linter.unusedSimpArgs false
attribute [local go_sem] Oper.semAt_some
theorem ofL_len (x : Int) : ∀ (xs : List UseU) (s : List SiteU), (xs.foldl (ofStep x) s).length ≤ s.length + xs.length
  | [], s => by simp
  | y :: xs, s => by
    rw [List.foldl_cons]
    have h1 := ofL_len x xs (ofStep x s y)
    have h2 : (ofStep x s y).length ≤ s.length + 1 := by unfold ofStep; split <;> simp
    rw [List.length_cons]
    omega
theorem OfSt.push {w W U w1 : World} {bx b3 : Nat} {x : Int} {v v' : Value} {l l' : List SiteU} (h : OfSt w bx b3 x W v l) (hU : Below W.heap.size W U) (hg : U.grownBy w1 v.ownBlock) (ho : OwnsSi w1 w.heap.size v' l') (hw : ∀ k, v'.ownBlock = some k → v.ownBlock = some k ∨ W.heap.size ≤ k) :
    w1.cell? ⟨bx, 0, none⟩ = some v ∧ w1.frozen? ⟨bx, 0, none⟩ = false ∧ KeepO (OB bx) W (w1.setCell ⟨bx, 0, none⟩ v') ∧ OfSt w bx b3 x (w1.setCell ⟨bx, 0, none⟩ v') v' l' := by
  have hoff : Off (fun k => v.ownBlock = some k) W w1 := (Off.since hU).grown hg (fun k hk => .inl hk)
  have hb1 : Boxed w1 bx 37 v := (hoff.block _ h.box.lt h.ne.2.2.1).trans h.box
  have hoff2 : Off (fun k => v.ownBlock = some k ∨ k = bx) W (w1.setCell ⟨bx, 0, none⟩ v') := (hoff.mono (fun k _ hk => .inl hk)).setCell (p := ⟨bx, 0, none⟩) (.inl (.inr rfl)) v'
  have h3 : b3 < W.heap.size := World.block_lt_of_cell? (a := ⟨b3, 0, none⟩) _ h.val
  have hn : b3 ≠ bx ∧ v'.ownBlock ≠ some b3 ∧ v'.ownBlock ≠ some bx ∧ w.heap.size ≤ bx := by
    refine ⟨h.ne.1, fun e => ?_, fun e => ?_, h.ne.2.2.2⟩
    · rcases hw _ e with h1 | h1
      · exact h.ne.2.1 h1
      · omega
    · rcases hw _ e with h1 | h1
      · exact h.ne.2.2.1 h1
      · have := h.box.lt; omega
  have hown : OwnsSi (w1.setCell ⟨bx, 0, none⟩ v') w.heap.size v' l' := by
    refine ⟨ho.1, ?_⟩
    rcases ho.2 with hn' | ⟨g, cap, cur, e, hB, hh, rest⟩
    · exact .inl hn'
    · refine .inr ⟨g, cap, cur, e, hB, ?_, rest⟩
      rw [Below.heap_setCell _ _ _ _ (fun e' => hn.2.2.1 (by rw [e]; show some g = some bx; rw [show g = bx from e']))]
      exact hh
  have hX : ∀ k, (v.ownBlock = some k ∨ k = bx) → w.heap.size ≤ k := fun k hk => by
    rcases hk with hk | hk
    · exact (h.blk hk).2.1
    · rw [hk]; exact h.ne.2.2.2
  have hfin : OfSt w bx b3 x (w1.setCell ⟨bx, 0, none⟩ v') v' l' :=
    ⟨hb1.set v', hown, (hoff2.cell (p := ⟨b3, 0, none⟩) h3 (fun e => by rcases e with e | e; exact h.ne.2.1 e; exact h.ne.1 e)).trans h.val, h.bel.trans (hoff2.below h.bel.size hX), hn⟩
  refine ⟨hb1.cell, hb1.frozen, ⟨hoff2.size, fun k hk hno => hoff2.block k hk (fun e => hno (h.ob.2 (e.elim .inr .inl))), fun k hk hlt => ?_, hoff2.os, hoff2.tape, hoff2.output⟩, hfin⟩
  rcases hfin.ob.1 hk with e | e
  · exact h.ob.2 (.inl e)
  · rcases hw k e with h1 | h1
    · exact h.ob.2 (.inr h1)
    · omega
theorem site_in (w : World) (d : Nat) (a b c e : Int) : (Op.equalIn (d + 2) 41 (.agg #[.int .i64 0, .int .i64 a, .int .i64 b]) (.agg #[.int .i64 0, .int .i64 c, .int .i64 e])).run Tryd.prog w = .ok (decide (a = c ∧ b = e)) w := by
  rw [show d + 2 = (d + 1) + 1 from rfl, run_equalIn_struct w (d + 1) 41 _ _ (by kernel_rfl) (by kernel_rfl)]
  have hf : (Tryd.prog.fieldsOf 41).toList = [⟨"Fun", 3, 0, false, "", "", 0⟩, ⟨"Block", 3, 1, false, "", "", 8⟩, ⟨"At", 3, 2, false, "", "", 16⟩] := by simp [Program.fieldsOf, Tryd.underlying41]
  rw [hf]
  simp [Op.eqFields, go_sem]
  by_cases h1 : a = c <;> by_cases h2 : b = e <;> simp [h1, h2]
theorem site_ne (w : World) (a b c e : Int) : (binOp .neq 41 (.agg #[.int .i64 0, .int .i64 a, .int .i64 b]) (.agg #[.int .i64 0, .int .i64 c, .int .i64 e])).run Tryd.prog w = .ok (.bool (!decide (a = c ∧ b = e))) w := by
  simp only [binOp]
  simp [Op.equal, Op.maxDepth, site_in w 9998]
theorem siteCells {w : World} {B : Nat} {va : Option Addr} {n vc : Nat} {L0 : List SiteU} {s : SiteU} (h : OwnsSi w B (.slice va n vc) (L0 ++ [s])) : ∃ g, va = some ⟨g, 0, none⟩ ∧ w.cell? ⟨g, L0.length * 3, none⟩ = some (.int .i64 0) ∧ w.cell? ⟨g, L0.length * 3 + 1, none⟩ = some (.int .i64 (s.1 : Int)) ∧ w.cell? ⟨g, L0.length * 3 + 2, none⟩ = some (.int .i64 (s.2 : Int)) := by
  have h0 : w.ownsRow B 41 3 (.slice va n vc) (L0 ++ [s]).length (flatSi (L0 ++ [s])) := h
  rcases h.2 with ⟨e, h1⟩ | ⟨g, cap, cur, e, _⟩
  · simp at h1
  · simp only [Value.slice.injEq] at e
    have hva := e.1
    subst hva
    have hl := flatSi_len L0
    have hc : ∀ j, j < 3 → (flatSi (L0 ++ [s]))[L0.length * 3 + j]? = ([.int .i64 0, .int .i64 (s.1 : Int), .int .i64 (s.2 : Int)] : List Value)[j]? := fun j hj => by
      rw [flatSi_more, List.getElem?_append_right (by omega), hl]
      congr 1
      omega
    have hk : ∀ j v, ([.int .i64 0, .int .i64 (s.1 : Int), .int .i64 (s.2 : Int)] : List Value)[j]? = some v → j < 3 → w.cell? ⟨g, L0.length * 3 + j, none⟩ = some v := fun j v hv hj => by
      have := World.ownsRow.cells h0 rfl _ _ ((hc j hj).trans hv)
      rwa [addr_plain, Nat.zero_add] at this
    exact ⟨g, rfl, hk 0 _ rfl (by omega), hk 1 _ rfl (by omega), hk 2 _ rfl (by omega)⟩
def SitesPost (l : List SiteU) (w : World) (e : Ending) (w' : World) : Prop := ∃ va vc, e = .returned (.slice va l.length vc) ∧ OwnsSi w' w.heap.size (.slice va l.length vc) l ∧ Below w.heap.size w w'
set_option maxRecDepth 100000 in
set_option maxHeartbeats 4000000 in
theorem of_any (r : Int) (a : Option Addr) (n c : Nat) (f : FuncD) (x : Int) (w : World) (hq : FuncQ w [.int .i64 r, .slice a n c] f) (hft : FT w) (hsm : SmU f) (hN : (usesU f).length ≤ 900000) :
    Calls Tryd.prog 11 #[.agg #[.int .i64 r, .slice a n c], .int .i64 x] w (SitesPost (ofL x (usesU f)) w) := by
  have HQ := Lib.hid hq
  have HFT := Lib.hid hft
  have HSM := Lib.hid hsm
  have HN := Lib.hid hN
  clear hq hft hsm hN
  refine (callsIn_wide (n := 9)).1 ?_
  refine callsIn_of_wp_marks Tryd.func11 rfl trivial ?_ rfl
  simp only [Tryd.ntmps11, List.size_toArray, List.length_cons, List.length_nil, Nat.reduceAdd, Nat.reduceSub, Array.replicate_succ, Array.replicate_zero, List.push_toArray, List.append_toArray, List.nil_append, List.cons_append]
  gi_wp2_with (refine ⟨trivial, ?_⟩; gi_at_call 25; refine (callsIn_wide.2 (uuses_any r a n c _)).mono ?_; rintro e w' ⟨rfl, rfl⟩)
  obtain ⟨W0, hW0⟩ : ∃ W0, (((w.alloc (.cells #[.int .i64 r, .slice a n c] 30)).alloc (.cells #[.int .i64 x] 3)).alloc (.cells #[.slice none 0 0] 37)).alloc (.cells #[.int .i64 r, .slice a n c] 30) = W0 := ⟨_, rfl⟩
  have hz0 : W0.heap.size = w.heap.size + 4 := by rw [← hW0]; simp
  have hbw : Below w.heap.size w W0 := by rw [← hW0]; exact ((((Below.refl _ w).alloc (Nat.le_refl _) _).alloc (by simp) _).alloc (by simp <;> omega) _).alloc (by simp <;> omega) _
  have hcb : ∀ j, W0.cell? ⟨w.heap.size + 1 + 1 + 1, j, none⟩ = (#[.int .i64 r, .slice a n c] : Array Value)[j]? := by
    intro j
    rw [← hW0, show w.heap.size + 1 + 1 + 1 = (((w.alloc (.cells #[.int .i64 r, .slice a n c] 30)).alloc (.cells #[.int .i64 x] 3)).alloc (.cells #[.slice none 0 0] 37)).heap.size by simp]
    exact World.cell?_alloc_mark _ _ _ _ _
  have hbx : Boxed W0 (w.heap.size + 1 + 1) 37 (.slice none 0 0) := by
    rw [← hW0]
    have h := (Boxed.new ((w.alloc (.cells #[.int .i64 r, .slice a n c] 30)).alloc (.cells #[.int .i64 x] 3)) 37 (.slice none 0 0)).alloc (.cells #[.int .i64 r, .slice a n c] 30)
    rw [World.size_alloc, World.size_alloc] at h
    exact h
  have hvx : W0.cell? ⟨w.heap.size + 1, 0, none⟩ = some (.int .i64 x) := by
    have h : Boxed W0 (w.heap.size + 1) 3 (.int .i64 x) := by
      rw [← hW0]
      have h := ((Boxed.new (w.alloc (.cells #[.int .i64 r, .slice a n c] 30)) 3 (.int .i64 x)).alloc (.cells #[.slice none 0 0] 37)).alloc (.cells #[.int .i64 r, .slice a n c] 30)
      rw [World.size_alloc] at h
      exact h
    exact h.cell
  have HS0 : RowKit.Hid (OfSt w (w.heap.size + 1 + 1) (w.heap.size + 1) x W0 (.slice none 0 0) (ofL x [])) := Lib.hid
    ⟨hbx, World.ownsRow_nil _ _ _ 3, hvx, hbw, by omega, (fun e => by cases e), (fun e => by cases e), by omega⟩
  rw [hW0]
  clear hW0
  have hogn : ∀ k, OB (w.heap.size + 1 + 1) W0 k → k = w.heap.size + 1 + 1 := fun k hk => by
    rcases HS0.out.ob.1 hk with e | e
    · exact e
    · cases e
  have HZ0 := Lib.hid hz0
  have hseq := uses_seq (steady_OB (w.heap.size + 1 + 1)) r a n c f (w.heap.size + 1 + 1 + 1) w W0 HQ.out HFT.out HSM.out hbw hcb (fun e => by have := hogn _ e; omega) (fun i hi => by have := hogn i hi; omega) HS0.out.lies 8
  clear hbx hcb hbw hogn hz0 hvx
  refine wpIn_rangeFunc_O (steady_OB (w.heap.size + 1 + 1)) rfl (by omega) (gf := 36) (lb := #[.pointer (some ⟨w.heap.size + 1 + 1 + 1, 0, none⟩)]) rfl trivial (enters_of Tryd.func36 (by kernel_rfl) rfl) hseq (Below.refl _ _) (fun _ => rfl)
    (fun pre W => ∃ v, OfSt w (w.heap.size + 1 + 1) (w.heap.size + 1) x W v (ofL x pre)) (fun s W ⟨_, h⟩ => h.lies) ?hI ⟨_, HS0.out⟩
    (fun y a' W => ∃ p, a' = { tmps := #[.agg #[.int .i64 r, .slice a n c], .int .i64 x, .pointer (some ⟨w.heap.size, 0, none⟩), .pointer (some ⟨w.heap.size + 1, 0, none⟩), .slice none 0 0, .pointer (some ⟨w.heap.size + 1 + 1, 0, none⟩), .pointer (some ⟨p, 0, none⟩), .int .i64 y.2, undef, .agg #[.int .i64 r, .slice a n c], .func (.func 36) #[] #[.pointer (some ⟨w.heap.size + 1 + 1 + 1, 0, none⟩)], siteV y.1, .int .i64 y.2, undef, undef, undef, undef, undef, undef, undef, undef, undef, undef, undef, undef, undef, undef, undef, undef, undef, undef, undef, undef, undef, undef, undef], defers := [] } ∧ W.heap[p]? = some (.cells #[.int .i64 0, .int .i64 (y.1.1 : Int), .int .i64 (y.1.2 : Int)] 41 (0, 0))) ?hAx ?assign ?body ?ran
  case hI =>
    rintro s W W' row ⟨v, h⟩ hg hr
    exact ⟨v, h.grown hg (fun r e => by have h1 := (hr r e).1; have h2 := HZ0.out; exact ⟨(hr r e).2, by omega, by omega⟩)⟩
  case hAx =>
    rintro y a' W W' row ⟨p, rfl, hp⟩ hg hr
    refine ⟨p, rfl, (hg.block p (Array.getElem?_eq_some_iff.1 hp).1 (fun e => ?_)).trans hp⟩
    obtain ⟨o, ho, hc⟩ := hr p e.symm
    rw [hp] at ho
    cases ho
    cases hc
  case assign =>
    rintro l pre y W K' ⟨v, hS⟩ hK'
    have HS := Lib.hid hS
    clear hS
    gi_wp2
    refine hK' _ _ (KeepO.alloc (steady_OB _) HS.out.lies _) ⟨v, HS.out.grown (World.grownBy_alloc W _ none) (fun r e => by cases e)⟩ ⟨W.heap.size, rfl, World.alloc_heap_new _ _⟩
  case body =>
    rintro l pre y a' W hl0 _ ⟨v, hS⟩ ⟨p, rfl, hp⟩ hV hlen
    obtain ⟨va, vc, rfl⟩ := hS.own.slice
    have hll : (ofL x pre).length ≤ 900000 := by have h1 := ofL_len x pre []; have h2 := HN.out; unfold ofL; simp only [List.length_nil] at h1; omega
    have HMORE := Lib.hid (ofL_more x pre y)
    have hbc := hS.box.cell
    have hbf := hS.box.frozen
    have hvc := hS.val
    have hp0 : W.cell? ⟨p, 0, none⟩ = some (.int .i64 0) := by simp [World.cell?, hp]
    have hp1 : W.cell? ⟨p, 1, none⟩ = some (.int .i64 (y.1.1 : Int)) := by simp [World.cell?, hp]
    have hp2 : W.cell? ⟨p, 2, none⟩ = some (.int .i64 (y.1.2 : Int)) := by simp [World.cell?, hp]
    have HLL0 := Lib.hid hll
    have HS := Lib.hid hS
    clear hS hV hlen hl0 hp hseq HQ HFT HSM HN HS0
    generalize ofL x pre = L at *
    obtain ⟨⟨y1, y2⟩, y3⟩ := y
    simp only at hp1 hp2 HMORE ⊢
    have hmix : Tryd.prog.follows .mixedOrders = true := by kernel_rfl
    have hw1 : wrap64 ((L.length : Int) - 1) = (L.length : Int) - 1 := wrap_id (by omega) (by omega)
    by_cases hyx : y3 = x
    · have hne : (y3 == x) = true := by simpa using hyx
      rcases List.eq_nil_or_concat L with hL | ⟨L0, s, hL⟩
      · subst hL
        have HM : RowKit.Hid (ofL x (pre ++ [((y1, y2), y3)]) = [] ++ [(y1, y2)]) := Lib.hid (by rw [HMORE.out]; unfold ofStep; rw [if_pos ⟨hyx, by simp⟩])
        have HLL : RowKit.Hid (([] : List SiteU).length ≤ 1000000) := Lib.hid (by simp)
        simp only [List.length_nil] at hbc hw1
        have hw5 : wrap64 (0 - 1) = -1 := wrap_id (by omega) (by omega)
        have hw6 : wrap64 (-1) = -1 := wrap_id (by omega) (by omega)
        have HOU : RowKit.Hid (OwnsSi W w.heap.size (.slice va 0 vc) []) := Lib.hid HS.out.own
        clear hyx HMORE hll hw1
        gi_upto_region 6 with fail
        refine wpIn_region_quietC hmix (by kernel_rfl) (by kernel_rfl) ?_
        clear hmix
        repeat (go_big_quiet_step (fail))
        refine wpQuiet_nil ?_
        intro _ hw'
        obtain ⟨nq, hw''⟩ := hw'
        subst hw''
        have HUQ : RowKit.Hid (OwnsSi (W.drewN nq) w.heap.size (.slice va 0 vc) [] ∧ w.heap.size ≤ (W.drewN nq).heap.size) := Lib.hid ⟨HOU.out, HS.out.bel.size⟩
        gi_wp2_with (gi_at_builtin; refine wpListIn_append_site _ rfl _ _ rfl w.heap.size (.slice va 0 vc) [] ?_ ?_ ?_ _ 1 W.heap.size (y1, y2) ?_ ?_ ?_ ?_ ?_; (next => rfl); (next => exact (HUQ.out.1)); (next => exact HUQ.out.2); (next => rfl); (next => rfl); (next => rfl); (next => exact HLL.out); intro xa xn xc w5 ho5 hg5 hw5; have HP := Lib.hid (HS.out.push (((below_drewN nq (Below.refl _ _)).alloc (Nat.le_refl _) _)) hg5 ho5 hw5); have k0 := HP.out.1; have k1 := HP.out.2.1; clear ho5 hg5 hw5)
        exact ⟨HP.out.2.2.1, _, by rw [HM.out]; exact HP.out.2.2.2⟩
      · rw [List.concat_eq_append] at hL
        subst hL
        obtain ⟨gs, hga, s0, s1, s2⟩ := siteCells HS.out.own
        subst hga
        have hlen1 : (L0 ++ [s]).length = L0.length + 1 := by simp
        obtain ⟨ln, hln⟩ : ∃ k, k = L0.length := ⟨_, rfl⟩
        rw [hlen1, ← hln] at hbc hw1
        rw [← hln] at s0 s1 s2
        have hll2 : ln ≤ 900000 := by rw [hlen1] at hll; omega
        have hw2 : ((ln + 1 : Nat) : Int) - 1 = (ln : Int) := by omega
        have hw3 : wrap64 (((ln + 1 : Nat) : Int) - 1) = (ln : Int) := by rw [hw1, hw2]
        have hw4 : wrap64 ((ln : Int) + 1 - 1) = (ln : Int) := by rw [wrap_id (by omega) (by omega)]; omega
        have hi1 : (ln : Int) < ((ln + 1 : Nat) : Int) := by omega
        have hi2 : ¬ ((ln : Int) < 0) := by omega
        have hi3 : (ln : Int) < (ln : Int) + 1 := by omega
        have HLL : RowKit.Hid ((L0 ++ [s]).length ≤ 1000000) := Lib.hid (by omega)
        have HOU : RowKit.Hid (OwnsSi W w.heap.size (.slice (some ⟨gs, 0, none⟩) (ln + 1) vc) (L0 ++ [s])) := Lib.hid (by have h := HS.out.own; rw [hlen1, ← hln] at h; exact h)
        clear hlen1 hln hll hw1 hw2
        by_cases hs : s = (y1, y2)
        · have HM : RowKit.Hid (ofL x (pre ++ [((y1, y2), y3)]) = L0 ++ [s]) := Lib.hid (by rw [HMORE.out]; unfold ofStep; rw [if_neg (fun e => e.2 (by simp [hs]))])
          have hcmp : ∀ u : World, (binOp .neq 41 (.agg #[.int .i64 0, .int .i64 (s.1 : Int), .int .i64 (s.2 : Int)]) (.agg #[.int .i64 0, .int .i64 (y1 : Int), .int .i64 (y2 : Int)])).run Tryd.prog u = .ok (.bool false) u := fun u => by rw [site_ne, hs]; simp
          clear hyx HMORE hs
          gi_upto_region 6 with fail
          refine wpIn_region_quietC hmix (by kernel_rfl) (by kernel_rfl) ?_
          clear hmix
          repeat (go_big_quiet_step (fail))
          refine wpQuiet_nil ?_
          intro _ hw'
          obtain ⟨nq, hw''⟩ := hw'
          subst hw''
          gi_wp2
          have hb : Below W.heap.size W (W.drewN nq) := below_drewN nq (Below.refl _ _)
          exact ⟨KeepO.grown (steady_OB _) (grownBy_of_below hb) HS.out.lies (fun r e => by cases e), _, by rw [HM.out]; exact HS.out.grown (grownBy_of_below hb) (fun r e => by cases e)⟩
        · have HM : RowKit.Hid (ofL x (pre ++ [((y1, y2), y3)]) = L0 ++ [s] ++ [(y1, y2)]) := Lib.hid (by rw [HMORE.out]; unfold ofStep; rw [if_pos ⟨hyx, by simpa using fun e => hs e⟩])
          have hcmp : ∀ u : World, (binOp .neq 41 (.agg #[.int .i64 0, .int .i64 (s.1 : Int), .int .i64 (s.2 : Int)]) (.agg #[.int .i64 0, .int .i64 (y1 : Int), .int .i64 (y2 : Int)])).run Tryd.prog u = .ok (.bool true) u := fun u => by
            rw [site_ne]
            have : ¬ ((s.1 : Int) = (y1 : Int) ∧ (s.2 : Int) = (y2 : Int)) := fun e => hs (by ext <;> simp <;> omega)
            simp [this]
          clear hyx HMORE hs
          gi_upto_region 6 with fail
          refine wpIn_region_quietC hmix (by kernel_rfl) (by kernel_rfl) ?_
          clear hmix
          repeat (go_big_quiet_step (fail))
          refine wpQuiet_nil ?_
          intro _ hw'
          obtain ⟨nq, hw''⟩ := hw'
          subst hw''
          have HUQ : RowKit.Hid (OwnsSi (W.drewN nq) w.heap.size (.slice (some ⟨gs, 0, none⟩) (ln + 1) vc) (L0 ++ [s]) ∧ w.heap.size ≤ (W.drewN nq).heap.size) := Lib.hid ⟨HOU.out, HS.out.bel.size⟩
          gi_wp2_with (gi_at_builtin; refine wpListIn_append_site _ rfl _ _ rfl w.heap.size (.slice (some ⟨gs, 0, none⟩) (ln + 1) vc) (L0 ++ [s]) ?_ ?_ ?_ _ 1 W.heap.size (y1, y2) ?_ ?_ ?_ ?_ ?_; (next => rfl); (next => exact (HUQ.out.1)); (next => exact HUQ.out.2); (next => rfl); (next => rfl); (next => rfl); (next => exact HLL.out); intro xa xn xc w5 ho5 hg5 hw5; have HP := Lib.hid (HS.out.push (((below_drewN nq (Below.refl _ _)).alloc (Nat.le_refl _) _)) hg5 ho5 hw5); have k0 := HP.out.1; have k1 := HP.out.2.1; clear ho5 hg5 hw5)
          exact ⟨HP.out.2.2.1, _, by rw [HM.out]; exact HP.out.2.2.2⟩
    · have hne : (y3 == x) = false := by simpa using hyx
      have HM : RowKit.Hid (ofL x (pre ++ [((y1, y2), y3)]) = L) := Lib.hid (by rw [HMORE.out]; unfold ofStep; rw [if_neg (fun e => hyx e.1)])
      clear hyx HMORE
      gi_upto_region 6 with fail
      refine wpIn_region_quietC hmix (by kernel_rfl) (by kernel_rfl) ?_
      clear hmix hbf hw1 hp0 hp1 hp2 hll hbc
      repeat (go_big_quiet_step (fail))
      refine wpQuiet_nil ?_
      intro _ hw'
      obtain ⟨nq, hw''⟩ := hw'
      subst hw''
      gi_wp2
      have hb : Below W.heap.size W (W.drewN nq) := below_drewN nq (Below.refl _ _)
      exact ⟨KeepO.grown (steady_OB _) (grownBy_of_below hb) HS.out.lies (fun r e => by cases e), _, by rw [HM.out]; exact HS.out.grown (grownBy_of_below hb) (fun r e => by cases e)⟩
  case ran =>
    rintro D ys U hD rfl ⟨v, hS⟩ hK
    have HS := Lib.hid hS
    have HK := Lib.hid hK
    obtain ⟨va, vc, rfl⟩ := hS.own.slice
    have hv := hS.box.cell
    clear hS hK
    gi_wp2
    refine ⟨by simp, .inl ⟨_, _, rfl, run_takeDeferred HK.out, ?_⟩⟩
    have h1 := HS.out.grown (grownBy_putObj' U D (.deferred none)) (fun r e => by
      cases e
      refine ⟨fun ho => ?_, by have := HZ0.out; omega, by have := HZ0.out; omega⟩
      obtain ⟨o, h2, h3⟩ := HS.out.lies _ ho
      rw [HK.out] at h2
      cases h2
      cases h3)
    exact ⟨_, results_tmp rfl _ _ _, _, _, rfl, h1.own, h1.bel⟩
end Go.Proofs.YtdchhfdmingnaaaDoor
