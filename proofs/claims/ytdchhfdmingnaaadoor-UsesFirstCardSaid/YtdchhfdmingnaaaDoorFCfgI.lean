/- Layer 7: package cfg's Targets (mk_tg.py). -/
import Derived.Test.YtdchhfdmingnaaaDoorFT0
import Derived.Test.YtdchhfdmingnaaaDoorFT1

namespace Go.Proofs.YtdchhfdmingnaaaDoor
open Go.RowKit
set_option linter.unusedVariables false
set_option linter.unusedSimpArgs false
attribute [local go_sem] Oper.semAt_some
def tgB (T E : Int) (L M : List Int) : Bool → Int × List Int
  | false => (T, L)
  | true => (E, M)
theorem ixs_tgB (e : EndD) : (ixs e.K).map (tgB e.To e.Else e.L e.M) = tgts e := by
  unfold ixs tgts
  split
  · rfl
  · split <;> rfl
theorem step_append_nums {P : Program} {u : World} {ops : Array Oper} {o : Oper} {a : Act} {K : Act → World → Prop} {Q : Exit → Act → World → Prop} {E : Prop} (hgd : Region.wanted o (yielded ops a.tmps) = true) (s x : Operand) (t : TypeId)
    (ho : o.op = .call { callee := .builtin .append, args := #[s, x], argTypes := #[t, t] }) (e : TypeId) (ht : P.underlying t = some (.slice e))
    (hinfo : (P.info? e).map (fun i => (i.zero, i.size, i.bytes)) = some (some (.int .i64 0), 1, 8))
    (B : Nat) (v : Value) (Z : List Int) (hs : a.eval s = v) (hown : OwnsI u B e v Z) (hB : B ≤ u.heap.size)
    (xa : Option Addr) (m c : Nat) (news : List Int) (hx : a.eval x = .slice xa m c) (hnil : xa = none → c = 0) (hat : NumsAt u xa m news)
    (hlen : (Z.length + m) * 8 ≤ 140737488355328)
    (h : ∀ va vn vc w', OwnsI w' B e (.slice va vn vc) (Z ++ news) → u.grownBy w' v.ownBlock → K (a.put o.dst (.slice va vn vc)) w') :
    if Region.wanted o (yielded ops a.tmps) = true then Oper.wp P o a u K Q else E := by
  rw [if_pos hgd]
  obtain ⟨i0, hi, hz0, hz1, hz2⟩ := info_parts hinfo
  have h1 := hat.1
  have hown0 : u.ownsRow B e 1 v Z.length (Z.map numV) := hown
  cases xa with
  | none =>
    have hm : m = 0 := by
      by_cases h0 : 0 < m
      · obtain ⟨g, off, he, _⟩ := hat.2 h0; cases he
      · omega
    have hc : c = 0 := hnil rfl
    subst hm hc
    have h0 : news = [] := List.eq_nil_of_length_eq_zero h1
    subst h0
    have hrun := run_append_owned_none (P := P) (w := u) B t o.type e i0 1 ht hi v Z.length (Z.map numV) hown0
    obtain ⟨va, vn, vc, rfl, _⟩ := hown.nums
    have hk := h va vn vc u (by rw [List.append_nil]; exact hown) ⟨rfl, rfl, rfl, Nat.le_refl _, fun _ _ _ => rfl⟩
    unfold Oper.wp
    simp only [execOp, ho, resolve, invoke, builtin, List.map_toArray, List.map_cons, List.map_nil, hs, hx, Sem.run_bind, Sem.run_pure, Result.andThen_ok, hrun]
    exact hk
  | some ad =>
    subst h1
    obtain ⟨v', w', hrun, r1, r2, _⟩ := run_append_own (P := P) u B t o.type e i0 (.int .i64 0) 1 8 ht hi hz0 hz1 hz2 rfl (by decide) v Z.length (Z.map numV) hown0 ad news.length c (news.map numV) (by simp) (fun j y hu => by
      rw [List.getElem?_map] at hu
      obtain ⟨z, hz, rfl⟩ := Option.map_eq_some_iff.1 hu
      obtain ⟨hj, rfl⟩ := List.getElem?_eq_some_iff.1 hz
      obtain ⟨ad', he, hcell⟩ := hat.at (by omega)
      cases he
      exact hcell j hj) (fun y hu => by obtain ⟨z, _, rfl⟩ := List.mem_map.1 hu; rfl) (by unfold maxLen; omega) hlen hB
    have hown2 : OwnsI w' B e v' (Z ++ news) := by
      show w'.ownsRow B e 1 v' (Z ++ news).length ((Z ++ news).map numV)
      rw [List.map_append, List.length_append]
      exact r1
    obtain ⟨va, vn, vc, rfl, _⟩ := hown2.nums
    have hk := h va vn vc w' hown2 r2
    unfold Oper.wp
    simp only [execOp, ho, resolve, invoke, builtin, List.map_toArray, List.map_cons, List.map_nil, hs, hx, Sem.run_bind, Sem.run_pure, Result.andThen_ok, hrun]
    exact hk
theorem step_append_tg {u : World} {ops : Array Oper} {o : Oper} {a : Act} {K : Act → World → Prop} {Q : Exit → Act → World → Prop} {E : Prop} (hgd : Region.wanted o (yielded ops a.tmps) = true) (s x : Operand)
    (ho : o.op = .call { callee := .builtin .append, args := #[s, x], argTypes := #[80, 80] })
    (B : Nat) (v : Value) (l : List TgV) (hs : a.eval s = v) (hown : OwnsT u B v l) (hB : B ≤ u.heap.size)
    (C : Array Value) (c g : Nat) (z : TgV) (hx : a.eval x = .slice (some ⟨g, 0, none⟩) 1 c) (hg : g = u.heap.size) (hC : C = #[.int .i64 z.1, .slice z.2.1 z.2.2.1 z.2.2.2])
    (hlen : l.length ≤ 100000)
    (h : ∀ va vn vc w', OwnsT w' B (.slice va vn vc) (l ++ [z]) → (u.alloc (.cells C 83)).grownBy w' v.ownBlock → K (a.put o.dst (.slice va vn vc)) w') :
    if Region.wanted o (yielded ops a.tmps) = true then Oper.wp Tryd.prog o a (u.alloc (.cells C 83)) K Q else E := by
  rw [if_pos hgd]
  obtain ⟨i0, hi, hz0, hz1, hz2⟩ := info_parts info_tg
  subst hC hg
  obtain ⟨v', w', hrun, r1, r2, _⟩ := run_append_own (P := Tryd.prog) (u.alloc (.cells #[.int .i64 z.1, .slice z.2.1 z.2.2.1 z.2.2.2] 83)) B 80 o.type 83 i0 (.agg #[.int .i64 0, .slice none 0 0]) 2 32 Tryd.underlying80 hi hz0 hz1 hz2 rfl (by decide) v l.length (flatT l) (World.ownsRow.alloc hown _) ⟨u.heap.size, 0, none⟩ 1 c [.int .i64 z.1, .slice z.2.1 z.2.2.1 z.2.2.2] rfl (fun j y hu => by
    rw [addr_plain, Nat.zero_add, World.cell?_alloc_mark]
    simpa using hu) (by intro y hu; simp at hu; rcases hu with rfl | rfl <;> rfl) (by unfold maxLen; omega) (by omega) (by simp; omega)
  have h2 : OwnsT w' B v' (l ++ [z]) := by
    show w'.ownsRow B _ 2 v' (l ++ [z]).length (flatT (l ++ [z]))
    rw [show flatT (l ++ [z]) = flatT l ++ [.int .i64 z.1, .slice z.2.1 z.2.2.1 z.2.2.2] by simp [flatT], List.length_append]
    exact r1
  obtain ⟨va, vn, vc, rfl⟩ : ∃ va vn vc, v' = .slice va vn vc := by
    rcases h2.2 with ⟨e, _⟩ | ⟨_, _, _, e, _⟩
    · exact ⟨_, _, _, e⟩
    · exact ⟨_, _, _, e⟩
  have hk := h va vn vc w' h2 r2
  unfold Oper.wp
  simp only [execOp, ho, resolve, invoke, builtin, List.map_toArray, List.map_cons, List.map_nil, hs, hx, Sem.run_bind, Sem.run_pure, Result.andThen_ok, hrun]
  exact hk
theorem tgt_push {w W W5 w6 : World} {v v' : Value} {l : List TgV} {ts : List (Int × List Int)} {z : TgV} {t : Int × List Int} {C : Array Value} (h : TgtSt w W v l ts) (h5 : Below W.heap.size W W5) (hz : CopT W5 (w.heap.size + 3) z t)
    (hg : (W5.alloc (.cells C 83)).grownBy w6 v.ownBlock) (ho : OwnsT w6 (w.heap.size + 3) v' (l ++ [z])) :
    TgtSt w (w6.setCell ⟨w.heap.size + 1, 0, none⟩ v') v' (l ++ [z]) (ts ++ [t]) ∧ KeepsOthers W (w6.setCell ⟨w.heap.size + 1, 0, none⟩ v') ∧ Off (PushX (w.heap.size + 1) v) W (w6.setCell ⟨w.heap.size + 1, 0, none⟩ v') ∧ Boxed w6 (w.heap.size + 1) 80 v := by
  have hlt : w.heap.size + 1 < W.heap.size := h.box.lt
  have hU : Below W.heap.size W (W5.alloc (.cells C 83)) := h5.alloc h5.size _
  have hoff1 : Off (PushX (w.heap.size + 1) v) W w6 := (Off.since hU).grown hg fun k hk => .inl (.inr hk)
  have hvb : ∀ r, v.ownBlock = some r → ∃ C', W.heap[r]? = some (.cells C' 83 (0, 0)) ∧ w.heap.size + 3 ≤ r := fun r hr => ownT_block h.own hr
  have hneq : v.ownBlock ≠ some (w.heap.size + 1) := fun e => by obtain ⟨_, _, h'⟩ := hvb _ e; omega
  have hbU : Boxed (W5.alloc (.cells C 83)) (w.heap.size + 1) 80 v := (hU.block _ hlt).trans h.box
  have hb1 : Boxed w6 (w.heap.size + 1) 80 v := hbU.kept hg (fun e => hneq e.symm)
  have hoff : Off (PushX (w.heap.size + 1) v) W (w6.setCell ⟨w.heap.size + 1, 0, none⟩ v') := hoff1.setCell (.inl (.inl rfl)) v'
  have hset := grownBy_setCell' w6 (w.heap.size + 1) v'
  have hb1' : w6.heap[w.heap.size + 1]? = _ := hb1
  refine ⟨⟨hb1.set v', ?_, ?_, h.bel.trans (hoff.below (by have := h.siz; omega) fun i hi => ?_), Nat.le_trans h.siz hoff.size⟩, KeepsOthers.of_off hoff fun i hi o hio => ?_, hoff, hb1⟩
  · refine World.ownsRow.kept ho hset ?_
    by_cases hv : v'.ownBlock = none
    · exact .inl hv
    · refine .inr fun e => ?_
      obtain ⟨_, _, h'⟩ := ownT_block ho e
      omega
  · refine Cops.snoc ?_ (h.cop.all fun x t' hx => ⟨hx.1, ?_⟩)
    · refine CopT.grown (CopT.grown (CopT.grown hz (World.grownBy_alloc W5 _ none) (fun r e => by cases e)) hg (fun r e C' m hC => ?_)) hset (fun r e C' m hC => ?_)
      · obtain ⟨C2, h2, h3⟩ := hvb r e
        have := (hU.block r (Array.getElem?_eq_some_iff.1 h2).1).trans h2
        rw [hC] at this; cases this
      · cases e; rw [hb1'] at hC; cases hC
    · have hown : OwnsI W (w.heap.size + 3) 3 (.slice x.2.1 x.2.2.1 x.2.2.2) t'.2 := hx.2
      refine ⟨hown.1, ?_⟩
      rcases hown.2 with hn | ⟨g, cap, cur, he, hB, hgb, rest⟩
      · exact .inl hn
      · refine .inr ⟨g, cap, cur, he, hB, ?_, rest⟩
        rw [hoff.block g (Array.getElem?_eq_some_iff.1 hgb).1 (fun hx' => by
          rcases hx' with rfl | hx'
          · have := h.box; unfold Boxed at this; rw [this] at hgb; cases hgb
          · obtain ⟨C2, h2, _⟩ := hvb g hx'; rw [h2] at hgb; cases hgb)]
        exact hgb
  · rcases hi with rfl | hi
    · omega
    · obtain ⟨_, _, h'⟩ := hvb i hi; omega
  · rcases hi with rfl | hi
    · have h' : W.heap[w.heap.size + 1]? = _ := h.box
      rw [h'] at hio; cases hio; rfl
    · obtain ⟨C2, h2, _⟩ := hvb i hi; rw [h2] at hio; cases hio; rfl
set_option maxRecDepth 100000 in
set_option maxHeartbeats 4000000 in
theorem ctargets_any (A : Int) (la : Option Addr) (ln lc : Nat) (ma : Option Addr) (mn mc : Nat) (e : EndD) (w : World) (hL : NumsAt w la ln e.L) (hL0 : la = none → lc = 0) (hLn : ln * 8 ≤ 140737488351232) (hM : NumsAt w ma mn e.M) (hM0 : ma = none → mc = 0) (hMn : mn * 8 ≤ 140737488351232) :
    Calls Tryd.prog 59 #[.agg #[.int .i64 e.K, .int .i64 A, .int .i64 e.To, .int .i64 e.Else, .slice la ln lc, .slice ma mn mc]] w
      fun e' w' => ∃ va vn vc l, e' = .returned (.slice va vn vc) ∧ OwnsT w' w.heap.size (.slice va vn vc) l ∧ Cops w' w.heap.size l (tgts e) ∧ Below w.heap.size w w' := by
  refine (callsIn_wide (n := 9)).1 ?_
  refine callsIn_of_wp_marks Tryd.func59 rfl trivial ?_ rfl
  simp only [Tryd.ntmps59, List.size_toArray, List.length_cons, List.length_nil, Nat.reduceAdd, Nat.reduceSub, Array.replicate_succ, Array.replicate_zero, List.push_toArray, List.append_toArray, List.nil_append, List.cons_append]
  have HFST := Lib.hid (ixs_tgB e)
  generalize tgts e = TS at *
  have HTL := Lib.hid (ixs_len e.K)
  generalize e.K = K at *
  generalize e.To = T at *
  generalize e.Else = E at *
  generalize e.L = L at *
  generalize e.M = M at *
  clear e
  have HX : RowKit.Hid (∀ x : Bool, ∃ t xa xn xc Z, encB T E la ln lc ma mn mc x = #[.agg #[.int .i64 t, .slice xa xn xc]] ∧ tgB T E L M x = (t, Z) ∧ NumsAt w xa xn Z ∧ (xa = none → xc = 0) ∧ xn * 8 ≤ 140737488351232) := Lib.hid fun x => by
    cases x
    · exact ⟨T, la, ln, lc, L, rfl, rfl, hL, hL0, hLn⟩
    · exact ⟨E, ma, mn, mc, M, rfl, rfl, hM, hM0, hMn⟩
  clear hL hL0 hLn hM hM0 hMn
  gi_wp2_with (refine ⟨trivial, ?_⟩; gi_at_call 73; refine (callsIn_wide.2 (targets_any K A T E la ln lc ma mn mc _)).mono ?_; rintro e w' ⟨rfl, rfl⟩)
  obtain ⟨W0, hW0⟩ : ∃ W0, (((w.alloc (.cells #[.int .i64 K, .int .i64 A, .int .i64 T, .int .i64 E, .slice la ln lc, .slice ma mn mc] 55)).alloc (.cells #[.slice none 0 0] 80)).alloc (.cells #[.int .i64 K, .int .i64 A, .int .i64 T, .int .i64 E, .slice la ln lc, .slice ma mn mc] 55)) = W0 := ⟨_, rfl⟩
  have HS0 : RowKit.Hid (TgtSt w W0 (.slice none 0 0) [] []) := Lib.hid (by
    rw [← hW0]
    refine ⟨?_, World.ownsRow_nil _ _ _ 2, trivial, (((Below.refl w.heap.size w).alloc (Nat.le_refl _) _).alloc (by simp) _).alloc (by simp <;> omega) _, by simp⟩
    have h := (Boxed.new (w.alloc (.cells #[.int .i64 K, .int .i64 A, .int .i64 T, .int .i64 E, .slice la ln lc, .slice ma mn mc] 55)) 80 (.slice none 0 0)).alloc (.cells #[.int .i64 K, .int .i64 A, .int .i64 T, .int .i64 E, .slice la ln lc, .slice ma mn mc] 55)
    rw [World.size_alloc] at h
    exact h)
  have hcB : ∀ j, W0.cell? ⟨w.heap.size + 1 + 1, j, none⟩ = (#[.int .i64 K, .int .i64 A, .int .i64 T, .int .i64 E, .slice la ln lc, .slice ma mn mc] : Array Value)[j]? := by
    intro j
    rw [← hW0, show w.heap.size + 1 + 1 = ((w.alloc (.cells #[.int .i64 K, .int .i64 A, .int .i64 T, .int .i64 E, .slice la ln lc, .slice ma mn mc] 55)).alloc (.cells #[.slice none 0 0] 80)).heap.size by simp]
    exact World.cell?_alloc_mark _ _ _ _ _
  have hz0 : W0.heap.size = w.heap.size + 3 := by rw [← hW0]; simp
  rw [hW0]
  clear hW0
  have hst := tg_stopsB K A T E la ln lc ma mn mc (w.heap.size + 1 + 1) 8 W0 hcB
  clear hcB
  refine wpIn_rangeFunc_ownH rfl (by omega) (gf := 80) (lb := #[.pointer (some ⟨w.heap.size + 1 + 1, 0, none⟩)]) rfl trivial (enters_of Tryd.func80 (by kernel_rfl) rfl) hst KeptT.trans ?hKb (Below.refl _ _) (fun x => by cases x <;> rfl)
    (fun pre W => ∃ v l, TgtSt w W v l (pre.map (tgB T E L M)) ∧ pre.length ≤ 2)
    (fun _ _ _ => False) ?hI (fun _ _ _ _ _ hs _ _ => hs) ⟨_, _, HS0.out, by simp⟩
    (fun x a' W => ∃ p t xa xn xc v0, encB T E la ln lc ma mn mc x = #[.agg #[.int .i64 t, .slice xa xn xc]] ∧ TgBox (w.heap.size + 3) p (t, xa, xn, xc) W ∧ Boxed W (w.heap.size + 1) 80 v0 ∧ v0.ownBlock ≠ some p ∧ a' = { tmps := #[.agg #[.int .i64 K, .int .i64 A, .int .i64 T, .int .i64 E, .slice la ln lc, .slice ma mn mc], .pointer (some ⟨w.heap.size, 0, none⟩), .slice none 0 0, .pointer (some ⟨w.heap.size + 1, 0, none⟩), .pointer (some ⟨p, 0, none⟩), .agg #[.int .i64 K, .int .i64 A, .int .i64 T, .int .i64 E, .slice la ln lc, .slice ma mn mc], .func (.func 80) #[] #[.pointer (some ⟨w.heap.size + 1 + 1, 0, none⟩)], .agg #[.int .i64 t, .slice xa xn xc], undef, undef, undef, undef, undef, undef, undef, undef, undef, undef], defers := [] })
    ?hAx ?assign ?body ?done ?stop
  case hKb => exact keptT_putObj (n0 := W0.heap.size) (by omega)
  case hI => rintro pre W W' row ⟨v, l, hS, hl⟩ hg hr; exact ⟨v, l, hS.grown hg (fun r e => by rw [← hz0]; exact hr r e), hl⟩
  case hAx => rintro x a' _ W W' row ⟨p, t, xa, xn, xc, v0, hx, hp, hb0, hn0, rfl⟩ hg hr; exact ⟨p, t, xa, xn, xc, v0, hx, hp.grown hg (fun r e => (hr r e).2), Boxed.grownRow hb0 hg (fun r e => (hr r e).2), hn0, rfl⟩
  case assign =>
    rintro l pre x W K' ⟨v, l2, hS, hl⟩ hK
    obtain ⟨t, xa, xn, xc, Z, hx, _⟩ := HX.out x
    have HXE := Lib.hid hx
    rw [hx]
    have HS := Lib.hid hS
    clear hS hx
    gi_wp2
    refine hK _ _ (KeepsOthers.alloc _ _ |>.from _) (KeptT.alloc _ (by have := HS.out.siz; omega)) ⟨v, l2, HS.out.alloc _, hl⟩ ⟨_, t, xa, xn, xc, v, HXE.out, ⟨HS.out.siz, heap_alloc_new W _⟩, (HS.out.alloc _).box, (fun e => by obtain ⟨_, h, _⟩ := ownT_block HS.out.own e; have := (Array.getElem?_eq_some_iff.1 h).1; omega), rfl⟩
  case body =>
    rintro l pre x a' W hl0 _ ⟨v, l2, hS, hl⟩ ⟨p, t, xa, xn, xc, v0, hxe, hp, hb0, hn0, rfl⟩ hlen
    have HS := Lib.hid hS
    have HNE : RowKit.Hid (v.ownBlock ≠ some p) := Lib.hid (by have h1 := hb0; have h2 := hS.box; unfold Boxed at h1 h2; rw [h1] at h2; cases h2; exact hn0)
    clear hb0 hn0
    have HL2 : RowKit.Hid (pre.length < 2) := Lib.hid (by have := HTL.out; omega)
    obtain ⟨t2, xa2, xn2, xc2, Z, hx2, htg, hat, hnil, hxn⟩ := HX.out x
    rw [hxe] at hx2
    simp at hx2
    obtain ⟨rfl, rfl, rfl, rfl⟩ := hx2
    have HTG := Lib.hid htg
    have HNIL := Lib.hid hnil
    have HAT : RowKit.Hid (NumsAt W xa xn Z) := Lib.hid (hat.since (HS.out.bel))
    have HLL : RowKit.Hid (l2.length ≤ 2) := Lib.hid (by have := hS.cop.len; rw [List.length_map] at this; omega)
    have hpc0 : W.cell? ⟨p, 0, none⟩ = some (.int .i64 t) := by simp [World.cell?, hp.2]
    have hpc1 : W.cell? ⟨p, 1, none⟩ = some (.slice xa xn xc) := by simp [World.cell?, hp.2]
    have hplt : p < W.heap.size := (Array.getElem?_eq_some_iff.1 hp.2).1
    have HS1 : RowKit.Hid (∀ u, Below W.heap.size W u → (fun u : World => u.cell? ⟨w.heap.size + 1, 0, none⟩ = some v ∧ u.cell? ⟨p, 0, none⟩ = some (.int .i64 t) ∧ u.cell? ⟨p, 1, none⟩ = some (.slice xa xn xc)) u) := Lib.hid fun u hb => ⟨(hb.cell (p := ⟨w.heap.size + 1, 0, none⟩) HS.out.box.lt).trans HS.out.box.cell, (hb.cell (p := ⟨p, 0, none⟩) hplt).trans hpc0, (hb.cell (p := ⟨p, 1, none⟩) hplt).trans hpc1⟩
    have HPP : RowKit.Hid (TgBox (w.heap.size + 3) p (t, xa, xn, xc) W) := Lib.hid hp
    have HXN := Lib.hid hxn
    clear hS hl hlen hp hat hnil htg hpc0 hpc1 hplt hxe hxn
    gi_wp2_with fail
    refine wpIn_region_calm (by kernel_rfl) ?_ ?_ (wpAny_of_Z (S := fun u : World => u.cell? ⟨w.heap.size + 1, 0, none⟩ = some v ∧ u.cell? ⟨p, 0, none⟩ = some (.int .i64 t) ∧ u.cell? ⟨p, 1, none⟩ = some (.slice xa xn xc)) (z := 9) _ _ _ _ ?_)
    · kernel_rfl
    · rintro ⟨_, _, h⟩; exact h
    have hHeld := HS1.out _ (Below.refl _ _).drew
    refine wpAnyZ_take (i := 0) (oi := ⟨some 8, _, _, _, _, _⟩) (v := ?_) rfl (by kernel_rfl) (by kernel_rfl) (by kernel_rfl) (by kernel_rfl) (fun _ _ _ h => h) (Or.inl ⟨by rfl, ?_⟩) (by assumption) ?_
    rotate_left
    · ((intro w hSw; (try dsimp only at hSw); go_simp); try with_reducible rfl)
    (try simp only [Act.put, List.setIfInBounds_toArray, List.set_cons_zero, List.set_cons_succ])
    refine wpAnyZ_take (i := 1) (oi := ⟨some 9, _, _, _, _, _⟩) (v := ?_) rfl (by kernel_rfl) (by kernel_rfl) (by kernel_rfl) (by kernel_rfl) (fun _ _ _ h => h) (Or.inl ⟨by rfl, ?_⟩) (by assumption) ?_
    rotate_left
    · ((intro w hSw; (try dsimp only at hSw); go_simp); try with_reducible rfl)
    (try simp only [Act.put, List.setIfInBounds_toArray, List.set_cons_zero, List.set_cons_succ])
    refine wpAnyZ_take (i := 2) (oi := ⟨some 10, _, _, _, _, _⟩) (v := ?_) rfl (by kernel_rfl) (by kernel_rfl) (by kernel_rfl) (by kernel_rfl) (fun _ _ _ h => h) (Or.inl ⟨by rfl, ?_⟩) (by assumption) ?_
    rotate_left
    · ((intro w hSw; (try dsimp only at hSw); go_simp); try with_reducible rfl)
    (try simp only [Act.put, List.setIfInBounds_toArray, List.set_cons_zero, List.set_cons_succ])
    refine wpAnyZ_take (i := 3) (oi := ⟨some 11, _, _, _, _, _⟩) (v := ?_) rfl (by kernel_rfl) (by kernel_rfl) (by kernel_rfl) (by kernel_rfl) (fun _ _ _ h => h) (Or.inl ⟨by rfl, ?_⟩) (by assumption) ?_
    rotate_left
    · ((intro w hSw; (try dsimp only at hSw); go_simp); try with_reducible rfl)
    (try simp only [Act.put, List.setIfInBounds_toArray, List.set_cons_zero, List.set_cons_succ])
    refine wpAnyZ_take (i := 4) (oi := ⟨some 12, _, _, _, _, _⟩) (v := ?_) rfl (by kernel_rfl) (by kernel_rfl) (by kernel_rfl) (by kernel_rfl) (fun _ _ _ h => h) (Or.inl ⟨by rfl, ?_⟩) (by assumption) ?_
    rotate_left
    · ((intro w hSw; (try dsimp only at hSw); go_simp); try with_reducible rfl)
    (try simp only [Act.put, List.setIfInBounds_toArray, List.set_cons_zero, List.set_cons_succ])
    refine wpAnyZ_one (i := 5) (by kernel_rfl) rfl (fun K hK => ?_)
    refine step_append_nums (by rfl) _ _ 34 (by rfl) 3 Tryd.underlying34 info_int (w.heap.size + 3) (.slice none 0 0) [] (by rfl) (World.ownsRow_nil _ _ _ 1) (by have := HS.out.siz; exact this) xa xn xc Z (by rfl) HNIL.out (HAT.out.drewN 1) (by have := HXN.out; simp; omega) ?_; intro ya yn yc w5 hown5 hg5
    have hB5 : Below W.heap.size W w5 := Below.grown (Below.refl _ _).drew hg5 (Nat.le_refl _) (fun k e => by cases e)
    have HB5 := Lib.hid hB5
    have HO5 := Lib.hid hown5
    clear hown5 hB5 hg5
    refine hK.out _ _ (HS1.out _ HB5.out) (fun hHeld => ?_)
    clear hK K
    (try simp only [Act.put, List.setIfInBounds_toArray, List.set_cons_zero, List.set_cons_succ])
    refine wpAnyZ_take (i := 6) (oi := ⟨some 14, _, _, _, _, _⟩) (v := ?_) rfl (by kernel_rfl) (by kernel_rfl) (by kernel_rfl) (by kernel_rfl) (fun _ _ _ h => h) (Or.inl ⟨by rfl, ?_⟩) (by assumption) ?_
    rotate_left
    · ((intro w hSw; (try dsimp only at hSw); go_simp); try with_reducible rfl)
    (try simp only [Act.put, List.setIfInBounds_toArray, List.set_cons_zero, List.set_cons_succ])
    refine wpAnyZ_one (i := 7) (by kernel_rfl) rfl (fun K hK => ?_)
    rw [if_pos (by rfl)]
    go_simp
    refine hK.out _ _ (HS1.out _ (HB5.out.alloc HB5.out.size _)) (fun hHeld => ?_)
    clear hK K
    (try simp only [Act.put, List.setIfInBounds_toArray, List.set_cons_zero, List.set_cons_succ])
    refine wpAnyZ_one (i := 8) (by kernel_rfl) rfl (fun K hK => ?_)
    refine step_append_tg (u := w5) (by rfl) _ _ (by rfl) (w.heap.size + 3) v l2 (by rfl) (OwnsT.below HS.out.own HB5.out) (by have := HS.out.siz; have := HB5.out.size; omega) _ 1 _ (t, ya, yn, yc) (by rfl) rfl rfl (by have := HLL.out; omega) ?_; intro va vn vc w6 hown6 hg6
    have HPU := Lib.hid (tgt_push HS.out HB5.out (t := (t, Z)) ⟨rfl, HO5.out⟩ hg6 hown6)
    have hS6 : (fun u : World => u.cell? ⟨w.heap.size + 1, 0, none⟩ = some v ∧ u.cell? ⟨p, 0, none⟩ = some (.int .i64 t) ∧ u.cell? ⟨p, 1, none⟩ = some (.slice xa xn xc)) w6 := by
      have hb6 := HPU.out.2.2.2
      have hU := HB5.out.alloc HB5.out.size (.cells #[.int .i64 t, .slice ya yn yc] 83)
      have hoff : Off (fun k => v.ownBlock = some k) W w6 := (Off.since hU).grown hg6 (fun k hk => .inl hk)
      have hne : ¬ v.ownBlock = some p := HNE.out
      exact ⟨hb6.cell, (hoff.cell (p := ⟨p, 0, none⟩) (Array.getElem?_eq_some_iff.1 HPP.out.2).1 hne).trans (HS1.out _ (Below.refl _ _)).2.1, (hoff.cell (p := ⟨p, 1, none⟩) (Array.getElem?_eq_some_iff.1 HPP.out.2).1 hne).trans (HS1.out _ (Below.refl _ _)).2.2⟩
    have hc6 := HPU.out.2.2.2.cell
    have hf6 := HPU.out.2.2.2.frozen
    clear hown6 hg6
    refine hK.out _ _ hS6 (fun hHeld => ?_)
    clear hK K
    (try simp only [Act.put, List.setIfInBounds_toArray, List.set_cons_zero, List.set_cons_succ])
    refine wpAnyZ_last (by kernel_rfl) rfl (by kernel_rfl) (fun K hK => ?_)
    rw [if_pos (by rfl)]
    go_simp
    refine hK.out _ _ ?_
    clear hK K
    (try simp only [Act.put, List.setIfInBounds_toArray, List.set_cons_zero, List.set_cons_succ])
    have hge : ∀ i, PushX (w.heap.size + 1) v i → w.heap.size ≤ i := fun i hi => by
      rcases hi with rfl | hi
      · omega
      · obtain ⟨_, _, h⟩ := ownT_block HS.out.own hi; omega
    refine ⟨HPU.out.2.1.from _, KeptT.off HPU.out.2.2.1 HPU.out.2.1 (by have := HS.out.siz; omega) (fun hi => ?_), _, _, (by rw [List.map_append, List.map_cons, List.map_nil, HTG.out]; exact HPU.out.1), by simp; have := HL2.out; omega⟩
    rcases hi with hi | hi
    · omega
    · obtain ⟨_, _, h⟩ := ownT_block HS.out.own hi; omega
  case done =>
    rintro D ys W hD rfl ⟨v, l, hS, hl⟩ hK
    have hv := Boxed.cell hS.box
    have hvf := Boxed.frozen hS.box
    obtain ⟨va, vn, vc, rfl⟩ : ∃ va vn vc, v = .slice va vn vc := by
      rcases hS.own.2 with ⟨e, _⟩ | ⟨_, _, _, e, _⟩
      · exact ⟨_, _, _, e⟩
      · exact ⟨_, _, _, e⟩
    have HS := Lib.hid hS
    clear hS
    gi_wp2
    refine ⟨by simp, .inl ⟨_, _, rfl, run_takeDeferred hK, ?_⟩⟩
    have hg := HS.out.grown (grownBy_putObj' W D (.deferred none)) (fun r e' => by cases e'; exact ⟨by omega, _, hK, rfl⟩)
    rw [HFST.out] at hg
    exact ⟨_, results_tmp rfl _ _ _, va, vn, vc, l, rfl, hg.own.mono (by omega), hg.cop.all (fun x t hx => ⟨hx.1, hx.2.mono (by omega)⟩), hg.bel⟩
  case stop =>
    rintro D c pre W _ _ h _
    exact h.elim
end Go.Proofs.YtdchhfdmingnaaaDoor
