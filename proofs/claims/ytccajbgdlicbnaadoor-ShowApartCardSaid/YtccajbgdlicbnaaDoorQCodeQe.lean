/- Layer 5: the document's End, of an end: without what plays no part. -/
import Derived.Test.YtccajbgdlicbnaaDoorQKindPlainR
import Derived.Test.YtccajbgdlicbnaaDoorQT3
import Derived.Deep.RegionLaw
import Derived.Deep.AppendLies
import Derived.Deep.DeepCutAuto
namespace Go.Proofs.YtccajbgdlicbnaaDoor
open Go.RowKit (wrap64 intOf Below)
set_option linter.unusedVariables false
set_option linter.unusedSimpArgs false

/-- 'append([]int{}, x...)' as a step of a region: what comes is the call's own. -/
theorem step_copy_own {P : Program} {u : World} {ops : Array Oper} {o : Oper} {a : Act} {K : Act → World → Prop} {Q : Exit → Act → World → Prop} {E : Prop} (hgd : o.guard = none) (s x : Operand) (t : TypeId)
    (ho : o.op = .call { callee := .builtin .append, args := #[s, x], argTypes := #[t, t] }) (e : TypeId) (ht : P.underlying t = some (.slice e))
    (hinfo : (P.info? e).map (fun i => (i.zero, i.size, i.bytes)) = some (some (.int .i64 0), 1, 8))
    (B : Nat) (b : Addr) (hs : a.eval s = .slice (some b) 0 0) (hown : OwnsI u B e (.slice (some b) 0 0) []) (hB : B ≤ u.heap.size)
    (xa : Option Addr) (m c : Nat) (Z : List Int) (hx : a.eval x = .slice xa m c) (hnil : xa = none → c = 0) (hat : NumsAt u xa m Z) (hl : m * 8 ≤ 140737488355328)
    (h : ∀ va vn vc w', OwnsI w' B e (.slice va vn vc) Z → Below B u w' → K (a.put o.dst (.slice va vn vc)) w') :
    if Region.wanted o (yielded ops a.tmps) = true then Oper.wp P o a u K Q else E := by
  obtain ⟨i0, hi, hz0, hz1, hz2⟩ := info_parts hinfo
  have h1 := hat.1
  by_cases h0 : 0 < m
  · obtain ⟨g, off, rfl, hg, hcell⟩ := hat.2 h0
    subst h1
    refine step_append_lies u hgd s x t ho B e i0 (.int .i64 0) 1 8 ht hi hz0 hz1 hz2 rfl (by decide) (.slice (some b) 0 0) 0 [] hs hown ⟨g, off, none⟩ Z.length c (Z.map numV) hx (by simp) (fun j z hz => ?_) (fun y hy => by obtain ⟨z, _, rfl⟩ := List.mem_map.1 hy; rfl) h0 (by unfold maxLen; omega) (by omega) hB u.heap.size rfl ?_
    · rw [List.getElem?_map] at hz
      obtain ⟨y, hy, rfl⟩ := Option.map_eq_some_iff.1 hz
      obtain ⟨hj, rfl⟩ := List.getElem?_eq_some_iff.1 hy
      rw [addr_plain]
      exact hcell j hj
    · intro g' cap w' hown' hgrow _ _
      refine h _ _ _ w' ?_ (Below.grown (Below.refl B u) hgrow hB (fun k hk => (hown.lt k hk).1))
      show w'.ownsRow B e 1 _ Z.length (Z.map numV)
      simpa using hown'
  · obtain rfl : m = 0 := by omega
    have hZ := List.eq_nil_of_length_eq_zero h1
    subst hZ
    have hw : Region.wanted o (yielded ops a.tmps) = true := by simp [Region.wanted, hgd]
    rw [if_pos hw]
    have hrun : (Builtin.append_ #[t, t] o.type #[.slice (some b) 0 0, .slice xa 0 c]).run P u = .ok (.slice (some b) 0 0) u := by
      cases xa with
      | none =>
        obtain rfl := hnil rfl
        simp [Builtin.append_, run_underlying ht, sizeOf, typeInfo, hi, Builtin.lenOf, Builtin.firstCells, storeCells]
      | some ad => simp [Builtin.append_, run_underlying ht, sizeOf, typeInfo, hi, Builtin.lenOf, Builtin.firstCells, storeCells, loadCells, loadCellsFrom]
    unfold Oper.wp
    simp [execOp, ho, resolve, invoke, builtin, hs, hx, hrun, Result.andThen]
    exact h (some b) 0 0 u hown (Below.refl _ _)

/-- Three blocks that the call has laid. -/
structure Laid3 (w : World) (t : TypeId) (C0 C1 C2 : Array Value) (u : World) : Prop where
  bel : Below w.heap.size w u
  b0 : u.heap[w.heap.size]? = some (.cells C0 t (0, 0))
  b1 : u.heap[w.heap.size + 1]? = some (.cells C1 t (0, 0))
  b2 : u.heap[w.heap.size + 2]? = some (.cells C2 t (0, 0))
  size : w.heap.size + 3 ≤ u.heap.size
section
variable {w : World} {t : TypeId} {C0 C1 C2 : Array Value} {u u' : World}
theorem Laid3.start (w : World) (t : TypeId) (C0 C1 C2 : Array Value) : Laid3 w t C0 C1 C2 (((w.alloc (.cells C0 t)).alloc (.cells C1 t)).alloc (.cells C2 t)) := by
  have h1 : (w.alloc (.cells C0 t)).heap.size = w.heap.size + 1 := by simp
  have h2 : ((w.alloc (.cells C0 t)).alloc (.cells C1 t)).heap.size = w.heap.size + 2 := by simp
  refine ⟨(((Below.refl _ _).alloc (Nat.le_refl _) _).alloc (by omega) _).alloc (by omega) _, ?_, ?_, ?_, by simp⟩
  · exact (heap_alloc_old _ _ (by omega)).trans ((heap_alloc_old _ _ (by omega)).trans (heap_alloc_new w _))
  · exact (heap_alloc_old _ _ (by omega)).trans (by rw [← h1]; exact heap_alloc_new _ _)
  · rw [← h2]; exact heap_alloc_new _ _
theorem Laid3.step {B : Nat} (h : Laid3 w t C0 C1 C2 u) (hb : Below B u u') (hB : w.heap.size + 3 ≤ B) : Laid3 w t C0 C1 C2 u' :=
  ⟨h.bel.trans (hb.mono (by omega)), (hb.block _ (by omega)).trans h.b0, (hb.block _ (by omega)).trans h.b1, (hb.block _ (by omega)).trans h.b2, Nat.le_trans h.size hb.size⟩
theorem Laid3.drew (h : Laid3 w t C0 C1 C2 u) : Laid3 w t C0 C1 C2 u.drew := ⟨h.bel.drew, h.b0, h.b1, h.b2, h.size⟩
theorem Laid3.set (h : Laid3 w t C0 C1 C2 u) (j : Nat) (v : Value) : Laid3 w t C0 C1 (C2.setIfInBounds j v) (u.setCell ⟨w.heap.size + 2, j, none⟩ v) := by
  refine ⟨h.bel.setCell (by simp) _, ?_, ?_, ?_, by simp [World.setCell]; exact h.size⟩
  · rw [Below.heap_setCell _ _ _ _ (by simp)]; exact h.b0
  · rw [Below.heap_setCell _ _ _ _ (by simp)]; exact h.b1
  · simp only [World.setCell, Array.getElem?_modify, if_pos, h.b2]
    simp
theorem Laid3.c0 (h : Laid3 w t C0 C1 C2 u) (j : Nat) : u.cell? ⟨w.heap.size, j, none⟩ = C0[j]? := by simp [World.cell?, h.b0]
theorem Laid3.c1 (h : Laid3 w t C0 C1 C2 u) (j : Nat) : u.cell? ⟨w.heap.size + 1, j, none⟩ = C1[j]? := by simp [World.cell?, h.b1]
theorem Laid3.c2 (h : Laid3 w t C0 C1 C2 u) (j : Nat) : u.cell? ⟨w.heap.size + 2, j, none⟩ = C2[j]? := by simp [World.cell?, h.b2]
theorem Laid3.f1 (h : Laid3 w t C0 C1 C2 u) (j : Nat) : u.frozen? ⟨w.heap.size + 1, j, none⟩ = false := by simp [World.frozen?, h.b1]
theorem Laid3.f2 (h : Laid3 w t C0 C1 C2 u) (j : Nat) : u.frozen? ⟨w.heap.size + 2, j, none⟩ = false := by simp [World.frozen?, h.b2]
end
theorem NumsO.own {w' : World} {B : Nat} {va : Option Addr} {vn vc : Nat} {Z : List Int} (h : OwnsI w' B 3 (.slice va vn vc) Z) (hn : Z.length * 8 ≤ 140737488351232) (hr : ∀ z ∈ Z, InR z) : NumsO w' (From B) (.slice va vn vc) Z := h.numsO hn hr

/-- What was made before stays behind what came since, and two stores into a block of the call's. -/
theorem nums_since3 {w W w5 : World} {va : Option Addr} {vn vc : Nat} {Z : List Int} (h : OwnsI W (w.heap.size + 3) 3 (.slice va vn vc) Z) (hn : Z.length * 8 ≤ 140737488351232) (hr : ∀ z ∈ Z, InR z) (hb : Below W.heap.size W.drew w5) (i j : Nat) (x y : Value) :
    NumsO ((w5.setCell ⟨w.heap.size + 1 + 1, i, none⟩ x).setCell ⟨w.heap.size + 1 + 1, j, none⟩ y) (From (w.heap.size + 3)) (.slice va vn vc) Z := by
  have h1 : OwnsI w5 (w.heap.size + 3) 3 (.slice va vn vc) Z := ownsRow_heap h (fun b _ hlt => (hb.block b hlt).trans rfl)
  exact ((h1.setCell _ x (by simp)).setCell _ y (by simp)).numsO hn hr

set_option maxRecDepth 100000 in
set_option maxHeartbeats 4000000 in
theorem ref_end0 (k x t l : Int) (a b : Option Addr) (n c m d : Nat) (y : EndD) (w : World) (h : EndQ w [.int .i64 k, .int .i64 x, .int .i64 t, .int .i64 l, .slice a n c, .slice b m d] y) (hk : k = 0) :
    Calls Tryd.prog 66 #[.agg #[.int .i64 k, .int .i64 x, .int .i64 t, .int .i64 l, .slice a n c, .slice b m d]] w (EndPost y w) := by
  obtain ⟨p, q, he, rk, rx, rt, rl, ⟨_, _, _, hp0, hp1, hp2, hp3, hp4⟩, ⟨_, _, _, hq0, hq1, hq2, hq3, hq4⟩⟩ := h
  simp only [List.cons.injEq, Value.int.injEq, true_and, and_true] at he
  obtain ⟨e1, e2, e3, e4, rfl, rfl⟩ := he
  cases hp0
  cases hq0
  have HRK : RowKit.Hid (InR k) := Lib.hid (by rw [e1]; exact rk)
  have HRX : RowKit.Hid (InR x) := Lib.hid (by rw [e2]; exact rx)
  have HRT : RowKit.Hid (InR t) := Lib.hid (by rw [e3]; exact rt)
  have HRL : RowKit.Hid (InR l) := Lib.hid (by rw [e4]; exact rl)
  have HP1 := Lib.hid hp1
  have HP2 := Lib.hid hp2
  have HP4 := Lib.hid hp4
  have HQ1 := Lib.hid hq1
  have HQ2 := Lib.hid hq2
  have HQ4 := Lib.hid hq4
  have HPL := Lib.hid hp1.1
  have HQL := Lib.hid hq1.1
  clear hp1 hp2 hp4 hq1 hq2 hq4 rk rx rt rl
  have HE : RowKit.Hid (plainEnd y = ⟨k, 0, t, 0, y.L, []⟩) := Lib.hid (by unfold plainEnd; rw [if_pos (by rw [← e1]; exact hk), e1, e3])
  clear e1 e2 e3 e4
  subst hk
  go_enter Tryd.func66, Tryd.ntmps66
  go_upto_region 5 with fail
  have hl := Laid3.start w 46 #[.int .i64 0, .int .i64 x, .int .i64 t, .int .i64 l, .slice a n c, .slice b m d] #[.int .i64 0, .int .i64 0, .int .i64 0, .int .i64 0, .slice none 0 0, .slice none 0 0] #[.int .i64 0, .int .i64 0, .int .i64 0, .int .i64 0, .slice none 0 0, .slice none 0 0]
  generalize hW : (((w.alloc (.cells #[.int .i64 0, .int .i64 x, .int .i64 t, .int .i64 l, .slice a n c, .slice b m d] 46)).alloc (.cells #[.int .i64 0, .int .i64 0, .int .i64 0, .int .i64 0, .slice none 0 0, .slice none 0 0] 46)).alloc (.cells #[.int .i64 0, .int .i64 0, .int .i64 0, .int .i64 0, .slice none 0 0, .slice none 0 0] 46)) = W at hl ⊢
  clear hW
  have hi2 : W.cell? ⟨w.heap.size, 2, none⟩ = some (.int .i64 t) := hl.c0 2
  have hi4 : W.cell? ⟨w.heap.size, 4, none⟩ = some (.slice a n c) := hl.c0 4
  have hz := hl.size
  have hlt : w.heap.size < W.heap.size := by omega
  have HL := Lib.hid hl
  clear hl
  go_cut [31] (fun tc wc => RowKit.Hid (∃ va vn vc, OwnsI wc (w.heap.size + 3) 3 (.slice va vn vc) y.L ∧ Laid3 w 46 #[.int .i64 0, .int .i64 x, .int .i64 t, .int .i64 l, .slice a n c, .slice b m d] #[.int .i64 0, .int .i64 0, .int .i64 0, .int .i64 0, .slice none 0 0, .slice none 0 0] #[.int .i64 0, .int .i64 0, .int .i64 t, .int .i64 0, .slice va vn vc, .slice none 0 0] wc))
  case first =>
    go_region_law (refine step_copy_own rfl (.tmp 28) (.tmp 30) 39 rfl 3 Tryd.underlying39 info_int W.heap.size ⟨W.heap.size, 0, none⟩ (by simp [Act.eval, Act.put]) (OwnsI.laid (by simp) (Nat.le_refl _)) (by simp) a n c y.L (by simp [Act.eval, Act.put]) HP2.out (HP1.out.below ((HL.out.bel.drew).alloc (by simp; omega) _) (Nat.le_refl _)) (by omega) ?_; intro va vn vc w5 hown5 hb5; have hb6 := ((Below.refl W.heap.size W.drew).alloc (by simp) (.cells #[] 3)).trans hb5; have hl5 := HL.out.drew.step hb6 (by omega); have hm2 : w5.cell? ⟨w.heap.size + 1 + 1, 2, none⟩ = some (.int .i64 0) := hl5.c2 2; have hm4 : w5.cell? ⟨w.heap.size + 1 + 1, 4, none⟩ = some (.slice none 0 0) := hl5.c2 4; have hn2 : w5.frozen? ⟨w.heap.size + 1 + 1, 2, none⟩ = false := hl5.f2 2; have hn4 : w5.frozen? ⟨w.heap.size + 1 + 1, 4, none⟩ = false := hl5.f2 4; have hj2 : w5.cell? ⟨w.heap.size, 2, none⟩ = some (.int .i64 t) := hl5.c0 2; have hj4 : w5.cell? ⟨w.heap.size, 4, none⟩ = some (.slice a n c) := hl5.c0 4)
    all_goals
      have hl6 := (hl5.set 2 (.int .i64 t)).set 4 (.slice va vn vc)
      have ho6 := ((hown5.mono (B' := w.heap.size + 3) (by omega)).setCell ⟨w.heap.size + 1 + 1, 2, none⟩ (.int .i64 t) (by simp)).setCell ⟨w.heap.size + 1 + 1, 4, none⟩ (.slice va vn vc) (by simp)
      go_wp2_with fail
      go_meet
      exact Lib.hid ⟨va, vn, vc, ho6, hl6⟩
  case rest =>
    obtain ⟨va, vn, vc, ho, hl⟩ := hcut.out
    clear hcut hi2 hi4 HL hz hlt
    have hk0 : wc.cell? ⟨w.heap.size, 0, none⟩ = some (.int .i64 0) := hl.c0 0
    have hr := hl.c1
    have hfr := hl.f1
    have hs := hl.c2
    have HL6 := Lib.hid hl
    have HO6 := Lib.hid ho
    clear hl ho
    go_wp2_with fail
    refine bodyPost_ret (v := .agg #[.int .i64 0, .int .i64 0, .int .i64 t, .int .i64 0, .slice va vn vc, .slice none 0 0]) (by simp [results, Tryd.results66, go_sem, hr, hs]) rfl ⟨_, _, _, _, _, _, _, _, _, _, rfl, ?_, ((((((HL6.out.bel).setCell (by simp) _).setCell (by simp) _).setCell (by simp) _).setCell (by simp) _).setCell (by simp) _).setCell (by simp) _⟩
    rw [HE.out]
    exact ⟨_, _, rfl, HRK.out, InR.zero, HRT.out, InR.zero, ((NumsO.own HO6.out (by rw [HPL.out]; omega) HP4.out).wider (S' := From (w.heap.size + 2)) (fun b _ hb => Nat.le_trans (by omega) hb)).past (((((((Off.refl (fun b => b = w.heap.size + 1) _).setCell (.inl rfl) _).setCell (.inl rfl) _).setCell (.inl rfl) _).setCell (.inl rfl) _).setCell (.inl rfl) _).setCell (.inl rfl) _), NumsO.none _ _⟩
end Go.Proofs.YtccajbgdlicbnaaDoor
