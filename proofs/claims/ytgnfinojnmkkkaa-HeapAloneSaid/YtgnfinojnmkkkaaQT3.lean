/- Layer 10: package heap's Set, and Object. -/
import Derived.Test.YtgnfinojnmkkkaaQHeapRE
import Derived.Lib.SliceRun
namespace Go.Proofs.Ytgnfinojnmkkkaa
open Go.RowKit (wrap64 intOf Below)
set_option linter.unusedVariables false
set_option linter.unusedSimpArgs false

def SetPost (W : World) (B cap : Nat) (M : PM) (G : GM) (r j : Int) (v : VV) (e : Ending) (w' : World) : Prop := e = .returned (.int .i64 (setM M r j v).2) ∧ ∃ G', MemAt w' B (cap + 1) (setM M r j v).1 G' ∧ G'.p = G.p ∧ Below B W w' ∧ Sep W w' G.ρ G'.ρ ∧ (FmAt M G → FmAt (setM M r j v).1 G')
section
variable {W u w' : World} {B cap : Nat} {M : PM} {G : GM}
theorem MemAt.putRow (h : MemAt u B cap M G) {i : Nat} (h1 : i < M.objs.length) (h2 : i < G.gos.length) (ht : M.objs[i].tab = false) {j : Int} {v : VV} {g' : GO} (hs : RowSt u w' B cap G.ρ i M.objs[i] G.gos[i] g' j v) : ∃ G', MemAt w' B (cap + 1) {M with objs := M.objs.set i (rowUp M.objs[i] j v)} G' ∧ G'.p = G.p ∧ Below B u w' ∧ Sep u w' G.ρ G'.ρ ∧ (FmAt M G → FmAt {M with objs := M.objs.set i (rowUp M.objs[i] j v)} G') :=
  ⟨_, h.setBody h1 h2 (o' := rowUp M.objs[i] j v) (g' := g') (ρ' := G.ρ) rfl rfl hs.ptr hs.q (by
    have e : (rowUp M.objs[i] j v).tab = false := ht
    unfold BodyAt
    rw [e]
    exact hs.rw) (Ex.refl _) (fun b r hr => .inl hr) hs.kp hs.bel.size (Nat.le_succ _), rfl, hs.bel, ⟨hs.off, fun b r hr => .inl ⟨r, hr⟩⟩, fun hf => FmAt.body (o := rowUp M.objs[i] j v) hf h1 h2 rfl hs.ptr⟩
end
set_option maxRecDepth 100000 in
set_option maxHeartbeats 1000000 in
theorem mset_any {W : World} {B cap : Nat} {M : PM} {G : GM} (h : MemAt W B cap M G) (hcap : cap ≤ 1099511627776) (r j : Int) (v : VV) (hr : -9223372036854775808 ≤ r ∧ r ≤ 9223372036854775807) :
    Calls Try.prog 34 #[.pointer (some ⟨G.p, 0, none⟩), .int .i64 r, .int .i64 j, .agg #[.int .i64 v.1, .string v.2.1, .int .i64 v.2.2]] W (SetPost W B cap M G r j v) := by
  have HB0 : RowKit.Hid (B ≤ W.heap.size) := Lib.hid (by have := h.plt; omega)
  obtain ⟨U, hU⟩ : ∃ U, W.alloc (.cells #[.int .i64 v.1, .string v.2.1, .int .i64 v.2.2] 24) = U := ⟨_, rfl⟩
  have b1 : Below W.heap.size W U := by rw [← hU]; exact (Below.refl _ W).alloc (Nat.le_refl _) _
  have hz1 : U.heap.size = W.heap.size + 1 := by rw [← hU]; simp
  have HBU := Lib.hid b1
  have hx1 : U.heap[W.heap.size]? = some (.cells #[.int .i64 v.1, .string v.2.1, .int .i64 v.2.2] 24 (0, 0)) := by rw [← hU]; exact World.alloc_heap_new _ _
  have HX : RowKit.Hid (∀ u, Below U.heap.size U u → u.cell? ⟨W.heap.size, 0, none⟩ = some (.int .i64 v.1) ∧ u.cell? ⟨W.heap.size, 1, none⟩ = some (.string v.2.1) ∧ u.cell? ⟨W.heap.size, 2, none⟩ = some (.int .i64 v.2.2)) := Lib.hid fun u hb => by
    have hx2 := (hb.block W.heap.size (by omega)).trans hx1
    exact ⟨by simp [World.cell?, hx2], by simp [World.cell?, hx2], by simp [World.cell?, hx2]⟩
  have h1 := h.since b1
  have HM1 := Lib.hid h1
  have CR := Lib.hid (row_any h1 hcap r j hr)
  by_cases ha : ansR M r j = 0
  · obtain ⟨i, k1, k2, hri, ho, ht, hbo, hT, hq, hres, hj0, hj1, hg⟩ := h1.rowOk ha
    rw [hres, ha] at CR
    have HS : RowKit.Hid (setM M r j v = ({M with objs := M.objs.set i (rowUp M.objs[i] j v)}, 0)) := Lib.hid (by unfold setM; rw [if_pos ha, ho]; rw [show (r - 1).toNat = i by omega])
    have CP : RowKit.Hid (∀ u, Below U.heap.size U u → Calls Try.prog 51 #[.pointer (some ⟨G.gos[i].q, 0, none⟩), .int .i64 j, .agg #[.int .i64 v.1, .string v.2.1, .int .i64 v.2.2]] u fun e w' => e = .returned (.tuple #[]) ∧ ∃ G', MemAt w' B (cap + 1) {M with objs := M.objs.set i (rowUp M.objs[i] j v)} G' ∧ G'.p = G.p ∧ Below B u w' ∧ Sep u w' G.ρ G'.ρ ∧ (FmAt M G → FmAt {M with objs := M.objs.set i (rowUp M.objs[i] j v)} G')) := Lib.hid fun u hb => by
      have hmu := h1.since hb
      obtain ⟨i', k1', k2', hri', _, ht', _, hT', hq', _, _, _, _⟩ := hmu.rowOk ha
      have e : i' = i := by omega
      subst e
      refine (rput_any hT' hq' hmu.range hcap j ⟨hj0, hj1⟩ v).mono fun e w' ⟨he, g', hs⟩ => ⟨he, hmu.putRow k1' k2' ht' hs⟩
    generalize G.gos[i] = g at *
    clear h h1 ha ho ht hbo hT hq hres hri b1 hx1 hj0 hj1 hg
    go_enter Try.func34, Try.ntmps34
    go_upto_region 1 with fail
    try rw [hU]
    clear hU
    go_wp2_with (first
      | (go_at_call 43; refine CR.out.mono ?_; rintro e u ⟨rfl, hb⟩; have HB := Lib.hid hb; have hx := HX.out _ hb; have e0 := hx.1; have e1 := hx.2.1; have e2 := hx.2.2; clear hb hx)
      | (go_at_call 51; (with_reducible refine (CP.out _ HB.out).mono ?_); rintro e u2 ⟨rfl, hG⟩; have HG := Lib.hid hG; clear hG))
    go_ret
    obtain ⟨G', g1, g2, g3, g4, g5⟩ := HG.out
    exact ⟨by rw [HS.out]; rfl, G', by rw [HS.out]; exact g1, g2, (HBU.out.mono HB0.out).trans ((HB.out.mono (by have := HB0.out; omega)).trans g3), (Sep.since HBU.out).trans ((Sep.since HB.out).trans g4), by rw [HS.out]; exact g5⟩
  · have HL : RowKit.Hid (setM M r j v = (M, ansR M r j)) := Lib.hid (by unfold setM; rw [if_neg ha])
    have HXX : RowKit.Hid (rowRes M G r j = .pointer none) := Lib.hid (by unfold rowRes; rw [if_neg ha])
    rw [HXX.out] at CR
    obtain ⟨x, hx⟩ : ∃ x, ansR M r j = x := ⟨_, rfl⟩
    have hxb : (x == 0) = false := by rw [← hx]; simpa using ha
    rw [hx] at CR HL
    clear h h1 ha hx b1 hx1
    go_enter Try.func34, Try.ntmps34
    go_upto_region 1 with fail
    try rw [hU]
    clear hU
    go_wp2_with (go_at_call 43; refine CR.out.mono ?_; rintro e u ⟨rfl, hb⟩; have HB := Lib.hid hb; clear hb)
    go_ret
    exact ⟨by rw [HL.out]; rfl, G, by rw [HL.out]; exact (HM1.out.since HB.out).mono (Nat.le_succ _), rfl, (HBU.out.mono HB0.out).trans (HB.out.mono (by have := HB0.out; omega)), (Sep.since HBU.out).trans (Sep.since HB.out), fun hf => by rw [HL.out]; exact hf⟩
/-! ## Object -/
theorem info_vv : (Try.prog.info? 24).map (fun i => (i.zero, i.size, i.bytes)) = some (some (.agg #[.int .i64 0, .string ⟨#[]⟩, .int .i64 0]), 3, 32) := by kernel_rfl
/-- 'append(l, x...)' of values. -/
theorem wpList_append_vals {P : Program} (w : World) {ops : Array Oper} {rest : List Oper} {o : Oper} {a : Act} {Q : Exit → Act → World → Prop} (hP : P = Try.prog) (hgd : o.guard = none) (s x : Operand)
    (ho : o.op = .call { callee := .builtin .append, args := #[s, x], argTypes := #[36, 36] })
    (B : Nat) (v : Value) (l1 : List VV) (hs : a.eval s = v) (hown : OwnsV w B v l1) (hB : B ≤ w.heap.size)
    (ad : Addr) (m c : Nat) (l2 : List VV) (hx : a.eval x = .slice (some ad) m c) (hl : l2.length = m) (hc : ∀ j y, (l2.flatMap vvL)[j]? = some y → w.cell? (ad.add j) = some y)
    (hlen : (l1.length + m) * 32 ≤ 140737488355328)
    (h : ∀ va vn vc w', OwnsV w' B (.slice va vn vc) (l1 ++ l2) → w.grownBy w' v.ownBlock → (∀ k, (Value.slice va vn vc).ownBlock = some k → v.ownBlock = some k ∨ w.heap.size ≤ k) → wpList P ops Q rest (a.put o.dst (.slice va vn vc)) w') : wpList P ops Q (o :: rest) a w := by
  subst hP
  obtain ⟨i0, hi, hz0, hz1, hz2⟩ := info_parts info_vv
  refine wpList_append_own_at _ hgd s x 36 ho B 24 i0 (.agg #[.int .i64 0, .string ⟨#[]⟩, .int .i64 0]) 3 32 Try.underlying36 hi hz0 hz1 hz2 rfl (by decide) v l1.length (l1.flatMap vvL) hs hown ad m c (l2.flatMap vvL) hx (by rw [flat_len vvL_len, hl]) hc (by
    intro y hy
    obtain ⟨z, _, hz⟩ := List.mem_flatMap.1 hy
    simp only [vvL, List.mem_cons, List.not_mem_nil, or_false] at hz
    rcases hz with rfl | rfl | rfl <;> rfl) (by unfold maxLen; omega) hlen hB ?_
  intro v' w' hown' hgrow _ hwh
  have hown2 : OwnsV w' B v' (l1 ++ l2) := by
    show w'.ownsRow B 24 3 v' (l1 ++ l2).length ((l1 ++ l2).flatMap vvL)
    rw [List.flatMap_append, List.length_append, hl]
    exact hown'
  obtain ⟨va, vn, vc, rfl⟩ : ∃ va vn vc, v' = .slice va vn vc := by
    rcases hown2.2 with ⟨e, _⟩ | ⟨_, _, _, e, _⟩
    · exact ⟨_, _, _, e⟩
    · exact ⟨_, _, _, e⟩
  exact h va vn vc w' hown2 hgrow (fun k hk => by
    rcases hwh with e' | e'
    · exact .inl (e' ▸ hk)
    · rw [e'] at hk; cases hk; simp)
/-- An empty row, of no block's cells. -/
theorem vals_lit (w : World) {B : Nat} (hB : B ≤ w.heap.size) : OwnsV (w.alloc (.cells #[] 24)) B (.slice (some ⟨w.heap.size, 0, none⟩) 0 0) [] :=
  World.ownsRow_lit (size := 3) (base := B) w #[] 0 hB (by unfold maxLen; omega) rfl
/-- The cells of a row of values that is read. -/
def ValsAt (W : World) (g : Nat) (l : List VV) : Prop := ∀ j y, (l.flatMap vvL)[j]? = some y → W.cell? ⟨g, j, none⟩ = some y
theorem OwnsV.vals {W : World} {B g n c : Nat} {l : List VV} (h : OwnsV W B (.slice (some ⟨g, 0, none⟩) n c) l) : ValsAt W g l := fun j y hy => by
  have c1 := World.ownsRow.cells h rfl j y hy
  rwa [addr_plain, Nat.zero_add] at c1
theorem ValsAt.since {W W' : World} {g : Nat} {l : List VV} (h : ValsAt W g l) (hb : Below W.heap.size W W') : ValsAt W' g l := fun j y hy => by
  have c1 := h j y hy
  have hl : g < W.heap.size := block_lt_of_cell c1
  exact (hb.cell (p := ⟨g, j, none⟩) hl).trans c1
set_option maxRecDepth 100000 in
theorem clone_any {W : World} {g n c : Nat} {l : List VV} (h : ValsAt W g l) (hn : l.length = n) (hl : l.length ≤ 1048576) :
    Calls Try.prog 31 #[.slice (some ⟨g, 0, none⟩) n c] W fun e w' => ∃ ya yn yc, e = .returned (.slice ya yn yc) ∧ OwnsV w' W.heap.size (.slice ya yn yc) l ∧ Below W.heap.size W w' := by
  have HO := Lib.hid (vals_lit W (Nat.le_refl _))
  have HC : RowKit.Hid (ValsAt (W.alloc (.cells #[] 24)) g l) := Lib.hid (h.since ((Below.refl _ W).alloc (Nat.le_refl _) _))
  have HN : RowKit.Hid (l.length = n ∧ (0 + n) * 32 ≤ 140737488355328) := Lib.hid ⟨hn, by omega⟩
  have HZ : RowKit.Hid (W.heap.size ≤ (W.alloc (.cells #[] 24)).heap.size) := Lib.hid (by simp)
  have hnil : ∀ W, (binOp .eql 36 (.slice (some ⟨g, 0, none⟩) n c) (.slice none 0 0)).run Try.prog W = .ok (.bool false) W := fun W => Lib.run_eql_slice_nil W _ _ (some ⟨g, 0, none⟩) n c 0 0 Try.underlying36
  clear h hn hl
  go_enter Try.func31, Try.ntmps31
  go_wp2_with ((with_reducible refine wpList_append_vals _ rfl rfl _ _ rfl W.heap.size (.slice (some ⟨W.heap.size, 0, none⟩) 0 0) [] ?_ ?_ ?_ ⟨g, 0, none⟩ n c l ?_ ?_ ?_ ?_ ?_); (next => rfl); (next => exact HO.out); (next => exact HZ.out); (next => rfl); (next => exact HN.out.1); (next => (intro j y hy; rw [addr_plain, Nat.zero_add]; exact HC.out j y hy)); (next => exact HN.out.2); intro ya yn yc w1 ho1 hg1 hw1; have HA := Lib.hid (And.intro ho1 hg1); clear ho1 hg1 hw1)
  go_ret
  refine ⟨ya, yn, yc, rfl, HA.out.1, Below.grown ((Below.refl _ W).alloc (Nat.le_refl _) _) HA.out.2 HZ.out (fun k hk => ?_)⟩
  cases hk
  exact Nat.le_refl _
end Go.Proofs.Ytgnfinojnmkkkaa

/- Layer 10: package heap's Object. -/
namespace Go.Proofs.Ytgnfinojnmkkkaa
open Go.RowKit (wrap64 intOf Below)
set_option linter.unusedVariables false
set_option linter.unusedSimpArgs false

def rhoO (ρ : Rho) (v : Value) (k n : Nat) : Rho := fun b => if v.ownBlock = some b then some (4, n) else if b = k then some (3, n) else if b = k + 1 then some (2, n) else ρ b
theorem OwnsV.giv {W : World} {B : Nat} {a : Option Addr} {n c : Nat} {l : List VV} (h : OwnsV W B (.slice a n c) l) : n = l.length ∧ (0 < n → ∃ gb cs, a = some ⟨gb, 0, none⟩ ∧ W.heap[gb]? = some (.cells cs 24 (0, 0)) ∧
    ∀ k : Nat, k < n → cs[k * 3]? = some (.int .i64 (l.getD k zeroVV).1) ∧ cs[k * 3 + 1]? = some (.string (l.getD k zeroVV).2.1) ∧ cs[k * 3 + 2]? = some (.int .i64 (l.getD k zeroVV).2.2)) := by
  have h1 : W.ownsRow B 24 3 (.slice a n c) l.length (l.flatMap vvL) := h
  refine ⟨h.cells.1, fun hp => ?_⟩
  have hnl := h.cells.1
  rcases h1.2 with ⟨e, e2⟩ | ⟨g, cap, cur, e, hB, hh, hnc, _, hcs, htk⟩
  · cases e; omega
  · cases e
    refine ⟨g, cur, rfl, hh, fun k hk => ?_⟩
    have key : ∀ j, j < 3 → ∀ v, (vvL (l.getD k zeroVV))[j]? = some v → cur[k * 3 + j]? = some v := fun j hj v hv => by
      have h2 : (l.flatMap vvL)[k * 3 + j]? = some v := by
        rw [flat_get vvL_len l k (by omega) j hj]
        rw [List.getD_eq_getElem?_getD, List.getElem?_eq_getElem (l := l) (i := k) (by omega)] at hv
        exact hv
      rw [← htk, List.getElem?_take] at h2
      split at h2
      · rw [Array.getElem?_toList] at h2; exact h2
      · cases h2
    exact ⟨key 0 (by omega) _ rfl, key 1 (by omega) _ rfl, key 2 (by omega) _ rfl⟩
section
variable {W : World} {B cap : Nat} {M : PM} {G : GM}
theorem two_new (W : World) (o1 o2 : Obj) : ((W.alloc o1).alloc o2).heap[W.heap.size]? = some o1 ∧ ((W.alloc o1).alloc o2).heap[W.heap.size + 1]? = some o2 ∧ ((W.alloc o1).alloc o2).heap.size = W.heap.size + 2 := by
  refine ⟨?_, ?_, by simp⟩
  · rw [((Below.refl (W.heap.size + 1) _).alloc (by simp) _ : Below (W.heap.size + 1) (W.alloc o1) ((W.alloc o1).alloc o2)).block W.heap.size (by omega)]
    exact World.alloc_heap_new _ _
  · rw [show W.heap.size + 1 = (W.alloc o1).heap.size by simp]
    exact World.alloc_heap_new _ _
theorem obj_fresh (h : MemAt W B cap M G) {u : World} (hu : Below W.heap.size W u) {ya : Option Addr} {yn yc : Nat} {l : List VV} (ho : OwnsV u W.heap.size (.slice ya yn yc) l) (hl : l.length ≤ 1048576) {n : Int} (hn : n = l.length) {W3 : World}
    (hW : (u.alloc (.cells #[.int .i64 n, .slice ya yn yc, .map none] 69)).alloc (.cells #[.int .i64 0, .pointer (some ⟨u.heap.size, 0, none⟩), .pointer none] 72) = W3) :
    ∃ G3 g, G3.p = G.p ∧ g.ptr = u.heap.size + 1 ∧ MemAt W3 B cap M G3 ∧ ShellAt W3 G3.ρ M.objs.length (newObj l) g ∧ BodyAt W3 B cap G3.ρ M.objs.length (newObj l) g ∧ Below B W W3 ∧ (FmAt M G → FmAt M G3) ∧ Sep W W3 G.ρ G3.ρ := by
  subst hn
  obtain ⟨n1, n2, n3⟩ := two_new u (.cells #[.int .i64 (l.length : Int), .slice ya yn yc, .map none] 69) (.cells #[.int .i64 0, .pointer (some ⟨u.heap.size, 0, none⟩), .pointer none] 72)
  have hp := h.plt
  have hb2 : Below u.heap.size u W3 := by rw [← hW]; exact ((Below.refl _ u).alloc (Nat.le_refl _) _).alloc (by simp) _
  have hb : Below W.heap.size W W3 := hu.trans (hb2.mono hu.size)
  rw [hW] at n1 n2 n3
  have hos : ∀ b, (Value.slice ya yn yc).ownBlock = some b → W.heap.size ≤ b ∧ b < u.heap.size := fun b hb => ho.lt b hb
  have hus := hu.size
  have hnew : ∀ b r, rhoO G.ρ (.slice ya yn yc) u.heap.size M.objs.length b = some r → G.ρ b = some r ∨ (W.heap.size ≤ b ∧ b < W3.heap.size) := fun b r hbr => by
    unfold rhoO at hbr
    split at hbr
    · rename_i e; have := hos b e; exact .inr (by omega)
    · split at hbr
      · exact .inr (by omega)
      · split at hbr
        · exact .inr (by omega)
        · exact .inl hbr
  have hex : Ex G.ρ (rhoO G.ρ (.slice ya yn yc) u.heap.size M.objs.length) := fun b r hbr => by
    have := (h.range b r hbr).2
    unfold rhoO
    rw [if_neg (fun e => by have := hos b e; omega), if_neg (by omega), if_neg (by omega)]
    exact hbr
  have hr4 : ∀ b, (Value.slice ya yn yc).ownBlock = some b → rhoO G.ρ (.slice ya yn yc) u.heap.size M.objs.length b = some (4, M.objs.length) := fun b hb => by unfold rhoO; rw [if_pos hb]
  have hr3 : rhoO G.ρ (.slice ya yn yc) u.heap.size M.objs.length u.heap.size = some (3, M.objs.length) := by
    unfold rhoO
    rw [if_neg (fun e => by have := hos _ e; omega), if_pos rfl]
  have hr2 : rhoO G.ρ (.slice ya yn yc) u.heap.size M.objs.length (u.heap.size + 1) = some (2, M.objs.length) := by
    unfold rhoO
    rw [if_neg (fun e => by have := hos _ e; omega), if_neg (by omega), if_pos rfl]
  refine ⟨{G with ρ := rhoO G.ρ (.slice ya yn yc) u.heap.size M.objs.length}, ⟨u.heap.size + 1, u.heap.size, ya, yn, yc, 0, .map [], true⟩, rfl, rfl, (h.since hb).exRho hex (fun b r hbr => ?_), ⟨hr2, hr3, n2⟩, ?_, hb.mono (by omega), fun hf => hf, Off.since hb, fun b r hbr => (hnew b r hbr).imp (fun h' => ⟨r, h'⟩) (fun h' => h'.1)⟩
  · rcases hnew b r hbr with h1 | h1
    · have := h.range b r h1; omega
    · omega
  · show RwAt W3 B cap _ _ _ _
    obtain ⟨g1, g2⟩ := ho.giv
    refine ⟨n1, (show GivAt W3 _ _ _ _ from ⟨by show (yn : Int) = l.length; rw [g1], fun hpos => ?_⟩), by show 0 ≤ (l.length : Int) ∧ (l.length : Int) ≤ 1048576; omega⟩
    obtain ⟨gb, cs, e1, e2, e3⟩ := g2 hpos
    refine ⟨gb, cs, e1, hr4 gb (by show (Value.slice ya yn yc).ownBlock = some gb; rw [e1]; rfl), ?_, fun k hk => ?_⟩
    · exact (hb2.block gb (hos gb (by rw [e1]; rfl)).2).trans e2
    · have := e3 k hk
      show cs[k * 3]? = some (.int .i64 (l.getD (k : Int).toNat zeroVV).1) ∧ _
      rw [Int.toNat_natCast]
      exact this
end
set_option maxRecDepth 100000 in
set_option maxHeartbeats 1000000 in
theorem mobject_any {W : World} {B cap : Nat} {M : PM} {G : GM} (h : MemAt W B cap M G) (hcap : cap ≤ 1099511627776) (hfm0 : FmAt M G) (st : Bool) {g n c : Nat} {l : List VV} (hv : ValsAt W g l) (hn : l.length = n) (hl : l.length ≤ 1048576) :
    Calls Try.prog 16 #[.pointer (some ⟨G.p, 0, none⟩), .slice (some ⟨g, 0, none⟩) n c, .bool st] W (AddPost W B cap M G (objectM M l st)) := by
  have CC := Lib.hid (clone_any (c := c) hv hn hl)
  have CA : RowKit.Hid (∀ u ya yn yc W3, Below W.heap.size W u → OwnsV u W.heap.size (.slice ya yn yc) l → (u.alloc (.cells #[.int .i64 (n : Int), .slice ya yn yc, .map none] 69)).alloc (.cells #[.int .i64 0, .pointer (some ⟨u.heap.size, 0, none⟩), .pointer none] 72) = W3 → Calls Try.prog 30 #[.pointer (some ⟨G.p, 0, none⟩), .pointer (some ⟨u.heap.size + 1, 0, none⟩), .bool st] W3 (AddPost W B cap M G (objectM M l st))) := Lib.hid fun u ya yn yc W3 hu ho hW => by
    obtain ⟨G3, gg, hp, hg, hm, hs, hb, hbl, hfm, hsp⟩ := obj_fresh h hu ho hl (by rw [hn]) hW
    rw [← hp, ← hg]
    unfold objectM
    cases st with
    | true => exact (add_st hm hcap hs hb (layOk_any hcap M W3 G3 (newObj l) gg hm hs hb (hfm hfm0) rfl)).mono fun e w' ⟨he, G', h1, h2, h3, h4, h5⟩ => ⟨he, G', h1, h2.trans hp, hbl.trans h3, fun hf => h4 (hfm hf), hsp.trans h5⟩
    | false => exact (add_hp hm hcap hs hb rfl).mono fun e w' ⟨he, G', h1, h2, h3, h4, h5⟩ => ⟨he, G', h1, h2.trans hp, hbl.trans h3, fun hf => h4 (hfm hf), hsp.trans h5⟩
  clear h hfm0 hv hn hl
  go_enter Try.func16, Try.ntmps16
  go_wp2_with (first
    | (go_at_call 31; refine CC.out.mono ?_; rintro e u ⟨ya, yn, yc, rfl, ho, hb⟩; have HO := Lib.hid (And.intro ho hb); clear ho hb)
    | (go_at_call 30; refine (CA.out _ _ _ _ _ HO.out.2 HO.out.1 rfl).mono ?_; rintro e w' ⟨rfl, hG⟩; have HG := Lib.hid hG; clear hG))
  go_ret2
  exact ⟨rfl, HG.out⟩
end Go.Proofs.Ytgnfinojnmkkkaa
