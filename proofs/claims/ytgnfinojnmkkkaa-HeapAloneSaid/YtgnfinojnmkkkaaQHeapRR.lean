/- Layer 10: the law's does, whole. -/
import Derived.Test.YtgnfinojnmkkkaaQHeapRQ

namespace Go.Proofs.Ytgnfinojnmkkkaa
open Go.RowKit (wrap64 intOf Below)
set_option linter.unusedVariables false
set_option linter.unusedSimpArgs false

/-- 'append(l, x...)' of values, as a step of a region. -/
theorem step_append_vals {w : World} {ops : Array Oper} {o : Oper} {a : Act} {K : Act → World → Prop} {Q : Exit → Act → World → Prop} {E : Prop} (hgd : Region.wanted o (yielded ops a.tmps) = true) (s x : Operand)
    (ho : o.op = .call { callee := .builtin .append, args := #[s, x], argTypes := #[36, 36] })
    (B : Nat) (v : Value) (l1 : List VV) (hs : a.eval s = v) (hown : OwnsV w B v l1) (hB : B ≤ w.heap.size)
    (ad : Addr) (m c : Nat) (l2 : List VV) (hx : a.eval x = .slice (some ad) m c) (hl : l2.length = m) (hc : ∀ j y, (l2.flatMap vvL)[j]? = some y → w.cell? (ad.add j) = some y)
    (hlen : (l1.length + m) * 32 ≤ 140737488355328)
    (h : ∀ va vn vc w', OwnsV w' B (.slice va vn vc) (l1 ++ l2) → w.grownBy w' v.ownBlock → (va = none → v = .slice none 0 0) → K (a.put o.dst (.slice va vn vc)) w') :
    if Region.wanted o (yielded ops a.tmps) = true then Oper.wp Try.prog o a w K Q else E := by
  rw [if_pos hgd]
  obtain ⟨i0, hi, hz0, hz1, hz2⟩ := info_parts info_vv
  obtain ⟨v', w', hrun, r1, r2, r4, _⟩ := run_append_own_at (P := Try.prog) w B 36 o.type 24 i0 (.agg #[.int .i64 0, .string ⟨#[]⟩, .int .i64 0]) 3 32 Try.underlying36 hi hz0 hz1 hz2 rfl (by decide) v l1.length (l1.flatMap vvL) hown ad m c (l2.flatMap vvL) (by rw [flat_len vvL_len, hl]) hc (by
    intro y hy
    obtain ⟨z, _, hz⟩ := List.mem_flatMap.1 hy
    simp only [vvL, List.mem_cons, List.not_mem_nil, or_false] at hz
    rcases hz with rfl | rfl | rfl <;> rfl) (by unfold maxLen; omega) hlen hB
  have hown2 : OwnsV w' B v' (l1 ++ l2) := by
    show w'.ownsRow B 24 3 v' (l1 ++ l2).length ((l1 ++ l2).flatMap vvL)
    rw [List.flatMap_append, List.length_append, hl]
    exact r1
  obtain ⟨va, vn, vc, rfl⟩ : ∃ va vn vc, v' = .slice va vn vc := by
    rcases hown2.2 with ⟨e, _⟩ | ⟨_, _, _, e, _⟩
    · exact ⟨_, _, _, e⟩
    · exact ⟨_, _, _, e⟩
  have hk := h va vn vc w' hown2 r2 (fun e => by
    subst e
    have : Value.slice none vn vc = .slice none 0 0 := by
      rcases hown2.2 with ⟨e1, _⟩ | ⟨_, _, _, e1, _⟩
      · exact e1
      · cases e1
    exact (r4.1 this).1)
  unfold Oper.wp
  simp only [execOp, ho, resolve, invoke, builtin, List.map_toArray, List.map_cons, List.map_nil, hs, hx, Sem.run_bind, Sem.run_pure, Result.andThen_ok, hrun]
  exact hk
theorem OwnsI_below2 {W w' : World} {B' e z n : Nat} {v : Value} {xs : List Value} (h : W.ownsRow B' e z v n xs) (hb : Below W.heap.size W w') : w'.ownsRow B' e z v n xs := by
  refine ⟨h.1, ?_⟩
  rcases h.2 with h1 | ⟨g, cp, cur, e1, hB, hg, rest⟩
  · exact .inl h1
  · exact .inr ⟨g, cp, cur, e1, hB, (hb.block g (Array.getElem?_eq_some_iff.1 hg).1).trans hg, rest⟩
section
variable {W w' : World} {B cap p d k : Nat} {M : PM} {G : GM} {R : RM} {G2 : GR} {a : PAct}
theorem PB.objectS (h : PB W B cap p d M G R G2 k a) (hcap : cap ≤ 1099511627776) {g n c : Nat} {l : List VV} (hv : ValsAt W g l) (hn : l.length = n) (hl : l.length ≤ 1048576) (st : Bool) : Calls Try.prog 16 #[.pointer (some ⟨p, 0, none⟩), .slice (some ⟨g, 0, none⟩) n c, .bool st] W fun e w' => e = .returned (.tuple #[.int .i64 (objectM M l st).2.1, .int .i64 (objectM M l st).2.2]) ∧ ∃ G', PB w' B (cap + 1) p d (objectM M l st).1 G' R G2 k a ∧ Stp W w' B (dm G G2) (dm G' G2) ∧ Off (dom G.ρ) W w' := by
  have hc := mobject_any (c := c) h.mem hcap h.fm st hv hn hl
  rw [h.p] at hc
  exact hc.mono fun e w' ⟨he, G', h1, h2, h3, h4, h5⟩ => ⟨he, G', h.m h1 h2 (h4 h.fm) h5 (Nat.le_succ _), .m h3 h5, h5.off⟩
theorem OwnsV.below2 {v : Value} {l : List VV} {B' : Nat} (h : OwnsV W B' v l) (hb : Below W.heap.size W w') : OwnsV w' B' v l := OwnsI_below2 h hb
theorem vals_off {l : List VV} (hv : OwnsV W B (.slice (some ⟨k, 0, none⟩) cap p) l) {X : Nat → Prop} (ho : Off X W w') (hX : ¬ X k) : ValsAt w' k l := fun j y hy => by
  have h1 := hv.vals j y hy
  exact (ho.cell (p := ⟨k, j, none⟩) (block_lt_of_cell h1) hX).trans h1
end
theorem asks_any {W : World} {B cap p d : Nat} {M : PM} {G : GM} {R : RM} {G2 : GR} {a : PAct} (h : Duo W B cap p d M G R G2) (hcap : cap + 2 ≤ 1099511627776) (ok : a.Ok) (hk : a.kind ≠ 0 ∧ a.kind ≠ 1 ∧ a.kind ≠ 2 ∧ a.kind ≠ 3 ∧ a.kind ≠ 4) :
    Calls Try.prog 22 #[.pointer (some ⟨p, 0, none⟩), .pointer (some ⟨d, 0, none⟩), actV a] W (DuoPost W B cap p d (dm G G2) (doesM M a)) := by
  obtain ⟨k0, k1, k2, k3, k4⟩ := hk
  unfold doesM
  rw [if_neg k0, if_neg k1, if_neg k2, if_neg k3, if_neg k4]
  by_cases h6 : a.kind = 6
  · rw [if_pos h6]; exact asks_6 h hcap ok h6
  · rw [if_neg h6]
    by_cases h8 : a.kind = 8
    · rw [if_pos h8]; exact asks_8 h hcap ok h8
    · rw [if_neg h8]
      by_cases h5 : a.kind = 5
      · exact asks_5 h hcap ok h5
      · by_cases h7 : a.kind = 7
        · exact asks_7 h hcap ok h7
        · by_cases h9 : a.kind = 9
          · exact asks_9 h hcap ok h9
          · by_cases h10 : a.kind = 10
            · exact asks_10 h hcap ok h10
            · exact asks_none h hcap ok ⟨h5, h6, h7, h8, h9, h10⟩
set_option maxRecDepth 100000 in
set_option maxHeartbeats 1000000 in
theorem does_rest {W : World} {B cap p d : Nat} {M : PM} {G : GM} {R : RM} {G2 : GR} {a : PAct} (h : Duo W B cap p d M G R G2) (hcap : cap + 2 ≤ 1099511627776) (ok : a.Ok) (hk : a.kind ≠ 0 ∧ a.kind ≠ 1 ∧ a.kind ≠ 2 ∧ a.kind ≠ 3 ∧ a.kind ≠ 4) :
    Calls Try.prog 7 #[.pointer (some ⟨p, 0, none⟩), .pointer (some ⟨d, 0, none⟩), actV a] W (DuoPost W B cap p d (dm G G2) (doesM M a)) := by
  obtain ⟨U, hU⟩ : ∃ U, W.alloc (.cells #[.int .i64 a.kind, .int .i64 a.r, .int .i64 a.i, .int .i64 a.n, .int .i64 a.v.1, .string a.v.2.1, .int .i64 a.v.2.2, .bool a.st] 26) = U := ⟨_, rfl⟩
  obtain ⟨hpb, hbU⟩ := h.box a hU
  have HBW : RowKit.Hid (B ≤ W.heap.size ∧ Below W.heap.size W U) := Lib.hid ⟨by have := h.mem.plt; omega, hbU⟩
  obtain ⟨b0, b1, b2, b3, b4, b5, b6, b7⟩ := hpb.cells
  have CA := Lib.hid (asks_any (h.since hbU) hcap ok hk)
  unfold actV at CA
  obtain ⟨k0, k1, k2, k3, k4⟩ := hk
  have e0 : (a.kind == 0) = false := by simpa using k0
  have e1 : (a.kind == 1) = false := by simpa using k1
  have e2 : (a.kind == 2) = false := by simpa using k2
  have e3 : (a.kind == 3) = false := by simpa using k3
  have e4 : (a.kind == 4) = false := by simpa using k4
  clear h hpb hbU hcap ok k0 k1 k2 k3 k4
  unfold actV
  go_enter Try.func7, Try.ntmps7
  go_upto_region 1 with fail
  try rw [hU]
  clear hU
  go_wp2_with (go_at_call 22; refine CA.out.mono ?_; rintro e u ⟨rfl, hG⟩; have HG := Lib.hid hG; clear hG)
  go_ret
  obtain ⟨G', R', G2', h1, h2⟩ := HG.out
  exact ⟨rfl, G', R', G2', h1, (Stp.since HBW.out.1 HBW.out.2).trans h2⟩
theorem rep_more (v : VV) (i : Nat) : List.replicate i v ++ [v] = List.replicate (i + 1) v := by rw [List.replicate_succ']
set_option maxRecDepth 100000 in
set_option maxHeartbeats 2000000 in
theorem does_2 {W : World} {B cap p d : Nat} {M : PM} {G : GM} {R : RM} {G2 : GR} {a : PAct} (h : Duo W B cap p d M G R G2) (hcap : cap + 2 ≤ 1099511627776) (ok : a.Ok) (hk : a.kind = 2) :
    Calls Try.prog 7 #[.pointer (some ⟨p, 0, none⟩), .pointer (some ⟨d, 0, none⟩), actV a] W (DuoPost W B cap p d (dm G G2) (objectM M (actN a) a.st).1) := by
  obtain ⟨U, hU⟩ : ∃ U, W.alloc (.cells #[.int .i64 a.kind, .int .i64 a.r, .int .i64 a.i, .int .i64 a.n, .int .i64 a.v.1, .string a.v.2.1, .int .i64 a.v.2.2, .bool a.st] 26) = U := ⟨_, rfl⟩
  obtain ⟨hpb, hbU⟩ := h.box a hU
  have HBW : RowKit.Hid (B ≤ W.heap.size ∧ Below W.heap.size W U) := Lib.hid ⟨by have := h.mem.plt; omega, hbU⟩
  obtain ⟨m, hm⟩ : ∃ m, (a.n.tmod 9).toNat = m := ⟨_, rfl⟩
  have hm8 : m ≤ 8 := by
    have := Int.tmod_lt_of_pos a.n (show (0 : Int) < 9 by omega)
    omega
  have HAN : RowKit.Hid (actN a = List.replicate m a.v) := Lib.hid (by unfold actN; rw [hm])
  have HTM : RowKit.Hid (∀ i : Nat, i ≤ m → (((i : Int) < a.n.tmod 9) ↔ i < m)) := Lib.hid fun i hi => by omega
  have hal := show Alike (objectM M (actN a) a.st).1 (makeR R (rowT (actN a)) a.st).1 ∧ (objectM M (actN a) a.st).2 = (makeR R (rowT (actN a)) a.st).2 from add_alike h.same h.mem.num (fresh_row (actN a) a.st)
  have HS := Lib.hid hal.1
  have HPB : RowKit.Hid (∀ u, Below U.heap.size U u → PB u B cap p d M G R G2 W.heap.size a) := Lib.hid fun u hu => hpb.since hu
  have HPBU := Lib.hid hpb
  obtain ⟨x, y, hx⟩ : ∃ x y, (objectM M (actN a) a.st).2 = (x, y) := ⟨_, _, rfl⟩
  have hv := hal.2
  rw [hx] at hv
  have CM : RowKit.Hid (∀ u g n c, Below U.heap.size U u → ValsAt u g (actN a) → (actN a).length = n → Calls Try.prog 16 #[.pointer (some ⟨p, 0, none⟩), .slice (some ⟨g, 0, none⟩) n c, .bool a.st] u fun e w' => e = .returned (.tuple #[.int .i64 x, .int .i64 y]) ∧ ∃ G', PB w' B (cap + 1) p d (objectM M (actN a) a.st).1 G' R G2 W.heap.size a ∧ Stp u w' B (dm G G2) (dm G' G2) ∧ Off (dom G.ρ) u w') := Lib.hid fun u g n c hu hvv hn => by
    have := (hpb.since hu).objectS (c := c) (by omega) hvv hn (by rw [HAN.out, List.length_replicate]; omega) a.st
    rw [hx] at this
    exact this
  have CR : RowKit.Hid (∀ u G1 g n c, PB u B (cap + 1) p d (objectM M (actN a) a.st).1 G1 R G2 W.heap.size a → ValsAt u g (actN a) → (actN a).length = n → Calls Try.prog 17 #[.pointer (some ⟨d, 0, none⟩), .slice (some ⟨g, 0, none⟩) n c, .bool a.st] u fun e w' => e = .returned (.tuple #[.int .i64 x, .int .i64 y]) ∧ ∃ G2', PB w' B (cap + 2) p d (objectM M (actN a) a.st).1 G1 (makeR R (rowT (actN a)) a.st).1 G2' W.heap.size a ∧ Stp u w' B (dm G1 G2) (dm G1 G2')) := Lib.hid fun u G1 g n c hp hvv hn => by
    have := hp.robject (c := c) (by omega) hvv hn (by rw [HAN.out, List.length_replicate]; omega) a.st
    rw [← hv] at this
    exact this
  have HDL : RowKit.Hid (∀ b, U.heap.size ≤ b → ¬ dom G.ρ b) := Lib.hid fun b hb hd => by have := dom_ltM hpb.mem hd; omega
  have HBX : RowKit.Hid (∀ u, Below U.heap.size U u → u.cell? ⟨W.heap.size, 3, none⟩ = some (.int .i64 a.n) ∧ u.cell? ⟨W.heap.size, 4, none⟩ = some (.int .i64 a.v.1) ∧ u.cell? ⟨W.heap.size, 5, none⟩ = some (.string a.v.2.1) ∧ u.cell? ⟨W.heap.size, 6, none⟩ = some (.int .i64 a.v.2.2) ∧ u.cell? ⟨W.heap.size, 7, none⟩ = some (.bool a.st)) := Lib.hid fun u hu => by
    obtain ⟨b0, b1, b2, b3, b4, b5, b6, b7⟩ := (hpb.since hu).cells
    exact ⟨b3, b4, b5, b6, b7⟩
  have b0 := hpb.cells.1
  rw [hk] at b0 hU
  have HLS : RowKit.Hid ((actN a).length = m) := Lib.hid (by rw [HAN.out, List.length_replicate])
  have HS0 : RowKit.Hid (OwnsV (U.alloc (.cells #[] 24)) U.heap.size (.slice (some ⟨U.heap.size, 0, none⟩) 0 0) (List.replicate 0 a.v) ∧ Below U.heap.size U (U.alloc (.cells #[] 24))) := Lib.hid ⟨vals_lit U (Nat.le_refl _), (Below.refl _ U).alloc (Nat.le_refl _) _⟩
  clear h hpb hbU hcap ok hm hal hx hv
  unfold actV
  rw [hk]
  clear hk
  go_enter Try.func7, Try.ntmps7
  go_upto_region 1 with fail
  try rw [hU]
  clear hU
  go_wp2_with fail
  go_loopw [7, 8] (fun v7 v8 wr => ∃ (i g yn yc : Nat), i ≤ m ∧ v7 = .slice (some ⟨g, 0, none⟩) yn yc ∧ v8 = .int .i64 (i : Int) ∧ RowKit.Hid (OwnsV wr U.heap.size (.slice (some ⟨g, 0, none⟩) yn yc) (List.replicate i a.v) ∧ Below U.heap.size U wr)) (fun _ v8 _ => m - (intOf v8).toNat)
  case atStart => exact ⟨0, _, _, _, Nat.zero_le _, rfl, rfl, HS0⟩
  case round =>
    obtain ⟨i, g, yn, yc, hi, rfl, rfl, HI⟩ := hrel
    clear HS0 b0
    obtain ⟨wo, hwo⟩ : ∃ u, u = wr := ⟨_, rfl⟩
    rw [← hwo] at HI ⊢
    clear hwo
    obtain ⟨c3, c4, c5, c6, c7⟩ := HBX.out wo HI.out.2
    have HW : RowKit.Hid (wrap64 ((i : Int) + 1) = (i : Int) + 1) := Lib.hid (by unfold wrap64; omega)
    by_cases hlt : i < m
    · have hin : (i : Int) < a.n.tmod 9 := (HTM.out i hi).2 hlt
      have HO : RowKit.Hid (∀ C, OwnsV (wo.alloc C) U.heap.size (.slice (some ⟨g, 0, none⟩) yn yc) (List.replicate i a.v)) := Lib.hid fun C => World.ownsRow.alloc HI.out.1 _
      have HZ : RowKit.Hid (∀ C, U.heap.size ≤ (wo.alloc C).heap.size) := Lib.hid fun C => by have := HI.out.2.size; simp; omega
      have HL : RowKit.Hid (((List.replicate i a.v).length + 1) * 32 ≤ 140737488355328) := Lib.hid (by rw [List.length_replicate]; omega)
      have HC : RowKit.Hid (∀ j y, ([a.v].flatMap vvL)[j]? = some y → (wo.alloc (.cells #[.int .i64 a.v.1, .string a.v.2.1, .int .i64 a.v.2.2] 24)).cell? ((⟨wo.heap.size, 0, none⟩ : Addr).add j) = some y) := Lib.hid fun j y hy => by
        rw [addr_plain, Nat.zero_add, World.cell?_alloc_mark]
        simpa [vvL] using hy
      have HGR : RowKit.Hid (∀ C za zn zc w1, OwnsV w1 U.heap.size (.slice za zn zc) (List.replicate i a.v ++ [a.v]) → (wo.alloc C).grownBy w1 (Value.slice (some ⟨g, 0, none⟩) yn yc).ownBlock → ∃ g', za = some ⟨g', 0, none⟩ ∧ OwnsV w1 U.heap.size (.slice (some ⟨g', 0, none⟩) zn zc) (List.replicate (i + 1) a.v) ∧ Below U.heap.size U w1) := Lib.hid fun C za zn zc w1 ho hg => by
        rw [rep_more] at ho
        obtain ⟨hn1, hc1⟩ := ho.cells
        obtain ⟨g', e, _⟩ := hc1 (by rw [hn1, List.length_replicate]; omega)
        subst e
        exact ⟨g', rfl, ho, Below.grown (HI.out.2.alloc HI.out.2.size _) hg (HZ.out _) (fun k hk => (HI.out.1.lt k hk).1)⟩
      go_wp2_with ((with_reducible refine wpList_append_vals _ rfl rfl _ _ rfl U.heap.size (.slice (some ⟨g, 0, none⟩) yn yc) (List.replicate i a.v) ?_ ?_ ?_ ⟨wo.heap.size, 0, none⟩ 1 1 [a.v] ?_ ?_ ?_ ?_ ?_); (next => rfl); (next => exact HO.out _); (next => exact HZ.out _); (next => rfl); (next => rfl); (next => exact HC.out); (next => exact HL.out); intro za zn zc w1 ho1 hg1 hw1; obtain ⟨g', hza, hA⟩ := HGR.out _ _ _ _ _ ho1 hg1; have HA := Lib.hid hA; subst hza; clear ho1 hg1 hw1 hA)
      go_roundw
      case rel => exact ⟨i + 1, g', zn, zc, hlt, rfl, by go_num, HA⟩
      case measure => simp [intOf, HW.out]; omega
    · obtain rfl : i = m := by omega
      have hin : ¬ ((i : Int) < a.n.tmod 9) := fun e => hlt ((HTM.out i hi).1 e)
      have hvn := HI.out.1.cells.1
      rw [List.length_replicate] at hvn
      subst hvn
      have hwd : Below wo.heap.size wo wo.drew := (Below.refl _ _).drew
      have HWD : RowKit.Hid (Below U.heap.size U wo.drew) := Lib.hid (HI.out.2.trans (hwd.mono HI.out.2.size))
      have c7d : wo.drew.cell? ⟨W.heap.size, 7, none⟩ = some (.bool a.st) := c7
      have HVA : RowKit.Hid (OwnsV wo.drew U.heap.size (.slice (some ⟨g, 0, none⟩) yn yc) (actN a)) := Lib.hid (by rw [HAN.out]; exact HI.out.1)
      have HGU : RowKit.Hid (U.heap.size ≤ g ∧ g < wo.heap.size) := Lib.hid (HI.out.1.lt g rfl)
      go_upto_region 12 with fail
      clear hwd
      refine wp_region_T (S := (fun u : World => u.cell? ⟨W.heap.size, 7, none⟩ = some (.bool a.st))) 12 (by kernel_rfl) c7d (fun hHeld => ?_)
      refine wpAnyT_takeW (i := 0) (oi := ⟨some 53, _, _, _, _, _⟩) (v := ?_) rfl (by kernel_rfl) (by kernel_rfl) (by kernel_rfl) (fun _ _ _ h => h) (Or.inl ⟨by rfl, ?_⟩) ?_
      rotate_left
      · ((intro w _; go_simp); try with_reducible rfl)
      (try simp only [Act.put, List.setIfInBounds_toArray, List.set_cons_zero, List.set_cons_succ])
      refine wpAnyT_takeW (i := 2) (oi := ⟨some 55, _, _, _, _, _⟩) (v := ?_) rfl (by kernel_rfl) (by kernel_rfl) (by kernel_rfl) (fun _ _ _ h => h) (Or.inl ⟨by rfl, ?_⟩) ?_
      rotate_left
      · ((intro w _; go_simp); try with_reducible rfl)
      (try simp only [Act.put, List.setIfInBounds_toArray, List.set_cons_zero, List.set_cons_succ])
      refine wpAnyT_takeW (i := 4) (oi := ⟨some 57, _, _, _, _, _⟩) (v := ?_) rfl (by kernel_rfl) (by kernel_rfl) (by kernel_rfl) (fun _ _ _ h => h) (Or.inl ⟨by rfl, ?_⟩) ?_
      rotate_left
      · ((intro w _; go_simp); try with_reducible rfl)
      (try simp only [Act.put, List.setIfInBounds_toArray, List.set_cons_zero, List.set_cons_succ])
      refine wpAnyT_take (i := 5) (oi := ⟨some 58, _, _, _, _, _⟩) (v := ?_) 8 rfl (by kernel_rfl) (by kernel_rfl) (by kernel_rfl) (by kernel_rfl) (by kernel_rfl) (fun _ _ _ h => h) (Or.inl ⟨by rfl, ?_⟩) (by assumption) ?_
      rotate_left
      · ((intro w hSw; (try dsimp only at hSw); go_simp); try with_reducible rfl)
      (try simp only [Act.put, List.setIfInBounds_toArray, List.set_cons_zero, List.set_cons_succ])
      refine wpAnyT_one (i := 1) (by kernel_rfl) rfl (fun K hK => ?_)
      rw [if_pos (by rfl)]
      go_simp
      refine hK.out _ _ ((HBX.out _ (HWD.out.alloc (by have := HI.out.2.size; exact this) _)).2.2.2.2) (fun hHeld => ?_)
      clear hK K
      (try simp only [Act.put, List.setIfInBounds_toArray, List.set_cons_zero, List.set_cons_succ])
      refine wpAnyT_one (i := 3) (by kernel_rfl) rfl (fun K hK => ?_)
      refine step_append_vals (by rfl) _ _ (by rfl) wo.heap.size (.slice (some ⟨wo.heap.size, 0, none⟩) 0 0) [] (by rfl) (vals_lit wo.drew (Nat.le_refl _)) (by simp) ⟨g, 0, none⟩ yn yc (actN a) (by rfl) HLS.out (fun j y hy => by rw [addr_plain, Nat.zero_add]; exact (HVA.out.vals.since ((Below.refl _ wo.drew).alloc (Nat.le_refl _) _)) j y hy) (by simp; omega) ?_
      intro ya yn2 yc2 w1 ho1 hg1 hw1
      have hAP : OwnsV w1 wo.heap.size (.slice ya yn2 yc2) (actN a) ∧ Below wo.drew.heap.size wo.drew w1 := ⟨ho1, Below.grown ((Below.refl _ wo.drew).alloc (Nat.le_refl _) _) hg1 (by simp) (fun k hk => by cases hk; exact Nat.le_refl _)⟩
      have HAP := Lib.hid hAP
      obtain ⟨g2, hg2⟩ : ∃ g2, ya = some ⟨g2, 0, none⟩ := by
          rcases hAP.1.2 with ⟨e, _⟩ | ⟨g2, _, _, e, _⟩
          · cases e; exact absurd (hw1 rfl) (by simp)
          · cases e; exact ⟨g2, rfl⟩
      subst hg2
      have hyn2 := hAP.1.cells.1
      rw [HLS.out] at hyn2
      subst hyn2
      have HUW : RowKit.Hid (Below U.heap.size U w1) := Lib.hid (HWD.out.trans (hAP.2.mono HWD.out.size))
      clear ho1 hg1 hw1 hAP
      refine hK.out _ _ ((HBX.out _ HUW.out).2.2.2.2) (fun hHeld => ?_)
      clear hK K
      (try simp only [Act.put, List.setIfInBounds_toArray, List.set_cons_zero, List.set_cons_succ])
      refine wpAnyT_one (i := 6) (by kernel_rfl) rfl (fun K hK => ?_)
      rw [if_pos (by rfl)]
      go_simp
      go_at_call 16
      refine (CM.out w1 g2 _ _ HUW.out HAP.out.1.vals HLS.out).mono ?_
      rintro e u1 ⟨rfl, G1, h1, hb1, ho1⟩
      have H1 := Lib.hid (And.intro h1 (And.intro hb1 ho1))
      have HV1 : RowKit.Hid (ValsAt u1 g (actN a)) := Lib.hid (vals_off (show OwnsV w1 U.heap.size (.slice (some ⟨g, 0, none⟩) _ _) _ from OwnsV.below2 HVA.out HAP.out.2) ho1 (HDL.out g HGU.out.1))
      clear h1 hb1 ho1
      refine hK.out _ _ (H1.out.1.cells.2.2.2.2.2.2.2) (fun hHeld => ?_)
      clear hK K
      (try simp only [Act.put, List.setIfInBounds_toArray, List.set_cons_zero, List.set_cons_succ])
      refine wpAnyT_takeW (i := 7) (oi := ⟨some 52, _, _, _, _, _⟩) (v := ?_) rfl (by kernel_rfl) (by kernel_rfl) (by kernel_rfl) (fun _ _ _ h => h) (Or.inl ⟨by rfl, ?_⟩) ?_
      rotate_left
      · ((intro w _; go_simp); try with_reducible rfl)
      (try simp only [Act.put, List.setIfInBounds_toArray, List.set_cons_zero, List.set_cons_succ])
      refine wpAnyT_takeW (i := 8) (oi := ⟨some 60, _, _, _, _, _⟩) (v := ?_) rfl (by kernel_rfl) (by kernel_rfl) (by kernel_rfl) (fun _ _ _ h => h) (Or.inl ⟨by rfl, ?_⟩) ?_
      rotate_left
      · ((intro w _; go_simp); try with_reducible rfl)
      (try simp only [Act.put, List.setIfInBounds_toArray, List.set_cons_zero, List.set_cons_succ])
      refine wpAnyT_takeW (i := 9) (oi := ⟨some 61, _, _, _, _, _⟩) (v := ?_) rfl (by kernel_rfl) (by kernel_rfl) (by kernel_rfl) (fun _ _ _ h => h) (Or.inl ⟨by rfl, ?_⟩) ?_
      rotate_left
      · ((intro w _; go_simp); try with_reducible rfl)
      (try simp only [Act.put, List.setIfInBounds_toArray, List.set_cons_zero, List.set_cons_succ])
      refine wpAnyT_takeW (i := 10) (oi := ⟨some 9, _, _, _, _, _⟩) (v := ?_) rfl (by kernel_rfl) (by kernel_rfl) (by kernel_rfl) (fun _ _ _ h => h) (Or.inl ⟨by rfl, ?_⟩) ?_
      rotate_left
      · ((intro w _; go_simp); try with_reducible rfl)
      (try simp only [Act.put, List.setIfInBounds_toArray, List.set_cons_zero, List.set_cons_succ])
      refine wpAnyT_takeW (i := 11) (oi := ⟨some 10, _, _, _, _, _⟩) (v := ?_) rfl (by kernel_rfl) (by kernel_rfl) (by kernel_rfl) (fun _ _ _ h => h) (Or.inl ⟨by rfl, ?_⟩) ?_
      rotate_left
      · ((intro w _; go_simp); try with_reducible rfl)
      (try simp only [Act.put, List.setIfInBounds_toArray, List.set_cons_zero, List.set_cons_succ])
      refine wpAnyT_done (by kernel_rfl) ?_
      obtain ⟨e3, e4, e5, e6, e7⟩ : _ ∧ _ ∧ _ ∧ _ ∧ u1.cell? ⟨W.heap.size, 7, none⟩ = some (.bool a.st) := ⟨trivial, trivial, trivial, trivial, H1.out.1.cells.2.2.2.2.2.2.2⟩
      clear c3 c4 c5 c6 c7 c7d hHeld
      go_wp2_with (go_at_call 17; refine (CR.out u1 G1 g _ _ H1.out.1 HV1.out HLS.out).mono ?_; rintro e u2 ⟨rfl, G3, h2, hb2⟩; have H2 := Lib.hid (And.intro h2 hb2); clear h2 hb2)
      go_ret
      exact ⟨rfl, G1, _, G3, H2.out.1.duo HS.out, ((((Stp.since HBW.out.1 HBW.out.2).trans (Stp.since (by have := HBW.out.2.size; have := HBW.out.1; omega) HWD.out)).trans (Stp.since (by have := HBW.out.2.size; have := HBW.out.1; have := HWD.out.size; omega) HAP.out.2)).trans H1.out.2.1).trans H2.out.2⟩
theorem does_any {W : World} {B cap p d : Nat} {M : PM} {G : GM} {R : RM} {G2 : GR} {a : PAct} (h : Duo W B cap p d M G R G2) (hcap : cap + 2 ≤ 1099511627776) (ok : a.Ok) :
    Calls Try.prog 7 #[.pointer (some ⟨p, 0, none⟩), .pointer (some ⟨d, 0, none⟩), actV a] W (DuoPost W B cap p d (dm G G2) (doesM M a)) := by
  by_cases h0 : a.kind = 0
  · have := does_0 h hcap ok h0; unfold doesM; rw [if_pos h0]; exact this
  · by_cases h1 : a.kind = 1
    · have := does_1 h hcap ok h1; unfold doesM; rw [if_neg h0, if_pos h1]; exact this
    · by_cases h2 : a.kind = 2
      · have := does_2 h hcap ok h2; unfold doesM; rw [if_neg h0, if_neg h1, if_pos h2]; exact this
      · by_cases h3 : a.kind = 3
        · have := does_3 h hcap ok h3; unfold doesM; rw [if_neg h0, if_neg h1, if_neg h2, if_pos h3]; exact this
        · by_cases h4 : a.kind = 4
          · have := does_4 h hcap ok h4; unfold doesM; rw [if_neg h0, if_neg h1, if_neg h2, if_neg h3, if_pos h4]; exact this
          · exact does_rest h hcap ok ⟨h0, h1, h2, h3, h4⟩
end Go.Proofs.Ytgnfinojnmkkkaa
