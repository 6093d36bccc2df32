/- Layer 14: the laws' nodes, and the document's Turned: rows of pairs that grow. -/
import Derived.Test.YtgncpiamokeohaaFlowLa
import Derived.Test.YtgncpiamokeohaaFlowOp
import Derived.Deep.RegionLaw
namespace Go.Proofs.Ytgncpiamokeohaa
open Go.RowKit (wrap64 intOf Below)
set_option linter.unusedVariables false
set_option linter.unusedSimpArgs false
/-- 'append(l, [2]int{..})' as one step of a region. -/
theorem step_append_pr {P : Program} {u : World} {ops : Array Oper} {o : Oper} {a : Act} {K : Act → World → Prop} {Q : Exit → Act → World → Prop} {E : Prop} (hgd : o.guard = none) (s x : Operand) (t : TypeId)
    (ho : o.op = .call { callee := .builtin .append, args := #[s, x], argTypes := #[t, t] }) (e : TypeId) (ht : P.underlying t = some (.slice e))
    (hinfo : (P.info? e).map (fun i => (i.zero, i.size, i.bytes)) = some (some (.agg #[.int .i64 0, .int .i64 0]), 2, 16))
    (B : Nat) (v : Value) (l : List (Int × Int)) (hs : a.eval s = v) (hown : OwnsPr u B e v l) (hB : B ≤ u.heap.size)
    (c g : Nat) (z : Int × Int) (hx : a.eval x = .slice (some ⟨g, 0, none⟩) 1 c) (hc0 : u.cell? ⟨g, 0, none⟩ = some (.int .i64 z.1)) (hc1 : u.cell? ⟨g, 1, none⟩ = some (.int .i64 z.2)) (hlen : l.length ≤ 1000000)
    (h : ∀ va vn vc w', OwnsPr w' B e (.slice va vn vc) (l ++ [z]) → Below B u w' → K (a.put o.dst (.slice va vn vc)) w') :
    if Region.wanted o (yielded ops a.tmps) = true then Oper.wp P o a u K Q else E := by
  have hw : Region.wanted o (yielded ops a.tmps) = true := by simp [Region.wanted, hgd]
  rw [if_pos hw]
  obtain ⟨i0, hi, hz0, hz1, hz2⟩ := info_parts hinfo
  obtain ⟨v', w', hrun, r1, r2, _, r4⟩ := run_append_own_at (P := P) (w := u) B t o.type e i0 (.agg #[.int .i64 0, .int .i64 0]) 2 16 ht hi hz0 hz1 hz2 rfl (by decide) v l.length (flatPr l) hown ⟨g, 0, none⟩ 1 c [.int .i64 z.1, .int .i64 z.2] rfl (fun j y hy => by
    match j, hy with
    | 0, hy => simp at hy; subst hy; exact hc0
    | 1, hy => simp at hy; subst hy; exact hc1
    | j + 2, hy => simp at hy) (by intro y hy; simp at hy; rcases hy with rfl | rfl <;> rfl) (by unfold maxLen; omega) (by omega) hB
  have hown' : OwnsPr w' B e v' (l ++ [z]) := by
    show w'.ownsRow B e 2 v' (l ++ [z]).length (flatPr (l ++ [z]))
    rw [flatPr_more, List.length_append]
    exact r1
  obtain ⟨va, vc, rfl⟩ := hown'.slice
  have hk := h va _ vc w' hown' (Below.grown (Below.refl B u) r2 hB (fun k hk => (World.ownsRow.lt hown k hk).1))
  unfold Oper.wp
  simp only [execOp, ho, resolve, invoke, builtin, List.map_toArray, List.map_cons, List.map_nil, hs, hx, Sem.run_bind, Sem.run_pure, Result.andThen_ok, hrun]
  exact hk
/-- What grows, in memory of the call's own. -/
structure PrSt (w : World) (va : Option Addr) (vn vc : Nat) (l : List (Int × Int)) (W : World) : Prop where
  bel : Below w.heap.size w W
  own : OwnsPr W w.heap.size 43 (.slice va vn vc) l
theorem PrSt.since {w W W' : World} {va : Option Addr} {vn vc : Nat} {l : List (Int × Int)} (h : PrSt w va vn vc l W) (hb : Below W.heap.size W W') : PrSt w va vn vc l W' :=
  ⟨h.bel.trans (hb.mono h.bel.size), h.own.below hb⟩
theorem PrSt.begin (w : World) : PrSt w (some ⟨w.heap.size, 0, none⟩) 0 0 [] (w.alloc (.cells #[] 43)) := ⟨(Below.refl _ w).alloc (Nat.le_refl _) _, owns_none w⟩
def PrPost (w : World) (l : List (Int × Int)) (e : Ending) (w' : World) : Prop := ∃ va vn vc, e = .returned (.slice va vn vc) ∧ PrSt w va vn vc l w'
theorem turnF_take {E : List (Int × Int)} {i : Nat} (hi : i < E.length) : turnF (E.take (i + 1)) = turnF (E.take i) ++ [(E[i].2, E[i].1)] := by
  unfold turnF; rw [List.take_succ_eq_append_getElem hi, List.map_append]; rfl
set_option maxRecDepth 100000 in
set_option maxHeartbeats 4000000 in
theorem turned_any (ea : Option Addr) (en ec : Nat) (E : List (Int × Int)) (w : World) (hE : PairsAt w ea en E) (hen : en ≤ 100000) :
    Calls Try.prog 12 #[.slice ea en ec] w (PrPost w (turnF E)) := by
  have HE := Lib.hid hE
  have hl := hE.1
  have HS0 := Lib.hid (PrSt.begin w)
  clear hE
  go_enter Try.func12, Try.ntmps12
  go_upto_region 3 with fail
  go_loopw [3, 4] (fun v3 v4 wr => ∃ (i : Nat) (va : Option Addr) (vn vc : Nat), i ≤ en ∧ v4 = .int .i64 (i : Int) ∧ v3 = .slice va vn vc ∧ RowKit.Hid (PrSt w va vn vc (turnF (E.take i)) wr)) (fun _ v4 _ => en - (intOf v4).toNat)
  case atStart => exact ⟨0, _, _, _, Nat.zero_le _, rfl, rfl, Lib.hid HS0.out⟩
  case round =>
    obtain ⟨i, va, vn, vc, hi, rfl, rfl, HI⟩ := hrel
    by_cases hlt : i < en
    · have hltz : (i : Int) < (en : Int) := by omega
      have hi0 : (0 : Int) ≤ (i : Int) := by omega
      have hiE : i < E.length := by omega
      obtain ⟨g, off, rfl, hg, hcs⟩ := (HE.out.since HI.out.bel).2 (by omega)
      obtain ⟨c0, c1⟩ := hcs i hiE
      have HT := Lib.hid (turnF_take hiE)
      have HLN : RowKit.Hid ((turnF (E.take i)).length ≤ 1000000) := Lib.hid (by unfold turnF; simp; omega)
      clear hcs
      generalize E[i].1 = x at *
      generalize E[i].2 = y at *
      have HA : RowKit.Hid (PrSt w va vn vc (turnF (E.take i)) (wr.alloc (.cells #[.int .i64 y, .int .i64 x] 43)).drew) := Lib.hid ((HI.out.since ((Below.refl _ wr).alloc (Nat.le_refl _) _)).since (Below.refl _ _).drew)
      go_wp2_with fail
      go_region_law (refine step_append_pr rfl (.tmp 12) (.tmp 24) 22 rfl 43 Try.underlying22 info_prF w.heap.size (.slice va vn vc) (turnF (E.take i)) (by simp [Act.eval, Act.put]) HA.out.own HA.out.bel.size 1 wr.heap.size (y, x) (by simp [Act.eval, Act.put]) (by simp) (by simp) HLN.out ?_; intro va5 vn5 vc5 w5 ho5 hb5; have H5 : RowKit.Hid (PrSt w va5 vn5 vc5 (turnF (E.take i) ++ [(y, x)]) w5) := Lib.hid ⟨HA.out.bel.trans hb5, ho5⟩; clear ho5 hb5)
      all_goals (go_wp2_with fail; go_roundw; (case rel => exact ⟨i + 1, va5, vn5, vc5, by omega, by go_num, rfl, Lib.hid (by rw [HT.out]; exact H5.out)⟩); (case measure => simp [intOf]; omega))
    · obtain rfl : en = i := by omega
      have hge : ¬ ((en : Int) < (en : Int)) := by omega
      have HT : RowKit.Hid (E.take en = E) := Lib.hid (by rw [← hl, List.take_length])
      rw [HT.out] at HI
      go_wp2_with fail
      go_ret
      exact ⟨va, vn, vc, rfl, HI.out⟩
/-- The edges of a drawn list. -/
def nodesF (l : List (Int × Int)) : List (Int × Int) := (l.take 60).map fun x => (x.1 % 20, x.2 % 20)
theorem nodesF_in {l : List (Int × Int)} {e : Int × Int} (h : e ∈ nodesF l) : 0 ≤ e.1 ∧ e.1 < 20 ∧ 0 ≤ e.2 ∧ e.2 < 20 := by
  obtain ⟨x, _, rfl⟩ := List.mem_map.1 h
  simp only
  omega
theorem nodesF_len (l : List (Int × Int)) : (nodesF l).length ≤ 60 := by unfold nodesF; simp; omega
def nodeI (l : List (Int × Int)) (i : Nat) : List (Int × Int) := (l.take i).map fun x => (x.1 % 20, x.2 % 20)
theorem nodeI_more {l : List (Int × Int)} {i : Nat} (hi : i < l.length) : nodeI l (i + 1) = nodeI l i ++ [(l[i].1 % 20, l[i].2 % 20)] := by
  unfold nodeI; rw [List.take_succ_eq_append_getElem hi, List.map_append]; rfl
set_option maxRecDepth 100000 in
set_option maxHeartbeats 4000000 in
theorem nodes_any (ea : Option Addr) (en ec : Nat) (E : List (Int × Int)) (w : World) (hE : Pairs8At w ea en E) :
    Calls Try.prog 18 #[.slice ea en ec, .int .i64 20] w (PrPost w (nodesF E)) := by
  have HE := Lib.hid hE
  have hl := hE.1
  have HS0 := Lib.hid (PrSt.begin w)
  clear hE
  go_enter Try.func18, Try.ntmps18
  go_upto_region 3 with fail
  go_loopw [5, 6] (fun v5 v6 wr => ∃ (i : Nat) (va : Option Addr) (vn vc : Nat), i ≤ en ∧ i ≤ 60 ∧ v6 = .int .i64 (i : Int) ∧ v5 = .slice va vn vc ∧ RowKit.Hid (PrSt w va vn vc (nodeI E i) wr)) (fun _ v6 _ => 61 - (intOf v6).toNat)
  case atStart => exact ⟨0, _, _, _, Nat.zero_le _, by omega, rfl, rfl, Lib.hid HS0.out⟩
  case round =>
    obtain ⟨i, va, vn, vc, hi, hi6, rfl, rfl, HI⟩ := hrel
    by_cases hlt : i < en
    · have hltz : (i : Int) < (en : Int) := by omega
      have hi0 : (0 : Int) ≤ (i : Int) := by omega
      by_cases h60 : i < 60
      · have h60z : (i : Int) < 60 := by omega
        have hiE : i < E.length := by omega
        obtain ⟨_, hrg, hrd⟩ := HE.out.since HI.out.bel
        obtain ⟨g, off, rfl, hg, hcs⟩ := hrd (by omega)
        obtain ⟨c0, c1⟩ := hcs i hiE
        obtain ⟨r0, r1⟩ := hrg _ (List.getElem_mem hiE)
        have HT := Lib.hid (nodeI_more hiE)
        have HLN : RowKit.Hid ((nodeI E i).length ≤ 1000000) := Lib.hid (by unfold nodeI; simp; omega)
        clear hcs hrg hrd
        generalize E[i].1 = x at *
        generalize E[i].2 = y at *
        have HA : RowKit.Hid (PrSt w va vn vc (nodeI E i) (wr.alloc (.cells #[.int .i64 (x % 20), .int .i64 (y % 20)] 43)).drew) := Lib.hid ((HI.out.since ((Below.refl _ wr).alloc (Nat.le_refl _) _)).since (Below.refl _ _).drew)
        have hwx : IntKind.i64.wrap x = x := wrap_small _ (by omega) (by omega)
        have hwy : IntKind.i64.wrap y = y := wrap_small _ (by omega) (by omega)
        have htx : x.tmod 20 = x % 20 := Int.tmod_eq_emod_of_nonneg (by omega)
        have hty : y.tmod 20 = y % 20 := Int.tmod_eq_emod_of_nonneg (by omega)
        have hwx2 : IntKind.i64.wrap (x % 20) = x % 20 := wrap_small _ (by omega) (by omega)
        have hwy2 : IntKind.i64.wrap (y % 20) = y % 20 := wrap_small _ (by omega) (by omega)
        go_wp2_with fail
        go_region_law (refine step_append_pr rfl (.tmp 18) (.tmp 36) 22 rfl 43 Try.underlying22 info_prF w.heap.size (.slice va vn vc) (nodeI E i) (by simp [Act.eval, Act.put]) HA.out.own HA.out.bel.size 1 wr.heap.size (x % 20, y % 20) (by simp [Act.eval, Act.put]) (by simp) (by simp) HLN.out ?_; intro va5 vn5 vc5 w5 ho5 hb5; have H5 : RowKit.Hid (PrSt w va5 vn5 vc5 (nodeI E i ++ [(x % 20, y % 20)]) w5) := Lib.hid ⟨HA.out.bel.trans hb5, ho5⟩; clear ho5 hb5)
        all_goals (go_wp2_with fail; go_roundw; (case rel => exact ⟨i + 1, va5, vn5, vc5, by omega, by omega, by go_num, rfl, Lib.hid (by rw [HT.out]; exact H5.out)⟩); (case measure => simp [intOf]; omega))
      · have h60n : ¬ ((i : Int) < 60) := by omega
        have HN : RowKit.Hid (nodesF E = nodeI E i) := Lib.hid (by unfold nodesF nodeI; rw [show i = 60 by omega])
        go_wp2_with fail
        go_ret
        exact ⟨va, vn, vc, rfl, by rw [HN.out]; exact HI.out⟩
    · obtain rfl : en = i := by omega
      have hge : ¬ ((en : Int) < (en : Int)) := by omega
      have HN : RowKit.Hid (nodesF E = nodeI E en) := Lib.hid (by unfold nodesF nodeI; rw [List.take_of_length_le (by omega), List.take_of_length_le (by omega)])
      go_wp2_with fail
      go_ret
      exact ⟨va, vn, vc, rfl, by rw [HN.out]; exact HI.out⟩
end Go.Proofs.Ytgncpiamokeohaa
