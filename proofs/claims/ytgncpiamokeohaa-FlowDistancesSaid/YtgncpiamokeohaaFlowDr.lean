/- Layer 14: the document's Reach. -/
import Derived.Test.YtgncpiamokeohaaFlowDw
import Derived.Test.YtgncpiamokeohaaFlowGrL
namespace Go.Proofs.Ytgncpiamokeohaa
open Go.RowKit (wrap64 intOf Below)
set_option linter.unusedVariables false
set_option linter.unusedSimpArgs false
def OwnsBo (w : World) (B : Nat) (e : TypeId) (v : Value) (L : List Bool) : Prop := w.ownsRow B e 1 v L.length (L.map Value.bool)
theorem OwnsBo.slice {w : World} {B : Nat} {e : TypeId} {v : Value} {l : List Bool} (h : OwnsBo w B e v l) : ∃ va vc, v = .slice va l.length vc := by
  rcases h.2 with ⟨e, h0⟩ | ⟨g, cap, cur, e, _⟩
  · exact ⟨none, 0, by rw [h0]; exact e⟩
  · exact ⟨_, _, e⟩
theorem OwnsBo.reads {w : World} {B : Nat} {e : TypeId} {va : Option Addr} {vn vc : Nat} {l : List Bool} (h : OwnsBo w B e (.slice va vn vc) l) : BoolsAt w va vn l := by
  have hown : w.ownsRow B e 1 (.slice va vn vc) l.length (l.map Value.bool) := h
  rcases h.2 with ⟨e1, h0⟩ | ⟨g, cap, cur, e1, hB, hh, _⟩
  · simp only [Value.slice.injEq] at e1
    exact ⟨by omega, fun hp => by omega⟩
  · simp only [Value.slice.injEq] at e1
    have hva := e1.1
    subst hva
    refine ⟨e1.2.1.symm, fun _ => ⟨g, 0, rfl, (Array.getElem?_eq_some_iff.1 hh).1, fun i hi => ?_⟩⟩
    have c1 := World.ownsRow.cells hown rfl i (.bool l[i]) (by rw [List.getElem?_map, List.getElem?_eq_getElem hi]; rfl)
    rw [addr_plain, Nat.zero_add] at c1
    rw [Nat.zero_add]
    exact c1
theorem ownsBo_none (w : World) : OwnsBo (w.alloc (.cells #[] 4)) w.heap.size 4 (.slice (some ⟨w.heap.size, 0, none⟩) 0 0) [] :=
  World.ownsRow_lit (base := w.heap.size) (e := 4) (size := 1) w #[] 0 (Nat.le_refl _) (by unfold maxLen; omega) rfl
/-- 'append(l, truth)'. -/
theorem wpList_append_bo {P : Program} (w : World) {ops : Array Oper} {rest : List Oper} {o : Oper} {a : Act} {Q : Exit → Act → World → Prop} (hgd : o.guard = none) (s x : Operand) (t : TypeId)
    (ho : o.op = .call { callee := .builtin .append, args := #[s, x], argTypes := #[t, t] }) (e : TypeId) (ht : P.underlying t = some (.slice e))
    (hinfo : (P.info? e).map (fun i => (i.zero, i.size, i.bytes)) = some (some (.bool false), 1, 1))
    (B : Nat) (v : Value) (l : List Bool) (hs : a.eval s = v) (hown : OwnsBo w B e v l) (hB : B ≤ w.heap.size)
    (C : Array Value) (c g : Nat) (z : Bool) (hx : a.eval x = .slice (some ⟨g, 0, none⟩) 1 c) (hg : g = w.heap.size) (hC : C = #[.bool z])
    (hlen : l.length ≤ 1000000)
    (h : ∀ va vn vc w', OwnsBo w' B e (.slice va vn vc) (l ++ [z]) → Below B w w' → wpList P ops Q rest (a.put o.dst (.slice va vn vc)) w') : wpList P ops Q (o :: rest) a (w.alloc (.cells C e)) := by
  obtain ⟨i0, hi, hz0, hz1, hz2⟩ := info_parts hinfo
  subst hC hg
  refine wpList_append_own_at _ hgd s x t ho B e i0 (.bool false) 1 1 ht hi hz0 hz1 hz2 rfl (by decide) v l.length (l.map Value.bool) hs (World.ownsRow.alloc hown _) ⟨w.heap.size, 0, none⟩ 1 c [.bool z] hx rfl (fun j u hu => ?_) (by intro u hu; simp at hu; subst hu; rfl) (by unfold maxLen; omega) (by omega) (by simp; omega) ?_
  · rw [addr_plain, Nat.zero_add, World.cell?_alloc_mark]
    simpa using hu
  · intro v' w' hown' hgrow _ hwh
    have h2 : OwnsBo w' B e v' (l ++ [z]) := by
      show w'.ownsRow B e 1 v' (l ++ [z]).length ((l ++ [z]).map Value.bool)
      rw [List.map_append, List.length_append]
      exact hown'
    obtain ⟨va, vc, rfl⟩ := h2.slice
    exact h va _ vc w' h2 (Below.grown ((Below.refl B w).alloc hB _) hgrow (by simp; omega) (fun k hk => (World.ownsRow.lt hown k hk).1))
theorem info_boF : (Try.prog.info? 4).map (fun i => (i.zero, i.size, i.bytes)) = some (some (.bool false), 1, 1) := by kernel_rfl
def boD (D : List Int) : List Bool := D.map fun d => decide (0 ≤ d)
theorem boD_take {D : List Int} {i : Nat} (hi : i < D.length) : boD (D.take (i + 1)) = boD (D.take i) ++ [decide (0 ≤ D[i])] := by
  unfold boD; rw [List.take_succ_eq_append_getElem hi, List.map_append]; rfl
theorem metL_dist (n : Int) (E : List (Int × Int)) (S : List Int) : metL n E S = boD (distL n E S) := by
  unfold metL distL boD metF
  split <;> rfl
theorem distL_len (n : Int) (E : List (Int × Int)) (S : List Int) : (distL n E S).length ≤ 16384 := by
  unfold distL
  split
  · rename_i h
    obtain ⟨h0, h1, _⟩ := fitF_ok h
    simp [distsF]
    omega
  · simp
set_option maxRecDepth 100000 in
set_option maxHeartbeats 4000000 in
theorem reach14_any (n : Int) (ea : Option Addr) (en ec : Nat) (E : List (Int × Int)) (la : Option Addr) (ln lc : Nat) (S : List Int) (w : World) (hE : PairsAt w ea en E) (hL : NumsAt w la ln S) (hen : en ≤ 1099511627776) (hln : ln ≤ 17592186044416) :
    Calls Try.prog 10 #[.int .i64 n, .slice ea en ec, .slice la ln lc] w (ReachedPost n E S w) := by
  have CD := Lib.hid (dist14_any n ea en ec E la ln lc S w hE hL hen hln)
  have HML := Lib.hid (metL_dist n E S)
  have HDL := Lib.hid (distL_len n E S)
  clear hE hL
  go_enter Try.func10, Try.ntmps10
  go_upto_region 4 with (go_at_call 16; refine CD.out.mono ?_; rintro e w1 ⟨da, dk, dc, rfl, h1, h2⟩; have H1 := Lib.hid h1; have H2 := Lib.hid h2; clear h1 h2)
  obtain ⟨D, hD⟩ : ∃ D, D = distL n E S := ⟨_, rfl⟩
  rw [← hD] at H1 HML HDL
  clear hD
  have hl := H1.out.1
  have hdl := HDL.out
  obtain ⟨er, her⟩ : ∃ er, er = fitF n E S := ⟨_, rfl⟩
  rw [← her]
  have HER := Lib.hid her
  clear her
  go_loopw [10, 11] (fun v10 v11 wr => ∃ (i : Nat) (va : Option Addr) (vn vc : Nat), i ≤ dk ∧ v11 = .int .i64 (i : Int) ∧ v10 = .slice va vn vc ∧ RowKit.Hid (OwnsBo wr w1.heap.size 4 (.slice va vn vc) (boD (D.take i)) ∧ Below w1.heap.size w1 wr)) (fun _ v11 _ => dk - (intOf v11).toNat)
  case atStart => exact ⟨0, _, _, _, Nat.zero_le _, rfl, rfl, Lib.hid ⟨ownsBo_none w1, (Below.refl _ w1).alloc (Nat.le_refl _) _⟩⟩
  case round =>
    obtain ⟨i, va, vn, vc, hi, rfl, rfl, HI⟩ := hrel
    by_cases hlt : i < dk
    · have hltz : (i : Int) < (dk : Int) := by omega
      have hi0 : (0 : Int) ≤ (i : Int) := by omega
      obtain ⟨g, off, rfl, hg, hiD, c0⟩ := nums_cell (H1.out.since HI.out.2) hlt
      have HT := Lib.hid (boD_take hiD)
      have HLN : RowKit.Hid ((boD (D.take i)).length ≤ 1000000) := Lib.hid (by unfold boD; simp; omega)
      generalize D[i] = x at *
      go_wp2_with ((with_reducible refine wpList_append_bo _ rfl _ _ 25 rfl 4 Try.underlying25 info_boF w1.heap.size (.slice va vn vc) (boD (D.take i)) ?_ ?_ ?_ _ 1 wr.heap.size (decide (0 ≤ x)) ?_ ?_ ?_ ?_ ?_); (next => rfl); (next => exact HI.out.1); (next => exact HI.out.2.size); (next => rfl); (next => rfl); (next => rfl); (next => exact HLN.out); intro xa xn xc w5 ho5 hb5; have H5 := Lib.hid ho5; have H6 := Lib.hid (HI.out.2.trans hb5); clear ho5 hb5)
      go_roundw
      case rel => exact ⟨i + 1, xa, xn, xc, by omega, by go_num, rfl, Lib.hid ⟨by rw [HT.out]; exact H5.out, H6.out⟩⟩
      case measure => simp [intOf]; omega
    · obtain rfl : dk = i := by omega
      have hge : ¬ ((dk : Int) < (dk : Int)) := by omega
      have hT : D.take dk = D := by rw [← hl, List.take_length]
      rw [hT] at HI
      go_wp2_with fail
      go_ret2
      exact ⟨va, vn, vc, by rw [← HER.out]; rfl, by rw [HML.out]; exact HI.out.1.reads, H2.out.trans (HI.out.2.mono H2.out.size)⟩
end Go.Proofs.Ytgncpiamokeohaa
