/- Layer 14: the law FlowGrows. -/
import Derived.Test.YtgncpiamokeohaaFlowBoL
namespace Go.Proofs.Ytgncpiamokeohaa
open Go.RowKit (wrap64 intOf Below)
set_option linter.unusedVariables false
set_option linter.unusedSimpArgs false
def startsF (L : List UInt8) (i : Nat) : List Int := (L.take i).map fun b => ((b.toNat : Int) % 20)
theorem startsF_more {L : List UInt8} {i : Nat} (hi : i < L.length) : startsF L (i + 1) = startsF L i ++ [((L[i].toNat : Int) % 20)] := by
  unfold startsF; rw [List.take_succ_eq_append_getElem hi, List.map_append]; rfl
theorem startsF_in {L : List UInt8} {i : Nat} {v : Int} (h : v ∈ startsF L i) : 0 ≤ v ∧ v < 20 := by
  obtain ⟨b, _, rfl⟩ := List.mem_map.1 h
  omega
theorem startsF_len (L : List UInt8) (i : Nat) : (startsF L i).length ≤ i := by unfold startsF; rw [List.length_map, List.length_take]; omega
theorem OwnsI.nilc {w : World} {B : Nat} {e : TypeId} {va : Option Addr} {vn vc : Nat} {Z : List Int} (h : OwnsI w B e (.slice va vn vc) Z) : va = none → vc = 0 := by
  intro hn
  rcases h.2 with ⟨e, _⟩ | ⟨g, cap, cur, e, _⟩
  · cases e; rfl
  · subst hn; cases e
theorem OwnsI.reads {w : World} {B : Nat} {e : TypeId} {va : Option Addr} {vn vc : Nat} {Z : List Int} (h : OwnsI w B e (.slice va vn vc) Z) : NumsAt w va vn Z := by
  obtain ⟨a, n, c, e, hn⟩ := h.nums
  cases e; exact hn
theorem ownsI_none (w : World) : OwnsI (w.alloc (.cells #[] 3)) w.heap.size 3 (.slice (some ⟨w.heap.size, 0, none⟩) 0 0) [] :=
  World.ownsRow_lit (base := w.heap.size) (e := 3) (size := 1) w #[] 0 (Nat.le_refl _) (by unfold maxLen; omega) rfl
theorem two_in {l m : List (Int × Int)} {e : Int × Int} (h : e ∈ nodesF l ++ nodesF m) : 0 ≤ e.1 ∧ e.1 < 20 ∧ 0 ≤ e.2 ∧ e.2 < 20 := by
  rcases List.mem_append.1 h with h | h
  · exact nodesF_in h
  · exact nodesF_in h
/-- Where the first list of starts is told. -/
structure GrA (w w1 : World) (va : Option Addr) (vn vc : Nat) (l : List (Int × Int)) (sa : Option Addr) (sn sc : Nat) (S : List Int) (W : World) : Prop where
  ed : PairsAt W va vn (nodesF l)
  ni : va = none → vc = 0
  st : NumsAt W sa sn S
  sni : sa = none → sc = 0
  bel : Below w.heap.size w W
  sz : S.length ≤ 10
theorem GrA.since {w w1 W W' : World} {va : Option Addr} {vn vc : Nat} {l : List (Int × Int)} {sa : Option Addr} {sn sc : Nat} {S : List Int} (h : GrA w w1 va vn vc l sa sn sc S W) (hb : Below W.heap.size W W') : GrA w w1 va vn vc l sa sn sc S W' :=
  ⟨h.ed.since hb, h.ni, h.st.since hb, h.sni, h.bel.trans (hb.mono h.bel.size), h.sz⟩
theorem GrA.vn {w w1 W : World} {va : Option Addr} {vn vc : Nat} {l : List (Int × Int)} {sa : Option Addr} {sn sc : Nat} {S : List Int} (h : GrA w w1 va vn vc l sa sn sc S W) : vn ≤ 60 ∧ sn ≤ 10 := ⟨by rw [← h.ed.1]; exact nodesF_len l, by rw [← h.st.1]; exact h.sz⟩
set_option maxRecDepth 100000 in
set_option maxHeartbeats 8000000 in
theorem flowgrows_walk (ea : Option Addr) (en ec : Nat) (l : List (Int × Int)) (ma : Option Addr) (mn mc : Nat) (l2 : List (Int × Int)) (fa : Option Addr) (fn fc : Nat) (L : List UInt8) (w : World) (hE : Pairs8At w ea en l) (hM : Pairs8At w ma mn l2) (hL : BytesAt w fa fn fc L) :
    Calls Try.prog 6 #[.slice ea en ec, .slice ma mn mc, .slice fa fn fc] w fun e w' => e = .returned (.bool true) ∧ Below w.heap.size w w' := by
  have HN := Lib.hid (nodes_any ea en ec l w hE)
  have HM : RowKit.Hid (∀ u, Below w.heap.size w u → Calls Try.prog 18 #[.slice ma mn mc, .int .i64 20] u (PrPost u (nodesF l2))) := Lib.hid fun u hu => nodes_any ma mn mc l2 u (hM.since hu)
  have HL := Lib.hid hL
  have hln := hL.1
  clear hE hM hL
  go_enter Try.func6, Try.ntmps6
  go_upto_region 3 with (go_at_call 18; refine HN.out.mono ?_; rintro e w1 ⟨va, vn, vc, rfl, h1⟩; have H1 := Lib.hid h1; clear h1)
  go_loopw [8, 9] (fun v8 v9 wr => ∃ (i : Nat) (sa : Option Addr) (sn sc : Nat), i ≤ fn ∧ i ≤ 10 ∧ v9 = .int .i64 (i : Int) ∧ v8 = .slice sa sn sc ∧ RowKit.Hid (OwnsI wr w1.heap.size 3 (.slice sa sn sc) (startsF L i) ∧ Below w1.heap.size w1 wr)) (fun _ v9 _ => 11 - (intOf v9).toNat)
  case atStart => exact ⟨0, _, _, _, Nat.zero_le _, by omega, rfl, rfl, Lib.hid ⟨ownsI_none w1, (Below.refl _ w1).alloc (Nat.le_refl _) _⟩⟩
  case round =>
    obtain ⟨i, sa, sn, sc, hi, hi10, rfl, rfl, HI⟩ := hrel
    by_cases hlt : i < fn ∧ i < 10
    · obtain ⟨h1, h2⟩ := hlt
      have h1z : (i : Int) < (fn : Int) := by omega
      have h2z : (i : Int) < 10 := by omega
      have hi0 : (0 : Int) ≤ (i : Int) := by omega
      have hiL : i < L.length := by omega
      obtain ⟨_, _, _, _, hp5, hp6⟩ := HL.out
      obtain ⟨g, off, rfl, hg⟩ := hp5 (by omega)
      have c0 : wr.cell? ⟨g, off + i, none⟩ = some (.int .u8 (L[i].toNat : Int)) := by
        have hbb : Below w.heap.size w wr := H1.out.bel.trans (HI.out.2.mono H1.out.bel.size)
        have h3 := hp6 _ rfl i hiL
        rw [addr_plain] at h3
        exact (hbb.cell (p := ⟨g, off + i, none⟩) hg).trans h3
      have HT := Lib.hid (startsF_more hiL)
      have HLN : RowKit.Hid (((startsF L i).length + 1) * 8 ≤ 140737488355328) := Lib.hid (by have := startsF_len L i; omega)
      have hx1 : (0 : Int) ≤ (L[i].toNat : Int) := by omega
      have hx2 : (L[i].toNat : Int) ≤ 255 := by have := L[i].toNat_lt; omega
      generalize (L[i].toNat : Int) = x at *
      have hwx : IntKind.i64.wrap x = x := wrap_small _ (by omega) (by omega)
      have htx : x.tmod 20 = x % 20 := Int.tmod_eq_emod_of_nonneg (by omega)
      have hwx2 : IntKind.i64.wrap (x % 20) = x % 20 := wrap_small _ (by omega) (by omega)
      clear hp5 hp6
      go_wp2_with ((with_reducible refine wpList_append_num _ rfl _ _ 23 rfl 3 Try.underlying23 info_intF w1.heap.size (.slice sa sn sc) (startsF L i) ?_ ?_ ?_ _ 1 wr.heap.size (x % 20) ?_ ?_ ?_ ?_ ?_); (next => rfl); (next => exact HI.out.1); (next => exact HI.out.2.size); (next => rfl); (next => rfl); (next => rfl); (next => exact HLN.out); intro v5 w5 ho5 hb5; obtain ⟨xa, xn, xc, rfl, _⟩ := ho5.nums; have H5 := Lib.hid ho5; have H6 := Lib.hid (HI.out.2.trans hb5); clear ho5 hb5)
      go_roundw
      case rel => exact ⟨i + 1, xa, xn, xc, by omega, by omega, by go_num, rfl, Lib.hid ⟨by rw [HT.out]; exact H5.out, H6.out⟩⟩
      case measure => simp [intOf]; omega
    · obtain ⟨S, hS⟩ : ∃ S, S = startsF L i := ⟨_, rfl⟩
      have HIN : RowKit.Hid (∀ v ∈ S, 0 ≤ v ∧ v < 20) := Lib.hid fun v hv => startsF_in (hS ▸ hv)
      have HA : RowKit.Hid (GrA w w1 va vn vc l sa sn sc S wr) := Lib.hid ⟨H1.out.own.read.since HI.out.2, H1.out.own.nilc, by rw [hS]; exact HI.out.1.reads, HI.out.1.nilc, H1.out.bel.trans (HI.out.2.mono H1.out.bel.size), by rw [hS]; have := startsF_len L i; omega⟩
      have HF1 : RowKit.Hid (fitF ((20 : Nat) : Int) (nodesF l) S = 0) := Lib.hid (fitF_zero (by omega) (by omega) (fun e he => nodesF_in he) (fun v hv => HIN.out v hv))
      have HF2 : RowKit.Hid (fitF ((20 : Nat) : Int) (nodesF l ++ nodesF l2) (S ++ [3]) = 0) := Lib.hid (fitF_zero (by omega) (by omega) (fun e he => two_in he) (fun v hv => by
        rcases List.mem_append.1 hv with h | h
        · exact HIN.out v h
        · simp at h; omega))
      clear HI hS HN H1 HL
      have hsn := HA.out.vn
      have hcase : (¬ ((i : Int) < (fn : Int))) ∨ ((i : Int) < (fn : Int) ∧ ¬ ((i : Int) < 10)) := by omega
      rcases hcase with hc | ⟨hc, hc2⟩
      all_goals go_upto_region 6 with fail
      all_goals
        go_upto_region 7 with (first
          | (go_at_call 9; refine (own_any va vn vc _ _ HA.out.ed HA.out.ni (by omega)).mono ?_; rintro e w2 ⟨wa, wn, wc, rfl, h2, h3⟩; have H2 := Lib.hid h2; have H3 := Lib.hid h3; clear h2 h3)
          | ((with_reducible refine wpList_append_nums _ rfl _ _ 23 rfl 3 Try.underlying23 info_intF w2.heap.size (.slice (some ⟨w2.heap.size, 0, none⟩) 0 0) [] ?_ ?_ ?_ sa sn sc S ?_ ?_ ?_ ?_ ?_); (next => rfl); (next => exact ownsI_none w2); (next => simp); (next => rfl); (next => exact HA.out.sni); (next => exact ((HA.out.since H3.out).since ((Below.refl _ w2).alloc (Nat.le_refl _) _)).st); (next => simp; omega); intro ta tn tc w3 ho3 hb3; rw [List.nil_append] at ho3; have HO3 := Lib.hid ho3; have HB3 := Lib.hid (((Below.refl _ w2).alloc (Nat.le_refl _) _).trans hb3); clear ho3 hb3)
          | (go_at_call 8; refine (reachF_any ((20 : Nat) : Int) wa wn wc (nodesF l) ta tn tc S _ (H2.out.read.since HB3.out) HO3.out.reads (by have := H2.out.read.1; have := nodesF_len l; omega) (by have := HO3.out.reads.1; have := HA.out.sz; omega)).mono ?_; rintro e w4 ⟨pa, pk, pc, rfl, h4, h5⟩; rw [HF1.out]; have H4 := Lib.hid h4; have H5 := Lib.hid h5; clear h4 h5))
      all_goals
        have HA4 : RowKit.Hid (GrA w w1 va vn vc l sa sn sc S w4) := Lib.hid (((HA.out.since H3.out).since HB3.out).since H5.out)
        clear HA H2 H3 HO3 HB3
        go_upto_region 8 with (first
          | (go_at_call 9; refine (own_any va vn vc _ _ HA4.out.ed HA4.out.ni (by omega)).mono ?_; rintro e w5 ⟨xa, xn, xc, rfl, h2, h3⟩; have H6 := Lib.hid h2; have H7 := Lib.hid h3; clear h2 h3)
          | (go_at_call 18; refine (HM.out w5 (HA4.out.since H7.out).bel).mono ?_; rintro e w6 ⟨ya, yn, yc, rfl, h8⟩; have H8 := Lib.hid h8; clear h8)
          | ((with_reducible refine wpList_append_prs _ rfl _ _ 22 rfl 43 Try.underlying22 info_prF w4.heap.size (.slice xa xn xc) (nodesF l) ?_ ?_ ?_ ya yn yc (nodesF l2) ?_ ?_ ?_ ?_ ?_); (next => rfl); (next => exact H6.out.below (H8.out.bel)); (next => exact Nat.le_trans H7.out.size H8.out.bel.size); (next => rfl); (next => exact H8.out.own.nilc); (next => exact H8.out.own.read); (next => have h1 := H8.out.own.read.1; have h2 := nodesF_len l; have h3 := nodesF_len l2; omega); intro za zn zc w7 ho7 hb7; have HO7 := Lib.hid ho7; have HB7 := Lib.hid ((H7.out.trans (H8.out.bel.mono H7.out.size)).trans hb7); clear ho7 hb7)
          | ((with_reducible refine wpList_append_nums _ rfl _ _ 23 rfl 3 Try.underlying23 info_intF w7.heap.size (.slice (some ⟨w7.heap.size, 0, none⟩) 0 0) [] ?_ ?_ ?_ sa sn sc S ?_ ?_ ?_ ?_ ?_); (next => rfl); (next => exact ownsI_none w7); (next => simp); (next => rfl); (next => exact HA4.out.sni); (next => exact ((HA4.out.since HB7.out).since ((Below.refl _ w7).alloc (Nat.le_refl _) _)).st); (next => simp; omega); intro ta tn tc w8 ho8 hb8; rw [List.nil_append] at ho8; have HO8 := Lib.hid ho8; have HB8 := Lib.hid (((Below.refl _ w7).alloc (Nat.le_refl _) _).trans hb8); clear ho8 hb8)
          | ((with_reducible refine wpList_append_num _ rfl _ _ 23 rfl 3 Try.underlying23 info_intF w7.heap.size (.slice ta tn tc) S ?_ ?_ ?_ _ 1 w8.heap.size 3 ?_ ?_ ?_ ?_ ?_); (next => rfl); (next => exact HO8.out); (next => exact HB8.out.size); (next => rfl); (next => rfl); (next => rfl); (next => have := HA4.out.sz; omega); intro v9 w9 ho9 hb9; obtain ⟨ra, rn, rc, rfl, _⟩ := ho9.nums; have HO9 := Lib.hid ho9; have HB9 := Lib.hid (HB8.out.trans hb9); clear ho9 hb9)
          | (go_at_call 8; refine (reachF_any ((20 : Nat) : Int) za zn zc (nodesF l ++ nodesF l2) ra rn rc (S ++ [3]) _ (HO7.out.read.since HB9.out) HO9.out.reads (by have h1 := HO7.out.read.1; rw [List.length_append] at h1; have := nodesF_len l; have := nodesF_len l2; omega) (by have h1 := HO9.out.reads.1; rw [List.length_append] at h1; have := HA4.out.sz; simp at h1; omega)).mono ?_; rintro e w10 ⟨qa, qk, qc, rfl, h10, h11⟩; rw [HF2.out]; have H10 := Lib.hid h10; have H11 := Lib.hid h11; clear h10 h11))
        have HBA : RowKit.Hid (Below w4.heap.size w4 w10) := Lib.hid (HB7.out.trans ((HB9.out.trans (H11.out.mono HB9.out.size)).mono HB7.out.size))
        obtain ⟨hpk, hp⟩ := metL_at HF1.out (H4.out.since HBA.out)
        obtain ⟨hqk, hq⟩ := metL_at HF2.out H10.out
        have HBW : RowKit.Hid (Below w.heap.size w w10) := Lib.hid ((HA4.out.since HBA.out).bel)
        subst hpk hqk
        have HP := Lib.hid hp
        have HQ := Lib.hid hq
        clear hp hq
        go_upto_region 11 with fail
        go_loopw [14] (fun v14 wr => ∃ i : Nat, i ≤ 20 ∧ v14 = .int .i64 (i : Int) ∧ wr = w10) (fun v14 _ => 20 - (intOf v14).toNat)
        case atStart => exact ⟨0, by omega, rfl, rfl⟩
        case round =>
          obtain ⟨j, hj, rfl, rfl⟩ := hrel
          by_cases hlt : j < 20
          · have hltz : (j : Int) < 20 := by omega
            have hj0 : (0 : Int) ≤ (j : Int) := by omega
            obtain ⟨g1, o1, r1, rfl, hg1, c1, m1⟩ := HP.out j hlt
            obtain ⟨g2, o2, r2, rfl, hg2, c2, m2⟩ := HQ.out j hlt
            have hr : r1 = false ∨ (r1 = true ∧ r2 = true) := by
              cases r1 with
              | false => exact .inl rfl
              | true => exact .inr ⟨rfl, m2.2 ((m1.1 rfl).mono (fun e he => List.mem_append_left _ he) (fun v hv => List.mem_append_left _ hv))⟩
            clear m1 m2
            rcases hr with rfl | ⟨rfl, rfl⟩
            · go_wp2_with fail
              go_roundw
              case rel => exact ⟨j + 1, by omega, by go_num, by simp⟩
              case measure => simp [intOf]; omega
            · go_wp2_with fail
              go_roundw
              case rel => exact ⟨j + 1, by omega, by go_num, by simp⟩
              case measure => simp [intOf]; omega
          · obtain rfl : j = 20 := by omega
            have hge : ¬ ((20 : Int) < 20) := by omega
            obtain ⟨g2, o2, r2, rfl, hg2, c2, m2⟩ := HQ.out 3 (by omega)
            have hr2 : r2 = true := m2.2 (.start (by simp))
            subst hr2
            clear m2
            go_wp2_with (go_at_call 14; refine (lives14_any _).mono ?_; rintro e w12 ⟨rfl, h12⟩; have H12 := Lib.hid h12; clear h12)
            go_ret
            exact ⟨rfl, HBW.out.trans (H12.out.mono HBW.out.size)⟩
end Go.Proofs.Ytgncpiamokeohaa
