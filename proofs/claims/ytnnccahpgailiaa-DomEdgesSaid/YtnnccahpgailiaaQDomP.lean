/- Layer 8: the blocks from which a way back goes to a head. -/
import Derived.Test.YtnnccahpgailiaaQT6

namespace Go.Proofs.Ytnnccahpgailiaa
open Go.RowKit (wrap64 intOf Below)
set_option linter.unusedVariables false
set_option linter.unusedSimpArgs false

theorem back_fr (f : FuncD) (n h : Nat) : ((ahL f n h).filter (metZ f)).filter (fun p => overB f h p) = backL f n h := by
  unfold backL
  rw [List.filter_filter]
  apply List.filter_congr
  intro z _
  cases ho : overB f h z with
  | false => simp
  | true => simp [(overB_met ho).2]
theorem take_filter {α : Type} {d : α → Bool} {L : List α} {i : Nat} (hi : i < L.length) : (L.take (i + 1)).filter d = (L.take i).filter d ++ (if d L[i] then [L[i]] else []) := by
  rw [List.take_succ_eq_append_getElem hi, List.filter_append]
  congr 1
  cases h : d L[i] <;> simp [h]
/-- A row that is read lies where nothing new lies. -/
theorem GrownSt.from_ {W : World} {f : FuncD} {B p n : Nat} {g : Nat → Nat} {Z : Nat → List Int} {ov : Value} {gf : Nat} {vs : List Value} {rd m : Nat} (h : GrownSt W f B p n g Z ov gf vs rd m) {b : Nat} (hb : b < n) : ∃ xa xn xc, W.cell? ⟨gf, b, none⟩ = some (.slice xa xn xc) ∧ NumsAt W xa xn ((ahL f n b).filter (metZ f)) ∧ xn ≤ n ∧ (∀ k, (Value.slice xa xn xc).ownBlock = some k → k ≠ p ∧ k ≠ gf ∧ (∀ i, i < 5 → k ≠ g i) ∧ k < W.heap.size) := by
  have hv : b < vs.length := by rw [h.vsl]; exact hb
  have hF : b < (frL f n).length := by rw [frL_len]; exact hb
  have hown := h.at_.fr.own b hv hF
  rw [frL_at hF] at hown
  obtain ⟨xa, xn, xc, hxv, hxn⟩ := hown.nums
  refine ⟨xa, xn, xc, by rw [← hxv]; exact h.at_.fr.cell hv, hxn, by rw [← hxn.1]; exact Nat.le_trans (List.length_filter_le _ _) (ahL_len f n b), fun k hk => ?_⟩
  rw [hxv] at hown
  obtain ⟨cur, hc, _⟩ := ownsI_blk hown hk
  refine ⟨fun e => ?_, fun e => ?_, fun i hi e => h.at_.frne i hi b hv (by rw [hxv, hk, e]), (Array.getElem?_eq_some_iff.1 hc).1⟩
  · have h2 := h.at_.blk
    rw [← e, hc] at h2; simp at h2
  · obtain ⟨cur', hc', _⟩ := ownsRow_blk h.at_.fr.row (i := gf) rfl
    rw [← e, hc] at hc'; simp at hc'
set_option maxRecDepth 100000 in
set_option maxHeartbeats 2000000 in
theorem back_any {W : World} {f : FuncD} {B p n : Nat} {g : Nat → Nat} {Z : Nat → List Int} {ov : Value} {gf : Nat} {vs : List Value} {rd m : Nat} (h : GrownSt W f B p n g Z ov gf vs rd m) (hd : Nat) (hh : hd < n) (hn : n ≤ 100000) :
    Calls Try.prog 39 #[.pointer (some ⟨p, 0, none⟩), .int .i64 (hd : Int)] W fun e w' => ∃ va vn vc, e = .returned (.slice va vn vc) ∧ OwnsI w' W.heap.size 3 (.slice va vn vc) (backL f n hd) ∧ Below W.heap.size W w' := by
  obtain ⟨xa, xn, xc, hcf, hxn, hxl, _⟩ := h.from_ hh
  have HG := Lib.hid h
  have HXN := Lib.hid hxn
  have c2 : W.cell? ⟨p, 2, none⟩ = some (.slice (some ⟨gf, 0, none⟩) n n) := by simp [World.cell?, h.at_.blk]
  have hhi : (hd : Int) < (n : Int) := by omega
  have hh0 : (0 : Int) ≤ (hd : Int) := by omega
  have HQ : RowKit.Hid (∀ z ∈ (ahL f n hd).filter (metZ f), ∃ q : Nat, z = (q : Int) ∧ MetF f q ∧ MetF f hd) := Lib.hid fun z hz => by
    obtain ⟨q, rfl, hq, hx⟩ := (fr_mem h.len).1 hz
    have h0 : 0 < f.blocks.length := by have := met_lt hq; omega
    exact ⟨q, rfl, hq, (rpo_of f h0).clos q hd hq ⟨hx, by rw [← h.len]; exact hh⟩⟩
  have HBK := Lib.hid (back_fr f n hd)
  obtain ⟨L, hL⟩ : ∃ L, L = (ahL f n hd).filter (metZ f) := ⟨_, rfl⟩
  rw [← hL] at HXN HQ HBK
  clear h hxn hL
  go_enter Try.func39, Try.ntmps39
  go_wp2_with fail
  clear hcf c2
  go_loopw [5, 16] (fun v5 v16 wr => ∃ (i : Nat) (va : Option Addr) (vn vc : Nat), i ≤ xn ∧ v5 = .slice va vn vc ∧ v16 = .int .i64 (i : Int) ∧ RowKit.Hid (OwnsI wr W.heap.size 3 (.slice va vn vc) ((L.take i).filter (fun z => overB f hd z)) ∧ Below W.heap.size W wr)) (fun _ v16 _ => xn - (intOf v16).toNat)
  case atStart => exact ⟨0, _, _, _, Nat.zero_le _, rfl, rfl, Lib.hid ⟨World.ownsRow_nil _ _ _ 1, Below.refl _ _⟩⟩
  case round =>
    obtain ⟨i, va, vn, vc, hi, rfl, rfl, HI⟩ := hrel
    obtain ⟨wo, hwo⟩ : ∃ u, u = wr := ⟨_, rfl⟩
    rw [← hwo] at HI ⊢
    clear hwo
    by_cases hlt : i < xn
    · have hil : i < L.length := by rw [HXN.out.1]; exact hlt
      obtain ⟨q, hq, hMq, hMh⟩ := HQ.out L[i] (List.getElem_mem _)
      obtain ⟨g0, off, hae, hg0, hcs⟩ := HXN.out.2 (by omega)
      subst hae
      have hcq : wo.cell? ⟨g0, off + i, none⟩ = some (.int .i64 (q : Int)) := by
        have h1 := hcs i hil
        rw [hq] at h1
        exact (HI.out.2.cell (p := ⟨g0, off + i, none⟩) hg0).trans h1
      have CO := Lib.hid ((HG.out.since HI.out.2).overC hd q hMh hMq)
      have HTF := Lib.hid (take_filter (d := fun z => overB f hd z) hil)
      rw [hq] at HTF
      clear hcs hg0 hq hMq hMh hil
      cases hb : overB f (hd : Int) (q : Int) with
      | false =>
        have HNX : RowKit.Hid ((L.take (i + 1)).filter (fun z => overB f hd z) = (L.take i).filter (fun z => overB f hd z)) := Lib.hid (by rw [HTF.out, if_neg (by rw [hb]; simp), List.append_nil])
        rw [hb] at CO
        clear hb HTF
        go_wp2_with (go_at_call 69; (with_reducible refine CO.out.mono ?_); rintro e u ⟨rfl, qq, hu⟩; rw [← hu]; clear hu u CO)
        go_roundw
        case rel => exact ⟨i + 1, _, _, _, hlt, rfl, by go_num, Lib.hid ⟨by rw [HNX.out]; exact HI.out.1.below (below_drewN _ (Below.refl _ _)), below_drewN _ HI.out.2⟩⟩
        case measure => simp [intOf]; omega
      | true =>
        have HNX : RowKit.Hid ((L.take (i + 1)).filter (fun z => overB f hd z) = (L.take i).filter (fun z => overB f hd z) ++ [(q : Int)]) := Lib.hid (by rw [HTF.out, if_pos hb])
        have hlen : ((L.take i).filter (fun z => overB f hd z)).length ≤ n := by
          have h1 := List.length_filter_le (fun z => overB f hd z) (L.take i)
          have h2 : (L.take i).length ≤ n := by simp; omega
          omega
        have HLN : RowKit.Hid ((((L.take i).filter (fun z => overB f hd z)).length + 1) * 8 ≤ 140737488355328) := Lib.hid (by omega)
        rw [hb] at CO
        clear hb HTF hlen
        go_wp2_with (first
          | (go_at_call 69; (with_reducible refine CO.out.mono ?_); rintro e u ⟨rfl, qq, hu⟩; obtain ⟨wd, hwd⟩ : ∃ d, wo.drewN qq = d := ⟨_, rfl⟩; have HOD : RowKit.Hid (OwnsI wd W.heap.size 3 (.slice va vn vc) ((L.take i).filter (fun z => overB f hd z)) ∧ Below W.heap.size W wd) := Lib.hid (by rw [← hwd]; exact ⟨HI.out.1.below (below_drewN _ (Below.refl _ _)), below_drewN _ HI.out.2⟩); rw [← hu, hwd]; clear hu hwd u CO)
          | ((with_reducible refine wpList_append_numW _ rfl _ _ 29 rfl 3 Try.underlying29 info_int W.heap.size (.slice va vn vc) ((L.take i).filter (fun z => overB f hd z)) ?_ ?_ ?_ _ 1 wd.heap.size (q : Int) ?_ ?_ ?_ ?_ ?_); (next => rfl); (next => exact HOD.out.1); (next => exact HOD.out.2.size); (next => rfl); (next => rfl); (next => rfl); (next => exact HLN.out); intro ya yn yc w3 ho3 hg3 hwh3; have HO3 := Lib.hid ho3; have HB3 : RowKit.Hid (Below W.heap.size W w3) := Lib.hid (HOD.out.2.trans (Below.grown ((Below.refl W.heap.size wd).alloc HOD.out.2.size _) hg3 (by simp; have := HOD.out.2.size; omega) (fun k hk => (HOD.out.1.lt k hk).1))); clear ho3 hg3 hwh3))
        go_roundw
        case rel => exact ⟨i + 1, _, _, _, hlt, rfl, by go_num, Lib.hid ⟨by rw [HNX.out]; exact HO3.out, HB3.out⟩⟩
        case measure => simp [intOf]; omega
    · obtain rfl : i = xn := by omega
      have HE : RowKit.Hid ((L.take i).filter (fun z => overB f hd z) = backL f n hd) := Lib.hid (by rw [List.take_of_length_le (by rw [HXN.out.1]; exact Nat.le_refl _)]; exact HBK.out)
      go_wp2_with fail
      go_ret
      exact ⟨va, vn, vc, rfl, by rw [← HE.out]; exact HI.out.1, HI.out.2⟩
end Go.Proofs.Ytnnccahpgailiaa
