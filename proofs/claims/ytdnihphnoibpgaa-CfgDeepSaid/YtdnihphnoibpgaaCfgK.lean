/- Layer 7: the document's Ahead; a block of a function that came in, with the lists of its end. -/
import Derived.Test.YtdnihphnoibpgaaCfgI
import Derived.Test.YtdnihphnoibpgaaCfgJ
namespace Go.Proofs.Ytdnihphnoibpgaa
open Go.RowKit (wrap64 intOf Below)
set_option linter.unusedVariables false
set_option linter.unusedSimpArgs false

/-- A list of numbers that came in, by where it lies. -/
def ListAt (W : World) (a : Option Addr) (n c : Nat) (Z : List Int) : Prop := NumsAt W a n Z ∧ (a = none → c = 0) ∧ n * 8 ≤ 140737488351232
theorem ListAt.since {W W' : World} {a : Option Addr} {n c : Nat} {Z : List Int} (h : ListAt W a n c Z) (hb : Below W.heap.size W W') : ListAt W' a n c Z := ⟨h.1.since hb, h.2⟩
theorem block_atL {W : World} {a : Option Addr} {n c : Nat} {f : FuncD} (h : RowV BlockQ 8 W (.slice a n c) f.blocks) {p : Nat} (hp : p < n) : ∃ g off pa pn pc oa on oc la ln lc ma mn mc, a = some ⟨g, off, none⟩ ∧ g < W.heap.size ∧ (∀ u, Below W.heap.size W u → BlockAt u g off p (theEnd f p) pa pn pc oa on oc la ln lc ma mn mc) ∧ ListAt W la ln lc (theEnd f p).L ∧ ListAt W ma mn mc (theEnd f p).M := by
  obtain ⟨a', n', c', e, hl, _, _, hrow⟩ := h
  cases e
  obtain ⟨g, off, rfl, hg, hcs⟩ := hrow (by omega)
  obtain ⟨cs, h8, hc, pv, ov, es, rfl, hpv, hov, l, m, rfl, _, _, _, _, hL, hM⟩ := hcs p (by omega)
  obtain ⟨pa, pn, pc, rfl, _⟩ := hpv
  obtain ⟨oa, on, oc, rfl, _⟩ := hov
  obtain ⟨la, ln, lc, rfl, hl1, hl2, hl3, _⟩ := hL
  obtain ⟨ma, mn, mc, rfl, hm1, hm2, hm3, _⟩ := hM
  rw [theEnd_at (by omega)]
  refine ⟨g, off, pa, pn, pc, oa, on, oc, la, ln, lc, ma, mn, mc, rfl, hg, fun u hb => ?_, ⟨hl1, hl2, hl3⟩, ⟨hm1, hm2, hm3⟩⟩
  have hk : ∀ j (hj : j < 8), u.cell? ⟨g, off + p * 8 + j, none⟩ = _ := fun j hj => (hb.cell (p := ⟨g, off + p * 8 + j, none⟩) hg).trans (hc j hj)
  exact ⟨hk 0 (by omega), hk 1 (by omega), hk 2 (by omega), hk 3 (by omega), hk 4 (by omega), hk 5 (by omega), hk 6 (by omega), hk 7 (by omega)⟩
set_option maxRecDepth 100000 in
set_option maxHeartbeats 2000000 in
theorem refahead_any (r : Int) (a : Option Addr) (n c : Nat) (f : FuncD) (b : Int) (w : World) (hrow : RowV BlockQ 8 w (.slice a n c) f.blocks) (hn : n ≤ 1099511627776) :
    Calls Try.prog 18 #[.agg #[.int .i64 r, .slice a n c], .int .i64 b] w fun e w' => ∃ va vn vc, e = .returned (.slice va vn vc) ∧ OwnsI w' w.heap.size 3 (.slice va vn vc) (ahL f n b) ∧ Below w.heap.size w w' := by
  have HROW := Lib.hid hrow
  clear hrow
  go_enter Try.func18, Try.ntmps18
  go_wp2_with fail
  obtain ⟨W0, hW0⟩ : ∃ W0, ((w.alloc (.cells #[.int .i64 r, .slice a n c] 24)).alloc (.cells #[] 3)) = W0 := ⟨_, rfl⟩
  have HS0 : RowKit.Hid (LawSt w r a n c none 0 [] W0) := Lib.hid (by
    have hc : ∀ j, W0.cell? ⟨w.heap.size, j, none⟩ = (#[.int .i64 r, .slice a n c] : Array Value)[j]? := fun j => by
      rw [← hW0, World.cell?_of_block (a := ⟨w.heap.size, j, none⟩) ((World.grownBy_alloc (w.alloc (.cells #[.int .i64 r, .slice a n c] 24)) _ none).block w.heap.size (by simp) (fun e => by cases e))]
      exact World.cell?_alloc_mark _ _ _ _ _
    exact ⟨by rw [← hW0]; exact ((Below.refl w.heap.size w).alloc (Nat.le_refl _) _).alloc (by simp) _, by rw [← hW0]; simp <;> omega, hc 0, hc 1, NumsAt.nil _ _⟩)
  have HO0 : RowKit.Hid (OwnsI W0 (w.heap.size + 1) 3 (.slice (some ⟨w.heap.size + 1, 0, none⟩) 0 0) []) := Lib.hid (by rw [← hW0]; exact OwnsI.laid (by simp) (by omega))
  have HZ0 : RowKit.Hid (w.heap.size + 1 ≤ W0.heap.size) := Lib.hid (by rw [← hW0]; simp)
  rw [hW0]
  clear hW0
  go_loopw [5, 6] (fun v5 v6 wr => ∃ i : Nat, i ≤ n ∧ v6 = .int .i64 (i : Int) ∧ ∃ xa xn xc, v5 = .slice xa xn xc ∧ RowKit.Hid (LawSt w r a n c none 0 [] wr ∧ OwnsI wr (w.heap.size + 1) 3 (.slice xa xn xc) (ahL f i b) ∧ w.heap.size + 1 ≤ wr.heap.size)) (fun _ v6 _ => n - (intOf v6).toNat)
  case atStart => exact ⟨0, Nat.zero_le _, rfl, _, _, _, rfl, Lib.hid ⟨HS0.out, HO0.out, HZ0.out⟩⟩
  case round =>
    obtain ⟨i, hi, rfl, xa, xn, xc, rfl, HI⟩ := hrel
    clear HS0 HO0 HZ0
    obtain ⟨wo, hwo⟩ : ∃ u, u = wr := ⟨_, rfl⟩
    rw [← hwo] at HI ⊢
    clear hwo
    have hc1 := HI.out.1.c1
    by_cases hlt : i < n
    · obtain ⟨g, off, pa, pn, pc, oa, on, oc, la, ln, lc, ma, mn, mc, rfl, hg, hblk⟩ := block_at (HROW.out.since BlockQ.lasts HI.out.1.bel) hlt
      obtain ⟨b0, b1, b2, b3, b4, b5, b6, b7⟩ := hblk wo (Below.refl _ _)
      have HNXF : RowKit.Hid (nextL (theEnd f i) = nxF f i) := Lib.hid rfl
      have HNL : RowKit.Hid ((nxF f i).length ≤ 2) := Lib.hid (next_len _)
      have CN : RowKit.Hid (∀ u, Calls Try.prog 17 #[.agg #[.slice pa pn pc, .slice oa on oc, .int .i64 (theEnd f i).K, .int .i64 (theEnd f i).A, .int .i64 (theEnd f i).To, .int .i64 (theEnd f i).Else, .slice la ln lc, .slice ma mn mc]] u fun e' w' => ∃ va vn vc, e' = .returned (.slice va vn vc) ∧ OwnsI w' u.heap.size 3 (.slice va vn vc) (nxF f i) ∧ Below u.heap.size u w') := Lib.hid fun u => by rw [← HNXF.out]; exact refnext_any pa pn pc oa on oc (theEnd f i).A la ln lc ma mn mc (theEnd f i) u
      clear hblk hg
      generalize (theEnd f i).K = EK at *
      generalize (theEnd f i).A = EA at *
      generalize (theEnd f i).To = ET at *
      generalize (theEnd f i).Else = EE at *
      have HMORE := Lib.hid (ahL_more f i b)
      have HLZ : RowKit.Hid (((ahL f i b).length + 1) * 8 ≤ 140737488355328) := Lib.hid (by have := ahL_len f i b; omega)
      obtain ⟨bb, hbb⟩ : ∃ q, q = inL (nxF f i) b := ⟨_, rfl⟩
      have HBB := Lib.hid hbb
      clear hbb
      cases bb with
      | true =>
        have HM : RowKit.Hid (ahL f (i + 1) b = ahL f i b ++ [(i : Int)]) := Lib.hid (by rw [HMORE.out, if_pos (of_decide_eq_true HBB.out.symm)])
        go_wp2_with (first
          | (go_at_call 17; refine (CN.out _).mono ?_; rintro e w1 ⟨ya, yn, yc, rfl, ho, hb⟩; have HB1 := Lib.hid hb; have HO1 := Lib.hid (HI.out.2.1.below hb); have hyn : yn ≤ 2 := (by have := ho.read.1; have := HNL.out; omega); have CH := Lib.hid (has_any ya yn yc _ b w1 ho.read (by omega)); rw [← HBB.out] at CH; clear ho hb)
          | (go_at_call 29; refine CH.out.mono ?_; rintro e w2 ⟨rfl, rfl⟩)
          | ((with_reducible refine wpList_append_num _ rfl _ _ 30 rfl 3 Try.underlying30 info_int (w.heap.size + 1) (.slice xa xn xc) (ahL f i b) ?_ ?_ ?_ _ 1 w1.heap.size (i : Int) ?_ ?_ ?_ ?_ ?_); (next => rfl); (next => exact HO1.out); (next => have := HI.out.2.2; have := HB1.out.size; omega); (next => rfl); (next => rfl); (next => rfl); (next => exact HLZ.out); intro v3 w3 ho3 hb3; obtain ⟨va, vn, vc, rfl, _⟩ := ho3.nums; have HO3 := Lib.hid ho3; have HB3 := Lib.hid hb3; clear ho3 hb3))
        go_roundw
        case rel =>
          refine ⟨i + 1, by omega, by go_num, _, _, _, rfl, Lib.hid ⟨?_, by rw [HM.out]; exact HO3.out, ?_⟩⟩
          · have h1 := HI.out.1.since HB1.out
            have hb := HB3.out
            exact ⟨h1.bel.trans (hb.mono (by omega)), Nat.lt_of_lt_of_le h1.siz hb.size, (hb.cell (p := ⟨w.heap.size, 0, none⟩) (Nat.lt_succ_self _)).trans h1.c0, (hb.cell (p := ⟨w.heap.size, 1, none⟩) (Nat.lt_succ_self _)).trans h1.c1, NumsAt.nil _ _⟩
          · have := HI.out.2.2; have := HB1.out.size; have := HB3.out.size; omega
        case measure => simp [intOf]; omega
      | false =>
        have HM : RowKit.Hid (ahL f (i + 1) b = ahL f i b) := Lib.hid (by rw [HMORE.out, if_neg (of_decide_eq_false HBB.out.symm), List.append_nil])
        go_wp2_with (first
          | (go_at_call 17; refine (CN.out _).mono ?_; rintro e w1 ⟨ya, yn, yc, rfl, ho, hb⟩; have HB1 := Lib.hid hb; have HO1 := Lib.hid (HI.out.2.1.below hb); have hyn : yn ≤ 2 := (by have := ho.read.1; have := HNL.out; omega); have CH := Lib.hid (has_any ya yn yc _ b w1 ho.read (by omega)); rw [← HBB.out] at CH; clear ho hb)
          | (go_at_call 29; refine CH.out.mono ?_; rintro e w2 ⟨rfl, rfl⟩))
        go_roundw
        case rel => exact ⟨i + 1, by omega, by go_num, _, _, _, rfl, Lib.hid ⟨HI.out.1.since HB1.out, by rw [HM.out]; exact HO1.out, by have := HI.out.2.2; have := HB1.out.size; omega⟩⟩
        case measure => simp [intOf]; omega
    · obtain rfl : i = n := by omega
      go_wp2_with fail
      go_ret
      exact ⟨_, _, _, rfl, HI.out.2.1.mono (by omega), HI.out.1.bel⟩
end Go.Proofs.Ytdnihphnoibpgaa
