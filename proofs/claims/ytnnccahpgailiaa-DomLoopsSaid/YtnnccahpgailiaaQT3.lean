/- Layer 7: the document's Ahead; a block of a function that came in, with the lists of its end. -/
import Derived.Test.YtnnccahpgailiaaQCfgI
import Derived.Test.YtnnccahpgailiaaQCfgJ
import Derived.Test.YtnnccahpgailiaaQT0
import Derived.Test.YtnnccahpgailiaaQT1
import Derived.BigQuiet
import Derived.Deep.LoopGhost
import Derived.Test.YtnnccahpgailiaaShelf
import Derived.Laws.CopyOwn
import Derived.Deep.RegionLaw
namespace Go.Proofs.Ytnnccahpgailiaa
open Go.RowKit (wrap64 intOf Below)
set_option linter.unusedVariables false
set_option linter.unusedSimpArgs false

/-- A list of numbers that came in, by where it lies. -/
def ListAt (W : World) (a : Option Addr) (n c : Nat) (Z : List Int) : Prop := NumsAt W a n Z ∧ (a = none → c = 0) ∧ n * 8 ≤ 140737488351232
theorem ListAt.since {W W' : World} {a : Option Addr} {n c : Nat} {Z : List Int} (h : ListAt W a n c Z) (hb : Below W.heap.size W W') : ListAt W' a n c Z := ⟨h.1.since hb, h.2⟩
theorem block_atL {W : World} {a : Option Addr} {n c : Nat} {f : FuncD} (h : RowV BlockQ 8 W (.slice a n c) f.blocks) {p : Nat} (hp : p < n) : ∃ g off pa pn pc oa on oc la ln lc ma mn mc, a = some ⟨g, off, none⟩ ∧ g < W.heap.size ∧ (∀ u, Below W.heap.size W u → BlockAt u g off p (theEnd f p) pa pn pc oa on oc la ln lc ma mn mc) ∧ ListAt W la ln lc (theEnd f p).L ∧ ListAt W ma mn mc (theEnd f p).M := by
  obtain ⟨a', n', c', e, hl, _, _, hrow⟩ := h
  cases e
  obtain ⟨g, off, rfl, hg, hcs⟩ := hrow (by omega)
  obtain ⟨cs, h8, hc, pv, ov, es, rfl, hpv, hov, l, m, rfl, _, _, _, _, hL, hM⟩ := hcs p (by omega)
  obtain ⟨pa, pn, pc, rfl, _⟩ := hpv
  obtain ⟨oa, on, oc, rfl, _⟩ := hov
  obtain ⟨la, ln, lc, rfl, hl1, hl2, hl3, _⟩ := hL
  obtain ⟨ma, mn, mc, rfl, hm1, hm2, hm3, _⟩ := hM
  rw [theEnd_at (by omega)]
  refine ⟨g, off, pa, pn, pc, oa, on, oc, la, ln, lc, ma, mn, mc, rfl, hg, fun u hb => ?_, ⟨hl1, hl2, hl3⟩, ⟨hm1, hm2, hm3⟩⟩
  have hk : ∀ j (hj : j < 8), u.cell? ⟨g, off + p * 8 + j, none⟩ = _ := fun j hj => (hb.cell (p := ⟨g, off + p * 8 + j, none⟩) hg).trans (hc j hj)
  exact ⟨hk 0 (by omega), hk 1 (by omega), hk 2 (by omega), hk 3 (by omega), hk 4 (by omega), hk 5 (by omega), hk 6 (by omega), hk 7 (by omega)⟩
set_option maxRecDepth 100000 in
set_option maxHeartbeats 2000000 in
theorem refahead_any (r : Int) (a : Option Addr) (n c : Nat) (f : FuncD) (b : Int) (w : World) (hrow : RowV BlockQ 8 w (.slice a n c) f.blocks) (hn : n ≤ 1099511627776) :
    Calls Try.prog 37 #[.agg #[.int .i64 r, .slice a n c], .int .i64 b] w fun e w' => ∃ va vn vc, e = .returned (.slice va vn vc) ∧ OwnsI w' w.heap.size 3 (.slice va vn vc) (ahL f n b) ∧ Below w.heap.size w w' := by
  have HROW := Lib.hid hrow
  clear hrow
  go_enter Try.func37, Try.ntmps37
  go_wp2_with fail
  obtain ⟨W0, hW0⟩ : ∃ W0, ((w.alloc (.cells #[.int .i64 r, .slice a n c] 24)).alloc (.cells #[] 3)) = W0 := ⟨_, rfl⟩
  have HS0 : RowKit.Hid (LawSt w r a n c none 0 [] W0) := Lib.hid (by
    have hc : ∀ j, W0.cell? ⟨w.heap.size, j, none⟩ = (#[.int .i64 r, .slice a n c] : Array Value)[j]? := fun j => by
      rw [← hW0, World.cell?_of_block (a := ⟨w.heap.size, j, none⟩) ((World.grownBy_alloc (w.alloc (.cells #[.int .i64 r, .slice a n c] 24)) _ none).block w.heap.size (by simp) (fun e => by cases e))]
      exact World.cell?_alloc_mark _ _ _ _ _
    exact ⟨by rw [← hW0]; exact ((Below.refl w.heap.size w).alloc (Nat.le_refl _) _).alloc (by simp) _, by rw [← hW0]; simp <;> omega, hc 0, hc 1, NumsAt.nil _ _⟩)
  have HO0 : RowKit.Hid (OwnsI W0 (w.heap.size + 1) 3 (.slice (some ⟨w.heap.size + 1, 0, none⟩) 0 0) []) := Lib.hid (by rw [← hW0]; exact OwnsI.laid (by simp) (by omega))
  have HZ0 : RowKit.Hid (w.heap.size + 1 ≤ W0.heap.size) := Lib.hid (by rw [← hW0]; simp)
  rw [hW0]
  clear hW0
  go_loopw [5, 6] (fun v5 v6 wr => ∃ i : Nat, i ≤ n ∧ v6 = .int .i64 (i : Int) ∧ ∃ xa xn xc, v5 = .slice xa xn xc ∧ RowKit.Hid (LawSt w r a n c none 0 [] wr ∧ OwnsI wr (w.heap.size + 1) 3 (.slice xa xn xc) (ahL f i b) ∧ w.heap.size + 1 ≤ wr.heap.size)) (fun _ v6 _ => n - (intOf v6).toNat)
  case atStart => exact ⟨0, Nat.zero_le _, rfl, _, _, _, rfl, Lib.hid ⟨HS0.out, HO0.out, HZ0.out⟩⟩
  case round =>
    obtain ⟨i, hi, rfl, xa, xn, xc, rfl, HI⟩ := hrel
    clear HS0 HO0 HZ0
    obtain ⟨wo, hwo⟩ : ∃ u, u = wr := ⟨_, rfl⟩
    rw [← hwo] at HI ⊢
    clear hwo
    have hc1 := HI.out.1.c1
    by_cases hlt : i < n
    · obtain ⟨g, off, pa, pn, pc, oa, on, oc, la, ln, lc, ma, mn, mc, rfl, hg, hblk⟩ := block_at (HROW.out.since BlockQ.lasts HI.out.1.bel) hlt
      obtain ⟨b0, b1, b2, b3, b4, b5, b6, b7⟩ := hblk wo (Below.refl _ _)
      have HNXF : RowKit.Hid (nextL (theEnd f i) = nxF f i) := Lib.hid rfl
      have HNL : RowKit.Hid ((nxF f i).length ≤ 2) := Lib.hid (next_len _)
      have CN : RowKit.Hid (∀ u, Calls Try.prog 68 #[.agg #[.slice pa pn pc, .slice oa on oc, .int .i64 (theEnd f i).K, .int .i64 (theEnd f i).A, .int .i64 (theEnd f i).To, .int .i64 (theEnd f i).Else, .slice la ln lc, .slice ma mn mc]] u fun e' w' => ∃ va vn vc, e' = .returned (.slice va vn vc) ∧ OwnsI w' u.heap.size 3 (.slice va vn vc) (nxF f i) ∧ Below u.heap.size u w') := Lib.hid fun u => by rw [← HNXF.out]; exact refnext_any pa pn pc oa on oc (theEnd f i).A la ln lc ma mn mc (theEnd f i) u
      clear hblk hg
      generalize (theEnd f i).K = EK at *
      generalize (theEnd f i).A = EA at *
      generalize (theEnd f i).To = ET at *
      generalize (theEnd f i).Else = EE at *
      have HMORE := Lib.hid (ahL_more f i b)
      have HLZ : RowKit.Hid (((ahL f i b).length + 1) * 8 ≤ 140737488355328) := Lib.hid (by have := ahL_len f i b; omega)
      obtain ⟨bb, hbb⟩ : ∃ q, q = inL (nxF f i) b := ⟨_, rfl⟩
      have HBB := Lib.hid hbb
      clear hbb
      cases bb with
      | true =>
        have HM : RowKit.Hid (ahL f (i + 1) b = ahL f i b ++ [(i : Int)]) := Lib.hid (by rw [HMORE.out, if_pos (of_decide_eq_true HBB.out.symm)])
        go_wp2_with (first
          | (go_at_call 68; refine (CN.out _).mono ?_; rintro e w1 ⟨ya, yn, yc, rfl, ho, hb⟩; have HB1 := Lib.hid hb; have HO1 := Lib.hid (HI.out.2.1.below hb); have hyn : yn ≤ 2 := (by have := ho.read.1; have := HNL.out; omega); have CH := Lib.hid (has_any ya yn yc _ b w1 ho.read (by omega)); rw [← HBB.out] at CH; clear ho hb)
          | (go_at_call 36; refine CH.out.mono ?_; rintro e w2 ⟨rfl, rfl⟩)
          | ((with_reducible refine wpList_append_num _ rfl _ _ 29 rfl 3 Try.underlying29 info_int (w.heap.size + 1) (.slice xa xn xc) (ahL f i b) ?_ ?_ ?_ _ 1 w1.heap.size (i : Int) ?_ ?_ ?_ ?_ ?_); (next => rfl); (next => exact HO1.out); (next => have := HI.out.2.2; have := HB1.out.size; omega); (next => rfl); (next => rfl); (next => rfl); (next => exact HLZ.out); intro v3 w3 ho3 hb3; obtain ⟨va, vn, vc, rfl, _⟩ := ho3.nums; have HO3 := Lib.hid ho3; have HB3 := Lib.hid hb3; clear ho3 hb3))
        go_roundw
        case rel =>
          refine ⟨i + 1, by omega, by go_num, _, _, _, rfl, Lib.hid ⟨?_, by rw [HM.out]; exact HO3.out, ?_⟩⟩
          · have h1 := HI.out.1.since HB1.out
            have hb := HB3.out
            exact ⟨h1.bel.trans (hb.mono (by omega)), Nat.lt_of_lt_of_le h1.siz hb.size, (hb.cell (p := ⟨w.heap.size, 0, none⟩) (Nat.lt_succ_self _)).trans h1.c0, (hb.cell (p := ⟨w.heap.size, 1, none⟩) (Nat.lt_succ_self _)).trans h1.c1, NumsAt.nil _ _⟩
          · have := HI.out.2.2; have := HB1.out.size; have := HB3.out.size; omega
        case measure => simp [intOf]; omega
      | false =>
        have HM : RowKit.Hid (ahL f (i + 1) b = ahL f i b) := Lib.hid (by rw [HMORE.out, if_neg (of_decide_eq_false HBB.out.symm), List.append_nil])
        go_wp2_with (first
          | (go_at_call 68; refine (CN.out _).mono ?_; rintro e w1 ⟨ya, yn, yc, rfl, ho, hb⟩; have HB1 := Lib.hid hb; have HO1 := Lib.hid (HI.out.2.1.below hb); have hyn : yn ≤ 2 := (by have := ho.read.1; have := HNL.out; omega); have CH := Lib.hid (has_any ya yn yc _ b w1 ho.read (by omega)); rw [← HBB.out] at CH; clear ho hb)
          | (go_at_call 36; refine CH.out.mono ?_; rintro e w2 ⟨rfl, rfl⟩))
        go_roundw
        case rel => exact ⟨i + 1, by omega, by go_num, _, _, _, rfl, Lib.hid ⟨HI.out.1.since HB1.out, by rw [HM.out]; exact HO1.out, by have := HI.out.2.2; have := HB1.out.size; omega⟩⟩
        case measure => simp [intOf]; omega
    · obtain rfl : i = n := by omega
      go_wp2_with fail
      go_ret
      exact ⟨_, _, _, rfl, HI.out.2.1.mono (by omega), HI.out.1.bel⟩
end Go.Proofs.Ytnnccahpgailiaa

/- Layer 7: the document's Deep: how far blocks are, by rounds. -/
namespace Go.Proofs.Ytnnccahpgailiaa
open Go.RowKit (wrap64 intOf Below)
set_option linter.unusedVariables false
set_option linter.unusedSimpArgs false

theorem own_addr {W : World} {B : Nat} {e : TypeId} {va : Option Addr} {vn vc : Nat} {Z : List Int} (h : OwnsI W B e (.slice va vn vc) Z) (h0 : 0 < Z.length) : ∃ g, va = some ⟨g, 0, none⟩ ∧ B ≤ g ∧ g < W.heap.size := by
  rcases h.2 with ⟨e, h'⟩ | ⟨g, cap, cur, e, hB, hh, _⟩
  · omega
  · cases e; exact ⟨g, rfl, hB, (Array.getElem?_eq_some_iff.1 hh).1⟩
theorem own_cell {W : World} {B : Nat} {e : TypeId} {g vn vc : Nat} {Z : List Int} (h : OwnsI W B e (.slice (some ⟨g, 0, none⟩) vn vc) Z) {j : Nat} (hj : j < Z.length) : W.cell? ⟨g, j, none⟩ = some (.int .i64 (nth Z j)) := by
  have := World.ownsRow.cells h rfl j (numV Z[j]) (by rw [List.getElem?_map, List.getElem?_eq_getElem hj]; rfl)
  rw [addr_plain, Nat.zero_add] at this
  rw [nth_is hj]
  exact this
theorem own_free {W : World} {B : Nat} {e : TypeId} {g vn vc : Nat} {Z : List Int} (h : OwnsI W B e (.slice (some ⟨g, 0, none⟩) vn vc) Z) (j : Nat) : W.frozen? ⟨g, j, none⟩ = false := by
  have hn := h.read.1
  subst hn
  exact World.ownsRow.frozenAt h j
theorem own_store {W : World} {B : Nat} {e : TypeId} {g vn vc : Nat} {Z : List Int} (h : OwnsI W B e (.slice (some ⟨g, 0, none⟩) vn vc) Z) (j : Nat) (z : Int) : OwnsI (W.setCell ⟨g, j, none⟩ (.int .i64 z)) B e (.slice (some ⟨g, 0, none⟩) vn vc) (Z.set j z) := by
  have hn := h.read.1
  subst hn
  have := (World.ownsRow.stored h j (.int .i64 z)).1
  show World.ownsRow _ B e 1 _ (Z.set j z).length ((Z.set j z).map numV)
  rw [List.length_set, List.map_set]
  exact this
/-- How far, at first. -/
def initL (i : Nat) : List Int := (List.range i).map fun x => if x = 0 then 0 else -1
theorem initL_len (i : Nat) : (initL i).length = i := by simp [initL]
theorem initL_more (i : Nat) : initL (i + 1) = initL i ++ [if i = 0 then 0 else -1] := by simp [initL, List.range_succ]
theorem initL_at {i x : Nat} (h : x < i) : nth (initL i) x = if x = 0 then 0 else -1 := by
  rw [nth_is (by rw [initL_len]; exact h)]
  simp [initL]
/-- Where the document's Deep stands. -/
structure RdSt (w : World) (r : Int) (a : Option Addr) (n c : Nat) (va : Option Addr) (vn vc : Nat) (DL : List Int) (W : World) : Prop where
  law : LawSt w r a n c none 0 [] W
  own : OwnsI W (w.heap.size + 1) 3 (.slice va vn vc) DL
  len : DL.length = n
theorem RdSt.since {w : World} {r : Int} {a : Option Addr} {n c : Nat} {va : Option Addr} {vn vc : Nat} {DL : List Int} {W W' : World} (h : RdSt w r a n c va vn vc DL W) (hb : Below W.heap.size W W') : RdSt w r a n c va vn vc DL W' :=
  ⟨h.law.since hb, h.own.below hb, h.len⟩
theorem law_above {w : World} {r : Int} {a : Option Addr} {n c : Nat} {W W' : World} (h : LawSt w r a n c none 0 [] W) (hb : Below (w.heap.size + 1) W W') : LawSt w r a n c none 0 [] W' :=
  ⟨h.bel.trans (hb.mono (by omega)), Nat.lt_of_lt_of_le h.siz hb.size, (hb.cell (p := ⟨w.heap.size, 0, none⟩) (Nat.lt_succ_self _)).trans h.c0, (hb.cell (p := ⟨w.heap.size, 1, none⟩) (Nat.lt_succ_self _)).trans h.c1, NumsAt.nil _ _⟩
theorem RdSt.store {w : World} {r : Int} {a : Option Addr} {n c : Nat} {g vn vc : Nat} {DL : List Int} {W : World} (h : RdSt w r a n c (some ⟨g, 0, none⟩) vn vc DL W) (hg : w.heap.size + 1 ≤ g) (j : Nat) (z : Int) : RdSt w r a n c (some ⟨g, 0, none⟩) vn vc (DL.set j z) (W.setCell ⟨g, j, none⟩ (.int .i64 z)) :=
  ⟨law_above h.law ((Below.refl _ W).setCell (p := ⟨g, j, none⟩) hg _), own_store h.own j z, by simp [h.len]⟩
/-- A list that does not lie in block b. -/
def NotIn (ya : Option Addr) (yn b : Nat) : Prop := ∀ g' off, ya = some ⟨g', off, none⟩ → 0 < yn → g' ≠ b
theorem nums_store {W : World} {ya : Option Addr} {yn : Nat} {L : List Int} (h : NumsAt W ya yn L) {g j : Nat} {x : Value} (hne : NotIn ya yn g) : NumsAt (W.setCell ⟨g, j, none⟩ x) ya yn L :=
  h.off (X := fun k => k = g) (Off.setCell (X := fun k => k = g) (p := ⟨g, j, none⟩) (Off.refl (fun k => k = g) W) (.inl rfl) x) (fun g' off e h0 => hne g' off e h0)
end Go.Proofs.Ytnnccahpgailiaa

/- Layer 8: the tree in memory, and how two ways up meet (mk_dom.py A). -/
namespace Go.Proofs.Ytnnccahpgailiaa
open Go.RowKit (wrap64 intOf Below)
set_option linter.unusedVariables false
set_option linter.unusedSimpArgs false

/-- Five rows of numbers, of one length, no two in one array. -/
structure Rows5 (W : World) (B n : Nat) (g : Nat → Nat) (Z : Nat → List Int) : Prop where
  own : ∀ i, i < 5 → OwnsI W B 3 (.slice (some ⟨g i, 0, none⟩) n n) (Z i)
  apart : ∀ i j, i < 5 → j < 5 → i ≠ j → g i ≠ g j
/-- The tree: the order, the places (0), the rows of those that go to each block, what is over each block (1), the numbers (2), their ends (3), when each was passed (4), the round. -/
structure TreeAt (W : World) (B p n : Nat) (g : Nat → Nat) (Z : Nat → List Int) (ov fv : Value) (ord : List Int) (vs : List Value) (FR : List (List Int)) (rd : Int) : Prop where
  blk : W.heap[p]? = some (.cells #[ov, .slice (some ⟨g 0, 0, none⟩) n n, fv, .slice (some ⟨g 1, 0, none⟩) n n, .slice (some ⟨g 2, 0, none⟩) n n, .slice (some ⟨g 3, 0, none⟩) n n, .slice (some ⟨g 4, 0, none⟩) n n, .int .i64 rd] 75 (0, 0))
  ge : B ≤ p
  rows : Rows5 W B n g Z
  ord : OwnsI W B 3 ov ord
  ordne : ∀ i, i < 5 → ov.ownBlock ≠ some (g i)
  fr : Rows2 W B 29 3 fv vs FR
  frne : ∀ i, i < 5 → ∀ j (h : j < vs.length), vs[j].ownBlock ≠ some (g i)
section
variable {W W' : World} {B p n : Nat} {g : Nat → Nat} {Z : Nat → List Int} {ov fv : Value} {ord : List Int} {vs : List Value} {FR : List (List Int)} {rd : Int}
theorem own_at {W' : World} {B : Nat} {e : TypeId} {v : Value} {L : List Int} (h : OwnsI W B e v L) (hk : ∀ i, v.ownBlock = some i → W'.heap[i]? = W.heap[i]?) : OwnsI W' B e v L := by
  refine ⟨h.1, ?_⟩
  rcases h.2 with hn | ⟨g, cap, cur, rfl, hB, hg, rest⟩
  · exact .inl hn
  · exact .inr ⟨g, cap, cur, rfl, hB, (hk g rfl).trans hg, rest⟩
theorem TreeAt.len (h : TreeAt W B p n g Z ov fv ord vs FR rd) {i : Nat} (hi : i < 5) : (Z i).length = n := (h.rows.own i hi).read.1
theorem TreeAt.plt (h : TreeAt W B p n g Z ov fv ord vs FR rd) : p < W.heap.size := (Array.getElem?_eq_some_iff.1 h.blk).1
theorem TreeAt.gblk (h : TreeAt W B p n g Z ov fv ord vs FR rd) {i : Nat} (hi : i < 5) : ∃ cur, W.heap[g i]? = some (.cells cur 3 (0, 0)) ∧ B ≤ g i := ownsI_blk (h.rows.own i hi) rfl
theorem TreeAt.pne (h : TreeAt W B p n g Z ov fv ord vs FR rd) {i : Nat} (hi : i < 5) : g i ≠ p := fun e => by
  obtain ⟨cur, hc, _⟩ := h.gblk hi
  have := h.blk
  rw [e, this] at hc
  simp at hc
theorem TreeAt.since (h : TreeAt W B p n g Z ov fv ord vs FR rd) (hb : Below W.heap.size W W') : TreeAt W' B p n g Z ov fv ord vs FR rd :=
  ⟨(hb.block p h.plt).trans h.blk, h.ge, ⟨fun i hi => (h.rows.own i hi).below hb, h.rows.apart⟩, h.ord.below hb, h.ordne, h.fr.since hb, h.frne⟩
theorem TreeAt.cell (h : TreeAt W B p n g Z ov fv ord vs FR rd) {i j : Nat} (hi : i < 5) (hj : j < n) : W.cell? ⟨g i, j, none⟩ = some (.int .i64 (nth (Z i) j)) := own_cell (h.rows.own i hi) (by rw [h.len hi]; exact hj)
theorem TreeAt.free (h : TreeAt W B p n g Z ov fv ord vs FR rd) {i : Nat} (hi : i < 5) (j : Nat) : W.frozen? ⟨g i, j, none⟩ = false := own_free (h.rows.own i hi) j
/-- A number is stored in one of the five rows. -/
theorem TreeAt.put (h : TreeAt W B p n g Z ov fv ord vs FR rd) {i : Nat} (hi : i < 5) (j : Nat) (z : Int) : TreeAt (W.setCell ⟨g i, j, none⟩ (.int .i64 z)) B p n g (fun k => if k = i then (Z i).set j z else Z k) ov fv ord vs FR rd := by
  have hk : ∀ k, k ≠ g i → (W.setCell ⟨g i, j, none⟩ (.int .i64 z)).heap[k]? = W.heap[k]? := fun k hk => Below.heap_setCell _ _ _ _ hk
  obtain ⟨cur, hc, _⟩ := h.gblk hi
  refine ⟨(hk p (fun e => h.pne hi e.symm)).trans h.blk, h.ge, ⟨fun k hk5 => ?_, h.rows.apart⟩, own_at h.ord (fun k hkb => hk k (fun e => h.ordne i hi (by rw [hkb, e]))), h.ordne, ?_, h.frne⟩
  · by_cases e : k = i
    · subst e
      rw [if_pos rfl]
      exact own_store (h.rows.own k hi) j z
    · rw [if_neg e]
      exact own_at (h.rows.own k hk5) (fun b hb => hk b (fun e2 => by
        have hb' : some (g k) = some b := hb
        cases hb'
        exact h.rows.apart k i hk5 hi e e2))
  · refine ⟨?_, h.fr.len, fun k h1 h2 => own_at (h.fr.own k h1 h2) (fun b hb => hk b (fun e => h.frne i hi k h1 (by rw [hb, e]))), h.fr.apart⟩
    refine ⟨h.fr.row.1, ?_⟩
    rcases h.fr.row.2 with hn | ⟨q, cap, cur', e, hB, hq, rest⟩
    · exact .inl hn
    · refine .inr ⟨q, cap, cur', e, hB, (hk q (fun e2 => ?_)).trans hq, rest⟩
      rw [e2, hc] at hq
      simp at hq
/-- Another round. -/
theorem TreeAt.turn (h : TreeAt W B p n g Z ov fv ord vs FR rd) (rd' : Int) : TreeAt (W.setCell ⟨p, 7, none⟩ (.int .i64 rd')) B p n g Z ov fv ord vs FR rd' := by
  have hk : ∀ k, k ≠ p → (W.setCell ⟨p, 7, none⟩ (.int .i64 rd')).heap[k]? = W.heap[k]? := fun k hk => Below.heap_setCell _ _ _ _ hk
  have hb := h.blk
  refine ⟨?_, h.ge, ⟨fun k hk5 => own_at (h.rows.own k hk5) (fun b hb => hk b (fun e2 => by
    have hb' : some (g k) = some b := hb
    cases hb'
    exact h.pne hk5 e2)), h.rows.apart⟩, own_at h.ord (fun k hkb => hk k (fun e => ?_)), h.ordne, h.fr.kept (X := fun i => i = p) (Off.setCell (X := fun i => i = p) (p := ⟨p, 7, none⟩) (Off.refl (fun i => i = p) W) (.inl rfl) _) (fun i hi => .inr fun C t ht e => ?_), h.frne⟩
  · have := heap_setCell_same W p 7 _ _ (.int .i64 rd') hb
    rw [this]
    rfl
  · obtain ⟨cur, hc, _⟩ := ownsI_blk h.ord hkb
    rw [e, hb] at hc
    simp at hc
  · subst hi
    rw [hb] at e
    rcases ht with rfl | rfl <;> simp at e
end
/-- What is known of the tree's meaning. -/
structure Means (E : Nat → Nat → Prop) (M : Nat → Prop) (pl : Nat → Nat) (up : Nat → Int) (m n : Nat) (PL UP : List Int) : Prop where
  tree : Tree E M pl up m
  rpo : Rpo E M pl
  lt : ∀ v, M v → v < n
  place : ∀ v, M v → nth PL v = (pl v : Int)
  above : ∀ v, v < n → nth UP v = up v
/-- Where a meeting stands. -/
structure MeetSt (W0 : World) (E : Nat → Nat → Prop) (M : Nat → Prop) (pl : Nat → Nat) (up : Nat → Int) (m B p n : Nat) (g : Nat → Nat) (Z : Nat → List Int) (ov fv : Value) (ord : List Int) (vs : List Value) (FR : List (List Int)) (rd : Int) (j0 f0 j f : Nat) (PS : List Int) (W : World) : Prop where
  at_ : TreeAt W B p n g (fun k => if k = 4 then PS else Z k) ov fv ord vs FR rd
  off : Off (fun i => i = g 4) W0 W
  meet : Meet up j0 f0 j f
  mj : M j
  mf : M f
  lj : pl j < m
  lf : pl f < m
  pass : ∀ v, v < n → nth PS v = rd → On up v j ∨ (On up v f ∧ v ≠ f)
  le : (∀ v, v < n → nth (Z 4) v ≤ rd) → ∀ v, v < n → nth PS v ≤ rd
theorem MeetSt.kept {W0 : World} {E : Nat → Nat → Prop} {M : Nat → Prop} {pl : Nat → Nat} {up : Nat → Int} {m B p n : Nat} {g : Nat → Nat} {Z : Nat → List Int} {ov fv : Value} {ord : List Int} {vs : List Value} {FR : List (List Int)} {rd : Int} {j0 f0 j f : Nat} {PS : List Int} {W W' : World} (h : MeetSt W0 E M pl up m B p n g Z ov fv ord vs FR rd j0 f0 j f PS W) (hb : Below W.heap.size W W') : MeetSt W0 E M pl up m B p n g Z ov fv ord vs FR rd j0 f0 j f PS W' :=
  ⟨h.at_.since hb, h.off.trans (Off.since hb), h.meet, h.mj, h.mf, h.lj, h.lf, h.pass, h.le⟩
/-- The first of them goes up. -/
theorem MeetSt.goj {W0 : World} {E : Nat → Nat → Prop} {M : Nat → Prop} {pl : Nat → Nat} {up : Nat → Int} {m B p n : Nat} {g : Nat → Nat} {Z : Nat → List Int} {ov fv : Value} {ord : List Int} {vs : List Value} {FR : List (List Int)} {rd : Int} {j0 f0 j f y : Nat} {PS : List Int} {W : World} (h : MeetSt W0 E M pl up m B p n g Z ov fv ord vs FR rd j0 f0 j f PS W) (hT : Tree E M pl up m) (hl : pl f < pl j) (hy : up j = (y : Int)) : MeetSt W0 E M pl up m B p n g Z ov fv ord vs FR rd j0 f0 y f PS W ∧ pl y < pl j := by
  have hlt := hT.lt j y hy
  refine ⟨⟨h.at_, h.off, h.meet.goj hT hl hy, hlt.1, h.mf, hlt.2.2, h.lf, fun v hv hp => ?_, h.le⟩, hlt.2.1⟩
  rcases h.pass v hv hp with h1 | h1
  · exact .inl (h1.trans (.step hy (.refl _)))
  · exact .inr h1
/-- The other one goes up, and is told as passed. -/
theorem MeetSt.gof {W0 : World} {E : Nat → Nat → Prop} {M : Nat → Prop} {pl : Nat → Nat} {up : Nat → Int} {m B p n : Nat} {g : Nat → Nat} {Z : Nat → List Int} {ov fv : Value} {ord : List Int} {vs : List Value} {FR : List (List Int)} {rd : Int} {j0 f0 j f y : Nat} {PS : List Int} {W : World} (h : MeetSt W0 E M pl up m B p n g Z ov fv ord vs FR rd j0 f0 j f PS W) (hT : Tree E M pl up m) (hl : pl j < pl f) (hy : up f = (y : Int)) (hf : f < n) (hW : g 4 < W0.heap.size) : MeetSt W0 E M pl up m B p n g Z ov fv ord vs FR rd j0 f0 j y (PS.set f rd) (W.setCell ⟨g 4, f, none⟩ (.int .i64 rd)) ∧ pl y < pl f := by
  have hlt := hT.lt f y hy
  have hput := h.at_.put (i := 4) (by omega) f rd
  have hlen : PS.length = n := by have := h.at_.len (i := 4) (by omega); simpa using this
  refine ⟨⟨?_, h.off.setCell (.inl rfl) _, h.meet.gof hT hl hy, h.mj, hlt.1, h.lj, hlt.2.2, fun v hv hp => ?_, fun hle v hv => ?_⟩, hlt.2.1⟩
  · have e : (fun k => if k = 4 then List.set ((fun k => if k = 4 then PS else Z k) 4) f rd else (fun k => if k = 4 then PS else Z k) k) = (fun k => if k = 4 then PS.set f rd else Z k) := funext fun k => by
      by_cases hk : k = 4
      · simp [hk]
      · simp [hk]
    rw [e] at hput
    exact hput
  · rw [nth_set (by omega)] at hp
    by_cases e : v = f
    · subst e
      exact .inr ⟨.step hy (.refl _), fun e => by rw [← e] at hlt; omega⟩
    · rw [if_neg e] at hp
      rcases h.pass v hv hp with h1 | ⟨h1, h2⟩
      · exact .inl h1
      · refine .inr ⟨h1.trans (.step hy (.refl _)), fun e2 => ?_⟩
        have h3 := on_le hT.lt h1
        rw [e2] at h3
        omega
  · rw [nth_set (by omega)]
    split
    · exact Int.le_refl _
    · exact h.le hle v hv
set_option maxRecDepth 100000 in
set_option maxHeartbeats 4000000 in
theorem meet_any {E : Nat → Nat → Prop} {M : Nat → Prop} {pl : Nat → Nat} {up : Nat → Int} {m : Nat} {W : World} {B p n : Nat} {g : Nat → Nat} {Z : Nat → List Int} {ov fv : Value} {ord : List Int} {vs : List Value} {FR : List (List Int)} {rd : Int}
    (hA : TreeAt W B p n g Z ov fv ord vs FR rd) (hT : Means E M pl up m n (Z 0) (Z 1)) (j0 f0 : Nat) (hj : M j0) (hf : M f0) (hjm : pl j0 < m) (hfm : pl f0 < m) (hps : ∀ v, v < n → nth (Z 4) v = rd → On up v j0) (hn : n ≤ 1099511627776) :
    Calls Try.prog 103 #[.pointer (some ⟨p, 0, none⟩), .int .i64 (j0 : Int), .int .i64 (f0 : Int)] W fun e w' => ∃ (x : Nat) (PS : List Int), e = .returned (.int .i64 (x : Int)) ∧ TreeAt w' B p n g (fun k => if k = 4 then PS else Z k) ov fv ord vs FR rd ∧ Off (fun i => i = g 4) W w' ∧ (On up j0 x ∧ On up f0 x ∧ ∀ z, On up j0 z → On up f0 z → On up x z) ∧ (∀ v, v < n → nth PS v = rd → On up v x) ∧ ((∀ v, v < n → nth (Z 4) v ≤ rd) → ∀ v, v < n → nth PS v ≤ rd) := by
  have HT := Lib.hid hT
  have HS0 : RowKit.Hid (MeetSt W E M pl up m B p n g Z ov fv ord vs FR rd j0 f0 j0 f0 (Z 4) W) := Lib.hid ⟨by
    have e : (fun k => if k = 4 then Z 4 else Z k) = Z := funext fun k => by split; rename_i h; rw [h]; rfl
    rw [e]; exact hA, Off.refl _ _, Meet.start _ _, hj, hf, hjm, hfm, fun v hv h => .inl (hps v hv h), fun h => h⟩
  have HG4 : RowKit.Hid (g 4 < W.heap.size) := Lib.hid (by obtain ⟨cur, hc, _⟩ := hA.gblk (i := 4) (by omega); exact (Array.getElem?_eq_some_iff.1 hc).1)
  clear hA hT hj hf hjm hfm hps
  go_enter Try.func103, Try.ntmps103
  go_wp2_with fail
  go_loopw [1, 2] (fun v1 v2 wr => ∃ (j f : Nat) (PS : List Int), v1 = .int .i64 (j : Int) ∧ v2 = .int .i64 (f : Int) ∧ RowKit.Hid (MeetSt W E M pl up m B p n g Z ov fv ord vs FR rd j0 f0 j f PS wr)) (fun v1 v2 _ => pl (intOf v1).toNat + pl (intOf v2).toNat)
  case atStart => exact ⟨j0, f0, Z 4, rfl, rfl, HS0⟩
  case round =>
    obtain ⟨j, f, PS, rfl, rfl, HI⟩ := hrel
    clear HS0
    obtain ⟨wo, hwo⟩ : ∃ u, u = wr := ⟨_, rfl⟩
    rw [← hwo] at HI ⊢
    clear hwo
    have hjn : j < n := HT.out.lt j HI.out.mj
    have hfn : f < n := HT.out.lt f HI.out.mf
    by_cases hjf : j = f
    · have hjb : ((j : Int) != (f : Int)) = false := by rw [hjf]; simp
      have HJF := Lib.hid hjf
      clear hjf
      go_wp2_with fail
      go_ret
      refine ⟨j, PS, rfl, HI.out.at_, HI.out.off, HI.out.meet.found (by rw [HJF.out]; exact .refl _), fun v hv h => ?_, HI.out.le⟩
      rcases HI.out.pass v hv h with h1 | ⟨h1, h2⟩
      · exact h1
      · rw [HJF.out]; exact h1
    · have hjb : ((j : Int) != (f : Int)) = true := by rw [bne_iff_ne]; omega
      have HJF := Lib.hid hjf
      clear hjf
      have c1 : wo.cell? ⟨p, 1, none⟩ = some (.slice (some ⟨g 0, 0, none⟩) n n) := by simp [World.cell?, HI.out.at_.blk]
      have c3 : wo.cell? ⟨p, 3, none⟩ = some (.slice (some ⟨g 1, 0, none⟩) n n) := by simp [World.cell?, HI.out.at_.blk]
      have c6 : wo.cell? ⟨p, 6, none⟩ = some (.slice (some ⟨g 4, 0, none⟩) n n) := by simp [World.cell?, HI.out.at_.blk]
      have c7 : wo.cell? ⟨p, 7, none⟩ = some (.int .i64 rd) := by simp [World.cell?, HI.out.at_.blk]
      have p1 : wo.cell? ⟨g 0, j, none⟩ = some (.int .i64 (pl j : Int)) := by
        have := HI.out.at_.cell (i := 0) (by omega) hjn
        simpa [HT.out.place j HI.out.mj] using this
      have p2 : wo.cell? ⟨g 0, f, none⟩ = some (.int .i64 (pl f : Int)) := by
        have := HI.out.at_.cell (i := 0) (by omega) hfn
        simpa [HT.out.place f HI.out.mf] using this
      have u1 : wo.cell? ⟨g 1, j, none⟩ = some (.int .i64 (up j)) := by
        have := HI.out.at_.cell (i := 1) (by omega) hjn
        simpa [HT.out.above j hjn] using this
      have s1 : wo.cell? ⟨g 4, f, none⟩ = some (.int .i64 (nth PS f)) := by
        have := HI.out.at_.cell (i := 4) (by omega) hfn
        simpa using this
      have sf : wo.frozen? ⟨g 4, f, none⟩ = false := HI.out.at_.free (by omega) f
      have hji : (j : Int) < (n : Int) := by omega
      have hj0 : (0 : Int) ≤ (j : Int) := by omega
      have hfi : (f : Int) < (n : Int) := by omega
      have hf0 : (0 : Int) ≤ (f : Int) := by omega
      have HNE : RowKit.Hid (pl j ≠ pl f) := Lib.hid fun e => HJF.out (HT.out.rpo.inj j f HI.out.mj HI.out.mf e)
      by_cases hgt : pl f < pl j
      · have hdec : decide ((pl f : Int) < (pl j : Int)) = true := decide_eq_true (by omega)
        obtain ⟨y, hy⟩ : ∃ y : Nat, up j = (y : Int) := by
          refine Int.eq_ofNat_of_zero_le ((HT.out.tree.known j HI.out.mj (fun e => ?_)).2 HI.out.lj)
          have := (HT.out.rpo.pl0 j HI.out.mj).2 e
          omega
        have HY := Lib.hid hy
        rw [hy] at u1
        have HGT := Lib.hid hgt
        clear hy hgt
        go_wp2_with fail
        go_quiet (fail)
        go_wp2_with fail
        go_roundw
        case rel => exact ⟨y, f, PS, rfl, rfl, Lib.hid ((HI.out.goj HT.out.tree HGT.out HY.out).1.kept (below_drewN _ (Below.refl _ _)))⟩
        case measure => have h2 := (HI.out.goj HT.out.tree HGT.out HY.out).2; simp only [intOf, Int.toNat_natCast]; omega
      · have hdec : decide ((pl f : Int) < (pl j : Int)) = false := decide_eq_false (by omega)
        have hnlt : ¬ ((pl f : Int) < (pl j : Int)) := by omega
        have hlej : (pl j : Int) ≤ (pl f : Int) := by omega
        have HLT : RowKit.Hid (pl j < pl f) := Lib.hid (by have := HNE.out; omega)
        clear hgt
        by_cases hpd : nth PS f = rd
        · rw [hpd] at s1
          have hrb : (rd == rd) = true := by simp
          have HPD := Lib.hid hpd
          clear hpd
          go_wp2_with fail
          go_quiet (fail)
          go_wp2_with fail
          go_quiet (fail)
          go_wp2_with fail
          go_ret
          refine ⟨j, PS, rfl, (HI.out.kept (below_drewN _ (below_drewN _ (Below.refl wo.heap.size wo)))).at_, (HI.out.kept (below_drewN _ (below_drewN _ (Below.refl wo.heap.size wo)))).off, HI.out.meet.found ?_, fun v hv h => ?_, HI.out.le⟩
          · rcases HI.out.pass f hfn HPD.out with h | ⟨_, h⟩
            · exact h
            · exact absurd rfl h
          · rcases HI.out.pass v hv h with h1 | ⟨h1, h2⟩
            · exact h1
            · rcases HI.out.pass f hfn HPD.out with h | ⟨_, h⟩
              · exact h1.trans h
              · exact absurd rfl h
        · have hrb : (nth PS f == rd) = false := by simpa using hpd
          have hrn : ¬ nth PS f = rd := hpd
          obtain ⟨y, hy⟩ : ∃ y : Nat, up f = (y : Int) := by
            refine Int.eq_ofNat_of_zero_le ((HT.out.tree.known f HI.out.mf (fun e => ?_)).2 HI.out.lf)
            have := (HT.out.rpo.pl0 f HI.out.mf).2 e
            have := HLT.out
            omega
          have HY := Lib.hid hy
          clear hy hpd
          go_wp2_with fail
          go_quiet (fail)
          go_wp2_with fail
          go_quiet (fail)
          go_wp2_with fail
          generalize hwv : World.drewN (World.drewN wo _) _ = wv
          have HIV : RowKit.Hid (MeetSt W E M pl up m B p n g Z ov fv ord vs FR rd j0 f0 j f PS wv.drew) := Lib.hid (by rw [← hwv]; exact HI.out.kept (below_drewN _ (below_drewN _ (Below.refl wo.heap.size wo))).drew)
          clear hwv c1 c3 c6 c7 p1 p2 u1 s1 sf
          have e6 : wv.drew.cell? ⟨p, 6, none⟩ = some (.slice (some ⟨g 4, 0, none⟩) n n) := by simp [World.cell?, HIV.out.at_.blk]
          have e7 : wv.drew.cell? ⟨p, 7, none⟩ = some (.int .i64 rd) := by simp [World.cell?, HIV.out.at_.blk]
          have hs1 : wv.drew.cell? ⟨g 4, f, none⟩ = some (.int .i64 (nth PS f)) := by
            have := HIV.out.at_.cell (i := 4) (by omega) hfn
            simpa using this
          have hsf : wv.drew.frozen? ⟨g 4, f, none⟩ = false := HIV.out.at_.free (by omega) f
          refine wp_region_Z (S := (fun u : World => u.cell? ⟨p, 6, none⟩ = some (.slice (some ⟨g 4, 0, none⟩) n n) ∧ u.cell? ⟨p, 7, none⟩ = some (.int .i64 rd))) 10 (by kernel_rfl) ⟨e6, e7⟩ (fun hHeld => ?_)
          refine wpAnyZ_take (i := 0) (oi := ⟨some 45, _, _, _, _, _⟩) (v := ?_) rfl (by kernel_rfl) (by kernel_rfl) (by kernel_rfl) (by kernel_rfl) (fun _ _ _ h => h) (Or.inl ⟨by rfl, ?_⟩) (by assumption) ?_
          rotate_left
          · ((intro w hSw; (try dsimp only at hSw); go_simp); try with_reducible rfl)
          (try simp only [Act.put, List.setIfInBounds_toArray, List.set_cons_zero, List.set_cons_succ])
          refine wpAnyZ_take (i := 1) (oi := ⟨some 46, _, _, _, _, _⟩) (v := ?_) rfl (by kernel_rfl) (by kernel_rfl) (by kernel_rfl) (by kernel_rfl) (fun _ _ _ h => h) (Or.inl ⟨by rfl, ?_⟩) (by assumption) ?_
          rotate_left
          · ((intro w hSw; (try dsimp only at hSw); go_simp); try with_reducible rfl)
          (try simp only [Act.put, List.setIfInBounds_toArray, List.set_cons_zero, List.set_cons_succ])
          refine wpAnyZ_take (i := 2) (oi := ⟨some 47, _, _, _, _, _⟩) (v := ?_) rfl (by kernel_rfl) (by kernel_rfl) (by kernel_rfl) (by kernel_rfl) (fun _ _ _ h => h) (Or.inl ⟨by rfl, ?_⟩) (by assumption) ?_
          rotate_left
          · ((intro w hSw; (try dsimp only at hSw); go_simp); try with_reducible rfl)
          (try simp only [Act.put, List.setIfInBounds_toArray, List.set_cons_zero, List.set_cons_succ])
          refine wpAnyZ_take (i := 3) (oi := ⟨some 48, _, _, _, _, _⟩) (v := ?_) rfl (by kernel_rfl) (by kernel_rfl) (by kernel_rfl) (by kernel_rfl) (fun _ _ _ h => h) (Or.inl ⟨by rfl, ?_⟩) (by assumption) ?_
          rotate_left
          · ((intro w hSw; (try dsimp only at hSw); go_simp); try with_reducible rfl)
          (try simp only [Act.put, List.setIfInBounds_toArray, List.set_cons_zero, List.set_cons_succ])
          refine wpAnyZ_take (i := 4) (oi := ⟨some 49, _, _, _, _, _⟩) (v := ?_) rfl (by kernel_rfl) (by kernel_rfl) (by kernel_rfl) (by kernel_rfl) (fun _ _ _ h => h) (Or.inl ⟨by rfl, ?_⟩) (by assumption) ?_
          rotate_left
          · ((intro w hSw; (try dsimp only at hSw); go_simp); try with_reducible rfl)
          (try simp only [Act.put, List.setIfInBounds_toArray, List.set_cons_zero, List.set_cons_succ])
          refine wpAnyZ_take (i := 5) (oi := ⟨some 50, _, _, _, _, _⟩) (v := ?_) rfl (by kernel_rfl) (by kernel_rfl) (by kernel_rfl) (by kernel_rfl) (fun _ _ _ h => h) (Or.inl ⟨by rfl, ?_⟩) (by assumption) ?_
          rotate_left
          · ((intro w hSw; (try dsimp only at hSw); go_simp); try with_reducible rfl)
          (try simp only [Act.put, List.setIfInBounds_toArray, List.set_cons_zero, List.set_cons_succ])
          refine wpAnyZ_take (i := 6) (oi := ⟨some 51, _, _, _, _, _⟩) (v := ?_) rfl (by kernel_rfl) (by kernel_rfl) (by kernel_rfl) (by kernel_rfl) (fun _ _ _ h => h) (Or.inl ⟨by rfl, ?_⟩) (by assumption) ?_
          rotate_left
          · ((intro w hSw; (try dsimp only at hSw); go_simp); try with_reducible rfl)
          (try simp only [Act.put, List.setIfInBounds_toArray, List.set_cons_zero, List.set_cons_succ])
          refine wpAnyZ_take (i := 7) (oi := ⟨some 52, _, _, _, _, _⟩) (v := ?_) rfl (by kernel_rfl) (by kernel_rfl) (by kernel_rfl) (by kernel_rfl) (fun _ _ _ h => h) (Or.inl ⟨by rfl, ?_⟩) (by assumption) ?_
          rotate_left
          · ((intro w hSw; (try dsimp only at hSw); go_simp); try with_reducible rfl)
          (try simp only [Act.put, List.setIfInBounds_toArray, List.set_cons_zero, List.set_cons_succ])
          refine wpAnyZ_take (i := 8) (oi := ⟨some 53, _, _, _, _, _⟩) (v := ?_) rfl (by kernel_rfl) (by kernel_rfl) (by kernel_rfl) (by kernel_rfl) (fun _ _ _ h => h) (Or.inl ⟨by rfl, ?_⟩) (by assumption) ?_
          rotate_left
          · ((intro w hSw; (try dsimp only at hSw); go_simp); try with_reducible rfl)
          (try simp only [Act.put, List.setIfInBounds_toArray, List.set_cons_zero, List.set_cons_succ])
          refine wpAnyZ_take (i := 9) (oi := ⟨some 54, _, _, _, _, _⟩) (v := ?_) rfl (by kernel_rfl) (by kernel_rfl) (by kernel_rfl) (by kernel_rfl) (fun _ _ _ h => h) (Or.inl ⟨by rfl, ?_⟩) (by assumption) ?_
          rotate_left
          · ((intro w hSw; (try dsimp only at hSw); go_simp); try with_reducible rfl)
          (try simp only [Act.put, List.setIfInBounds_toArray, List.set_cons_zero, List.set_cons_succ])
          refine wpAnyZ_last (by kernel_rfl) rfl (by kernel_rfl) (fun K hK => ?_)
          rw [if_pos (by rfl)]
          go_simp
          refine hK.out _ _ ?_
          clear hK K
          (try simp only [Act.put, List.setIfInBounds_toArray, List.set_cons_zero, List.set_cons_succ])
          have hg0 := HIV.out.gof HT.out.tree HLT.out HY.out hfn HG4.out
          obtain ⟨wx, hwx⟩ : ∃ wx, (wv.setCell ⟨g 4, f, none⟩ (.int .i64 rd)).drew = wx := ⟨_, rfl⟩
          have hwx2 : wv.drew.setCell ⟨g 4, f, none⟩ (.int .i64 rd) = wx := hwx
          rw [hwx2] at hg0
          have HG := Lib.hid hg0
          rw [hwx]
          clear hwx hwx2 hg0 e6 e7 hs1 hsf hHeld
          have d3 : wx.cell? ⟨p, 3, none⟩ = some (.slice (some ⟨g 1, 0, none⟩) n n) := by simp [World.cell?, HG.out.1.at_.blk]
          have d1 : wx.cell? ⟨g 1, f, none⟩ = some (.int .i64 (y : Int)) := by
            have := HG.out.1.at_.cell (i := 1) (by omega) hfn
            simpa [HT.out.above f hfn, HY.out] using this
          go_wp2_with fail
          go_roundw
          case rel => exact ⟨j, y, _, rfl, rfl, Lib.hid HG.out.1⟩
          case measure => have h2 := HG.out.2; simp only [intOf, Int.toNat_natCast]; omega
end Go.Proofs.Ytnnccahpgailiaa

/- Layer 8: the lowest block that is over all that go to a block (mk_dom.py B). -/
namespace Go.Proofs.Ytnnccahpgailiaa
open Go.RowKit (wrap64 intOf Below)
set_option linter.unusedVariables false
set_option linter.unusedSimpArgs false

theorem joint_one {up : Nat → Int} {PP PP' : Nat → Prop} {q : Nat} (h0 : ∀ p, ¬ PP p) (h : ∀ p, PP' p ↔ PP p ∨ p = q) : Joint up PP' q :=
  ⟨fun p hp => by
    rcases (h p).1 hp with h1 | rfl
    · exact absurd h1 (h0 p)
    · exact .refl _, fun z hz => hz q ((h q).2 (.inr rfl))⟩
theorem joint_more {up : Nat → Int} {PP PP' : Nat → Prop} {q x y : Nat} (hJ : Joint up PP x) (h : ∀ p, PP' p ↔ PP p ∨ p = q) (hf : On up x y ∧ On up q y ∧ ∀ z, On up x z → On up q z → On up y z) : Joint up PP' y :=
  ⟨fun p hp => by
    rcases (h p).1 hp with h1 | rfl
    · exact (hJ.1 p h1).trans hf.1
    · exact hf.2.1, fun z hz => hf.2.2 z (hJ.2 z fun p hp => hz p ((h p).2 (.inl hp))) (hz q ((h q).2 (.inr rfl)))⟩
theorem joint_same {up : Nat → Int} {PP PP' : Nat → Prop} {x : Nat} (hJ : Joint up PP x) (h : ∀ p, PP' p ↔ PP p) : Joint up PP' x :=
  ⟨fun p hp => hJ.1 p ((h p).1 hp), fun z hz => hJ.2 z fun p hp => hz p ((h p).2 hp)⟩
/-- Where it stands: of the blocks that go there, i were asked. -/
structure JointSt (W0 : World) (M : Nat → Prop) (pl : Nat → Nat) (up : Nat → Int) (m B p n : Nat) (g : Nat → Nat) (Z : Nat → List Int) (ov fv : Value) (ord : List Int) (vs : List Value) (FR : List (List Int)) (rd : Int) (Lb : List Int) (i : Nat) (jv : Int) (PS : List Int) (W : World) : Prop where
  at_ : TreeAt W B p n g (fun k => if k = 4 then PS else Z k) ov fv ord vs FR rd
  off : Off (fun i => i = p ∨ i = g 4) W0 W
  le : ∀ v, v < n → nth PS v ≤ rd
  st : ((∀ q : Nat, ¬ ((q : Int) ∈ Lb.take i ∧ pl q < m)) ∧ jv = -1 ∧ ∀ v, v < n → nth PS v ≠ rd) ∨ (∃ x : Nat, jv = (x : Int) ∧ Joint up (fun q => (q : Int) ∈ Lb.take i ∧ pl q < m) x ∧ M x ∧ pl x < m ∧ ∀ v, v < n → nth PS v = rd → On up v x)
section
variable {W0 W W' : World} {M : Nat → Prop} {pl : Nat → Nat} {up : Nat → Int} {m B p n : Nat} {g : Nat → Nat} {Z : Nat → List Int} {ov fv : Value} {ord : List Int} {vs : List Value} {FR : List (List Int)} {rd : Int} {Lb : List Int} {i : Nat} {jv : Int} {PS : List Int}
theorem take_more {Lb : List Int} {i q : Nat} (hi : i < Lb.length) (hq : Lb[i] = (q : Int)) (c : Nat → Prop) (x : Nat) : ((x : Int) ∈ Lb.take (i + 1) ∧ c x) ↔ ((x : Int) ∈ Lb.take i ∧ c x) ∨ (x = q ∧ c q) := by
  rw [List.take_succ_eq_append_getElem hi, List.mem_append, List.mem_singleton, hq]
  constructor
  · rintro ⟨h | h, hc⟩
    · exact .inl ⟨h, hc⟩
    · have : x = q := by omega
      subst this; exact .inr ⟨rfl, hc⟩
  · rintro (⟨h, hc⟩ | ⟨rfl, hc⟩)
    · exact ⟨.inl h, hc⟩
    · exact ⟨.inr rfl, hc⟩
/-- One that has no place yet. -/
theorem JointSt.skip (h : JointSt W0 M pl up m B p n g Z ov fv ord vs FR rd Lb i jv PS W) {q : Nat} (hi : i < Lb.length) (hq : Lb[i] = (q : Int)) (hm : ¬ pl q < m) : JointSt W0 M pl up m B p n g Z ov fv ord vs FR rd Lb (i + 1) jv PS W := by
  have e : ∀ x : Nat, ((x : Int) ∈ Lb.take (i + 1) ∧ pl x < m) ↔ ((x : Int) ∈ Lb.take i ∧ pl x < m) := fun x => by
    rw [take_more hi hq (fun x => pl x < m) x]
    exact ⟨fun h => h.resolve_right (fun h' => hm h'.2), .inl⟩
  refine ⟨h.at_, h.off, h.le, ?_⟩
  rcases h.st with ⟨h1, h2, h3⟩ | ⟨x, h1, h2, h3⟩
  · exact .inl ⟨fun x hx => h1 x ((e x).1 hx), h2, h3⟩
  · exact .inr ⟨x, h1, joint_same h2 e, h3⟩
/-- The first one. -/
theorem JointSt.first (h : JointSt W0 M pl up m B p n g Z ov fv ord vs FR rd Lb i jv PS W) {q : Nat} (hi : i < Lb.length) (hq : Lb[i] = (q : Int)) (hm : pl q < m) (hM : M q) (hj : jv < 0) : JointSt W0 M pl up m B p n g Z ov fv ord vs FR rd Lb (i + 1) (q : Int) PS W := by
  refine ⟨h.at_, h.off, h.le, ?_⟩
  rcases h.st with ⟨h1, h2, h3⟩ | ⟨x, h1, _⟩
  · refine .inr ⟨q, rfl, joint_one (PP := fun q => (q : Int) ∈ Lb.take i ∧ pl q < m) h1 fun x => ?_, hM, hm, fun v hv hp => absurd hp (h3 v hv)⟩
    rw [take_more hi hq (fun x => pl x < m) x]
    exact ⟨fun h => h.imp id (·.1), fun h => h.imp id (fun h => ⟨h, hm⟩)⟩
  · omega
/-- One more: they meet. -/
theorem JointSt.more (h : JointSt W0 M pl up m B p n g Z ov fv ord vs FR rd Lb i jv PS W) {q x y : Nat} {PS2 : List Int} (hi : i < Lb.length) (hq : Lb[i] = (q : Int)) (hm : pl q < m) (hj : jv = (x : Int)) (hlt : ∀ v c : Nat, up v = (c : Int) → M c ∧ pl c < pl v ∧ pl c < m)
    (ha : TreeAt W' B p n g (fun k => if k = 4 then PS2 else (fun k => if k = 4 then PS else Z k) k) ov fv ord vs FR rd) (ho : Off (fun i => i = g 4) W W') (hf : On up x y ∧ On up q y ∧ ∀ z, On up x z → On up q z → On up y z) (hp : ∀ v, v < n → nth PS2 v = rd → On up v y) (hle : ∀ v, v < n → nth PS2 v ≤ rd) :
    JointSt W0 M pl up m B p n g Z ov fv ord vs FR rd Lb (i + 1) (y : Int) PS2 W' := by
  have e : (fun k => if k = 4 then PS2 else (fun k => if k = 4 then PS else Z k) k) = (fun k => if k = 4 then PS2 else Z k) := funext fun k => by
    by_cases hk : k = 4 <;> simp [hk]
  rw [e] at ha
  rcases h.st with ⟨_, h2, _⟩ | ⟨x', h1, h2, hMx, hxm, _⟩
  · omega
  · have hxx : x' = x := by omega
    subst hxx
    refine ⟨ha, h.off.trans (ho.mono fun i _ hi => .inr hi), hle, .inr ⟨y, rfl, joint_more h2 (q := q) (fun z => ?_) hf, on_met hlt hMx hf.1, ?_, hp⟩⟩
    · rw [take_more hi hq (fun x => pl x < m) z]
      exact ⟨fun h => h.imp id (·.1), fun h => h.imp id (fun h => ⟨h, hm⟩)⟩
    · rcases on_pl hlt hf.1 with rfl | ⟨_, _, h3⟩
      · exact hxm
      · exact h3
end
set_option maxRecDepth 100000 in
set_option maxHeartbeats 4000000 in
theorem joint_any {E : Nat → Nat → Prop} {M : Nat → Prop} {pl : Nat → Nat} {up : Nat → Int} {m : Nat} {W : World} {B p n gf : Nat} {g : Nat → Nat} {Z : Nat → List Int} {ov : Value} {ord : List Int} {vs : List Value} {FR : List (List Int)} {rd : Int}
    (hA : TreeAt W B p n g Z ov (.slice (some ⟨gf, 0, none⟩) n n) ord vs FR rd) (hT : Means E M pl up m n (Z 0) (Z 1)) (b : Nat) (Lb : List Int) (hvs : vs.length = n) (hb : b < n) (hMb : M b) (hb0 : b ≠ 0) (hbm : pl b ≤ m) (hm0 : 0 < m) (hLb : ∀ h : b < FR.length, FR[b] = Lb) (hin : ∀ z ∈ Lb, ∃ q : Nat, z = (q : Int) ∧ M q ∧ E q b) (hall : ∀ q, M q → E q b → (q : Int) ∈ Lb) (hle : ∀ v, v < n → nth (Z 4) v ≤ rd) (hrd : 0 ≤ rd ∧ rd ≤ 4611686018427387904) (hn : n ≤ 1099511627776) (hLn : Lb.length ≤ n) :
    Calls Try.prog 90 #[.pointer (some ⟨p, 0, none⟩), .int .i64 (b : Int)] W fun e w' => ∃ (x : Nat) (PS : List Int), e = .returned (.int .i64 (x : Int)) ∧ TreeAt w' B p n g (fun k => if k = 4 then PS else Z k) ov (.slice (some ⟨gf, 0, none⟩) n n) ord vs FR (rd + 1) ∧ Off (fun i => i = p ∨ i = g 4) W w' ∧ Joint up (fun q => M q ∧ E q b ∧ pl q < m) x ∧ ∀ v, v < n → nth PS v ≤ rd + 1 := by
  have HT := Lib.hid hT
  have hfl : b < FR.length := by rw [← hA.fr.len, hvs]; exact hb
  have hvl : b < vs.length := by rw [hvs]; exact hb
  have hown := hA.fr.own b hvl hfl
  rw [hLb hfl] at hown
  obtain ⟨xa, xn, xc, hxv, hxn⟩ := hown.nums
  have hcf : W.cell? ⟨gf, b, none⟩ = some (.slice xa xn xc) := by rw [← hxv]; exact hA.fr.cell hvl
  have hxl : xn = Lb.length := hxn.1.symm
  -- where the list lies: none of the rows, and not the tree itself
  have HAP : RowKit.Hid (∀ g0 off, xa = some ⟨g0, off, none⟩ → ¬ (g0 = p ∨ g0 = g 4)) := Lib.hid fun g0 off e => by
    have hob : vs[b].ownBlock = some g0 := by rw [hxv, e]; rfl
    rintro (h | h)
    · obtain ⟨cur, hc, _⟩ := ownsI_blk hown hob
      have h2 := hA.blk
      rw [h, h2] at hc
      simp at hc
    · exact hA.frne 4 (by omega) b hvl (by rw [hob, h])
  have hgf : gf < W.heap.size := World.block_lt_of_cell? (a := ⟨gf, b, none⟩) _ hcf
  have hgp : gf ≠ p := fun e => by
    obtain ⟨cur, hc, _⟩ := ownsRow_blk hA.fr.row (i := gf) rfl
    have h2 := hA.blk
    rw [e, h2] at hc
    simp at hc
  have c2 : W.cell? ⟨p, 2, none⟩ = some (.slice (some ⟨gf, 0, none⟩) n n) := by simp [World.cell?, hA.blk]
  have c7 : W.cell? ⟨p, 7, none⟩ = some (.int .i64 rd) := by simp [World.cell?, hA.blk]
  have f7 : W.frozen? ⟨p, 7, none⟩ = false := by simp [World.frozen?, hA.blk]
  have hw7 : wrap64 (rd + 1) = rd + 1 := by unfold wrap64; omega
  have HA := Lib.hid hA
  have HXN := Lib.hid hxn
  have HIN := Lib.hid hin
  have HALL := Lib.hid hall
  have HLE := Lib.hid hle
  have HMB := Lib.hid hMb
  have hbi : (b : Int) < (n : Int) := by omega
  have hbi0 : (0 : Int) ≤ (b : Int) := by omega
  clear hT hfl hvl hown hxv hxn hLb hin hall hle hA hMb
  go_enter Try.func90, Try.ntmps90
  go_wp2_with fail
  obtain ⟨W1, hW1⟩ : ∃ W1, W.setCell ⟨p, 7, none⟩ (.int .i64 (rd + 1)) = W1 := ⟨_, rfl⟩
  have HS0 : RowKit.Hid (JointSt W M pl up m B p n g Z ov (.slice (some ⟨gf, 0, none⟩) n n) ord vs FR (rd + 1) Lb 0 (-1) (Z 4) W1) := Lib.hid (by
    rw [← hW1]
    refine ⟨?_, Off.setCell (X := fun i => i = p ∨ i = g 4) (p := ⟨p, 7, none⟩) (Off.refl _ W) (.inl (.inl rfl)) _, fun v hv => by have := HLE.out v hv; omega, .inl ⟨by simp, rfl, fun v hv => by have := HLE.out v hv; omega⟩⟩
    have e : (fun k => if k = 4 then Z 4 else Z k) = Z := funext fun k => by split; rename_i h; rw [h]; rfl
    rw [e]
    exact HA.out.turn (rd + 1))
  rw [hW1]
  clear hW1 c2 c7 f7 hcf
  go_loopw [5, 23] (fun v5 v23 wr => ∃ (i : Nat) (jv : Int) (PS : List Int), i ≤ xn ∧ v5 = .int .i64 jv ∧ v23 = .int .i64 (i : Int) ∧ RowKit.Hid (JointSt W M pl up m B p n g Z ov (.slice (some ⟨gf, 0, none⟩) n n) ord vs FR (rd + 1) Lb i jv PS wr)) (fun _ v23 _ => xn - (intOf v23).toNat)
  case atStart => exact ⟨0, -1, Z 4, Nat.zero_le _, rfl, rfl, HS0⟩
  case round =>
    obtain ⟨i, jv, PS, hi, rfl, rfl, HI⟩ := hrel
    clear HS0
    obtain ⟨wo, hwo⟩ : ∃ u, u = wr := ⟨_, rfl⟩
    rw [← hwo] at HI ⊢
    clear hwo
    have hxn2 : xn ≤ n := by omega
    by_cases hlt : i < xn
    · have HIL : RowKit.Hid (i < Lb.length) := Lib.hid (by omega)
      obtain ⟨g0, off, rfl, hg0, hcs⟩ := HXN.out.2 (by omega)
      obtain ⟨q, hq, hMq, hEq⟩ := HIN.out _ (List.getElem_mem HIL.out)
      have hcq : wo.cell? ⟨g0, off + i, none⟩ = some (.int .i64 (q : Int)) := by
        have h1 := hcs i HIL.out
        rw [hq] at h1
        exact (HI.out.off.cell (p := ⟨g0, off + i, none⟩) hg0 (HAP.out g0 off rfl)).trans h1
      have hqn : q < n := HT.out.lt q hMq
      have c3 : wo.cell? ⟨p, 3, none⟩ = some (.slice (some ⟨g 1, 0, none⟩) n n) := by simp [World.cell?, HI.out.at_.blk]
      have u1 : wo.cell? ⟨g 1, q, none⟩ = some (.int .i64 (up q)) := by
        have := HI.out.at_.cell (i := 1) (by omega) hqn
        simpa [HT.out.above q hqn] using this
      have hqi : (q : Int) < (n : Int) := by omega
      have hqi0 : (0 : Int) ≤ (q : Int) := by omega
      have HQ := Lib.hid hq
      have HMQ := Lib.hid hMq
      clear hcs hg0 hq hMq hEq hqn
      have hw : wrap64 ((i : Int) + 1) = (i : Int) + 1 := by unfold wrap64; omega
      have HW := Lib.hid hw
      clear hw
      by_cases hskip : q ≠ 0 ∧ up q < 0
      · have hq0 : ((q : Int) != 0) = true := by rw [bne_iff_ne]; have := hskip.1; omega
        have hneg := hskip.2
        have HSK : RowKit.Hid (¬ pl q < m) := Lib.hid fun h => by have := (HT.out.tree.known q HMQ.out hskip.1).2 h; omega
        clear hskip
        go_wp2_with fail
        go_roundw
        case rel => exact ⟨i + 1, jv, PS, hlt, rfl, by go_num, Lib.hid (HI.out.skip HIL.out HQ.out HSK.out)⟩
        case measure => simp [intOf]; omega
      · have HQM : RowKit.Hid (pl q < m) := Lib.hid (by
          by_cases h0 : q = 0
          · rw [(HT.out.rpo.pl0 q HMQ.out).2 h0]; exact hm0
          · exact (HT.out.tree.known q HMQ.out h0).1 (by omega))
        by_cases hjn : jv < 0
        · have HJN := Lib.hid hjn
          by_cases h0 : q = 0
          · subst h0
            clear hskip
            go_wp2_with fail
            go_roundw
            case rel => exact ⟨i + 1, 0, PS, hlt, rfl, by go_num, Lib.hid (HI.out.first HIL.out HQ.out HQM.out HMQ.out HJN.out)⟩
            case measure => simp [intOf]; omega
          · have hq0 : ((q : Int) != 0) = true := by rw [bne_iff_ne]; omega
            have hnn : ¬ up q < 0 := fun h => hskip ⟨h0, h⟩
            clear hskip
            go_wp2_with fail
            go_roundw
            case rel => exact ⟨i + 1, _, PS, hlt, rfl, by go_num, Lib.hid (HI.out.first HIL.out HQ.out HQM.out HMQ.out HJN.out)⟩
            case measure => simp [intOf]; omega
        · obtain ⟨x, hx, hJx, hMx, hxm, hpx⟩ : ∃ x : Nat, jv = (x : Int) ∧ Joint up (fun q => (q : Int) ∈ Lb.take i ∧ pl q < m) x ∧ M x ∧ pl x < m ∧ ∀ v, v < n → nth PS v = rd + 1 → On up v x := by
            rcases HI.out.st with ⟨_, h2, _⟩ | h
            · omega
            · exact h
          subst hx
          have CM := Lib.hid (meet_any HI.out.at_ (E := E) (M := M) (pl := pl) (up := up) (m := m) ⟨HT.out.tree, HT.out.rpo, HT.out.lt, HT.out.place, HT.out.above⟩ x q hMx HMQ.out hxm HQM.out hpx hn)
          clear hJx hMx hxm hpx
          by_cases h0 : q = 0
          · subst h0
            clear hskip
            go_wp2_with (go_at_call 103; refine CM.out.mono ?_; rintro e w5 ⟨y, PS2, rfl, ha, ho, hf, hp, hl⟩; have HN := Lib.hid (HI.out.more HIL.out HQ.out HQM.out rfl HT.out.tree.lt ha ho hf hp (hl HI.out.le)); clear ha ho hf hp hl)
            go_roundw
            case rel => exact ⟨i + 1, _, PS2, hlt, rfl, by go_num, HN⟩
            case measure => simp [intOf]; omega
          · have hq0 : ((q : Int) != 0) = true := by rw [bne_iff_ne]; omega
            have hnn : ¬ up q < 0 := fun h => hskip ⟨h0, h⟩
            clear hskip
            go_wp2_with (go_at_call 103; refine CM.out.mono ?_; rintro e w5 ⟨y, PS2, rfl, ha, ho, hf, hp, hl⟩; have HN := Lib.hid (HI.out.more HIL.out HQ.out HQM.out rfl HT.out.tree.lt ha ho hf hp (hl HI.out.le)); clear ha ho hf hp hl)
            go_roundw
            case rel => exact ⟨i + 1, _, PS2, hlt, rfl, by go_num, HN⟩
            case measure => simp [intOf]; omega
    · obtain rfl : i = xn := by omega
      obtain ⟨x, hx, hJx, _⟩ : ∃ x : Nat, jv = (x : Int) ∧ Joint up (fun q => (q : Int) ∈ Lb.take i ∧ pl q < m) x ∧ True := by
        rcases HI.out.st with ⟨h1, _, _⟩ | ⟨x, h1, h2, _⟩
        · obtain ⟨u, hu, he, hl⟩ := HT.out.rpo.fwd b HMB.out hb0
          exact absurd ⟨by rw [List.take_of_length_le (by omega)]; exact HALL.out u hu he, by omega⟩ (h1 u)
        · exact ⟨x, h1, h2, trivial⟩
      subst hx
      have HJ : RowKit.Hid (Joint up (fun q => M q ∧ E q b ∧ pl q < m) x) := Lib.hid (joint_same hJx fun q => by
        rw [List.take_of_length_le (by omega)]
        constructor
        · rintro ⟨h1, h2, h3⟩; exact ⟨HALL.out q h1 h2, h3⟩
        · rintro ⟨h1, h2⟩
          obtain ⟨q', e, h3, h4⟩ := HIN.out _ h1
          have : q' = q := by omega
          subst this
          exact ⟨h3, h4, h2⟩)
      clear hJx
      go_wp2_with fail
      go_ret
      exact ⟨x, PS, rfl, HI.out.at_, HI.out.off, HJ.out, HI.out.le⟩
end Go.Proofs.Ytnnccahpgailiaa

/- Layer 8: each block is laid below the one that all that go to it meet in, until nothing changes (mk_dom.py C). -/
namespace Go.Proofs.Ytnnccahpgailiaa
open Go.RowKit (wrap64 intOf Below)
set_option linter.unusedVariables false
set_option linter.unusedSimpArgs false

/-- The five rows, with those that change in place. -/
def ZU (Z : Nat → List Int) (UP PS : List Int) : Nat → List Int := fun k => if k = 1 then UP else if k = 4 then PS else Z k
theorem ZU_pass (Z : Nat → List Int) (UP PS PS2 : List Int) : (fun k => if k = 4 then PS2 else ZU Z UP PS k) = ZU Z UP PS2 := by
  funext k
  unfold ZU
  by_cases h4 : k = 4
  · subst h4; simp
  · simp [h4]
theorem ZU_up (Z : Nat → List Int) (UP UP2 PS : List Int) : (fun k => if k = 1 then UP2 else ZU Z UP PS k) = ZU Z UP2 PS := by
  funext k
  unfold ZU
  by_cases h1 : k = 1
  · simp [h1]
  · simp [h1]
theorem ZU_same (Z : Nat → List Int) : ZU Z (Z 1) (Z 4) = Z := by
  funext k
  unfold ZU
  by_cases h1 : k = 1
  · subst h1; simp
  · by_cases h4 : k = 4
    · subst h4; simp
    · simp [h1, h4]
/-- What is given of the blocks. -/
structure Given (E : Nat → Nat → Prop) (M : Nat → Prop) (pl : Nat → Nat) (n K : Nat) (ord : List Int) (PL : List Int) (FR : List (List Int)) : Prop where
  rpo : Rpo E M pl
  lt : ∀ v, M v → v < n
  plK : ∀ v, M v → pl v < K
  olen : ord.length = K
  K0 : 0 < K
  Kn : K ≤ n
  ordAt : ∀ i (h : i < ord.length), ∃ v : Nat, ord[i] = (v : Int) ∧ M v ∧ pl v = i
  place : ∀ v, M v → nth PL v = (pl v : Int)
  from_ : ∀ b (h : b < FR.length), M b → (∀ z ∈ FR[b], ∃ q : Nat, z = (q : Int) ∧ M q ∧ E q b) ∧ (∀ q, M q → E q b → (q : Int) ∈ FR[b]) ∧ FR[b].length ≤ n
/-- Where the settling stands in memory. -/
structure SetSt (W0 : World) (B p n : Nat) (g : Nat → Nat) (Z : Nat → List Int) (ov fv : Value) (ord : List Int) (vs : List Value) (FR : List (List Int)) (UP PS : List Int) (r : Nat) (W : World) : Prop where
  at_ : TreeAt W B p n g (ZU Z UP PS) ov fv ord vs FR (r : Int)
  off : Off (fun i => i = p ∨ i = g 1 ∨ i = g 4) W0 W
  le : ∀ v, v < n → nth PS v ≤ (r : Int)
/-- It is settled. -/
structure Settled (E : Nat → Nat → Prop) (M : Nat → Prop) (pl : Nat → Nat) (n : Nat) (UP : List Int) (m : Nat) : Prop where
  tree : Tree E M pl (upOf n UP) m
  all : ∀ v, M v → pl v < m
  fix : ∀ v c : Nat, M v → upOf n UP v = (c : Int) → ∀ p, M p → E p v → On (upOf n UP) p c
def SettlePost (E : Nat → Nat → Prop) (M : Nat → Prop) (pl : Nat → Nat) (W : World) (B p n : Nat) (g : Nat → Nat) (Z : Nat → List Int) (ov fv : Value) (ord : List Int) (vs : List Value) (FR : List (List Int)) (e : Ending) (w' : World) : Prop :=
  e = .returned (.tuple #[]) ∧ ∃ (UP PS : List Int) (r m : Nat), SetSt W B p n g Z ov fv ord vs FR UP PS r w' ∧ Settled E M pl n UP m ∧ r ≤ 1000010000100000
set_option maxRecDepth 100000 in
set_option maxHeartbeats 4000000 in
theorem settle_any {E : Nat → Nat → Prop} {M : Nat → Prop} {pl : Nat → Nat} {W : World} {B p n K gf : Nat} {g : Nat → Nat} {Z : Nat → List Int} {ov : Value} {ord : List Int} {vs : List Value} {FR : List (List Int)}
    (hA : TreeAt W B p n g Z ov (.slice (some ⟨gf, 0, none⟩) n n) ord vs FR 0) (hG : Given E M pl n K ord (Z 0) FR) (hvs : vs.length = n) (hZ1 : Z 1 = List.replicate n (-1)) (hle : ∀ v, v < n → nth (Z 4) v ≤ 0) (hn : n ≤ 100000) :
    Calls Try.prog 66 #[.pointer (some ⟨p, 0, none⟩)] W (SettlePost E M pl W B p n g Z ov (.slice (some ⟨gf, 0, none⟩) n n) ord vs FR) := by
  have HG := Lib.hid hG
  have hup0 : upOf n (Z 1) = fun _ => -1 := funext fun v => by
    unfold upOf
    split
    · rename_i h; rw [hZ1, nth_is (by simpa using h)]; simp
    · rfl
  have hn0 : 0 < n := by have := hG.K0; have := hG.Kn; omega
  obtain ⟨oa, on, oc, rfl, hon⟩ := hA.ord.nums
  have HON := Lib.hid hon
  have HOL : RowKit.Hid (on = K) := Lib.hid (hon.1.symm.trans hG.olen)
  have honn : on ≤ n := by have := HOL.out; have := hG.Kn; omega
  have hbd : (n * (n + 1) + 1) * n ≤ 1000010000100000 := by
    have h1 : n * (n + 1) ≤ 100000 * 100001 := Nat.mul_le_mul hn (by omega)
    have h2 : (n * (n + 1) + 1) * n ≤ (100000 * 100001 + 1) * 100000 := Nat.mul_le_mul (by omega) hn
    omega
  have HBD := Lib.hid hbd
  have HS0 : RowKit.Hid (SetSt W B p n g Z (.slice oa on oc) (.slice (some ⟨gf, 0, none⟩) n n) ord vs FR (Z 1) (Z 4) 0 W ∧ (Z 1).length = n ∧ Tree E M pl (upOf n (Z 1)) 1 ∧ Pass E M pl (upOf n (Z 1)) 0 1 ∧ (1 : Nat) ≤ K ∧ 1 ≤ 1 ∧ (true = false → Settled E M pl n (Z 1) 1) ∧ weigh n pl (Z 1) + 1 = (if true = true then weigh n pl (Z 1) + 1 else 0) ∧ 0 + (weigh n pl (Z 1) + 1) * n ≤ 1000010000100000) := Lib.hid ⟨⟨by rw [ZU_same]; exact hA, Off.refl _ _, fun v hv => by have := hle v hv; omega⟩, by rw [hZ1]; simp, by rw [hup0]; exact Tree.start hG.rpo, by rw [hup0]; exact Pass.start, hG.K0, Nat.le_refl _, (fun h => nomatch h), rfl, by
    have h1 := weigh_le n pl (Z 1)
    have h2 : (weigh n pl (Z 1) + 1) * n ≤ (n * (n + 1) + 1) * n := Nat.mul_le_mul_right _ (by omega)
    omega⟩
  clear hA hle hZ1 hup0 hon hbd hG
  go_enter Try.func66, Try.ntmps66
  go_wp2_with fail
  go_loopg [2] (weigh n pl (Z 1) + 1) (fun gk v2 wr => ∃ (UP PS : List Int) (r m : Nat) (ch : Bool), v2 = .bool ch ∧ RowKit.Hid (SetSt W B p n g Z (.slice oa on oc) (.slice (some ⟨gf, 0, none⟩) n n) ord vs FR UP PS r wr ∧ UP.length = n ∧ Tree E M pl (upOf n UP) m ∧ Pass E M pl (upOf n UP) 0 m ∧ m ≤ K ∧ 1 ≤ m ∧ (ch = false → Settled E M pl n UP m) ∧ gk = (if ch = true then weigh n pl UP + 1 else 0) ∧ r + gk * n ≤ 1000010000100000))
  case atStart => exact ⟨Z 1, Z 4, 0, 1, true, rfl, HS0⟩
  case round =>
    obtain ⟨UP, PS, r, m, ch, rfl, HI⟩ := hrel
    clear HS0
    obtain ⟨wo, hwo⟩ : ∃ u, u = wr := ⟨_, rfl⟩
    rw [← hwo] at HI ⊢
    clear hwo
    cases ch with
    | false =>
      go_wp2_with fail
      go_end0
      exact ⟨rfl, UP, PS, r, m, HI.out.1, HI.out.2.2.2.2.2.2.1 (by simp), by have := HI.out.2.2.2.2.2.2.2.2; omega⟩
    | true =>
      have hgk : gk = weigh n pl UP + 1 := by have := HI.out.2.2.2.2.2.2.2.1; simpa using this
      have hrb : r + gk * n ≤ 1000010000100000 := HI.out.2.2.2.2.2.2.2.2
      have hrb2 : r + (weigh n pl UP * n + n) ≤ 1000010000100000 := by rw [hgk, Nat.succ_mul] at hrb; exact hrb
      have HRB := Lib.hid hrb2
      have HGK := Lib.hid hgk
      have HST := Lib.hid HI.out.1
      have HPS : RowKit.Hid (PassSt E M pl n K UP UP m 0 false) := Lib.hid (PassSt.begin HI.out.2.1 HI.out.2.2.1 HI.out.2.2.2.1 HI.out.2.2.2.2.1 HI.out.2.2.2.2.2.1)
      have c0 : wo.cell? ⟨p, 0, none⟩ = some (.slice oa on oc) := by simp [World.cell?, HI.out.1.at_.blk]
      have HOW : RowKit.Hid (NumsAt wo oa on ord) := Lib.hid HI.out.1.at_.ord.read
      have HON2 : RowKit.Hid (∀ g0 off, oa = some ⟨g0, off, none⟩ → ¬ (g0 = p ∨ g0 = g 1 ∨ g0 = g 4)) := Lib.hid fun g0 off e => by
        have hob : (Value.slice oa on oc).ownBlock = some g0 := by rw [e]; rfl
        rintro (h | h | h)
        · obtain ⟨cur, hc, _⟩ := ownsI_blk HI.out.1.at_.ord hob
          have h2 := HI.out.1.at_.blk
          rw [h, h2] at hc
          simp at hc
        · exact HI.out.1.at_.ordne 1 (by omega) (by rw [hob, h])
        · exact HI.out.1.at_.ordne 4 (by omega) (by rw [hob, h])
      have HOF0 : RowKit.Hid (Off (fun i => i = p ∨ i = g 1 ∨ i = g 4) W wo) := Lib.hid HI.out.1.off
      clear HI hgk hrb hrb2
      go_wp2_with fail
      clear c0
      go_loopw [2, 12] (fun v2 v12 wr => ∃ (i : Nat) (UQ PQ : List Int) (s mi : Nat) (ch : Bool), i ≤ on ∧ v2 = .bool ch ∧ v12 = .int .i64 (i : Int) ∧ RowKit.Hid (SetSt wo B p n g Z (.slice oa on oc) (.slice (some ⟨gf, 0, none⟩) n n) ord vs FR UQ PQ s wr ∧ PassSt E M pl n K UP UQ mi i ch ∧ s ≤ r + i)) (fun _ v12 _ => on - (intOf v12).toNat)
      case atStart => exact ⟨0, UP, PS, r, m, false, Nat.zero_le _, rfl, rfl, Lib.hid ⟨⟨HST.out.at_, Off.refl _ _, HST.out.le⟩, HPS.out, Nat.le_refl _⟩⟩
      case round =>
        obtain ⟨i, UQ, PQ, s, mi, ch, hi, rfl, rfl, HJ⟩ := hrel
        clear HST HPS
        obtain ⟨wq, hwq⟩ : ∃ u, u = wr := ⟨_, rfl⟩
        rw [← hwq] at HJ ⊢
        clear hwq
        by_cases hlt : i < on
        · have HIL : RowKit.Hid (i < ord.length) := Lib.hid (by have := HG.out.olen; have := HOL.out; omega)
          obtain ⟨b, hb, hMb, hpb⟩ := HG.out.ordAt i HIL.out
          obtain ⟨g0, off, rfl, hg0, hcs⟩ := HOW.out.2 (by omega)
          have hcb : wq.cell? ⟨g0, off + i, none⟩ = some (.int .i64 (b : Int)) := by
            have h1 := hcs i HIL.out
            rw [hb] at h1
            exact (HJ.out.1.off.cell (p := ⟨g0, off + i, none⟩) hg0 (HON2.out g0 off rfl)).trans h1
          have hbn : b < n := HG.out.lt b hMb
          have HMB := Lib.hid hMb
          have HPB := Lib.hid hpb
          clear hcs hg0 hb hMb hpb
          by_cases hb0 : b = 0
          · subst hb0
            have hi0 : i = 0 := by rw [← HPB.out]; exact (HG.out.rpo.pl0 0 HMB.out).2 rfl
            have HI0 := Lib.hid hi0
            clear hi0
            go_wp2_with fail
            go_roundw
            case rel => exact ⟨i + 1, UQ, PQ, s, mi, ch, hlt, rfl, by go_num, Lib.hid ⟨HJ.out.1, by have h := HJ.out.2.1; rw [HI0.out] at h ⊢; exact h.zero HG.out.rpo, by have := HJ.out.2.2; omega⟩⟩
            case measure => simp [intOf]; omega
          · have hbb : ((b : Int) == 0) = false := by rw [beq_eq_false_iff_ne]; omega
            have HB0 := Lib.hid hb0
            have hsb : (s : Int) ≤ 4611686018427387904 := by have := HJ.out.2.2; have := HRB.out; have := HG.out.Kn; omega
            have CJ := Lib.hid (joint_any HJ.out.1.at_ (E := E) (M := M) (pl := pl) (up := upOf n UQ) (m := mi) ⟨HJ.out.2.1.tree, HG.out.rpo, HG.out.lt, HG.out.place, fun v hv => (upOf_lt hv).symm⟩ b (FR[b]'(by rw [← HJ.out.1.at_.fr.len, hvs]; exact hbn)) hvs hbn HMB.out hb0 (by rw [HPB.out]; exact HJ.out.2.1.im) HJ.out.2.1.m1 (fun _ => rfl) (HG.out.from_ b _ HMB.out).1 (HG.out.from_ b _ HMB.out).2.1 (by intro v hv; exact HJ.out.1.le v hv) ⟨by omega, hsb⟩ (by omega) (HG.out.from_ b _ HMB.out).2.2)
            have hbi : (b : Int) < (n : Int) := by omega
            have hbi0 : (0 : Int) ≤ (b : Int) := by omega
            clear hb0
            have hwl : weigh n pl UQ ≤ weigh n pl UP := by
              cases ch with
              | false => rw [(HJ.out.2.1.same rfl).1]; exact Nat.le_refl _
              | true => exact Nat.le_of_lt (HJ.out.2.1.less rfl)
            have HWL := Lib.hid hwl
            clear hwl
            go_upto_region 8 with (go_at_call 90; refine CJ.out.mono ?_; rintro e w5 ⟨x, PS2, rfl, ha, ho, hj, hl⟩; rw [ZU_pass] at ha; have e3 : w5.cell? ⟨p, 3, none⟩ = some (.slice (some ⟨g 1, 0, none⟩) n n) := (by simp [World.cell?, ha.blk]); have e1 : w5.cell? ⟨g 1, b, none⟩ = some (.int .i64 (nth UQ b)) := (by have h := ha.cell (i := 1) (by omega) hbn; simpa [ZU] using h); have ef : w5.frozen? ⟨g 1, b, none⟩ = false := ha.free (by omega) b; have HA5 := Lib.hid ha; have HO5 := Lib.hid ho; have HJ5 := Lib.hid hj; have HL5 := Lib.hid hl; clear ha ho hj hl)
            by_cases hx : nth UQ b = (x : Int)
            · have hxb : ((x : Int) != nth UQ b) = false := by rw [hx]; simp
              have HX := Lib.hid hx
              clear hx
              go_wp2_with fail
              go_roundw
              case rel => exact ⟨i + 1, UQ, PS2, s + 1, mi, ch, hlt, rfl, by go_num, Lib.hid ⟨⟨HA5.out, HJ.out.1.off.trans (HO5.out.mono fun k _ hk => by rcases hk with h | h; exact .inl h; exact .inr (.inr h)), HL5.out⟩, HJ.out.2.1.stay HG.out.rpo HMB.out HB0.out hbn HPB.out (by have := HOL.out; omega) HJ5.out HX.out, by have := HJ.out.2.2; omega⟩⟩
              case measure => simp [intOf]; omega
            · have hxb : ((x : Int) != nth UQ b) = true := by rw [bne_iff_ne]; exact fun e => hx e.symm
              have HX := Lib.hid hx
              clear hx
              go_wp2_with fail
              go_roundw
              case rel =>
                refine ⟨i + 1, UQ.set b (x : Int), PS2, s + 1, max mi (i + 1), true, hlt, rfl, by go_num, Lib.hid ⟨⟨?_, (HJ.out.1.off.trans (HO5.out.mono fun k _ hk => by rcases hk with h | h; exact .inl h; exact .inr (.inr h))).setCell (.inl (.inr (.inl rfl))) _, HL5.out⟩, HJ.out.2.1.move HG.out.rpo HG.out.Kn HG.out.plK HWL.out HMB.out HB0.out hbn HPB.out (by have := HOL.out; omega) HJ5.out HX.out, by have := HJ.out.2.2; omega⟩⟩
                have h := HA5.out.put (i := 1) (by omega) b (x : Int)
                rw [ZU_up] at h
                exact h
              case measure => simp [intOf]; omega
        · obtain rfl : i = on := by omega
          have hplK : ∀ v, M v → pl v < i := fun v hv => by have := HG.out.plK v hv; have := HOL.out; omega
          have HEND : RowKit.Hid ((ch = false → Settled E M pl n UQ mi) ∧ Pass E M pl (upOf n UQ) 0 mi) := Lib.hid ⟨fun hc => by
            have h := HJ.out.2.1
            rw [hc, HOL.out] at h
            have h2 := h.fixed HG.out.plK
            exact ⟨h.tree, h2.1, h2.2⟩, HJ.out.2.1.pass.again hplK⟩
          have HMS : RowKit.Hid ((if ch = true then weigh n pl UQ + 1 else 0) < gk ∧ s + (if ch = true then weigh n pl UQ + 1 else 0) * n ≤ 1000010000100000) := Lib.hid (by
            have h1 := HGK.out
            have h2 := HRB.out
            have h3 := HJ.out.2.2
            cases ch with
            | false => simp; omega
            | true =>
              have h4 := HJ.out.2.1.less rfl
              have h5 : (weigh n pl UQ + 1) * n ≤ weigh n pl UP * n := Nat.mul_le_mul_right _ (by omega)
              simp only [if_true]
              omega)
          go_wp2_with fail
          go_roundg (if ch = true then weigh n pl UQ + 1 else 0)
          case rel => exact ⟨UQ, PQ, s, mi, ch, rfl, Lib.hid ⟨⟨HJ.out.1.at_, HOF0.out.trans HJ.out.1.off, HJ.out.1.le⟩, HJ.out.2.1.len, HJ.out.2.1.tree, HEND.out.2, HJ.out.2.1.mK, HJ.out.2.1.m1, HEND.out.1, rfl, HMS.out.2⟩⟩
          all_goals exact HMS.out.1
end Go.Proofs.Ytnnccahpgailiaa

/- Layer 8: slices.Backward over a row of numbers: the contract of its iterator. -/
namespace Go.Proofs.Ytnnccahpgailiaa
open Go.RowKit
set_option linter.unusedVariables false
set_option linter.unusedSimpArgs false
attribute [local go_sem] Oper.semAt_some

/-- The first q places, from the last one on. -/
def dn (n q : Nat) : List Nat := (List.range q).map fun j => n - 1 - j
theorem dn_more (n q : Nat) : dn n (q + 1) = dn n q ++ [n - 1 - q] := by unfold dn; rw [List.range_succ, List.map_append]; rfl
theorem dn_len (n q : Nat) : (dn n q).length = q := by simp [dn]
/-- What a round keeps for the iterator. -/
structure KeptN (b : Nat) (a : Option Addr) (n : Nat) (L : List Int) (W W' : World) : Prop where
  walks : KeepsWalks W W'
  box : W'.cell? ⟨b, 0, none⟩ = W.cell? ⟨b, 0, none⟩
  nums : NumsAt W a n L → NumsAt W' a n L
theorem KeptN.refl (b : Nat) (a : Option Addr) (n : Nat) (L : List Int) (W : World) : KeptN b a n L W W := ⟨KeepsWalks.refl W, rfl, id⟩
theorem KeptN.trans {b : Nat} {a : Option Addr} {n : Nat} {L : List Int} {A B C : World} (h : KeptN b a n L A B) (k : KeptN b a n L B C) : KeptN b a n L A C := ⟨h.walks.trans k.walks, k.box.trans h.box, fun x => k.nums (h.nums x)⟩
theorem cells_other {W : World} {l k : Nat} {o o' : Obj} {x : Value} {j : Nat} (ho : W.heap[l]? = some o) (hc : o.isCells = false) (h : W.cell? ⟨k, j, none⟩ = some x) : k ≠ l := fun e => by
  subst e
  simp only [World.cell?, ho] at h
  cases o <;> simp_all [Obj.isCells]
theorem keptN_putObj {b n0 : Nat} {a : Option Addr} {n : Nat} {L : List Int} (h1 : b < n0) (W : World) (l : Nat) (o o' : Obj) (hl : n0 ≤ l) (ho : W.heap[l]? = some o) (hc : o.isCells = false) (hw : o.isWalk = false) : KeptN b a n L W (W.putObj l o') :=
  ⟨KeepsWalks.putObj _ ho hw, by simp only [World.cell?, World.putObj_heap_other (show b ≠ l by omega)], fun h => ⟨h.1, fun h0 => by
    obtain ⟨g, off, e, hg, hcs⟩ := h.2 h0
    have hne : g ≠ l := cells_other (o' := o') ho hc (hcs 0 (by have := h.1; omega))
    refine ⟨g, off, e, by simpa using hg, fun j hj => ?_⟩
    rw [← hcs j hj]
    simp only [World.cell?, World.putObj_heap_other hne]⟩⟩
theorem backward_any (a : Option Addr) (n c : Nat) (w : World) :
    Calls Try.prog 91 #[.slice a n c] w fun e w' => e = .returned (.func (.func 104) #[] #[.pointer (some ⟨w.heap.size, 0, none⟩)]) ∧ w' = w.alloc (.cells #[.slice a n c] 29) := by
  go_enter Try.func91, Try.ntmps91
  go_wp2_with fail
  go_ret
  exact ⟨rfl, rfl⟩
set_option maxRecDepth 100000 in
set_option maxHeartbeats 2000000 in
theorem bw_stops (a : Option Addr) (n c : Nat) (L : List Int) (b m : Nat) (w : World) (hb : w.cell? ⟨b, 0, none⟩ = some (.slice a n c)) (hL : NumsAt w a n L) (hn : n ≤ 1099511627776) :
    SeqStopsK Fence.wide m Try.prog 104 #[.pointer (some ⟨b, 0, none⟩)] (fun i : Nat => #[.int .i64 (i : Int), .int .i64 (nth L i)]) (KeptN b a n L) (fun xs => xs = dn n n) (fun pre => ∃ q, pre = dn n q) n w := by
  intro l J Jx W hW hJ hJx hY h0
  have hlt : b < w.heap.size := World.block_lt_of_cell? (a := ⟨b, 0, none⟩) _ hb
  have HB : RowKit.Hid (∀ u, KeptN b a n L W u → u.cell? ⟨b, 0, none⟩ = some (.slice a n c) ∧ NumsAt u a n L) := Lib.hid fun u hu => ⟨hu.box.trans ((hW.cell (p := ⟨b, 0, none⟩) hlt).trans hb), hu.nums (hL.since hW)⟩
  have c0 := (HB.out W (KeptN.refl b a n L W)).1
  have HL := Lib.hid hL.1
  have HY := Lib.hid hY
  have HJ0 : RowKit.Hid (J (dn n 0) W ∧ KeptN b a n L W W) := Lib.hid ⟨h0, KeptN.refl b a n L W⟩
  have hwn : wrap64 ((n : Int) - 1) = (n : Int) - 1 := by unfold wrap64; omega
  clear hb hlt hW hJ hJx hY h0 hL
  refine callsIn_of_wp Try.func104 rfl trivial ?_ rfl
  simp only [Try.ntmps104, List.size_toArray, List.length_cons, List.length_nil, Nat.reduceAdd, Nat.reduceSub, Array.replicate_succ, Array.replicate_zero, List.push_toArray, List.append_toArray, List.nil_append, List.cons_append]
  gi_wp2
  clear c0
  gi_loopw [3] (fun v3 wr => ∃ q : Nat, q ≤ n ∧ v3 = .int .i64 ((n : Int) - 1 - q) ∧ RowKit.Hid (J (dn n q) wr ∧ KeptN b a n L W wr)) (fun v3 _ => (intOf v3 + 1).toNat)
  case atStart => exact ⟨0, by omega, by simp, HJ0⟩
  case round =>
    obtain ⟨q, hq, rfl, HI⟩ := hrel
    clear HJ0
    obtain ⟨wo, hwo⟩ : ∃ u, u = wr := ⟨_, rfl⟩
    rw [← hwo] at HI ⊢
    clear hwo
    by_cases hlt : q < n
    · obtain ⟨i, hi⟩ : ∃ i : Nat, i = n - 1 - q := ⟨_, rfl⟩
      have hiI : (n : Int) - 1 - q = (i : Int) := by omega
      have hin : (i : Int) < (n : Int) := by omega
      have hi0 : (0 : Int) ≤ (i : Int) := by omega
      have hbx := (HB.out wo HI.out.2).1
      obtain ⟨g, off, hae, hg, hcs⟩ := (HB.out wo HI.out.2).2.2 (by omega)
      subst hae
      have hil : i < L.length := by rw [HL.out]; omega
      have hcell : wo.cell? ⟨g, off + i, none⟩ = some (.int .i64 (nth L i)) := by rw [nth_is hil]; exact hcs i hil
      obtain ⟨fn, tmps, assign, body, hy, hR⟩ := HY.out (dn n q) i wo HI.out.1 (by rw [dn_len]; exact hlt)
      have HDN : RowKit.Hid (dn n (q + 1) = dn n q ++ [i]) := Lib.hid (by rw [dn_more, hi])
      have hwi : wrap64 ((i : Int) - 1) = (i : Int) - 1 := by unfold wrap64; omega
      have HII := Lib.hid hiI
      clear hcs hg hi hil
      rw [hiI]
      clear hiI
      gi_wp2
      refine ⟨(fun h => (nomatch h)), hR.mono ?_⟩
      rintro e W3 (⟨rfl, hJ3, hk3⟩ | ⟨rfl, hJx3⟩)
      · have HN3 : RowKit.Hid (J (dn n (q + 1)) W3 ∧ KeptN b (some ⟨g, off, none⟩) n L W W3) := Lib.hid ⟨by rw [HDN.out]; exact hJ3, HI.out.2.trans hk3⟩
        clear hJ3 hk3 hy hR
        gi_wp2
        go_roundw
        case rel => exact ⟨q + 1, hlt, by have := HII.out; congr 1 <;> omega, HN3⟩
        case measure => have := HII.out; simp [intOf] <;> omega
      · gi_wp2
        refine bodyPost_ret (results_none rfl _ _ _) rfl ?_
        exact ⟨⟨_, rfl⟩, .inr ⟨_, ⟨q + 1, rfl⟩, by rw [HDN.out]; exact hJx3⟩⟩
    · obtain rfl : q = n := by omega
      have hneg : (q : Int) - 1 - q = -1 := by omega
      rw [hneg]
      gi_wp2
      go_end0
      exact ⟨⟨_, rfl⟩, .inl ⟨_, rfl, HI.out.1⟩⟩
end Go.Proofs.Ytnnccahpgailiaa

/- slices.Repeat of a list of one number. -/
namespace Go.Proofs.Ytnnccahpgailiaa
open Go.RowKit (wrap64 intOf Below)
set_option linter.unusedVariables false
set_option linter.unusedSimpArgs false

/-- The first k are v, the others 0. -/
def filled (n k : Nat) (v : Int) : List Value := List.replicate k (numV v) ++ List.replicate (n - k) (numV 0)
theorem filled_len {n k : Nat} (v : Int) (h : k ≤ n) : (filled n k v).length = n := by simp [filled]; omega
theorem filled_more {n k m : Nat} (v : Int) (h : k + m ≤ n) : splice (filled n k v) k (List.replicate m (numV v)) = filled n (k + m) v := by
  unfold splice filled
  rw [List.take_left' (by simp), List.length_replicate, List.drop_append]
  simp only [List.length_replicate, List.drop_replicate]
  rw [show k - (k + m) = 0 by omega, List.replicate_zero, List.nil_append, show k + m - k = m by omega, show n - k - m = n - (k + m) by omega, ← List.append_assoc, List.replicate_append_replicate]
theorem filled_at {n k j : Nat} {v : Int} (hj : j < k) (hk : k ≤ n) : (filled n k v)[j]? = some (.int .i64 v) := by
  unfold filled
  rw [List.getElem?_append_left (by simpa using hj), List.getElem?_replicate, if_pos hj]; rfl
theorem filled_made (n : Nat) (v : Int) : (madeCells #[Value.int .i64 0] n) = (filled n 0 v).toArray := by
  apply Array.ext
  · simp [madeCells, filled]
  · intro i h1 h2
    simp [madeCells, filled, Nat.mod_one, numV]
theorem filled_full (n : Nat) (v : Int) : filled n n v = (List.replicate n v).map numV := by simp [filled]
theorem make_intsR (q : Int) (Q : Nat) (hq : q = Q) (hQ : Q ≤ 1099511627776) (u : World) : (Instr.makeSlice 29 (.int .i64 q) (.int .i64 q)).run Try.prog u = .ok (.slice (some ⟨u.heap.size, 0, none⟩) Q Q) (u.alloc (.cells (madeCells #[.int .i64 0] Q) 3)) := by
  obtain ⟨i0, hi, hz0, hz1, hz2⟩ := info_parts info_int
  subst hq
  have h := run_make (P := Try.prog) u 29 3 i0 (.int .i64 0) Try.underlying29 hi hz0 .i64 .i64 (Q : Int) (Q : Int) (by omega) (by omega) (by rw [hz2]; omega) (by omega)
  simpa [hz1, Value.cells] using h
set_option maxRecDepth 100000 in
set_option maxHeartbeats 2000000 in
theorem repeat_any (g cx : Nat) (v : Int) (n : Nat) (w : World) (hx : w.cell? ⟨g, 0, none⟩ = some (.int .i64 v)) (hn : n ≤ 1099511627776) :
    Calls Try.prog 61 #[.slice (some ⟨g, 0, none⟩) 1 cx, .int .i64 (n : Int)] w fun e w' => e = .returned (.slice (some ⟨w.heap.size, 0, none⟩) n n) ∧ OwnsI w' w.heap.size 3 (.slice (some ⟨w.heap.size, 0, none⟩) n n) (List.replicate n v) ∧ Below w.heap.size w w' := by
  have hmk := make_intsR n n rfl hn
  have hsz : (Try.prog.info? 3).map (·.size) = some 1 := by kernel_rfl
  have hgl : g < w.heap.size := World.block_lt_of_cell? (a := ⟨g, 0, none⟩) _ hx
  have HGL := Lib.hid hgl
  have HX := Lib.hid hx
  have CB := Lib.hid (Try.bits_Mul 1 n (by decide) (by omega))
  have e1 : ((1 * n / 18446744073709551616 : Nat) : Int) = 0 := by rw [Nat.one_mul, Nat.div_eq_of_lt (by omega)]; rfl
  have e2 : ((1 * n % 18446744073709551616 : Nat) : Int) = (n : Int) := by rw [Nat.one_mul, Nat.mod_eq_of_lt (by omega)]
  have e3 : ¬ ((n : Int) < 0) := by omega
  have e4 : IntKind.u64.wrap (n : Int) = (n : Int) := by simp [IntKind.wrap, IntKind.bits, IntKind.signed]; omega
  have e5 : IntKind.i64.wrap (n : Int) = (n : Int) := by simp [IntKind.wrap, IntKind.bits, IntKind.signed]; omega
  have e6 : ¬ ((9223372036854775807 : Int) < (n : Int)) := by omega
  rw [e1, e2] at CB
  clear hx hgl
  go_enter Try.func61, Try.ntmps61
  obtain ⟨k0, hk0⟩ : ∃ k0, k0 = min 1 n := ⟨_, rfl⟩
  have hG : (w.alloc (.cells (madeCells #[.int .i64 0] n) 3)).heap[w.heap.size]? = some (.cells (filled n 0 v).toArray 3 (0, 0)) := by rw [filled_made n v]; exact World.alloc_heap_new w _
  have HG := Lib.hid hG
  have HK0 : RowKit.Hid (k0 ≤ n ∧ (0 < n → 1 ≤ k0) ∧ (List.replicate k0 (numV v)).length = Nat.min 1 n) := Lib.hid ⟨by omega, by omega, by rw [List.length_replicate]; exact hk0⟩
  clear hG hk0
  go_upto_region 7 with (go_at_call 86; refine (CB.out _).mono ?_; rintro e w1 ⟨rfl, hw1⟩; rw [hw1]; clear hw1 w1)
  refine wp_region_lit ?_
  refine wpList_plain rfl fun K hK => ?_
  go_simp
  refine hK _ _ ?_
  refine wpList_plain rfl fun K hK => ?_
  go_simp
  refine hK _ _ ?_
  refine wpList_copy_splice rfl (.tmp 31) (.tmp 32) 29 29 rfl 3 Try.underlying29 hsz (some ⟨w.heap.size, 0, none⟩) (some ⟨g, 0, none⟩) n n 1 cx rfl rfl w.heap.size 0 (filled n 0 v) 3 HG.out (List.replicate k0 (numV v)) HK0.out.2.2 (fun h => ⟨rfl, _, rfl, fun j u hu => ?_⟩) ?_ ?_ w.heap.size w ?_ (Nat.le_refl _) ?_
  · rw [List.getElem?_replicate] at hu
    split at hu
    · have hj : j = 0 := by
        have := HK0.out.2.2
        rw [List.length_replicate] at this
        have h1 : Nat.min 1 n ≤ 1 := Nat.min_le_left _ _
        omega
      subst hj
      simp only [Option.some.injEq] at hu
      subst hu
      rw [addr_plain]
      exact (((Below.refl w.heap.size w).alloc (Nat.le_refl _) _).cell (p := ⟨g, 0, none⟩) HGL.out).trans HX.out
    · cases hu
  · rw [filled_len v (Nat.zero_le _), List.length_replicate]; have := HK0.out.1; omega
  · intro u hu; rw [List.mem_replicate] at hu; rw [hu.2]; rfl
  · exact (Below.refl w.heap.size w).alloc (Nat.le_refl _) _
  intro w2 hg2 hb2
  have HG2 : RowKit.Hid (w2.heap[w.heap.size]? = some (.cells (filled n k0 v).toArray 3 (0, 0))) := Lib.hid (by have h := hg2.out; rw [filled_more v (by have := HK0.out.1; omega), Nat.zero_add] at h; exact h)
  have HB2 := Lib.hid hb2
  clear hg2 hb2 hmk
  rw [List.length_replicate]
  go_wp2_with fail
  go_loopw [8] (fun v8 wr => ∃ k : Nat, k ≤ n ∧ (0 < n → 1 ≤ k) ∧ v8 = .int .i64 (k : Int) ∧ RowKit.Hid (wr.heap[w.heap.size]? = some (.cells (filled n k v).toArray 3 (0, 0)) ∧ Below w.heap.size w wr)) (fun v8 _ => n - (intOf v8).toNat)
  case atStart => exact ⟨k0, HK0.out.1, HK0.out.2.1, rfl, Lib.hid ⟨HG2.out, HB2.out⟩⟩
  case round =>
    obtain ⟨k, hk, hk1, rfl, HI⟩ := hrel
    clear HG HG2 HB2 CB HK0
    obtain ⟨wo, hwo⟩ : ∃ u, u = wr := ⟨_, rfl⟩
    rw [← hwo] at HI ⊢
    clear hwo
    by_cases hlt : k < n
    · obtain ⟨m, hm⟩ : ∃ m, m = min k (n - k) := ⟨_, rfl⟩
      have HM : RowKit.Hid (k + m ≤ n ∧ 1 ≤ m ∧ (List.replicate m (numV v)).length = Nat.min k (n - k)) := Lib.hid ⟨by omega, by omega, by rw [List.length_replicate]; exact hm⟩
      have hne : ¬ n = k := by omega
      have hki : (k : Int) < (n : Int) := by omega
      have hkn : (k : Int) ≤ (n : Int) := by omega
      have hk0' : (0 : Int) ≤ (k : Int) := by omega
      clear hm
      have HPOS : RowKit.Hid (0 < (List.replicate m (numV v)).length → (some (⟨w.heap.size, k, none⟩ : Addr) = some ⟨w.heap.size, k, none⟩) ∧ ∃ ad, some (⟨w.heap.size, 0, none⟩ : Addr) = some ad ∧ ∀ j u, (List.replicate m (numV v))[j]? = some u → wo.drew.cell? (ad.add j) = some u) := Lib.hid fun h => ⟨rfl, _, rfl, fun j u hu => by
        rw [List.getElem?_replicate] at hu
        split at hu
        · simp only [Option.some.injEq] at hu
          subst hu
          rw [addr_plain, Nat.zero_add]
          have h2 := HM.out.2.2
          rw [List.length_replicate] at h2
          have h3 : Nat.min k (n - k) ≤ k := Nat.min_le_left _ _
          have h1 := filled_at (v := v) (show j < k by omega) (Nat.le_of_lt hlt)
          have h4 := HI.out.1
          simp only [World.cell?, World.drew, h4, Option.isSome_none, Bool.false_eq_true, if_false]
          simpa [numV] using h1
        · cases hu⟩
      go_upto_region 9 with fail
      go_region_law (refine step_copy_splice rfl (.tmp 41) (.tmp 44) 29 29 rfl 3 Try.underlying29 hsz (some ⟨w.heap.size, k, none⟩) (some ⟨w.heap.size, 0, none⟩) (n - k) (n - k) k n (by simp [Act.eval, Act.put]) (by simp [Act.eval, Act.put]) w.heap.size k (filled n k v) 3 HI.out.1 (List.replicate m (numV v)) HM.out.2.2 HPOS.out (by rw [filled_len v (Nat.le_of_lt hlt), List.length_replicate]; exact HM.out.1) (by intro u hu; rw [List.mem_replicate] at hu; rw [hu.2]; rfl) w.heap.size w HI.out.2.drew (Nat.le_refl _) ?_; intro w4 hg4 hb4; have HG4 : RowKit.Hid (w4.heap[w.heap.size]? = some (.cells (filled n (k + m) v).toArray 3 (0, 0))) := Lib.hid (by have h := hg4.out; rw [filled_more v HM.out.1] at h; exact h); have HB4 := Lib.hid hb4; clear hg4 hb4; rw [List.length_replicate])
      have hwkm : IntKind.i64.wrap ((k : Int) + (m : Int)) = ((k + m : Nat) : Int) := by have := HM.out.1; simp [IntKind.wrap, IntKind.bits, IntKind.signed]; omega
      have HM1 := HM.out.1
      have HM2 := HM.out.2.1
      go_wp2_with fail
      go_roundw
      case rel => exact ⟨k + m, HM1, fun _ => by omega, (by first | omega | rfl | (simp; done) | go_num), Lib.hid ⟨HG4.out, HB4.out⟩⟩
      case measure => simp only [intOf, hwkm]; omega
    · obtain rfl : k = n := by omega
      go_wp2_with fail
      go_ret
      refine ⟨rfl, ⟨by simp, .inr ⟨w.heap.size, k, _, by simp, Nat.le_refl _, HI.out.1, by simp, by unfold maxLen; omega, by simp [filled], by rw [filled_full]; simp⟩⟩, HI.out.2⟩
end Go.Proofs.Ytnnccahpgailiaa
