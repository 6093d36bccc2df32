/- Layer 14: package flow's reached: which nodes are met. -/
import Derived.Test.YtgncpiamokeohaaFlowJc
import Derived.Test.YtgncpiamokeohaaFlowWc
import Derived.Test.YtgncpiamokeohaaFlowWd
import Derived.Shelf.Abstract
namespace Go.Proofs.Ytgncpiamokeohaa
open Go.RowKit
set_option linter.unusedVariables false
set_option linter.unusedSimpArgs false
attribute [local go_sem] Oper.semAt_some
/-- A slice of truths, as it is read. -/
def BoolsAt (W : World) (a : Option Addr) (n : Nat) (L : List Bool) : Prop :=
  L.length = n ∧ (0 < n → ∃ g off, a = some ⟨g, off, none⟩ ∧ g < W.heap.size ∧ ∀ j (h : j < L.length), W.cell? ⟨g, off + j, none⟩ = some (.bool L[j]))
theorem BoolsAt.since {W W' : World} {a : Option Addr} {n : Nat} {L : List Bool} (h : BoolsAt W a n L) (hb : Below W.heap.size W W') : BoolsAt W' a n L := by
  refine ⟨h.1, fun h0 => ?_⟩
  obtain ⟨g, off, e, hg, hc⟩ := h.2 h0
  exact ⟨g, off, e, Nat.lt_of_lt_of_le hg hb.size, fun j hj => (hb.cell (p := ⟨g, off + j, none⟩) hg).trans (hc j hj)⟩
theorem BoolsAt.nil (W : World) : BoolsAt W none 0 [] := ⟨rfl, fun h => by omega⟩
/-- What the calls that tell who is met answer. -/
noncomputable def metL (n : Int) (E : List (Int × Int)) (S : List Int) : List Bool := if fitF n E S = 0 then metF n.toNat E S else []
def ReachedPost (n : Int) (E : List (Int × Int)) (S : List Int) (w : World) (e : Ending) (w' : World) : Prop :=
  ∃ a k c, e = .returned (.tuple #[.slice a k c, .int .i64 (fitF n E S)]) ∧ BoolsAt w' a k (metL n E S) ∧ Below w.heap.size w w'
theorem make_boolF (q : Int) (Q : Nat) (hq : q = Q) (hQ : Q ≤ 1099511627776) (u : World) : (Instr.makeSlice 25 (.int .i64 q) (.int .i64 q)).run Try.prog u = .ok (.slice (some ⟨u.heap.size, 0, none⟩) Q Q) (u.alloc (.cells (madeCells #[.bool false] Q) 4)) := by
  have hinfo : (Try.prog.info? 4).map (fun i => (i.zero, i.size, i.bytes)) = some (some (.bool false), 1, 1) := by kernel_rfl
  obtain ⟨i0, hi, hz0, hz1, hz2⟩ := info_parts hinfo
  subst hq
  have h := run_make (P := Try.prog) u 25 4 i0 (.bool false) Try.underlying25 hi hz0 .i64 .i64 (Q : Int) (Q : Int) (by omega) (by omega) (by rw [hz2]; omega) (by omega)
  simpa [hz1, Value.cells] using h
/-- The iterator's own blocks are laid. -/
structure MetReady (w2 W : World) (bm bf bw g R q n : Nat) (sa : Option Addr) (sn sc : Nat) (E : List (Int × Int)) (S : List Int) : Prop where
  at_ : MetAt W bm bf bw g R q n sa sn sc E S []
  bel : Below w2.heap.size w2 W
  new : w2.heap.size ≤ bm ∧ w2.heap.size ≤ bf ∧ w2.heap.size ≤ bw ∧ w2.heap.size ≤ g ∧ w2.heap.size ≤ R ∧ w2.heap.size ≤ q
theorem MetReady.since {w2 W W' : World} {bm bf bw g R q n : Nat} {sa : Option Addr} {sn sc : Nat} {E : List (Int × Int)} {S : List Int} (h : MetReady w2 W bm bf bw g R q n sa sn sc E S) (hb : Below W.heap.size W W') : MetReady w2 W' bm bf bw g R q n sa sn sc E S :=
  ⟨h.at_.since hb, h.bel.trans (hb.mono h.bel.size), h.new⟩
/-- The boxes are laid where the marks and the lists are there. -/
theorem ready_of {w2 u : World} {g R q n : Nat} {sa : Option Addr} {sn sc : Nat} {E : List (Int × Int)} {S : List Int} (hb : Below w2.heap.size w2 u) (hw : WaysAt u g R n E) (hm : u.ownsRow 0 4 1 (.slice (some ⟨q, 0, none⟩) n n) n (metVF n [])) (hg : w2.heap.size ≤ g) (hR : w2.heap.size ≤ R) (hq : w2.heap.size ≤ q) (hgq : g ≠ q) (hRq : R ≠ q)
    (hs : NumsAt w2 sa sn S) (hsin : ∀ z ∈ S, 0 ≤ z ∧ z < (n : Int)) (hein : ∀ e ∈ E, 0 ≤ e.2 ∧ e.2 < (n : Int)) (hfew : sn ≤ 17592186044416 ∧ E.length ≤ 1099511627776 ∧ n ≤ 16384) :
    MetReady w2 (((u.alloc (.cells #[.slice (some ⟨g, 0, none⟩) n n] 48)).alloc (.cells #[.slice (some ⟨q, 0, none⟩) n n] 25)).alloc (.cells #[.slice sa sn sc] 23)) (u.heap.size + 1) (u.heap.size + 2) u.heap.size g R q n sa sn sc E S := by
  have hql : q < u.heap.size := by obtain ⟨cur, hc, _⟩ := bools_blk hm; exact (Array.getElem?_eq_some_iff.1 hc).1
  have hsz := hb.size
  obtain ⟨W, hW⟩ : ∃ W, W = (((u.alloc (.cells #[.slice (some ⟨g, 0, none⟩) n n] 48)).alloc (.cells #[.slice (some ⟨q, 0, none⟩) n n] 25)).alloc (.cells #[.slice sa sn sc] 23)) := ⟨_, rfl⟩
  have hbu : Below u.heap.size u W := by rw [hW]; exact (((Below.refl _ u).alloc (Nat.le_refl _) _).alloc (by simp) _).alloc (by simp; omega) _
  have c0 : W.cell? ⟨u.heap.size, 0, none⟩ = some (.slice (some ⟨g, 0, none⟩) n n) := by
    have h1 := Boxed.new u 48 (.slice (some ⟨g, 0, none⟩) n n)
    rw [hW]; exact ((h1.alloc _).alloc _).cell
  have c1 : W.cell? ⟨u.heap.size + 1, 0, none⟩ = some (.slice (some ⟨q, 0, none⟩) n n) := by
    have h1 := Boxed.new (u.alloc (.cells #[.slice (some ⟨g, 0, none⟩) n n] 48)) 25 (.slice (some ⟨q, 0, none⟩) n n)
    rw [World.size_alloc] at h1
    rw [hW]; exact (h1.alloc _).cell
  have c2 : W.cell? ⟨u.heap.size + 2, 0, none⟩ = some (.slice sa sn sc) := by
    have h1 := Boxed.new ((u.alloc (.cells #[.slice (some ⟨g, 0, none⟩) n n] 48)).alloc (.cells #[.slice (some ⟨q, 0, none⟩) n n] 25)) 23 (.slice sa sn sc)
    rw [World.size_alloc, World.size_alloc] at h1
    rw [hW]; exact h1.cell
  rw [← hW]
  have hbw := hb.trans (hbu.mono hsz)
  refine ⟨⟨c1, c2, c0, hw.same (hbu.block _ hw.low.1) (hbu.block _ hw.low.2) hbu.size, hs.since hbw, ⟨hm.1, ?_⟩, hsin, hein, ?_, hfew⟩, hbw, by omega, by omega, hsz, hg, hR, hq⟩
  · rcases hm.2 with h' | ⟨g', cap, cur, e, hg', hh, rest⟩
    · exact .inl h'
    · cases e; exact .inr ⟨_, _, cur, rfl, hg', (hbu.block _ hql).trans hh, rest⟩
  · rintro (h | h | h | h | h | ⟨h0, off, e⟩)
    · omega
    · omega
    · omega
    · exact hgq h.symm
    · exact hRq h.symm
    · obtain ⟨gs, off', e', hgs, _⟩ := hs.2 h0
      rw [e] at e'; cases e'
      omega
/-- It goes on, in one way alone. -/
def onlyA (p : Act → World → Prop) : Exit → Act → World → Prop
  | .normal, a, w => p a w
  | _, _, _ => False
theorem onlyA_out {p : Act → World → Prop} {e : Exit} {a : Act} {w : World} (h : onlyA p e a w) : e = .normal ∧ p a w := by
  cases e with
  | normal => exact ⟨rfl, h⟩
  | _ => exact h.elim
/-- The consumer's own blocks: the box, and its row. -/
def Two (b q : Nat) (W : World) (i : Nat) : Prop := i = b ∨ i = q
theorem steady_two (b q : Nat) : SteadyO (Two b q) := fun _ _ _ _ _ _ _ => Iff.rfl
theorem bools_new (u : World) (n : Nat) (hn : n ≤ 1099511627776) : (u.alloc (.cells (madeCells #[.bool false] n) 4)).ownsRow 0 4 1 (.slice (some ⟨u.heap.size, 0, none⟩) n n) n (metVF n []) := by
  have h := World.ownsRow_lit (base := 0) (e := 4) (size := 1) u (madeCells #[Value.bool false] n) n (Nat.zero_le _) (by unfold maxLen; omega) (by simp [size_madeCells])
  rw [metVF_none] at h
  exact h
/-- What the consumer has. -/
structure AllSt (w : World) (b q0 n : Nat) (W : World) (Z : List Int) : Prop where
  box : Boxed W b 25 (.slice (some ⟨q0, 0, none⟩) n n)
  row : W.ownsRow 0 4 1 (.slice (some ⟨q0, 0, none⟩) n n) n (metVF n Z)
  bel : Below w.heap.size w W
  ge : w.heap.size ≤ b ∧ w.heap.size ≤ q0 ∧ b ≠ q0
theorem AllSt.lies {w W : World} {b q0 n : Nat} {Z : List Int} (h : AllSt w b q0 n W Z) : LiesO (Two b q0) W := by
  rintro i (rfl | rfl)
  · exact ⟨_, h.box, rfl⟩
  · obtain ⟨cur, hc, _⟩ := bools_blk h.row; exact ⟨_, hc, rfl⟩
theorem AllSt.grown {w W W' : World} {b q0 n : Nat} {Z : List Int} (h : AllSt w b q0 n W Z) {row : Option Nat} (hg : W.grownBy W' row) (hr : ∀ r, row = some r → w.heap.size ≤ r ∧ ¬ Two b q0 W r) : AllSt w b q0 n W' Z :=
  ⟨h.box.kept hg (fun e => (hr _ e.symm).2 (.inl rfl)), World.ownsRow.kept h.row hg (.inr fun e => (hr q0 e.symm).2 (.inr rfl)), Below.grown h.bel hg h.bel.size (fun k e => (hr k e).1), h.ge⟩
theorem AllSt.tell {w W : World} {b q0 n : Nat} {Z : List Int} (h : AllSt w b q0 n W Z) {j : Nat} (hj : j < n) : AllSt w b q0 n (W.setCell ⟨q0, j, none⟩ (.bool true)) (Z ++ [(j : Int)]) ∧ W.grownBy (W.setCell ⟨q0, j, none⟩ (.bool true)) (some q0) := by
  obtain ⟨hr, hg⟩ := World.ownsRow.stored h.row j (.bool true)
  rw [metVF_more hj] at hr
  exact ⟨⟨h.box.kept hg (fun e => h.ge.2.2 (Option.some.inj e)), hr, h.bel.setCell (p := ⟨q0, j, none⟩) h.ge.2.1 _, h.ge⟩, hg⟩
theorem AllSt.at_ {w W : World} {b q0 n : Nat} {Z : List Int} (h : AllSt w b q0 n W Z) {j : Nat} (hj : j < n) : (W.cell? ⟨q0, j, none⟩).isSome = true ∧ W.frozen? ⟨q0, j, none⟩ = false ∧ W.cell? ⟨q0, j, none⟩ = some (.bool (decide ((j : Int) ∈ Z))) := by
  have := World.ownsRow.cells h.row rfl j _ (metVF_at (met := Z) hj)
  rw [addr_plain, Nat.zero_add] at this
  exact ⟨by rw [this]; rfl, World.ownsRow.frozenAt h.row j, this⟩
theorem AllSt.reads {w W : World} {b q0 n : Nat} {xs : List (Int × Int)} {E : List (Int × Int)} {S : List Int} (h : AllSt w b q0 n W (xs.map Prod.fst)) (hx : WholeF E S [] xs) (hf : fitF (n : Int) E S = 0) : BoolsAt W (some ⟨q0, 0, none⟩) n (metL (n : Int) E S) := by
  unfold metL
  rw [if_pos hf, Int.toNat_natCast]
  refine ⟨metF_len _ _ _, fun h0 => ⟨q0, 0, rfl, ?_, fun j hj => ?_⟩⟩
  · obtain ⟨cur, hc, _⟩ := bools_blk h.row; exact (Array.getElem?_eq_some_iff.1 hc).1
  · have hj' : j < n := by rw [metF_len] at hj; exact hj
    rw [Nat.zero_add, (h.at_ hj').2.2]
    congr 2
    rw [Bool.eq_iff_iff, metF_at hj, decide_eq_true_eq]
    exact whole_met hx
set_option maxRecDepth 100000 in
set_option maxHeartbeats 4000000 in
theorem reachedF_any (n side : Int) (ea : Option Addr) (en ec : Nat) (E E' : List (Int × Int)) (sa : Option Addr) (sn sc : Nat) (S : List Int) (w : World) (hside : (side = 0 ∧ E' = E) ∨ (side = 1 ∧ E' = turnF E)) (hE : PairsAt w ea en E) (hS : NumsAt w sa sn S) (hen : en ≤ 1099511627776) (hsn : sn ≤ 17592186044416) :
    Calls Try.prog 19 #[.int .i64 n, .slice ea en ec, .int .i64 side, .slice sa sn sc] w (ReachedPost n E' S w) := by
  have hfit : fitF n E' S = fitF n E S := by
    rcases hside with ⟨_, rfl⟩ | ⟨_, rfl⟩
    · rfl
    · exact fitF_turn n E S
  have hlE : E'.length = E.length := by
    rcases hside with ⟨_, rfl⟩ | ⟨_, rfl⟩
    · rfl
    · unfold turnF; simp
  have CF := Lib.hid (fault_any n ea en ec E sa sn sc S w hE hS (by omega) (by omega))
  refine (callsIn_wide (n := 9)).1 ?_
  refine callsIn_of_wp_marks Try.func19 rfl trivial ?_ rfl
  simp only [Try.ntmps19, List.size_toArray, List.length_cons, List.length_nil, Nat.reduceAdd, Nat.reduceSub, Array.replicate_succ, Array.replicate_zero, List.push_toArray, List.append_toArray, List.nil_append, List.cons_append]
  by_cases hf : fitF n E S = 0
  · obtain ⟨hn0, hn1, hee, hss⟩ := fitF_ok hf
    rw [hf] at CF
    obtain ⟨N, rfl⟩ := Int.eq_ofNat_of_zero_le hn0
    have hmk := make_boolF N N rfl (by omega)
    have HE := Lib.hid hE
    have HS := Lib.hid hS
    have HFT := Lib.hid hfit
    have HF := Lib.hid hf
    have CW : RowKit.Hid (∀ u, Below w.heap.size w u → Calls Try.prog 22 #[.int .i64 (N : Int), .slice ea en ec, .int .i64 side] u (WaysPost E' N u)) := Lib.hid fun u hu => by
      rcases hside with ⟨rfl, rfl⟩ | ⟨rfl, rfl⟩
      · exact ways0_any N ea en ec _ u (hE.since hu) (by omega) hen (fun e he => ⟨(hee e he).1, (hee e he).2.1⟩)
      · exact ways1_any N ea en ec _ u (hE.since hu) (by omega) hen (fun e he => by obtain ⟨a, b⟩ := e; have := hee _ (mem_turnF.1 he); exact ⟨this.2.2.1, this.2.2.2⟩)
    have HEE : RowKit.Hid (∀ e ∈ E', 0 ≤ e.2 ∧ e.2 < (N : Int)) := Lib.hid fun e he => by
      rcases hside with ⟨_, rfl⟩ | ⟨_, rfl⟩
      · have := hee e he; exact ⟨this.2.2.1, this.2.2.2⟩
      · obtain ⟨a, b⟩ := e; have := hee _ (mem_turnF.1 he); exact ⟨this.1, this.2.1⟩
    have HSS := Lib.hid hss
    clear hside hE hS hfit hf hee hss
    gi_wp2_with (refine ⟨trivial, ?_⟩; gi_at_call 20; refine (callsIn_wide.2 CF.out).mono ?_; rintro e w1 ⟨rfl, hb1⟩)
    obtain ⟨w2, hw2⟩ : ∃ w2, w2 = ((w1.alloc (.cells (madeCells #[.bool false] N) 4)).alloc (.cells #[.slice (some ⟨w1.heap.size, 0, none⟩) N N] 25)) := ⟨_, rfl⟩
    have hz2 : w2.heap.size = w1.heap.size + 2 := by rw [hw2]; simp
    have hb2 : Below w1.heap.size w1 w2 := by rw [hw2]; exact ((Below.refl _ w1).alloc (Nat.le_refl _) _).alloc (by simp) _
    have hbw2 : Below w.heap.size w w2 := hb1.trans (hb2.mono hb1.size)
    have HB2 := Lib.hid hbw2
    have HB1 := Lib.hid hb1
    have HZ2 := Lib.hid hz2
    have HROW : RowKit.Hid (Boxed w2 (w1.heap.size + 1) 25 (.slice (some ⟨w1.heap.size, 0, none⟩) N N) ∧ w2.ownsRow 0 4 1 (.slice (some ⟨w1.heap.size, 0, none⟩) N N) N (metVF N [])) := Lib.hid (by
      have h1 := Boxed.new (w1.alloc (.cells (madeCells #[.bool false] N) 4)) 25 (.slice (some ⟨w1.heap.size, 0, none⟩) N N)
      rw [World.size_alloc] at h1
      rw [hw2]
      exact ⟨h1, World.ownsRow.alloc (bools_new w1 N (by omega)) _⟩)
    rw [← hw2]
    have HLEN : RowKit.Hid (E'.length ≤ 1099511627776) := Lib.hid (by rw [hlE, HE.out.1]; exact hen)
    have HN : RowKit.Hid (N ≤ 16384) := Lib.hid (by omega)
    clear hw2 hb1 hb2 hbw2 hz2 hlE
    obtain ⟨Rq, hRq⟩ : ∃ Rq : Act → World → Prop, Rq = fun a' W => ∃ bm bf bw g R q, MetReady w2 W bm bf bw g R q N sa sn sc E' S ∧ a' = { tmps := #[.int .i64 (N : Int), .slice ea en ec, .int .i64 side, .slice sa sn sc, undef, undef, undef, undef, .slice none 0 0, .int .i64 0, .int .i64 0, .pointer (some ⟨w1.heap.size + 1, 0, none⟩), undef, .int .i64 (N : Int), .slice ea en ec, .slice sa sn sc, .int .i64 0, .int .i64 0, .bool false, undef, .int .i64 (N : Int), .slice (some ⟨w1.heap.size, 0, none⟩) N N, .int .i64 (N : Int), .slice ea en ec, .int .i64 side, .slice (some ⟨g, 0, none⟩) N N, .int .i64 (N : Int), .slice (some ⟨q, 0, none⟩) N N, .slice sa sn sc, .func (.func 25) #[] #[.pointer (some ⟨bm, 0, none⟩), .pointer (some ⟨bf, 0, none⟩), .pointer (some ⟨bw, 0, none⟩)], undef, undef, undef, undef, undef, undef], defers := [] } := ⟨_, rfl⟩
    have HRI : RowKit.Hid (∀ W bm bf bw g R q, MetReady w2 W bm bf bw g R q N sa sn sc E' S → Rq { tmps := #[.int .i64 (N : Int), .slice ea en ec, .int .i64 side, .slice sa sn sc, undef, undef, undef, undef, .slice none 0 0, .int .i64 0, .int .i64 0, .pointer (some ⟨w1.heap.size + 1, 0, none⟩), undef, .int .i64 (N : Int), .slice ea en ec, .slice sa sn sc, .int .i64 0, .int .i64 0, .bool false, undef, .int .i64 (N : Int), .slice (some ⟨w1.heap.size, 0, none⟩) N N, .int .i64 (N : Int), .slice ea en ec, .int .i64 side, .slice (some ⟨g, 0, none⟩) N N, .int .i64 (N : Int), .slice (some ⟨q, 0, none⟩) N N, .slice sa sn sc, .func (.func 25) #[] #[.pointer (some ⟨bm, 0, none⟩), .pointer (some ⟨bf, 0, none⟩), .pointer (some ⟨bw, 0, none⟩)], undef, undef, undef, undef, undef, undef], defers := [] } W) := Lib.hid fun W bm bf bw g R q h => by rw [hRq]; exact ⟨bm, bf, bw, g, R, q, h, rfl⟩
    have HRE : RowKit.Hid (∀ a' W, Rq a' W → ∃ bm bf bw g R q, MetReady w2 W bm bf bw g R q N sa sn sc E' S ∧ a' = { tmps := #[.int .i64 (N : Int), .slice ea en ec, .int .i64 side, .slice sa sn sc, undef, undef, undef, undef, .slice none 0 0, .int .i64 0, .int .i64 0, .pointer (some ⟨w1.heap.size + 1, 0, none⟩), undef, .int .i64 (N : Int), .slice ea en ec, .slice sa sn sc, .int .i64 0, .int .i64 0, .bool false, undef, .int .i64 (N : Int), .slice (some ⟨w1.heap.size, 0, none⟩) N N, .int .i64 (N : Int), .slice ea en ec, .int .i64 side, .slice (some ⟨g, 0, none⟩) N N, .int .i64 (N : Int), .slice (some ⟨q, 0, none⟩) N N, .slice sa sn sc, .func (.func 25) #[] #[.pointer (some ⟨bm, 0, none⟩), .pointer (some ⟨bf, 0, none⟩), .pointer (some ⟨bw, 0, none⟩)], undef, undef, undef, undef, undef, undef], defers := [] }) := Lib.hid fun a' W h => by rw [hRq] at h; exact h
    have HSN := Lib.hid (HS.out.since HB2.out)
    have HFW : RowKit.Hid (sn ≤ 17592186044416 ∧ E'.length ≤ 1099511627776 ∧ N ≤ 16384) := Lib.hid ⟨hsn, HLEN.out, HN.out⟩
    clear hRq
    refine wpIn_mono (Q := onlyA Rq) (wpIn_wide.2 ?_) ?_
    · have CW2 : RowKit.Hid (∀ u, Below w2.heap.size w2 u → Calls Try.prog 22 #[.int .i64 (N : Int), .slice ea en ec, .int .i64 side] u (WaysPost E' N u)) := Lib.hid fun u hu => CW.out u (HB2.out.trans (hu.mono HB2.out.size))
      have CA := Lib.hid (CW2.out w2.drew (Below.refl _ w2).drew)
      have CB := Lib.hid (CW2.out (w2.alloc (.cells (madeCells #[.bool false] N) 4)).drew ((Below.refl _ w2).alloc (Nat.le_refl _) _).drew)
      go_region_with (first
        | (go_at_call 22; refine CA.out.mono ?_; rintro e w4 ⟨g, R, rfl, hwa, hb4, hg4, hR4⟩)
        | (go_at_call 22; refine CB.out.mono ?_; rintro e w4 ⟨g, R, rfl, hwa, hb4, hg4, hR4⟩)
        | (go_at_call 21; refine (met_any _ _ _ _ _ _ _).mono ?_; rintro e w5 ⟨rfl, rfl⟩))
      · have hb5 : Below w2.heap.size w2 w4 := (Below.refl _ w2).drew.trans hb4
        have hg5 : w2.heap.size ≤ g := hg4
        have hR5 : w2.heap.size ≤ R := hR4
        have hl4 := hwa.low
        have hr := ready_of (sc := sc) (hb5.alloc hb5.size (.cells (madeCells #[.bool false] N) 4)) (hwa.same (Below.heap_alloc _ _ _ hl4.1) (Below.heap_alloc _ _ _ hl4.2) (by simp)) (bools_new w4 N (by have := HN.out; omega)) hg5 hR5 hb5.size (by omega) (by omega) HSN.out HSS.out HEE.out HFW.out
        simp only [World.size_alloc] at hr
        exact HRI.out _ _ _ _ _ _ _ hr
      · have hb6 : Below w2.heap.size w2 (w2.alloc (.cells (madeCells #[.bool false] N) 4)).drew := ((Below.refl _ w2).alloc (Nat.le_refl _) _).drew
        have hb5 : Below w2.heap.size w2 w4 := hb6.trans (hb4.mono hb6.size)
        have hz : (w2.alloc (.cells (madeCells #[.bool false] N) 4)).drew.heap.size = w2.heap.size + 1 := World.size_alloc _ _
        rw [hz] at hg4 hR4
        have hm := bools_new w2 N (by have := HN.out; omega)
        have hm4 : w4.ownsRow 0 4 1 (.slice (some ⟨w2.heap.size, 0, none⟩) N N) N (metVF N []) := by
          refine ⟨hm.1, ?_⟩
          rcases hm.2 with h' | ⟨g', cap, cur, e, hg', hh, rest⟩
          · exact .inl h'
          · cases e; exact .inr ⟨_, _, cur, rfl, hg', (hb4.block _ (by rw [hz]; omega)).trans hh, rest⟩
        exact HRI.out _ _ _ _ _ _ _ (ready_of hb5 hwa hm4 (by omega) (by omega) (Nat.le_refl _) (by omega) (by omega) HSN.out HSS.out HEE.out HFW.out)
    · rintro e a' W hp
      obtain ⟨rfl, hp⟩ := onlyA_out hp
      obtain ⟨bm, bf, bw, g, R, q, hr, rfl⟩ := HRE.out _ _ hp
      dsimp only
      have HR := Lib.hid hr
      clear HRE HRI hp hr CF CW HSN
      gi_wp2
      have HS0 : RowKit.Hid (AllSt w (w1.heap.size + 1) w1.heap.size N W []) := Lib.hid ⟨(HR.out.bel.block _ HROW.out.1.lt).trans HROW.out.1, by
        have hm := HROW.out.2
        refine ⟨hm.1, ?_⟩
        rcases hm.2 with h' | ⟨g', cap, cur, e, hg', hh, rest⟩
        · exact .inl h'
        · cases e; exact .inr ⟨_, _, cur, rfl, hg', (HR.out.bel.block _ (by have := HZ2.out; omega)).trans hh, rest⟩, HB2.out.trans (HR.out.bel.mono HB2.out.size), by have := HB1.out.size; omega, HB1.out.size, by omega⟩
      have hnew := HR.out.new
      have hz2 := HZ2.out
      have hseq := met_seq (O := Two (w1.heap.size + 1) w1.heap.size) (steady_two _ _) W bm bf bw g R q N sa sn sc E' S [] HR.out.at_ (fun U _ _ => ⟨by rintro (h | h) <;> omega, by
        rintro i hi (h | h)
        · rcases hi with e | e | e | e | e | ⟨h0, off, e⟩
          all_goals first | omega | skip
          obtain ⟨gs, off', e', hgs, _⟩ := HS.out.2 h0
          rw [e] at e'; cases e'
          have := HB1.out.size; omega
        · rcases hi with e | e | e | e | e | ⟨h0, off, e⟩
          all_goals first | omega | skip
          obtain ⟨gs, off', e', hgs, _⟩ := HS.out.2 h0
          rw [e] at e'; cases e'
          have := HB1.out.size; omega⟩)
      have HNEW := Lib.hid hnew
      clear hnew hz2
      refine wpIn_rangeFunc_M (T := fun r => r = q) (steady_two (w1.heap.size + 1) w1.heap.size) rfl (by omega) (gf := 25) (lb := #[.pointer (some ⟨bm, 0, none⟩), .pointer (some ⟨bf, 0, none⟩), .pointer (some ⟨bw, 0, none⟩)]) rfl trivial (enters_of Try.func25 (by kernel_rfl) rfl) hseq (fun r e => by subst e; exact HR.out.at_.lt.1) (Below.refl _ _) (fun _ => rfl)
        (fun pre U => AllSt w (w1.heap.size + 1) w1.heap.size N U (pre.map Prod.fst)) (fun s U h => h.lies) ?hI HS0.out
        (fun x a' U => ∃ p, w.heap.size ≤ p ∧ U.heap[p]? = some (.cells #[.int .i64 x.1, .int .i64 x.2] 43 (0, 0)) ∧ a' = { tmps := #[.int .i64 (N : Int), .slice ea en ec, .int .i64 side, .slice sa sn sc, undef, undef, undef, undef, .slice none 0 0, .int .i64 0, .int .i64 0, .pointer (some ⟨w1.heap.size + 1, 0, none⟩), .pointer (some ⟨p, 0, none⟩), .int .i64 (N : Int), .slice ea en ec, .slice sa sn sc, .int .i64 0, .int .i64 0, .bool false, undef, .int .i64 (N : Int), .slice (some ⟨w1.heap.size, 0, none⟩) N N, .int .i64 (N : Int), .slice ea en ec, .int .i64 side, .slice (some ⟨g, 0, none⟩) N N, .int .i64 (N : Int), .slice (some ⟨q, 0, none⟩) N N, .slice sa sn sc, .func (.func 25) #[] #[.pointer (some ⟨bm, 0, none⟩), .pointer (some ⟨bf, 0, none⟩), .pointer (some ⟨bw, 0, none⟩)], .agg #[.int .i64 x.1, .int .i64 x.2], undef, undef, undef, undef, undef], defers := [] })
        ?hAx ?assign ?body ?ran
      case hI =>
        rintro s U U' row h hg hr
        exact h.grown hg (fun r e => ⟨by rcases (hr r e).1 with h1 | h1; (have := HS0.out.bel.size; omega); (have := HNEW.out; have := HB2.out.size; omega), (hr r e).2⟩)
      case hAx =>
        rintro x a' U U' row ⟨p, h1, h2, h3⟩ hg hr
        refine ⟨p, h1, (hg.block p (Array.getElem?_eq_some_iff.1 h2).1 (fun e => ?_)).trans h2, h3⟩
        obtain ⟨o, ho, hc⟩ := hr p e.symm
        rw [h2] at ho; cases ho; cases hc
      case assign =>
        rintro l pre x U K' hI hK'
        have HI := Lib.hid hI
        clear hI
        gi_wp2
        exact hK' _ _ ⟨by simp, fun i hi _ => Below.heap_alloc _ _ _ hi, fun i hi _ => hi, rfl, rfl, rfl⟩ (HI.out.grown (World.grownBy_alloc U _ none) (fun r e => by cases e)) ⟨U.heap.size, HI.out.bel.size, World.alloc_heap_new U _, rfl⟩
      case body =>
        rintro l pre ⟨v, d⟩ a' U hl0 _ hI ⟨p, hp0, hp, rfl⟩ hV hlen
        obtain ⟨j, hjv⟩ : ∃ j : Nat, v = (j : Int) := ⟨v.toNat, by have := hV.1.1; simp only at this; omega⟩
        subst hjv
        have hj : j < N := by have := hV.1.2; simp only at this; omega
        have hji : (j : Int) < (N : Int) := by omega
        have hj0 : (0 : Int) ≤ (j : Int) := by omega
        have hv := hI.box.cell
        have hbl := hI.box.lt
        obtain ⟨_, hfj, hcj⟩ := hI.at_ hj
        have hpl : p < U.heap.size := (Array.getElem?_eq_some_iff.1 hp).1
        have hp1 : U.cell? ⟨p, 0, none⟩ = some (.int .i64 (j : Int)) := by simp [World.cell?, hp]
        have HT := Lib.hid (hI.tell hj)
        clear hI hp hV hlen
        gi_wp2
        obtain ⟨h1, hg⟩ := HT.out
        refine ⟨⟨hg.size, fun i hi hn => hg.block i hi (fun e => hn (.inr (Option.some.inj e))), fun i hi _ => hi, hg.os, hg.tape, hg.output⟩, ?_⟩
        show AllSt w (w1.heap.size + 1) w1.heap.size N _ ((pre ++ [((j : Int), d)]).map Prod.fst)
        rw [List.map_append]
        exact h1
      case ran =>
        rintro D ys U hD ⟨hW, _⟩ hI hK
        have hv := hI.box.cell
        have HI := Lib.hid hI
        have HK := Lib.hid hK
        have HW := Lib.hid hW
        clear hI hK hW
        gi_wp2
        refine ⟨by simp, .inl ⟨_, _, rfl, run_takeDeferred HK.out, ?_⟩⟩
        have hfree := HI.out.lies.not HK.out rfl
        have h2 := HI.out.grown (grownBy_putObj' U D (.deferred none)) (fun r e => by cases e; exact ⟨by have := HS0.out.bel.size; omega, hfree⟩)
        have hz : fitF (N : Int) E' S = 0 := by rw [HFT.out]; exact HF.out
        exact ⟨_, results_tmp2 rfl _ _ _, _, N, N, by rw [hz]; rfl, h2.reads HW.out hz, h2.bel⟩
  · have hz : ¬ (fitF n E S = 0) := hf
    have hbz : (fitF n E S != 0) = true := by simp [hf]
    have HL : RowKit.Hid (metL n E' S = [] ∧ fitF n E' S = fitF n E S) := Lib.hid (by unfold metL; rw [hfit, if_neg hf]; exact ⟨rfl, rfl⟩)
    clear hside hE hS hfit hlE
    generalize fitF n E S = er at *
    gi_wp2_with (refine ⟨trivial, ?_⟩; gi_at_call 20; refine (callsIn_wide.2 CF.out).mono ?_; rintro e w1 ⟨rfl, hb1⟩)
    exact ⟨_, results_tmp2 rfl _ _ _, none, 0, 0, by rw [HL.out.2]; rfl, by rw [HL.out.1]; exact BoolsAt.nil _, hb1⟩
set_option maxRecDepth 100000 in
theorem reachF_any (n : Int) (ea : Option Addr) (en ec : Nat) (E : List (Int × Int)) (sa : Option Addr) (sn sc : Nat) (S : List Int) (w : World) (hE : PairsAt w ea en E) (hS : NumsAt w sa sn S) (hen : en ≤ 1099511627776) (hsn : sn ≤ 17592186044416) :
    Calls Try.prog 8 #[.int .i64 n, .slice ea en ec, .slice sa sn sc] w (ReachedPost n E S w) := by
  have C := Lib.hid (reachedF_any n 0 ea en ec E E sa sn sc S w (.inl ⟨rfl, rfl⟩) hE hS hen hsn)
  clear hE hS
  go_enter Try.func8, Try.ntmps8
  go_wp2_with (go_at_call 19; refine C.out.mono ?_; rintro e w1 ⟨a, k, c, rfl, hb, hw⟩)
  go_ret2
  exact ⟨a, k, c, rfl, hb, hw⟩
set_option maxRecDepth 100000 in
theorem backF_any (n : Int) (ea : Option Addr) (en ec : Nat) (E : List (Int × Int)) (sa : Option Addr) (sn sc : Nat) (S : List Int) (w : World) (hE : PairsAt w ea en E) (hS : NumsAt w sa sn S) (hen : en ≤ 1099511627776) (hsn : sn ≤ 17592186044416) :
    Calls Try.prog 11 #[.int .i64 n, .slice ea en ec, .slice sa sn sc] w (ReachedPost n (turnF E) S w) := by
  have C := Lib.hid (reachedF_any n 1 ea en ec E (turnF E) sa sn sc S w (.inr ⟨rfl, rfl⟩) hE hS hen hsn)
  clear hE hS
  go_enter Try.func11, Try.ntmps11
  go_wp2_with (go_at_call 19; refine C.out.mono ?_; rintro e w1 ⟨a, k, c, rfl, hb, hw⟩)
  go_ret2
  exact ⟨a, k, c, rfl, hb, hw⟩
end Go.Proofs.Ytgncpiamokeohaa
