/- Layer 14: package flow's met: the nodes one by one: the contract of the iterator. -/
import Derived.Test.YtgncpiamokeohaaFlowJb
import Derived.Test.YtgncpiamokeohaaFlowWa
import Derived.Test.YtgncpiamokeohaaScopeIn
import Derived.RangeFuncLeaves
import Derived.RangeFuncCalls
import Derived.WalkKit
import Derived.OwnWalkIn
import Derived.TacticsInMore
import Derived.LoopNIn
import Derived.LoopIn
import Derived.StillTailTactics
namespace Go.Proofs.Ytgncpiamokeohaa
open Go.RowKit
set_option linter.unusedVariables false
set_option linter.unusedSimpArgs false
attribute [local go_sem] Oper.semAt_some
abbrev encP (x : Int × Int) : Array Value := #[.agg #[.int .i64 x.1, .int .i64 x.2]]
/-- What the iterator reads. -/
def SeeX (bm bf bw g R : Nat) (sa : Option Addr) (sn : Nat) (i : Nat) : Prop := i = bm ∨ i = bf ∨ i = bw ∨ i = g ∨ i = R ∨ (0 < sn ∧ ∃ off, sa = some ⟨i, off, none⟩)
/-- Where the iterator stands, ahead of its first step. -/
structure MetAt (w : World) (bm bf bw g R q n : Nat) (sa : Option Addr) (sn sc : Nat) (E : List (Int × Int)) (S M : List Int) : Prop where
  cm : w.cell? ⟨bm, 0, none⟩ = some (.slice (some ⟨q, 0, none⟩) n n)
  cf : w.cell? ⟨bf, 0, none⟩ = some (.slice sa sn sc)
  cw : w.cell? ⟨bw, 0, none⟩ = some (.slice (some ⟨g, 0, none⟩) n n)
  ways : WaysAt w g R n E
  from_ : NumsAt w sa sn S
  rowM : w.ownsRow 0 4 1 (.slice (some ⟨q, 0, none⟩) n n) n (metVF n M)
  sin : ∀ z ∈ S, 0 ≤ z ∧ z < (n : Int)
  ein : ∀ e ∈ E, 0 ≤ e.2 ∧ e.2 < (n : Int)
  apart : ¬ SeeX bm bf bw g R sa sn q
  few : sn ≤ 17592186044416 ∧ E.length ≤ 1099511627776 ∧ n ≤ 16384
theorem MetAt.lt {w : World} {bm bf bw g R q n : Nat} {sa : Option Addr} {sn sc : Nat} {E : List (Int × Int)} {S M : List Int} (h : MetAt w bm bf bw g R q n sa sn sc E S M) : q < w.heap.size ∧ ∀ i, SeeX bm bf bw g R sa sn i → i < w.heap.size := by
  refine ⟨by obtain ⟨cur, hc, _⟩ := bools_blk h.rowM; exact (Array.getElem?_eq_some_iff.1 hc).1, ?_⟩
  rintro i (rfl | rfl | rfl | rfl | rfl | ⟨h0, off, e⟩)
  · exact World.block_lt_of_cell? (a := ⟨i, 0, none⟩) _ h.cm
  · exact World.block_lt_of_cell? (a := ⟨i, 0, none⟩) _ h.cf
  · exact World.block_lt_of_cell? (a := ⟨i, 0, none⟩) _ h.cw
  · exact h.ways.low.1
  · exact h.ways.low.2
  · obtain ⟨g', off', e', hg, _⟩ := h.from_.2 h0
    rw [e] at e'; cases e'; exact hg
theorem MetAt.since {w W : World} {bm bf bw g R q n : Nat} {sa : Option Addr} {sn sc : Nat} {E : List (Int × Int)} {S M : List Int} (h : MetAt w bm bf bw g R q n sa sn sc E S M) (hb : Below w.heap.size w W) : MetAt W bm bf bw g R q n sa sn sc E S M := by
  have hlt := h.lt
  refine ⟨(hb.cell (p := ⟨bm, 0, none⟩) (hlt.2 _ (.inl rfl))).trans h.cm, (hb.cell (p := ⟨bf, 0, none⟩) (hlt.2 _ (.inr (.inl rfl)))).trans h.cf, (hb.cell (p := ⟨bw, 0, none⟩) (hlt.2 _ (.inr (.inr (.inl rfl))))).trans h.cw, h.ways.same (hb.block _ h.ways.low.1) (hb.block _ h.ways.low.2) hb.size, h.from_.since hb, ⟨h.rowM.1, ?_⟩, h.sin, h.ein, h.apart, h.few⟩
  rcases h.rowM.2 with h' | ⟨g, cap, cur, e, hg, hh, rest⟩
  · exact .inl h'
  · cases e; exact .inr ⟨_, _, cur, rfl, hg, (hb.block _ hlt.1).trans hh, rest⟩
/-- The line where it begins. -/
theorem MetAt.start {W : World} {bm bf bw g R q n : Nat} {sa : Option Addr} {sn sc : Nat} {E : List (Int × Int)} {S M : List Int} {O : World → Nat → Prop} (hO : SteadyO O) (h : MetAt W bm bf bw g R q n sa sn sc E S M) (hl : LiesO O W) (hq : ¬ O W q) (hX : ∀ i, SeeX bm bf bw g R sa sn i → ¬ O W i) :
    LineSt W (SeeX bm bf bw g R sa sn) O W.heap.size W.heap.size q n (W.alloc (.cells #[.slice none 0 0] 22)) (.slice none 0 0) (M ++ ([] : List (Int × Int)).map Prod.fst) [] := by
  have hg := World.grownBy_alloc W (.cells #[Value.slice none 0 0] 22) none
  have h1 := hO _ _ _ hg hl (fun r e => by cases e)
  have hlt := h.lt
  refine ⟨hl.step hO hg (fun r e => by cases e), Boxed.new W _ _, World.ownsRow_nil _ _ _ 2, ?_, Nat.le_refl _, hlt.1, fun e => ?_, fun e => hq ((h1 _).1 e), fun i hi => (by cases hi), fun i hi => ⟨hlt.2 i hi, fun e => h.apart (e ▸ hi), fun e => hX i hi ((h1 _).1 e), Below.heap_alloc _ _ _ (hlt.2 i hi), by rw [World.size_alloc]; have := hlt.2 i hi; omega⟩, by rw [World.size_alloc]; omega⟩
  · rw [List.map_nil, List.append_nil]
    exact World.ownsRow.alloc h.rowM _
  · have := hl.lt ((h1 _).1 e); omega
set_option maxRecDepth 100000 in
set_option maxHeartbeats 4000000 in
theorem met_seq {O : World → Nat → Prop} (hO : SteadyO O) (w : World) (bm bf bw g R q n : Nat) (sa : Option Addr) (sn sc : Nat) (E : List (Int × Int)) (S M : List Int) (hM : MetAt w bm bf bw g R q n sa sn sc E S M)
    (hfree : ∀ W, Below w.heap.size w W → LiesO O W → ¬ O W q ∧ ∀ i, SeeX bm bf bw g R sa sn i → ¬ O W i) :
    SeqM Fence.wide 8 1 Try.prog 25 #[.pointer (some ⟨bm, 0, none⟩), .pointer (some ⟨bf, 0, none⟩), .pointer (some ⟨bw, 0, none⟩)] encP (fun r => r = q) O (fun xs => WholeF E S M xs ∧ LnOk n xs) (fun x => (0 ≤ x.1 ∧ x.1 < (n : Int)) ∧ 0 ≤ x.2 ∧ x.2 ≤ (n : Int)) n w := by
  intro l J W0 hW hL hJ hY h0
  have hMW := hM.since hW
  obtain ⟨hfq, hfX⟩ := hfree W0 hW hL
  have hst := hMW.start hO hL hfq hfX
  have HMW := Lib.hid hMW
  have HLT := Lib.hid hMW.lt
  have HJ := Lib.hid hJ
  have HO := Lib.hid hO
  have HYY := Lib.hid hY
  have HST := Lib.hid hst
  have cf : W0.cell? ⟨bf, 0, none⟩ = some (.slice sa sn sc) := hMW.cf
  have hbf : bf < W0.heap.size := hMW.lt.2 _ (.inr (.inl rfl))
  have HJ1 : RowKit.Hid (J [] (W0.alloc (.cells #[.slice none 0 0] 22))) := Lib.hid (hJ.alloc _ h0)
  have CJ : RowKit.Hid (∀ U vl (k : List (Int × Int)) (na : Option Addr) (nn nc : Nat) (ns : List Int) (d : Int), LineSt W0 (SeeX bm bf bw g R sa sn) O W0.heap.size W0.heap.size q n U vl (M ++ k.map Prod.fst) k → LnOk n k → NumsAt W0 na nn ns → (∀ g' off, na = some ⟨g', off, none⟩ → 0 < nn → SeeX bm bf bw g R sa sn g') → (∀ z ∈ ns, 0 ≤ z ∧ z < (n : Int)) → nn ≤ 17592186044416 →
      Calls Try.prog 26 #[.slice na nn nc, .int .i64 d, .pointer (some ⟨bm, 0, none⟩), .pointer (some ⟨W0.heap.size, 0, none⟩)] U (JoinPost W0 (SeeX bm bf bw g R sa sn) O W0.heap.size W0.heap.size q n M d k ns U)) := Lib.hid fun U vl k na nn nc ns d h1 h2 h3 h4 h5 h6 =>
    join_any W0 _ O hO W0.heap.size W0.heap.size q n M d k ns bm U vl na nn nc h1 (.inl rfl) hMW.cm h3 h4 h5 h6 h2 hMW.few.2.2
  have CJ0 := Lib.hid (CJ.out _ _ _ sa sn sc S 0 hst ⟨List.nodup_nil, fun x hx => by cases hx⟩ hMW.from_ (fun g' off e h0 => .inr (.inr (.inr (.inr (.inr ⟨h0, off, e⟩))))) hMW.sin hMW.few.1)
  refine callsIn_of_wp_marks Try.func25 rfl trivial ?_ rfl
  simp only [Try.ntmps25, List.size_toArray, List.length_cons, List.length_nil, Nat.reduceAdd, Nat.reduceSub, Array.replicate_succ, Array.replicate_zero, List.push_toArray, List.append_toArray, List.nil_append, List.cons_append]
  clear hM hfree hL hJ hY h0 hMW hfq hfX hst hO hW
  gi_wp2_with (refine ⟨trivial, ?_⟩; gi_at_call 26; refine (callsIn_wide.2 CJ0.out).mono ?_; rintro e w' ⟨⟨v, rfl⟩, vl, h1, h2⟩)
  have HS1 : RowKit.Hid (LineSt W0 (SeeX bm bf bw g R sa sn) O W0.heap.size W0.heap.size q n w' vl (M ++ (joinF M 0 [] S).map Prod.fst) (joinF M 0 [] S) ∧ LineF E S M 0 (joinF M 0 [] S) ∧ LnOk n (joinF M 0 [] S) ∧ J ((joinF M 0 [] S).take 0) w') := Lib.hid ⟨h1, LineF.begin E S M, LnOk.join ⟨List.nodup_nil, fun x hx => by cases hx⟩ HMW.out.sin, by rw [List.take_zero]; exact h2 _ J [] HJ.out HJ1.out⟩
  have hn16 : n ≤ 16384 := HMW.out.few.2.2
  clear h1 h2 cf hbf CJ0 HJ1 HST
  gi_loopw [7] (fun v7 wr => ∃ (at_ : Nat) (k : List (Int × Int)) (vl : Value), at_ ≤ n ∧ v7 = .int .i64 (at_ : Int) ∧ RowKit.Hid (LineSt W0 (SeeX bm bf bw g R sa sn) O W0.heap.size W0.heap.size q n wr vl (M ++ k.map Prod.fst) k ∧ LineF E S M at_ k ∧ LnOk n k ∧ at_ ≤ k.length ∧ J (k.take at_) wr)) (fun v7 _ => n + 1 - (intOf v7).toNat)
  case atStart => exact ⟨0, _, vl, Nat.zero_le _, rfl, Lib.hid ⟨HS1.out.1, HS1.out.2.1, HS1.out.2.2.1, Nat.zero_le _, HS1.out.2.2.2⟩⟩
  case round =>
    obtain ⟨at_, k, v1, hat, rfl, HI⟩ := hrel
    obtain ⟨i1, i2, i3, i4, i5⟩ := HI.out
    have HSt := Lib.hid i1
    have HLf := Lib.hid i2
    have HOk := Lib.hid i3
    have HJt := Lib.hid i5
    have hkl := i3.len
    have cl := i1.boxL.cell
    have hll := i1.boxL.lt
    obtain ⟨va, vc, rfl⟩ := i1.rowL.slice
    clear HI i2 i3 i5
    by_cases hlt : at_ < k.length
    · have hltz : (at_ : Int) < (k.length : Int) := by omega
      have hi0 : (0 : Int) ≤ (at_ : Int) := by omega
      obtain ⟨gv, off, rfl, hgv, hcs⟩ := i1.rowL.read.2 (by omega)
      obtain ⟨c0, c1⟩ := hcs at_ hlt
      have HX := Lib.hid (HOk.out.inr _ (List.getElem_mem hlt))
      have HD := Lib.hid (HLf.out.small at_ hlt)
      have HD0 : RowKit.Hid (0 ≤ k[at_].2) := Lib.hid (by obtain ⟨m, hm, _⟩ := HLf.out.st _ (List.getElem_mem hlt); omega)
      have HTK : RowKit.Hid (k.take (at_ + 1) = k.take at_ ++ [k[at_]]) := Lib.hid (List.take_succ_eq_append_getElem hlt)
      have HLS := Lib.hid (HLf.out.step hlt)
      obtain ⟨fn, tmps, assign, body, hy, hR⟩ := HYY.out (k.take at_) k[at_] wr HJt.out ⟨HX.out, HD0.out, by have := HD.out; omega⟩ (by rw [List.length_take]; omega)
      obtain ⟨⟨u, dd⟩, hx⟩ : ∃ x, x = k[at_] := ⟨_, rfl⟩
      rw [← hx] at c0 c1 HX HD HD0 HTK HLS hy hR
      have HKX := Lib.hid hx
      simp only at c0 c1 HX HD HD0 HLS
      obtain ⟨un, hun⟩ : ∃ un : Nat, u = (un : Int) := ⟨u.toNat, by have := HX.out.1; omega⟩
      subst hun
      clear hcs i1 hx i4
      gi_wp2
      refine hR.mono ?_
      rintro e U3 ⟨rfl, hJ3, hk3, hl3⟩
      have h3 := HSt.out.since hk3 hl3
      have HS3 := Lib.hid h3
      have HJ3 := Lib.hid hJ3
      have cl3 := h3.boxL.cell
      have hll3 := h3.boxL.lt
      obtain ⟨gv', off', e', hgv3, hcs3⟩ := h3.rowL.read.2 (by omega)
      obtain ⟨d0, d1⟩ := hcs3 at_ hlt
      rw [← HKX.out] at d0 d1
      simp only at d0 d1
      simp only [Option.some.injEq, Addr.mk.injEq] at e'
      obtain ⟨rfl, rfl, _⟩ := e'
      have cw3 := (h3.cell (j := 0) (show SeeX bm bf bw g R sa sn bw from .inr (.inr (.inl rfl)))).trans HMW.out.cw
      have hun : un < n := by have := HX.out.2; omega
      have hunz : (un : Int) < (n : Int) := by omega
      have hun0 : (0 : Int) ≤ (un : Int) := by omega
      have cg3 := (h3.cell (j := un) (show SeeX bm bf bw g R sa sn g from .inr (.inr (.inr (.inl rfl))))).trans (HMW.out.ways.row un hun)
      have hdd := HD.out
      have hdd0 := HD0.out
      have hw1 : wrap64 (dd + 1) = dd + 1 := by unfold wrap64; omega
      have hw2 : IntKind.i64.wrap (dd + 1) = dd + 1 := wrap_small _ (by omega) (by omega)
      have CJ1 := Lib.hid (CJ.out U3.drew _ _ _ _ (cntF E un) _ (dd + 1) (HS3.out.drew HO.out) HOk.out (HMW.out.ways.out un hun) (fun g' off e h0 => by cases e; exact .inr (.inr (.inr (.inr (.inl rfl))))) (fun z hz => HMW.out.ein (_, z) (mem_outF.1 hz)) (by have := cntF_le E un; have := HMW.out.few.2.1; omega))
      clear hy hR h3 hJ3 hk3 hl3 hcs3 cl c0 c1 hgv
      gi_wp2
      refine wpIn_wide.2 ?_
      go_still_tail 15, (by kernel_rfl)
      change wpList _ _ _ _ _ U3.drew
      go_wp2_with (go_at_call 26; refine CJ1.out.mono ?_; rintro e w5 ⟨⟨v5, rfl⟩, vl5, h1, h2⟩)
      gi_wp2
      go_roundw
      case rel => exact ⟨at_ + 1, _, vl5, by omega, by go_num, Lib.hid ⟨h1, HLS.out, HOk.out.join (fun z hz => HMW.out.ein (_, z) (mem_outF.1 hz)), by
        obtain ⟨⟨t, e, _⟩, _⟩ := join_facts M (dd + 1) k (outF E un)
        rw [e, List.length_append]; omega, by
        obtain ⟨⟨t, e, _⟩, _⟩ := join_facts M (dd + 1) k (outF E un)
        have h3 := h2 _ J _ HJ.out (HJ.out _ U3 U3.drew none HJ3.out ⟨rfl, rfl, rfl, Nat.le_refl _, fun _ _ _ => rfl⟩ (fun r e => by cases e))
        rw [e, List.take_append_of_le_length (by omega), HTK.out]
        exact h3⟩⟩
      case measure => simp [intOf]; omega
    · have hge : ¬ ((at_ : Int) < (k.length : Int)) := by omega
      obtain rfl : at_ = k.length := by omega
      gi_wp2
      refine ⟨_, results_none rfl _ _ _, ⟨_, rfl⟩, k, ⟨HLf.out.whole, HOk.out⟩, ?_⟩
      have := HJt.out
      rwa [List.take_length] at this
set_option maxRecDepth 100000 in
theorem met_any (g n : Nat) (q : Nat) (sa : Option Addr) (sn sc : Nat) (w : World) :
    Calls Try.prog 21 #[.slice (some ⟨g, 0, none⟩) n n, .slice (some ⟨q, 0, none⟩) n n, .slice sa sn sc] w fun e w' => e = .returned (.func (.func 25) #[] #[.pointer (some ⟨w.heap.size + 1, 0, none⟩), .pointer (some ⟨w.heap.size + 2, 0, none⟩), .pointer (some ⟨w.heap.size, 0, none⟩)]) ∧
      w' = ((w.alloc (.cells #[.slice (some ⟨g, 0, none⟩) n n] 48)).alloc (.cells #[.slice (some ⟨q, 0, none⟩) n n] 25)).alloc (.cells #[.slice sa sn sc] 23) := by
  go_enter Try.func21, Try.ntmps21
  go_wp2_with fail
  go_ret
  exact ⟨rfl, rfl⟩
end Go.Proofs.Ytgncpiamokeohaa
