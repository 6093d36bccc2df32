/- Layer 8: the document's Loops (mk_rlp.py). -/
import Derived.Test.YtnnccahpgailiaaQDomEg
import Derived.Test.YtnnccahpgailiaaQDomP
import Derived.Test.YtnnccahpgailiaaQDomY

namespace Go.Proofs.Ytnnccahpgailiaa
open Go.RowKit (wrap64 intOf Below)
set_option linter.unusedVariables false
set_option linter.unusedSimpArgs false

/-- Where it stands between two heads. -/
structure LoSt (w : World) (r : Int) (a : Option Addr) (n c : Nat) (f : FuncD) (va : Option Addr) (vn : Nat) (AL : List Int) (h : Nat) (oa : Option Addr) (on oc : Nat) (l : List TgV) (W : World) : Prop where
  law : LawSt w r a n c va vn AL W
  own : OwnsLp W (w.heap.size + 1) (.slice oa on oc) l
  cop : Cops W (w.heap.size + 1) l (loopsL f n h)
  sz : w.heap.size + 1 ≤ W.heap.size
  ap : ∀ g off, va = some ⟨g, off, none⟩ → 0 < vn → (Value.slice oa on oc).ownBlock ≠ some g
section
variable {w W W' : World} {r : Int} {a : Option Addr} {n c : Nat} {f : FuncD} {va : Option Addr} {vn : Nat} {AL : List Int} {h : Nat} {oa : Option Addr} {on oc : Nat} {l : List TgV}
theorem LoSt.since (s : LoSt w r a n c f va vn AL h oa on oc l W) (hb : Below W.heap.size W W') : LoSt w r a n c f va vn AL h oa on oc l W' :=
  ⟨s.law.since hb, s.own.at_ (fun k hk => hb.block k (s.own.lt hk).2), s.cop.all fun x t hx => ⟨hx.1, hx.2.below hb⟩, Nat.le_trans s.sz hb.size, s.ap⟩
theorem LoSt.skip (s : LoSt w r a n c f va vn AL h oa on oc l W) (hb : backL f n h = []) : LoSt w r a n c f va vn AL (h + 1) oa on oc l W :=
  ⟨s.law, s.own, by rw [loopsL_more, if_pos hb, List.append_nil]; exact s.cop, s.sz, s.ap⟩
/-- One more. -/
theorem LoSt.push {C : Array Value} {ya : Option Addr} {yn yc : Nat} {z : TgV} (s : LoSt w r a n c f va vn AL h oa on oc l W) (hb : backL f n h ≠ []) (hg : (W.alloc (.cells C 36)).grownBy W' (Value.slice oa on oc).ownBlock) (ho : OwnsLp W' (w.heap.size + 1) (.slice ya yn yc) (l ++ [z]))
    (hz : z.1 = (h : Int)) (hzo : OwnsI W (w.heap.size + 1) 3 (.slice z.2.1 z.2.2.1 z.2.2.2) (loopB f n n h)) (hw : ∀ k, (Value.slice ya yn yc).ownBlock = some k → (Value.slice oa on oc).ownBlock = some k ∨ W.heap.size ≤ k) : LoSt w r a n c f va vn AL (h + 1) ya yn yc (l ++ [z]) W' := by
  have hoff : Off (fun k => (Value.slice oa on oc).ownBlock = some k) W W' := ((Off.refl _ W).alloc _).grown hg (fun k hk => .inl hk)
  have hx : ∀ k, (Value.slice oa on oc).ownBlock = some k → w.heap.size + 1 ≤ k := fun k hk => (s.own.lt hk).1
  have hB : Below (w.heap.size + 1) W W' := hoff.below s.sz hx
  have hlt := s.law.siz
  have hne : ∀ k, (Value.slice oa on oc).ownBlock = some k → ∀ C (m : Nat × Nat), W.heap[k]? ≠ some (.cells C 3 m) := fun k hk C m hc => by
    obtain ⟨cur, hc', _⟩ := ownsRow_blk s.own hk
    rw [hc] at hc'; simp at hc'
  have hcop : ∀ x t, CopT W (w.heap.size + 1) x t → CopT W' (w.heap.size + 1) x t := fun x t hx => ⟨hx.1, own_at hx.2 fun k hk => hoff.block k (hx.2.lt k hk).2 (fun e => by
    obtain ⟨cur, hc, _⟩ := ownsI_blk hx.2 hk
    exact hne k e _ _ hc)⟩
  refine ⟨⟨s.law.bel.trans (hB.mono (by omega)), Nat.lt_of_lt_of_le s.law.siz hB.size, (hB.cell (p := ⟨w.heap.size, 0, none⟩) (Nat.lt_succ_self _)).trans s.law.c0, (hB.cell (p := ⟨w.heap.size, 1, none⟩) (Nat.lt_succ_self _)).trans s.law.c1, s.law.lis.off hoff (fun g off e h0 => s.ap g off e h0)⟩, ho, ?_, Nat.le_trans s.sz hB.size, fun g off e h0 hk => ?_⟩
  · rw [loopsL_more, if_neg hb]
    exact Cops.snoc (hcop _ _ ⟨hz, hzo⟩) (s.cop.all hcop)
  · rcases hw g hk with h1 | h1
    · exact s.ap g off e h0 h1
    · obtain ⟨g', off', e', hg', _⟩ := s.law.lis.2 h0
      rw [e] at e'
      cases e'
      omega
end
/-- As wpList_append_lp, and where the array then lies. -/
theorem wpList_append_lpA {P : Program} (w : World) {ops : Array Oper} {rest : List Oper} {o : Oper} {a : Act} {Q : Exit → Act → World → Prop} (hP : P = Try.prog) (hgd : o.guard = none) (s x : Operand)
    (ho : o.op = .call { callee := .builtin .append, args := #[s, x], argTypes := #[33, 33] })
    (B : Nat) (v : Value) (l : List TgV) (hs : a.eval s = v) (hown : OwnsLp w B v l) (hB : B ≤ w.heap.size)
    (C : Array Value) (c g : Nat) (z : TgV) (hx : a.eval x = .slice (some ⟨g, 0, none⟩) 1 c) (hg : g = w.heap.size) (hC : C = #[.int .i64 z.1, .slice z.2.1 z.2.2.1 z.2.2.2])
    (hlen : l.length ≤ 100000)
    (h : ∀ va vn vc w', OwnsLp w' B (.slice va vn vc) (l ++ [z]) → (w.alloc (.cells C 36)).grownBy w' v.ownBlock → (∀ k, (Value.slice va vn vc).ownBlock = some k → v.ownBlock = some k ∨ w.heap.size ≤ k) → wpList P ops Q rest (a.put o.dst (.slice va vn vc)) w') : wpList P ops Q (o :: rest) a (w.alloc (.cells C 36)) := by
  subst hP
  obtain ⟨i0, hi, hz0, hz1, hz2⟩ := info_parts info_lp
  subst hC hg
  refine wpList_append_own_at _ hgd s x 33 ho B 36 i0 (.agg #[.int .i64 0, .slice none 0 0]) 2 32 Try.underlying33 hi hz0 hz1 hz2 rfl (by decide) v l.length (flatT l) hs (World.ownsRow.alloc hown _) ⟨w.heap.size, 0, none⟩ 1 c [.int .i64 z.1, .slice z.2.1 z.2.2.1 z.2.2.2] hx rfl (fun j u hu => ?_) (by intro u hu; simp at hu; rcases hu with rfl | rfl <;> rfl) (by unfold maxLen; omega) (by omega) (by simp; omega) ?_
  · rw [addr_plain, Nat.zero_add, World.cell?_alloc_mark]
    simpa using hu
  · intro v' w' hown' hgrow _ hwh
    have h2 : OwnsLp w' B v' (l ++ [z]) := by
      show w'.ownsRow B _ 2 v' (l ++ [z]).length (flatT (l ++ [z]))
      rw [show flatT (l ++ [z]) = flatT l ++ [.int .i64 z.1, .slice z.2.1 z.2.2.1 z.2.2.2] by simp [flatT], List.length_append]
      exact hown'
    obtain ⟨va, vn, vc, rfl⟩ : ∃ va vn vc, v' = .slice va vn vc := by
      rcases h2.2 with ⟨e, _⟩ | ⟨_, _, _, e, _⟩
      · exact ⟨_, _, _, e⟩
      · exact ⟨_, _, _, e⟩
    exact h va vn vc w' h2 hgrow (fun k hk => by
      rcases hwh with e' | e'
      · exact .inl (e' ▸ hk)
      · rw [e'] at hk; cases hk; simp)
/-- Where it stands while a loop's blocks are gathered: x is block N. -/
structure XSt (w5 : World) (N : Nat) (hv : Int) (xa : Option Addr) (xn xc : Nat) (OL : List Int) (W : World) : Prop where
  blk : W.heap[N]? = some (.cells #[.int .i64 hv, .slice xa xn xc] 36 (0, 0))
  own : OwnsI W (N + 1) 3 (.slice xa xn xc) OL
  bel : Below N w5 W
section
variable {w5 W W' : World} {N : Nat} {hv : Int} {xa : Option Addr} {xn xc : Nat} {OL : List Int}
theorem XSt.lt (h : XSt w5 N hv xa xn xc OL W) : N < W.heap.size := (Array.getElem?_eq_some_iff.1 h.blk).1
theorem XSt.since (h : XSt w5 N hv xa xn xc OL W) (hb : Below W.heap.size W W') : XSt w5 N hv xa xn xc OL W' :=
  ⟨(hb.block N h.lt).trans h.blk, h.own.below hb, h.bel.trans (hb.mono (Nat.le_of_lt h.lt))⟩
theorem XSt.put {ya : Option Addr} {yn yc : Nat} {OL' : List Int} (h : XSt w5 N hv xa xn xc OL W) (ho : OwnsI W' (N + 1) 3 (.slice ya yn yc) OL') (hb : Below (N + 1) W W') : XSt w5 N hv ya yn yc OL' (W'.setCell ⟨N, 1, none⟩ (.slice ya yn yc)) ∧ W'.frozen? ⟨N, 1, none⟩ = false ∧ W'.cell? ⟨N, 1, none⟩ = some (.slice xa xn xc) := by
  have hb2 : W'.heap[N]? = some (.cells #[.int .i64 hv, .slice xa xn xc] 36 (0, 0)) := (hb.block N (Nat.lt_succ_self _)).trans h.blk
  refine ⟨⟨?_, own_at ho (fun k hk => Below.heap_setCell _ _ _ _ (fun e => ?_)), (h.bel.trans (hb.mono (Nat.le_succ _))).setCell (p := ⟨N, 1, none⟩) (Nat.le_refl _) _⟩, by simp [World.frozen?, hb2], by simp [World.cell?, hb2]⟩
  · rw [heap_setCell_same W' N 1 _ _ (.slice ya yn yc) hb2]
    rfl
  · have h1 := (ho.lt k hk).1
    have e' : k = N := e
    omega
end
/-- Whether b is of the loop of h, as the first j of BK show. -/
def inP (e : Bool) (q : Bool) (MM BK : List Int) (j : Nat) : Bool := e || (q && (BK.take j).any fun p => inL MM p)
theorem inP_zero (e q : Bool) (MM BK : List Int) : inP e q MM BK 0 = e := by simp [inP]
theorem inP_more {e q : Bool} {MM BK : List Int} {j : Nat} (h : j < BK.length) : inP e q MM BK (j + 1) = (inP e q MM BK j || (q && inL MM BK[j])) := by
  unfold inP
  rw [List.take_succ_eq_append_getElem h, List.any_append]
  cases e <;> cases q <;> simp
theorem inP_all {f : FuncD} {n h b : Nat} {q : Bool} {MM : List Int} (hq : q = true ↔ MetF f b) (hm : ∀ z, z ∈ MM ↔ MI f b h z) : inP ((b : Int) == (h : Int)) q MM (backL f n h) (backL f n h).length = true ↔ InLoop f n h b := by
  unfold inP InLoop
  rw [List.take_length, Bool.or_eq_true, Bool.and_eq_true, List.any_eq_true, hq]
  simp only [inL, decide_eq_true_eq, hm, beq_iff_eq, Int.natCast_inj]
theorem loopB_len (f : FuncD) (n k h : Nat) : (loopB f n k h).length ≤ k := by
  unfold loopB
  rw [List.length_map]
  exact Nat.le_trans (List.length_filter_le _ _) (by simp)
theorem backL_len (f : FuncD) (n h : Nat) : (backL f n h).length ≤ n := by
  unfold backL
  exact Nat.le_trans (List.length_filter_le _ _) (ahL_len f n h)
set_option maxRecDepth 100000 in
set_option maxHeartbeats 8000000 in
theorem refloops_any (r : Int) (a : Option Addr) (n c : Nat) (f : FuncD) (w : World) (hrow : RowV BlockQ 8 w (.slice a n c) f.blocks) (hn : n ≤ 90000) :
    Calls Try.prog 15 #[.agg #[.int .i64 r, .slice a n c]] w fun e w' => ∃ va vn vc l, e = .returned (.slice va vn vc) ∧ OwnsLp w' w.heap.size (.slice va vn vc) l ∧ Cops w' w.heap.size l (loopsL f n n) ∧ Below w.heap.size w w' := by
  have HROW := Lib.hid hrow
  clear hrow
  have CO : RowKit.Hid (∀ (x y : Int) (u : World), Below w.heap.size w u → Calls Try.prog 16 #[.agg #[.int .i64 r, .slice a n c], .int .i64 x, .int .i64 y] u fun e w' => e = .returned (.bool (overB f x y)) ∧ Below u.heap.size u w') := Lib.hid fun x y u hu => refover_any r a n c f x y u (HROW.out.since BlockQ.lasts hu) (by omega)
  have CM : RowKit.Hid (∀ (fr wo : Int) (u : World), Below w.heap.size w u → Calls Try.prog 35 #[.agg #[.int .i64 r, .slice a n c], .int .i64 fr, .int .i64 wo] u fun e w' => ∃ va vn vc Z, e = .returned (.slice va vn vc) ∧ OwnsI w' u.heap.size 3 (.slice va vn vc) Z ∧ vn ≤ n ∧ (∀ z, z ∈ Z ↔ MI f fr wo z) ∧ Below u.heap.size u w') := Lib.hid fun fr wo u hu => (refmet_any r a n c f fr wo u (HROW.out.since BlockQ.lasts hu) (by omega)).mono (by
    rintro e w' ⟨va, vn, vc, Z, he, ho, hI, hZ, hb⟩
    exact ⟨va, vn, vc, Z, he, ho, by have := ho.read.1; have := hI.len; omega, mi_iff hI hZ, hb⟩)
  obtain ⟨W0, hW0⟩ : ∃ W0, (w.alloc (.cells #[.int .i64 r, .slice a n c] 24)).alloc (.cells #[] 36) = W0 := ⟨_, rfl⟩
  have hb0 : Below (w.heap.size + 1) (w.alloc (.cells #[.int .i64 r, .slice a n c] 24)) W0 := by rw [← hW0]; exact (Below.refl _ _).alloc (by simp) _
  have hz0 : W0.heap.size = w.heap.size + 2 := by rw [← hW0]; simp
  have HLW : RowKit.Hid (LawSt w r a n c none 0 [] W0) := Lib.hid ((law_enter w r a n c).since (by simpa using hb0))
  have HOW : RowKit.Hid (OwnsLp W0 (w.heap.size + 1) (.slice (some ⟨w.heap.size + 1, 0, none⟩) 0 0) []) := Lib.hid (by
    show World.ownsRow _ _ _ 2 _ 0 []
    have h := World.ownsRow_lit (base := w.heap.size + 1) (e := 36) (size := 2) (w.alloc (.cells #[.int .i64 r, .slice a n c] 24)) #[] 0 (by simp) (by decide) rfl
    rw [hW0] at h
    simpa using h)
  have hc0 := HLW.out.c0
  have hc1 := HLW.out.c1
  clear hb0
  go_enter Try.func15, Try.ntmps15
  go_upto_region 2 with (go_at_call 35; (try rw [hW0]); refine (CM.out 0 (-1) W0 HLW.out.bel).mono ?_; rintro e w1 ⟨va, vn, vc, AL, rfl, ho, hvn, hZ, hb⟩; have HB1 := Lib.hid hb; have HO1 := Lib.hid ho; have HZ1 := Lib.hid hZ; clear ho hZ hb)
  clear hW0 hc0 hc1
  have HS0 : RowKit.Hid (LoSt w r a n c f va vn AL 0 (some ⟨w.heap.size + 1, 0, none⟩) 0 0 [] w1) := Lib.hid (by
    have h := HLW.out.since HB1.out
    refine ⟨⟨h.bel, h.siz, h.c0, h.c1, HO1.out.read⟩, HOW.out.at_ (fun k hk => HB1.out.block k (HOW.out.lt hk).2), trivial, by have := HB1.out.size; omega, fun g off e h0 hk => ?_⟩
    have h1 := HO1.out.lt g (by rw [e]; rfl)
    have hk2 : w.heap.size + 1 = g := Option.some.inj hk
    omega)
  clear HOW HLW hz0 HO1 HB1
  have CH : RowKit.Hid (∀ (ya : Option Addr) (yn yc : Nat) (Y : List Int) (x : Int) (u : World), yn ≤ n → NumsAt u ya yn Y → Calls Try.prog 36 #[.slice ya yn yc, .int .i64 x] u fun e w' => e = .returned (.bool (inL Y x)) ∧ u = w') := Lib.hid fun ya yn yc Y x u hl hu => has_any ya yn yc Y x u hu (by omega)
  have HMT : RowKit.Hid (∀ v : Nat, inL AL (v : Int) = true ↔ MetF f v) := Lib.hid fun v => by unfold inL; rw [decide_eq_true_eq, HZ1.out, mi_met]
  clear HZ1
  go_wp2_with fail
  go_loopw [3, 5] (fun v3 v5 wr => ∃ (h : Nat) (oa : Option Addr) (on oc : Nat) (l : List TgV), h ≤ n ∧ v3 = .slice oa on oc ∧ v5 = .int .i64 (h : Int) ∧ RowKit.Hid (LoSt w r a n c f va vn AL h oa on oc l wr)) (fun _ v5 _ => n - (intOf v5).toNat)
  case atStart => exact ⟨0, _, _, _, [], Nat.zero_le _, rfl, rfl, HS0⟩
  case round =>
    obtain ⟨h, oa, on, oc, l, hh, rfl, rfl, HI⟩ := hrel
    clear HS0
    obtain ⟨wo, hwo⟩ : ∃ u, u = wr := ⟨_, rfl⟩
    rw [← hwo] at HI ⊢
    clear hwo
    have hc0 := HI.out.law.c0
    have hc1 := HI.out.law.c1
    have HWH : RowKit.Hid (wrap64 ((h : Int) + 1) = (h : Int) + 1) := Lib.hid (by unfold wrap64; omega)
    by_cases hlt : h < n
    · have HXX : True := trivial
      go_upto_region 6 with (go_at_call 37; refine (refahead_any r a n c f (h : Int) wo (HROW.out.since BlockQ.lasts HI.out.law.bel) (by omega)).mono ?_; rintro e w4 ⟨la, ln, lc, rfl, hl, hb⟩; have HB4 := Lib.hid hb; have HLN := Lib.hid hl.read; clear hl hb)
      have HLL : RowKit.Hid ((ahL f n h).length = ln) := Lib.hid HLN.out.1
      have hln : ln ≤ n := by have := ahL_len f n h; have := HLL.out; omega
      have HBL : RowKit.Hid ((ahL f n h).filter (fun p => overB f h p) = backL f n h) := Lib.hid rfl
      have HB0 : RowKit.Hid (OwnsI (w4.alloc (.cells #[] 3)) w4.heap.size 3 (.slice (some ⟨w4.heap.size, 0, none⟩) 0 0) (((ahL f n h).take 0).filter (fun p => overB f h p)) ∧ Below w4.heap.size w4 (w4.alloc (.cells #[] 3))) := Lib.hid ⟨OwnsI.empty _ _, (Below.refl _ _).alloc (Nat.le_refl _) _⟩
      have HAL := Lib.hid (ahL_len f n h)
      generalize ahL f n h = AH at *
      clear hc0 hc1
      go_wp2_with fail
      go_loopw [7, 8] (fun v7 v8 wr => ∃ (j : Nat) (ba : Option Addr) (bn bc : Nat), j ≤ ln ∧ v7 = .slice ba bn bc ∧ v8 = .int .i64 (j : Int) ∧ RowKit.Hid (OwnsI wr w4.heap.size 3 (.slice ba bn bc) ((AH.take j).filter (fun p => overB f h p)) ∧ Below w4.heap.size w4 wr)) (fun _ v8 _ => ln - (intOf v8).toNat)
      case atStart => exact ⟨0, _, _, _, Nat.zero_le _, rfl, rfl, HB0⟩
      case round =>
        obtain ⟨j, ba, bn, bc, hj, rfl, rfl, HX⟩ := hrel
        clear HB0
        obtain ⟨wx, hwx⟩ : ∃ u, u = wr := ⟨_, rfl⟩
        rw [← hwx] at HX ⊢
        clear hwx
        have HWJ : RowKit.Hid (wrap64 ((j : Int) + 1) = (j : Int) + 1) := Lib.hid (by unfold wrap64; omega)
        have HBX : RowKit.Hid (Below wo.heap.size wo wx) := Lib.hid (HB4.out.trans (HX.out.2.mono HB4.out.size))
        by_cases hjl : j < ln
        · have hjA : j < AH.length := by rw [HLL.out]; exact hjl
          obtain ⟨gl, offl, rfl, hgl0, hcl⟩ := (HLN.out.below HX.out.2 (Nat.le_refl _)).2 (by omega)
          obtain ⟨z, hz⟩ : ∃ z, z = AH[j] := ⟨_, rfl⟩
          have hcz : wx.cell? ⟨gl, offl + j, none⟩ = some (.int .i64 z) := by rw [hz]; exact hcl j hjA
          have HTF := Lib.hid (take_filter (d := fun p => overB f h p) hjA)
          rw [← hz] at HTF
          have HS2 := Lib.hid (HI.out.since HBX.out)
          have HKT : RowKit.Hid (∀ u, Below wx.heap.size wx u → u.cell? ⟨gl, offl + j, none⟩ = some (.int .i64 z) ∧ u.cell? ⟨w.heap.size, 0, none⟩ = some (.int .i64 r) ∧ u.cell? ⟨w.heap.size, 1, none⟩ = some (.slice a n c)) := Lib.hid fun u hb => ⟨(hb.cell (p := ⟨gl, offl + j, none⟩) hgl0).trans hcz, (hb.cell (p := ⟨w.heap.size, 0, none⟩) HS2.out.law.siz).trans HS2.out.law.c0, (hb.cell (p := ⟨w.heap.size, 1, none⟩) HS2.out.law.siz).trans HS2.out.law.c1⟩
          obtain ⟨q5, hq5⟩ : ∃ q, overB f h z = q := ⟨_, rfl⟩
          have CV : RowKit.Hid (∀ u, Below w.heap.size w u → Calls Try.prog 16 #[.agg #[.int .i64 r, .slice a n c], .int .i64 (h : Int), .int .i64 z] u fun e w' => e = .returned (.bool q5) ∧ Below u.heap.size u w') := Lib.hid fun u hu => hq5 ▸ CO.out h z u hu
          have HBW := Lib.hid HS2.out.law.bel
          have HQ5 := Lib.hid hq5
          clear hz hcl hgl0 hq5
          have hj0 : (0 : Int) ≤ (j : Int) := by omega
          have hji : (j : Int) < (ln : Int) := by omega
          have hk0 : Below wx.heap.size wx wx.drew := (Below.refl _ _).drew
          go_upto_region 9 with fail
          clear hcz
          refine wp_region_held_drew (S := (fun u : World => u.cell? ⟨gl, offl + j, none⟩ = some (.int .i64 z) ∧ u.cell? ⟨w.heap.size, 0, none⟩ = some (.int .i64 r) ∧ u.cell? ⟨w.heap.size, 1, none⟩ = some (.slice a n c))) (by kernel_rfl) (HKT.out _ hk0) (fun hHeld => ?_)
          refine wpAnyH_take (i := 0) (oi := ⟨some 34, _, _, _, _, _⟩) (v := ?_) rfl (by kernel_rfl) (by kernel_rfl) (by kernel_rfl) (fun _ _ _ h => h) (Or.inl ⟨by rfl, ?_⟩) (by assumption) ?_
          rotate_left
          · ((intro w hSw; (try dsimp only at hSw); go_simp); try with_reducible rfl)
          (try simp only [Act.put, List.setIfInBounds_toArray, List.set_cons_zero, List.set_cons_succ])
          refine wpAnyH_take (i := 1) (oi := ⟨some 35, _, _, _, _, _⟩) (v := ?_) rfl (by kernel_rfl) (by kernel_rfl) (by kernel_rfl) (fun _ _ _ h => h) (Or.inl ⟨by rfl, ?_⟩) (by assumption) ?_
          rotate_left
          · ((intro w hSw; (try dsimp only at hSw); go_simp); try with_reducible rfl)
          (try simp only [Act.put, List.setIfInBounds_toArray, List.set_cons_zero, List.set_cons_succ])
          refine wpAnyH_take (i := 2) (oi := ⟨some 36, _, _, _, _, _⟩) (v := ?_) rfl (by kernel_rfl) (by kernel_rfl) (by kernel_rfl) (fun _ _ _ h => h) (Or.inl ⟨by rfl, ?_⟩) (by assumption) ?_
          rotate_left
          · ((intro w hSw; (try dsimp only at hSw); go_simp); try with_reducible rfl)
          (try simp only [Act.put, List.setIfInBounds_toArray, List.set_cons_zero, List.set_cons_succ])
          refine wpAnyH_take (i := 3) (oi := ⟨some 37, _, _, _, _, _⟩) (v := ?_) rfl (by kernel_rfl) (by kernel_rfl) (by kernel_rfl) (fun _ _ _ h => h) (Or.inl ⟨by rfl, ?_⟩) (by assumption) ?_
          rotate_left
          · ((intro w hSw; (try dsimp only at hSw); go_simp); try with_reducible rfl)
          (try simp only [Act.put, List.setIfInBounds_toArray, List.set_cons_zero, List.set_cons_succ])
          refine wpAnyH_take (i := 4) (oi := ⟨some 38, _, _, _, _, _⟩) (v := ?_) rfl (by kernel_rfl) (by kernel_rfl) (by kernel_rfl) (fun _ _ _ h => h) (Or.inl ⟨by rfl, ?_⟩) (by assumption) ?_
          rotate_left
          · ((intro w hSw; (try dsimp only at hSw); go_simp); try with_reducible rfl)
          (try simp only [Act.put, List.setIfInBounds_toArray, List.set_cons_zero, List.set_cons_succ])
          refine wpAnyH_take (i := 5) (oi := ⟨some 39, _, _, _, _, _⟩) (v := ?_) rfl (by kernel_rfl) (by kernel_rfl) (by kernel_rfl) (fun _ _ _ h => h) (Or.inl ⟨by rfl, ?_⟩) (by assumption) ?_
          rotate_left
          · ((intro w hSw; (try dsimp only at hSw); go_simp); try with_reducible rfl)
          (try simp only [Act.put, List.setIfInBounds_toArray, List.set_cons_zero, List.set_cons_succ])
          refine wpAnyH_ready (rs := [6]) (by kernel_rfl) (by simp) (AllReadyH.cons rfl (fun K hK => ?_) AllReadyH.nil)
          rw [if_pos (by rfl)]
          go_simp
          go_at_call 16
          (with_reducible refine (CV.out _ (HBW.out.trans (hk0.mono HBW.out.size))).mono ?_)
          rintro e v3 ⟨rfl, hb3⟩
          have hk3 : Below wx.heap.size wx v3 := hk0.trans (hb3.mono hk0.size)
          clear hb3
          refine hK.out _ _ (HKT.out _ hk3) (fun hHeld => ?_)
          clear hK K
          (try simp only [Act.put, List.setIfInBounds_toArray, List.set_cons_zero, List.set_cons_succ])
          refine wpAnyH_done (by kernel_rfl) ?_ _
          have hcz := (HKT.out _ hk3).1
          have HXV : RowKit.Hid (OwnsI v3 w4.heap.size 3 (.slice ba bn bc) ((AH.take j).filter (fun p => overB f h p)) ∧ Below w4.heap.size w4 v3) := Lib.hid ⟨HX.out.1.below hk3, HX.out.2.trans (hk3.mono HX.out.2.size)⟩
          clear hk0 hk3 HKT CV
          cases q5 with
          | false =>
            have HE : RowKit.Hid ((AH.take (j + 1)).filter (fun p => overB f h p) = (AH.take j).filter (fun p => overB f h p)) := Lib.hid (by rw [HTF.out, HQ5.out]; simp)
            go_wp2_with fail
            go_roundw
            case rel => exact ⟨j + 1, ba, bn, bc, hjl, rfl, by go_num, Lib.hid (by rw [HE.out]; exact HXV.out)⟩
            case measure => simp [intOf, HWJ.out]; omega
          | true =>
            have HE : RowKit.Hid ((AH.take (j + 1)).filter (fun p => overB f h p) = (AH.take j).filter (fun p => overB f h p) ++ [z]) := Lib.hid (by rw [HTF.out, HQ5.out]; simp)
            have HLZ : RowKit.Hid ((((AH.take j).filter (fun p => overB f h p)).length + 1) * 8 ≤ 140737488355328) := Lib.hid (by have h1 := List.length_filter_le (fun p => overB f h p) (AH.take j); have h2 := HLL.out; rw [List.length_take] at h1; omega)
            go_wp2_with ((with_reducible refine wpList_append_num _ rfl _ _ 29 rfl 3 Try.underlying29 info_int w4.heap.size (.slice ba bn bc) ((AH.take j).filter (fun p => overB f h p)) ?_ ?_ ?_ _ 1 v3.heap.size z ?_ ?_ ?_ ?_ ?_); (next => rfl); (next => exact HXV.out.1); (next => exact HXV.out.2.size); (next => rfl); (next => rfl); (next => rfl); (next => exact HLZ.out); intro v6 w6 ho6 hb6; obtain ⟨ya, yn, yc, rfl, _⟩ := ho6.nums; have HO6 := Lib.hid ho6; have HB6 := Lib.hid hb6; clear ho6 hb6)
            go_roundw
            case rel => exact ⟨j + 1, ya, yn, yc, hjl, rfl, by go_num, Lib.hid ⟨by rw [HE.out]; exact HO6.out, HXV.out.2.trans HB6.out⟩⟩
            case measure => simp [intOf, HWJ.out]; omega
        · obtain rfl : j = ln := by omega
          have HBK : RowKit.Hid (NumsAt wx ba bn (backL f n h)) := Lib.hid (by have h1 := HX.out.1.read; rw [List.take_of_length_le (by rw [HLL.out]; omega), HBL.out] at h1; exact h1)
          have HS2 := Lib.hid (HI.out.since HBX.out)
          have HBN : RowKit.Hid ((backL f n h).length = bn) := Lib.hid HBK.out.1
          have hbn : bn ≤ n := by have := backL_len f n h; have := HBN.out; omega
          by_cases hb0 : bn = 0
          · subst hb0
            have HS3 := Lib.hid (HS2.out.skip (List.length_eq_zero_iff.1 HBN.out))
            go_wp2_with fail
            go_roundw
            case rel => exact ⟨h + 1, oa, on, oc, l, hlt, rfl, by go_num, HS3⟩
            case measure => simp [intOf, HWH.out]; omega
          · have hbne : ((bn : Int) == 0) = false := by rw [beq_eq_false_iff_ne]; omega
            have hbne2 : (bn == 0) = false := by rw [beq_eq_false_iff_ne]; exact hb0
            have HNE : RowKit.Hid (backL f n h ≠ []) := Lib.hid fun e => by have h1 := HBN.out; rw [e] at h1; exact hb0 h1.symm
            obtain ⟨BK, hBK⟩ : ∃ B, backL f n h = B := ⟨_, rfl⟩
            rw [hBK] at HBK HBN
            have HBKE := Lib.hid hBK
            clear hBK
            go_upto_region 13 with fail
            obtain ⟨w6, hw6⟩ : ∃ u, wx.alloc (.cells #[.int .i64 (h : Int), .slice none 0 0] 36) = u := ⟨_, rfl⟩
            have HX0 : RowKit.Hid (XSt wx wx.heap.size (h : Int) none 0 0 (loopB f n 0 h) w6) := Lib.hid (by rw [← hw6]; exact ⟨World.alloc_heap_new _ _, World.ownsRow_nil _ _ _ 1, (Below.refl _ _).alloc (Nat.le_refl _) _⟩)
            rw [hw6]
            clear hw6 hbne hbne2
            go_wp2_with fail
            go_loopw [10] (fun v10 wr => ∃ (b : Nat) (xa : Option Addr) (xn xc : Nat), b ≤ n ∧ v10 = .int .i64 (b : Int) ∧ RowKit.Hid (XSt wx wx.heap.size (h : Int) xa xn xc (loopB f n b h) wr)) (fun v10 _ => n - (intOf v10).toNat)
            case atStart => exact ⟨0, _, _, _, Nat.zero_le _, rfl, HX0⟩
            case round =>
              obtain ⟨b, xa, xn, xc, hb, rfl, HY⟩ := hrel
              clear HX0
              obtain ⟨wy, hwy⟩ : ∃ u, u = wr := ⟨_, rfl⟩
              rw [← hwy] at HY ⊢
              clear hwy
              have HWB : RowKit.Hid (wrap64 ((b : Int) + 1) = (b : Int) + 1) := Lib.hid (by unfold wrap64; omega)
              have HSY := Lib.hid (HS2.out.since HY.out.bel)
              have hc0 := HSY.out.law.c0
              have hc1 := HSY.out.law.c1
              by_cases hbl : b < n
              · have HXX : True := trivial
                go_upto_region 17 with (go_at_call 35; refine (CM.out (b : Int) (h : Int) wy HSY.out.law.bel).mono ?_; rintro e w7 ⟨ma, mn, mc, MM, rfl, ho, hmn, hM, hb7⟩; have HB7 := Lib.hid hb7; have HMM := Lib.hid ho.read; have HM := Lib.hid hM; clear ho hM hb7)
                have HY7 := Lib.hid (HY.out.since HB7.out)
                have HS7 := Lib.hid (HSY.out.since HB7.out)
                have HBK7 : RowKit.Hid (NumsAt w7 ba bn BK) := Lib.hid (HBK.out.since (HY.out.bel.trans (HB7.out.mono HY.out.bel.size)))
                obtain ⟨q1, hq1⟩ : ∃ q, inL AL (b : Int) = q := ⟨_, rfl⟩
                have HQ1 := Lib.hid hq1
                obtain ⟨eb, heb⟩ : ∃ q, ((b : Int) == (h : Int)) = q := ⟨_, rfl⟩
                rw [heb]
                have HIN : RowKit.Hid (inP eb q1 MM BK BK.length = true ↔ InLoop f n h b) := Lib.hid (by rw [← heb, ← HBKE.out]; exact inP_all (by rw [← hq1]; exact HMT.out b) HM.out)
                have HP0 : RowKit.Hid (Value.bool eb = Value.bool (inP eb q1 MM BK 0)) := Lib.hid (by rw [inP_zero])
                clear hc0 hc1 hq1 heb
                go_wp2_with fail
                go_loopw [11, 13] (fun v11 v13 wr => ∃ j : Nat, j ≤ bn ∧ v11 = .bool (inP eb q1 MM BK j) ∧ v13 = .int .i64 (j : Int) ∧ RowKit.Hid (wr = w7)) (fun _ v13 _ => bn - (intOf v13).toNat)
                case atStart => exact ⟨0, Nat.zero_le _, HP0.out, rfl, Lib.hid rfl⟩
                case round =>
                  obtain ⟨j, hj, rfl, rfl, HW7⟩ := hrel
                  clear HP0
                  have hwr := HW7.out
                  subst hwr
                  clear HW7
                  have HWJ : RowKit.Hid (wrap64 ((j : Int) + 1) = (j : Int) + 1) := Lib.hid (by unfold wrap64; omega)
                  obtain ⟨q4, hq4⟩ : ∃ q, inP eb q1 MM BK j = q := ⟨_, rfl⟩
                  have HQ4 := Lib.hid hq4
                  rw [hq4]
                  clear hq4
                  by_cases hjl : j < bn
                  · have hjB : j < BK.length := by rw [HBN.out]; exact hjl
                    obtain ⟨gl, offl, rfl, hgl0, hcl⟩ := HBK7.out.2 (by omega)
                    obtain ⟨z, hz⟩ : ∃ z, z = BK[j] := ⟨_, rfl⟩
                    have hcz : wr.cell? ⟨gl, offl + j, none⟩ = some (.int .i64 z) := by rw [hz]; exact hcl j hjB
                    have HMO := Lib.hid (inP_more (e := eb) (q := q1) (MM := MM) hjB)
                    rw [← hz, HQ4.out] at HMO
                    have hj0 : (0 : Int) ≤ (j : Int) := by omega
                    have hji : (j : Int) < (bn : Int) := by omega
                    clear hz hcl hgl0
                    cases q4 with
                    | true =>
                      have HV : RowKit.Hid (Value.bool true = Value.bool (inP eb q1 MM BK (j + 1))) := Lib.hid (by rw [HMO.out]; rfl)
                      go_wp2_with fail
                      go_roundw
                      case rel => exact ⟨j + 1, hjl, HV.out, by go_num, Lib.hid trivial⟩
                      case measure => simp [intOf, HWJ.out]; omega
                    | false =>
                      cases q1 with
                      | false =>
                        have HV : RowKit.Hid (Value.bool false = Value.bool (inP eb false MM BK (j + 1))) := Lib.hid (by rw [HMO.out]; rfl)
                        go_wp2_with (go_at_call 36; (with_reducible refine (CH.out va vn vc AL (b : Int) wr hvn HS7.out.law.lis).mono ?_); rintro e u ⟨rfl, rfl⟩; rw [HQ1.out])
                        go_roundw
                        case rel => exact ⟨j + 1, hjl, HV.out, by go_num, Lib.hid trivial⟩
                        case measure => simp [intOf, HWJ.out]; omega
                      | true =>
                        obtain ⟨q2, hq2⟩ : ∃ q, inL MM z = q := ⟨_, rfl⟩
                        have HQ2 := Lib.hid hq2
                        clear hq2
                        have HV : RowKit.Hid (Value.bool q2 = Value.bool (inP eb true MM BK (j + 1))) := Lib.hid (by rw [HMO.out, HQ2.out]; rfl)
                        go_wp2_with (first | (go_at_call 36; (with_reducible refine (CH.out va vn vc AL (b : Int) wr hvn HS7.out.law.lis).mono ?_); rintro e u ⟨rfl, rfl⟩; rw [HQ1.out]) | (go_at_call 36; (with_reducible refine (CH.out ma mn mc MM z wr hmn HMM.out).mono ?_); rintro e u ⟨rfl, rfl⟩; rw [HQ2.out]))
                        go_roundw
                        case rel => exact ⟨j + 1, hjl, HV.out, by go_num, Lib.hid trivial⟩
                        case measure => simp [intOf, HWJ.out]; omega
                  · obtain rfl : j = bn := by omega
                    rw [← HBN.out] at HQ4
                    cases q4 with
                    | false =>
                      have HE : RowKit.Hid (loopB f n (b + 1) h = loopB f n b h) := Lib.hid (by rw [loopB_more, if_neg (fun hi => by have h1 := HIN.out.2 hi; rw [HQ4.out] at h1; cases h1), List.append_nil])
                      go_wp2_with fail
                      go_roundw
                      case rel => exact ⟨b + 1, xa, xn, xc, hbl, by go_num, Lib.hid (by rw [HE.out]; exact HY7.out)⟩
                      case measure => simp [intOf, HWB.out]; omega
                    | true =>
                      have HE : RowKit.Hid (loopB f n (b + 1) h = loopB f n b h ++ [(b : Int)]) := Lib.hid (by rw [loopB_more, if_pos (HIN.out.1 HQ4.out)])
                      have HLZ : RowKit.Hid (((loopB f n b h).length + 1) * 8 ≤ 140737488355328) := Lib.hid (by have := loopB_len f n b h; omega)
                      have k1 : wr.cell? ⟨wx.heap.size, 1, none⟩ = some (.slice xa xn xc) := by simp [World.cell?, HY7.out.blk]
                      go_wp2_with ((with_reducible refine wpList_append_num _ rfl _ _ 29 rfl 3 Try.underlying29 info_int (wx.heap.size + 1) (.slice xa xn xc) (loopB f n b h) ?_ ?_ ?_ _ 1 wr.heap.size (b : Int) ?_ ?_ ?_ ?_ ?_); (next => rfl); (next => exact HY7.out.own); (next => exact HY7.out.lt); (next => rfl); (next => rfl); (next => rfl); (next => exact HLZ.out); intro v8 w8 ho8 hb8; obtain ⟨ya, yn, yc, rfl, _⟩ := ho8.nums; have HP8 := Lib.hid (HY7.out.put ho8 hb8); have hf8 := HP8.out.2.1; have hc8 := HP8.out.2.2; clear ho8 hb8)
                      go_roundw
                      case rel => exact ⟨b + 1, ya, yn, yc, hbl, by go_num, Lib.hid (by rw [HE.out]; exact HP8.out.1)⟩
                      case measure => simp [intOf, HWB.out]; omega
              · obtain rfl : b = n := by omega
                have k0 : wy.cell? ⟨wx.heap.size, 0, none⟩ = some (.int .i64 (h : Int)) := by simp [World.cell?, HY.out.blk]
                have k1 : wy.cell? ⟨wx.heap.size, 1, none⟩ = some (.slice xa xn xc) := by simp [World.cell?, HY.out.blk]
                have HLC : RowKit.Hid (l.length ≤ 100000) := Lib.hid (by have h1 := HSY.out.cop.len; have h2 := loopsL_len f b h; omega)
                have HZO : RowKit.Hid (OwnsI wy (w.heap.size + 1) 3 (.slice xa xn xc) (loopB f b b h)) := Lib.hid (HY.out.own.mono (by have h1 := HS2.out.sz; omega))
                go_wp2_with ((with_reducible refine wpList_append_lpA _ rfl rfl _ _ rfl (w.heap.size + 1) (.slice oa on oc) l ?_ ?_ ?_ _ 1 wy.heap.size ((h : Int), xa, xn, xc) ?_ ?_ ?_ ?_ ?_); (next => rfl); (next => exact HSY.out.own); (next => exact HSY.out.sz); (next => rfl); (next => rfl); (next => rfl); (next => exact HLC.out); intro ya yn yc w9 ho9 hg9 hw9; have HP9 := Lib.hid (HSY.out.push HNE.out hg9 ho9 rfl HZO.out hw9); clear ho9 hg9 hw9)
                go_roundw
                case rel => exact ⟨h + 1, ya, yn, yc, _, hlt, rfl, by go_num, HP9⟩
                case measure => simp [intOf, HWH.out]; omega
    · obtain rfl : h = n := by omega
      go_wp2_with fail
      refine bodyPost_ret (v := .slice oa on oc) (by simp [results, Try.results15, go_sem]) rfl ?_
      exact ⟨oa, on, oc, l, rfl, HI.out.own.mono (by omega), HI.out.cop.all (fun x t hx => ⟨hx.1, hx.2.mono (by omega)⟩), HI.out.law.bel⟩
end Go.Proofs.Ytnnccahpgailiaa
