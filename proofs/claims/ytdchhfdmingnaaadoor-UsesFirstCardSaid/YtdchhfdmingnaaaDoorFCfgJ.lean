/- Layer 7: package cfg's Ahead: which blocks go to each block; the document's Ahead. -/
import Derived.Test.YtdchhfdmingnaaaDoorFT0
import Derived.Test.YtdchhfdmingnaaaDoorFT2

namespace Go.Proofs.YtdchhfdmingnaaaDoor
open Go.RowKit (wrap64 intOf Below)
set_option linter.unusedVariables false
set_option linter.unusedSimpArgs false
theorem make_rows (q : Int) (Q : Nat) (hq : q = Q) (hQ : Q ≤ 1099511627776) (u : World) : (Instr.makeSlice 43 (.int .i64 q) (.int .i64 q)).run Tryd.prog u = .ok (.slice (some ⟨u.heap.size, 0, none⟩) Q Q) (u.alloc (.cells (madeCells #[.slice none 0 0] Q) 34)) := by
  have hinfo : (Tryd.prog.info? 34).map (fun i => (i.zero, i.size, i.bytes)) = some (some (.slice none 0 0), 1, 24) := by kernel_rfl
  obtain ⟨i0, hi, hz0, hz1, hz2⟩ := info_parts hinfo
  subst hq
  have h := run_make (P := Tryd.prog) u 43 34 i0 (.slice none 0 0) Tryd.underlying43 hi hz0 .i64 .i64 (Q : Int) (Q : Int) (by omega) (by omega) (by rw [hz2]; omega) (by omega)
  simpa [hz1, Value.cells] using h
theorem wpList_append_numA {P : Program} (w : World) {ops : Array Oper} {rest : List Oper} {o : Oper} {a : Act} {Q : Exit → Act → World → Prop} (hgd : o.guard = none) (s x : Operand) (t : TypeId)
    (ho : o.op = .call { callee := .builtin .append, args := #[s, x], argTypes := #[t, t] }) (e : TypeId) (ht : P.underlying t = some (.slice e))
    (hinfo : (P.info? e).map (fun i => (i.zero, i.size, i.bytes)) = some (some (.int .i64 0), 1, 8))
    (B : Nat) (v : Value) (Z : List Int) (hs : a.eval s = v) (hown : OwnsI w B e v Z) (hB : B ≤ w.heap.size)
    (C : Array Value) (c g : Nat) (z : Int) (hx : a.eval x = .slice (some ⟨g, 0, none⟩) 1 c) (hg : g = w.heap.size) (hC : C = #[.int .i64 z])
    (hlen : (Z.length + 1) * 8 ≤ 140737488355328)
    (h : ∀ va vn vc w', OwnsI w' B e (.slice va vn vc) (Z ++ [z]) → (w.alloc (.cells C e)).grownBy w' v.ownBlock → (∀ k, (Value.slice va vn vc).ownBlock = some k → v.ownBlock = some k ∨ w.heap.size ≤ k) → wpList P ops Q rest (a.put o.dst (.slice va vn vc)) w') : wpList P ops Q (o :: rest) a (w.alloc (.cells C e)) := by
  obtain ⟨i0, hi, hz0, hz1, hz2⟩ := info_parts hinfo
  subst hC hg
  refine wpList_append_own_at _ hgd s x t ho B e i0 (.int .i64 0) 1 8 ht hi hz0 hz1 hz2 rfl (by decide) v Z.length (Z.map numV) hs (World.ownsRow.alloc hown _) ⟨w.heap.size, 0, none⟩ 1 c [.int .i64 z] hx rfl (fun j u hu => ?_) (by intro u hu; simp at hu; subst hu; rfl) (by unfold maxLen; omega) hlen (by simp; omega) ?_
  · rw [addr_plain, Nat.zero_add, World.cell?_alloc_mark]
    simpa using hu
  · intro v' w' hown' hgrow _ hwh
    have hown2 : OwnsI w' B e v' (Z ++ [z]) := by
      show w'.ownsRow B e 1 v' (Z ++ [z]).length ((Z ++ [z]).map numV)
      rw [List.map_append, List.length_append]
      exact hown'
    obtain ⟨va, vn, vc, rfl, _⟩ := hown2.nums
    exact h va vn vc w' hown2 hgrow (fun k hk => by
      rcases hwh with e' | e'
      · exact .inl (e' ▸ hk)
      · rw [e'] at hk; cases hk; simp)
structure AhSt (w : World) (r : Int) (a : Option Addr) (n c : Nat) (vs : List Value) (Zs : List (List Int)) (W : World) : Prop where
  bel : Below w.heap.size w W
  siz : w.heap.size + 1 < W.heap.size
  c0 : W.cell? ⟨w.heap.size, 0, none⟩ = some (.int .i64 r)
  c1 : W.cell? ⟨w.heap.size, 1, none⟩ = some (.slice a n c)
  row : Rows2 W (w.heap.size + 1) 34 3 (.slice (some ⟨w.heap.size + 1, 0, none⟩) n n) vs Zs
  len : vs.length = n
theorem AhSt.since {w : World} {r : Int} {a : Option Addr} {n c : Nat} {vs : List Value} {Zs : List (List Int)} {W W' : World} (h : AhSt w r a n c vs Zs W) (hb : Below W.heap.size W W') : AhSt w r a n c vs Zs W' :=
  ⟨h.bel.trans (hb.mono h.bel.size), Nat.lt_of_lt_of_le h.siz hb.size, (hb.cell (p := ⟨w.heap.size, 0, none⟩) (show w.heap.size < W.heap.size by have := h.siz; omega)).trans h.c0, (hb.cell (p := ⟨w.heap.size, 1, none⟩) (show w.heap.size < W.heap.size by have := h.siz; omega)).trans h.c1, h.row.since hb, h.len⟩
theorem NumsAt.off {w w' : World} {a : Option Addr} {n : Nat} {Z : List Int} {X : Nat → Prop} (h : NumsAt w a n Z) (hb : Off X w w') (hx : ∀ g off, a = some ⟨g, off, none⟩ → 0 < n → ¬ X g) : NumsAt w' a n Z := by
  refine ⟨h.1, fun h0 => ?_⟩
  obtain ⟨g, off, rfl, hg, hc⟩ := h.2 h0
  exact ⟨g, off, rfl, Nat.lt_of_lt_of_le hg hb.size, fun j hj => (hb.cell (p := ⟨g, off + j, none⟩) hg (hx g off rfl h0)).trans (hc j hj)⟩
def Aside (ya : Option Addr) (yn : Nat) (b : Nat) (vs : List Value) : Prop := ∀ g off, ya = some ⟨g, off, none⟩ → 0 < yn → g ≠ b ∧ ∀ i (h : i < vs.length), vs[i].ownBlock ≠ some g
theorem ah_push {w W w1 : World} {r : Int} {a : Option Addr} {n c b i : Nat} {vs : List Value} {Zs : List (List Int)} {v' : Value} {Z' : List Int} {C : Array Value} (h : AhSt w r a n c vs Zs W) (hb : b < vs.length)
    (hg : (W.alloc (.cells C 3)).grownBy w1 (vs[b]).ownBlock) (ho : OwnsI w1 (w.heap.size + 1) 3 v' Z') (hw : ∀ k, v'.ownBlock = some k → (vs[b]).ownBlock = some k ∨ W.heap.size ≤ k) :
    AhSt w r a n c (vs.set b v') (Zs.set b Z') (w1.setCell ⟨w.heap.size + 1, b, none⟩ v') ∧ w1.frozen? ⟨w.heap.size + 1, b, none⟩ = false ∧ w1.cell? ⟨w.heap.size + 1, b, none⟩ = some vs[b] ∧
    (∀ ya yn L, NumsAt W ya yn L → Aside ya yn (w.heap.size + 1) vs → NumsAt (w1.setCell ⟨w.heap.size + 1, b, none⟩ v') ya yn L ∧ Aside ya yn (w.heap.size + 1) (vs.set b v')) := by
  obtain ⟨h1, h2, h3, h4, h5⟩ := h.row.push (by decide) h.len.symm hb ((Below.refl _ W).alloc (Nat.le_refl _) _) hg ho hw
  have hsz := h.siz
  have hgl : w.heap.size + 1 < W.heap.size := hsz
  have hnb : ∀ k, (vs[b]).ownBlock = some k → w.heap.size + 1 ≤ k ∧ k < W.heap.size := fun k hk => by
    obtain ⟨cur, hc, hB⟩ := ownsI_blk (h.row.own b hb (by rw [← h.row.len]; exact hb)) hk
    exact ⟨hB, (Array.getElem?_eq_some_iff.1 hc).1⟩
  have hlow : ∀ o : Nat, (w1.setCell ⟨w.heap.size + 1, b, none⟩ v').cell? ⟨w.heap.size, o, none⟩ = W.cell? ⟨w.heap.size, o, none⟩ := fun o => h3.cell (p := ⟨w.heap.size, o, none⟩) (show w.heap.size < W.heap.size by omega) (by
    rintro (hk | hk)
    · have := (hnb _ hk).1; simp at this; omega
    · simp at hk)
  refine ⟨⟨h.bel.trans (h2.mono (by omega)), Nat.lt_of_lt_of_le hsz h3.size, (hlow 0).trans h.c0, (hlow 1).trans h.c1, h1, by simp [h.len]⟩, ?_, ?_, fun ya yn L hy hA => ⟨hy.off h3 (fun g off e h0 => ?_), fun g off e h0 => ?_⟩⟩
  · exact (h4.frozen (p := ⟨w.heap.size + 1, b, none⟩) hgl h5).trans (h.row.free h.len.symm)
  · exact (h4.cell (p := ⟨w.heap.size + 1, b, none⟩) hgl h5).trans (h.row.cell hb)
  · rintro (hk | hk)
    · exact (hA g off e h0).2 b hb hk
    · exact (hA g off e h0).1 hk
  · refine ⟨(hA g off e h0).1, fun i hi => ?_⟩
    rw [List.length_set] at hi
    rw [List.getElem_set]
    split
    · intro hk
      rcases hw g hk with h' | h'
      · exact (hA g off e h0).2 b hb h'
      · obtain ⟨g', off', e', hg', _⟩ := hy.2 h0
        rw [e] at e'; cases e'
        omega
    · exact (hA g off e h0).2 i hi
set_option maxRecDepth 100000 in
set_option maxHeartbeats 4000000 in
theorem ahead_any (r : Int) (a : Option Addr) (n c : Nat) (f : FuncD) (w : World) (hrow : RowV BlockQ 8 w (.slice a n c) f.blocks) (hn : n ≤ 1099511627776) :
    Calls Tryd.prog 44 #[.agg #[.int .i64 r, .slice a n c]] w fun e w' => ∃ vs, e = .returned (.slice (some ⟨w.heap.size + 1, 0, none⟩) n n) ∧ AhSt w r a n c vs (ahRow f n 0) w' := by
  have hlen : n = f.blocks.length := by obtain ⟨_, _, _, e, h, _⟩ := hrow; cases e; exact h.symm
  have HROW := Lib.hid hrow
  have HLEN := Lib.hid hlen
  have hmk := make_rows n n rfl hn
  clear hrow hlen
  go_enter Tryd.func44, Tryd.ntmps44
  go_wp2_with fail
  obtain ⟨W0, hW0⟩ : ∃ W0, ((w.alloc (.cells #[.int .i64 r, .slice a n c] 30)).alloc (.cells (madeCells #[.slice none 0 0] n) 34)) = W0 := ⟨_, rfl⟩
  have HS0 : RowKit.Hid (AhSt w r a n c (List.replicate n (.slice none 0 0)) (ahRow f 0 0) W0) := Lib.hid (by
    have hm := Rows2.made (w := w.alloc (.cells #[.int .i64 r, .slice a n c] 30)) (B := w.heap.size + 1) (n := n) (s := 34) (e := 3) (by simp) (by unfold maxLen; omega)
    rw [World.size_alloc, hW0] at hm
    have hc : ∀ j, W0.cell? ⟨w.heap.size, j, none⟩ = (#[.int .i64 r, .slice a n c] : Array Value)[j]? := fun j => by
      rw [← hW0, World.cell?_of_block (a := ⟨w.heap.size, j, none⟩) ((World.grownBy_alloc (w.alloc (.cells #[.int .i64 r, .slice a n c] 30)) _ none).block w.heap.size (by simp) (fun e => by cases e))]
      exact World.cell?_alloc_mark _ _ _ _ _
    refine ⟨?_, by rw [← hW0]; simp, hc 0, hc 1, by rw [ahRow_zero, ← HLEN.out]; exact hm, by simp⟩
    rw [← hW0]
    exact ((Below.refl w.heap.size w).alloc (Nat.le_refl _) _).alloc (by simp) _)
  rw [hW0]
  clear hW0 hmk
  go_loopw [15] (fun v15 wr => ∃ i : Nat, i ≤ n ∧ v15 = .int .i64 (i : Int) ∧ ∃ vs, RowKit.Hid (AhSt w r a n c vs (ahRow f i 0) wr)) (fun v15 _ => n - (intOf v15).toNat)
  case atStart => exact ⟨0, Nat.zero_le _, rfl, _, HS0⟩
  case round =>
    obtain ⟨i, hi, rfl, vs, HI⟩ := hrel
    clear HS0
    obtain ⟨wo, hwo⟩ : ∃ u, u = wr := ⟨_, rfl⟩
    rw [← hwo] at HI ⊢
    clear hwo
    by_cases hlt : i < n
    · have HLT := Lib.hid hlt
      obtain ⟨g, off, pa, pn, pc, oa, on, oc, la, ln, lc, ma, mn, mc, rfl, hg, hblk⟩ := block_at (HROW.out.since BlockQ.lasts HI.out.bel) hlt
      have hb0 := hblk wo (Below.refl _ _)
      obtain ⟨b0, b1, b2, b3, b4, b5, b6, b7⟩ := hb0
      have HG := Lib.hid hg
      have HNXF : RowKit.Hid (nextL (theEnd f i) = nxF f i) := Lib.hid rfl
      have HNL : RowKit.Hid ((nxF f i).length ≤ 2) := Lib.hid (next_len _)
      have CN : RowKit.Hid (∀ u, Calls Tryd.prog 62 #[.agg #[.slice pa pn pc, .slice oa on oc, .int .i64 (theEnd f i).K, .int .i64 (theEnd f i).A, .int .i64 (theEnd f i).To, .int .i64 (theEnd f i).Else, .slice la ln lc, .slice ma mn mc]] u fun e' w' => ∃ va vn vc, e' = .returned (.slice va vn vc) ∧ OwnsI w' u.heap.size 3 (.slice va vn vc) (nxF f i) ∧ Below u.heap.size u w') := Lib.hid fun u => by rw [← HNXF.out]; exact next_any pa pn pc oa on oc (theEnd f i).A la ln lc ma mn mc (theEnd f i) u
      clear hblk hg
      generalize (theEnd f i).K = EK at *
      generalize (theEnd f i).A = EA at *
      generalize (theEnd f i).To = ET at *
      generalize (theEnd f i).Else = EE at *
      go_wp2_with (go_at_call 62; refine (CN.out _).mono ?_; rintro e w1 ⟨ya, yn, yc, rfl, ho, hb⟩; have HB1 := Lib.hid hb; have HY1 := Lib.hid ho; clear ho hb)
      have HS1 : RowKit.Hid (AhSt w r (some ⟨g, off, none⟩) n c vs (ahRow f i 0) w1) := Lib.hid (HI.out.since (((Below.refl _ wo).alloc (Nat.le_refl _) _).trans (HB1.out.mono (by simp))))
      have HYN : RowKit.Hid (yn = (nxF f i).length) := Lib.hid HY1.out.read.1.symm
      have hyn2 : yn ≤ 2 := by have := HYN.out; have := HNL.out; omega
      have HAS : RowKit.Hid (NumsAt w1 ya yn (nxF f i) ∧ Aside ya yn (w.heap.size + 1) vs) := Lib.hid ⟨HY1.out.read, fun g1 off1 e h0 => by
        have hbk : (Value.slice ya yn yc).ownBlock = some g1 := by rw [e]; rfl
        obtain ⟨cur, hc, hB⟩ := ownsI_blk HY1.out hbk
        simp at hB
        have h2 := HI.out.siz
        refine ⟨by omega, fun k hk e2 => ?_⟩
        obtain ⟨cur2, hc2, _⟩ := ownsI_blk (HI.out.row.own k hk (by rw [← HI.out.row.len]; exact hk)) e2
        have := (Array.getElem?_eq_some_iff.1 hc2).1
        omega⟩
      clear b0 b1 b2 b3 b4 b5 b6 b7 CN
      go_loopw [23] (fun v23 wr => ∃ j : Nat, j ≤ yn ∧ v23 = .int .i64 (j : Int) ∧ ∃ us, RowKit.Hid (AhSt w r (some ⟨g, off, none⟩) n c us (ahRow f i j) wr ∧ NumsAt wr ya yn (nxF f i) ∧ Aside ya yn (w.heap.size + 1) us)) (fun v23 _ => yn - (intOf v23).toNat)
      case atStart => exact ⟨0, Nat.zero_le _, rfl, vs, Lib.hid ⟨HS1.out, HAS.out⟩⟩
      case round =>
        obtain ⟨j, hj, rfl, us, HJ⟩ := hrel
        clear HS1 HAS HY1 HB1
        obtain ⟨wq, hwq⟩ : ∃ u, u = wr := ⟨_, rfl⟩
        rw [← hwq] at HJ ⊢
        clear hwq
        by_cases hjl : j < yn
        · have HJL : RowKit.Hid (j < (nxF f i).length) := Lib.hid (by rw [← HYN.out]; exact hjl)
          obtain ⟨g2, off2, rfl, hg2, hcs⟩ := HJ.out.2.1.2 (by omega)
          obtain ⟨t, ht⟩ : ∃ t, t = (nxF f i)[j]'HJL.out := ⟨_, rfl⟩
          have hct : wq.cell? ⟨g2, off2 + j, none⟩ = some (.int .i64 t) := by rw [ht]; exact hcs j HJL.out
          have HT := Lib.hid ht
          have hc0 := HJ.out.1.c0
          have hc1 := HJ.out.1.c1
          have HWL := Lib.hid hg2
          have CT := Lib.hid (there_any r (some ⟨g, off, none⟩) n c t wq (by omega))
          clear hcs ht hg2
          by_cases hth : There n t
          · have HTB : RowKit.Hid (thereB n t = true) := Lib.hid (by unfold thereB; exact decide_eq_true hth)
            obtain ⟨b, rfl⟩ : ∃ b : Nat, t = b := ⟨t.toNat, by have := hth.1; omega⟩
            have hbn : b < n := by have := hth.2; omega
            have hbi : (b : Int) < (n : Int) := by omega
            have hb0 : (0 : Int) ≤ (b : Int) := by omega
            have HBL : RowKit.Hid (b < us.length) := Lib.hid (by rw [HJ.out.1.len]; exact hbn)
            have HZL : RowKit.Hid (b < (ahRow f i j).length) := Lib.hid (by rw [← HJ.out.1.row.len]; exact HBL.out)
            have HPUT := Lib.hid (ahRow_put HJL.out HT.out.symm HZL.out)
            have hown := HJ.out.1.row.own b HBL.out HZL.out
            obtain ⟨xa, xn, xc, hxv, _⟩ := hown.nums
            have HOW : RowKit.Hid (OwnsI (wq.alloc (.cells #[.int .i64 r, .slice (some ⟨g, off, none⟩) n c] 30)) (w.heap.size + 1) 3 (.slice xa xn xc) (ahL f i b)) := Lib.hid (by rw [← HPUT.out.2, ← hxv]; exact World.ownsRow.alloc hown _)
            have HXV := Lib.hid hxv
            have hcb : (wq.alloc (.cells #[.int .i64 r, .slice (some ⟨g, off, none⟩) n c] 30)).cell? ⟨w.heap.size + 1, b, none⟩ = some (.slice xa xn xc) := by
              rw [← hxv]; exact (HJ.out.1.row.since ((Below.refl _ wq).alloc (Nat.le_refl _) _)).cell HBL.out
            have HLZ : RowKit.Hid (((ahL f i b).length + 1) * 8 ≤ 140737488355328) := Lib.hid (by have := ahL_len f i b; omega)
            have HS2 := Lib.hid (HJ.out.1.since ((Below.refl _ wq).alloc (Nat.le_refl _) (.cells #[.int .i64 r, .slice (some ⟨g, off, none⟩) n c] 30)))
            have HA2 : RowKit.Hid (NumsAt (wq.alloc (.cells #[.int .i64 r, .slice (some ⟨g, off, none⟩) n c] 30)) (some ⟨g2, off2, none⟩) yn (nxF f i)) := Lib.hid (HJ.out.2.1.since ((Below.refl _ wq).alloc (Nat.le_refl _) _))
            rw [HTB.out] at CT
            clear hown hxv hth
            go_wp2_with (first
              | (go_at_call 63; refine CT.out.mono ?_; rintro e w2 ⟨rfl, rfl⟩)
              | ((with_reducible refine wpList_append_numA _ rfl _ _ 34 rfl 3 Tryd.underlying34 info_int (w.heap.size + 1) (.slice xa xn xc) (ahL f i b) ?_ ?_ ?_ _ 1 (wq.heap.size + 1) (i : Int) ?_ ?_ ?_ ?_ ?_); (next => rfl); (next => exact HOW.out); (next => have := HS2.out.siz; simp at this ⊢; omega); (next => rfl); (next => simp); (next => rfl); (next => exact HLZ.out); intro va vn vc w3 ho3 hg3 hw3; have HP := Lib.hid (ah_push (i := i) HS2.out HBL.out (by rw [HXV.out]; exact hg3) ho3 (by rw [HXV.out]; exact hw3)); have hf3 := HP.out.2.1; have hc3 : w3.cell? ⟨w.heap.size + 1, b, none⟩ = some (.slice xa xn xc) := HP.out.2.2.1.trans (by rw [HXV.out]); clear ho3 hg3 hw3))
            go_roundw
            case rel =>
              refine ⟨j + 1, by omega, by go_num, _, Lib.hid ⟨?_, (HP.out.2.2.2 _ _ _ HA2.out HJ.out.2.2).1, (HP.out.2.2.2 _ _ _ HA2.out HJ.out.2.2).2⟩⟩
              have h1 := HP.out.1
              rw [← HPUT.out.2, HPUT.out.1] at h1
              exact h1
            case measure => simp [intOf]; omega
          · have HTB : RowKit.Hid (thereB n t = false) := Lib.hid (by unfold thereB; exact decide_eq_false hth)
            have HSK : RowKit.Hid (ahRow f i j = ahRow f i (j + 1)) := Lib.hid (ahRow_skip HJL.out (by rw [← HT.out, ← HLEN.out]; exact hth))
            rw [HTB.out] at CT
            clear hth
            go_wp2_with (go_at_call 63; refine CT.out.mono ?_; rintro e w2 ⟨rfl, rfl⟩)
            go_roundw
            case rel => exact ⟨j + 1, by omega, by go_num, us, Lib.hid ⟨by rw [← HSK.out]; exact HJ.out.1.since ((Below.refl _ wq).alloc (Nat.le_refl _) _), HJ.out.2.1.since ((Below.refl _ wq).alloc (Nat.le_refl _) _), HJ.out.2.2⟩⟩
            case measure => simp [intOf]; omega
        · obtain rfl : j = yn := by omega
          have HTU : RowKit.Hid (ahRow f i j = ahRow f (i + 1) 0) := Lib.hid (ahRow_turn f i HYN.out)
          have HLT' := HLT.out
          have hw : wrap64 ((i : Int) + 1) = (i : Int) + 1 := by unfold wrap64; omega
          go_wp2_with fail
          go_roundw
          case rel => exact ⟨i + 1, by omega, by go_num, us, Lib.hid (by rw [← HTU.out]; exact HJ.out.1)⟩
          case measure => simp [intOf, hw]; omega
    · obtain rfl : i = n := by omega
      go_wp2_with fail
      go_ret
      exact ⟨vs, rfl, HI.out⟩
end Go.Proofs.YtdchhfdmingnaaaDoor
