/- Layer 8: package dom's Loops. -/
import Derived.Test.YtnnccahpgailiaaQDomX
import Derived.Test.YtnnccahpgailiaaQT1

namespace Go.Proofs.Ytnnccahpgailiaa
open Go.RowKit (wrap64 intOf Below)
set_option linter.unusedVariables false
set_option linter.unusedSimpArgs false

def OwnsLp (w : World) (B : Nat) (v : Value) (l : List TgV) : Prop := w.ownsRow B 36 2 v l.length (flatT l)
theorem info_lp : (Try.prog.info? 36).map (fun i => (i.zero, i.size, i.bytes)) = some (some (.agg #[.int .i64 0, .slice none 0 0]), 2, 32) := by kernel_rfl
theorem OwnsLp.lt {w : World} {B : Nat} {v : Value} {l : List TgV} (h : OwnsLp w B v l) {k : Nat} (hk : v.ownBlock = some k) : B ≤ k ∧ k < w.heap.size := by
  obtain ⟨cur, hc, hB⟩ := ownsRow_blk h hk
  exact ⟨hB, (Array.getElem?_eq_some_iff.1 hc).1⟩
theorem OwnsLp.at_ {w w' : World} {B : Nat} {v : Value} {l : List TgV} (h : OwnsLp w B v l) (hk : ∀ i, v.ownBlock = some i → w'.heap[i]? = w.heap[i]?) : OwnsLp w' B v l := by
  refine ⟨h.1, ?_⟩
  rcases h.2 with hn | ⟨g, cap, cur, rfl, hB, hg, rest⟩
  · exact .inl hn
  · exact .inr ⟨g, cap, cur, rfl, hB, (hk g rfl).trans hg, rest⟩
theorem OwnsLp.mono {w : World} {B B' : Nat} {v : Value} {l : List TgV} (h : OwnsLp w B v l) (hB : B' ≤ B) : OwnsLp w B' v l := by
  refine ⟨h.1, ?_⟩
  rcases h.2 with hn | ⟨g, cap, cur, rfl, hg, rest⟩
  · exact .inl hn
  · exact .inr ⟨g, cap, cur, rfl, Nat.le_trans hB hg, rest⟩
theorem wpList_append_lp {P : Program} (w : World) {ops : Array Oper} {rest : List Oper} {o : Oper} {a : Act} {Q : Exit → Act → World → Prop} (hP : P = Try.prog) (hgd : o.guard = none) (s x : Operand)
    (ho : o.op = .call { callee := .builtin .append, args := #[s, x], argTypes := #[33, 33] })
    (B : Nat) (v : Value) (l : List TgV) (hs : a.eval s = v) (hown : OwnsLp w B v l) (hB : B ≤ w.heap.size)
    (C : Array Value) (c g : Nat) (z : TgV) (hx : a.eval x = .slice (some ⟨g, 0, none⟩) 1 c) (hg : g = w.heap.size) (hC : C = #[.int .i64 z.1, .slice z.2.1 z.2.2.1 z.2.2.2])
    (hlen : l.length ≤ 100000)
    (h : ∀ va vn vc w', OwnsLp w' B (.slice va vn vc) (l ++ [z]) → (w.alloc (.cells C 36)).grownBy w' v.ownBlock → wpList P ops Q rest (a.put o.dst (.slice va vn vc)) w') : wpList P ops Q (o :: rest) a (w.alloc (.cells C 36)) := by
  subst hP
  obtain ⟨i0, hi, hz0, hz1, hz2⟩ := info_parts info_lp
  subst hC hg
  refine wpList_append_own _ hgd s x 33 ho B 36 i0 (.agg #[.int .i64 0, .slice none 0 0]) 2 32 Try.underlying33 hi hz0 hz1 hz2 rfl (by decide) v l.length (flatT l) hs (World.ownsRow.alloc hown _) ⟨w.heap.size, 0, none⟩ 1 c [.int .i64 z.1, .slice z.2.1 z.2.2.1 z.2.2.2] hx rfl (fun j u hu => ?_) (by intro u hu; simp at hu; rcases hu with rfl | rfl <;> rfl) (by unfold maxLen; omega) (by omega) (by simp; omega) ?_
  · rw [addr_plain, Nat.zero_add, World.cell?_alloc_mark]
    simpa using hu
  · intro v' w' hown' hgrow _
    have h2 : OwnsLp w' B v' (l ++ [z]) := by
      show w'.ownsRow B _ 2 v' (l ++ [z]).length (flatT (l ++ [z]))
      rw [show flatT (l ++ [z]) = flatT l ++ [.int .i64 z.1, .slice z.2.1 z.2.2.1 z.2.2.2] by simp [flatT], List.length_append]
      exact hown'
    obtain ⟨va, vn, vc, rfl⟩ : ∃ va vn vc, v' = .slice va vn vc := by
      rcases h2.2 with ⟨e, _⟩ | ⟨_, _, _, e, _⟩
      · exact ⟨_, _, _, e⟩
      · exact ⟨_, _, _, e⟩
    exact h va vn vc w' h2 hgrow
/-- Where Loops stands. -/
structure LpSt (w2 : World) (f : FuncD) (N B p n : Nat) (g : Nat → Nat) (Z : Nat → List Int) (ov : Value) (gf : Nat) (vs : List Value) (m i : Nat) (va : Option Addr) (vn vc : Nat) (W : World) : Prop where
  gr : ∃ PS rd, GrownSt W f B p n g (fun k => if k = 4 then PS else Z k) ov gf vs rd m ∧ rd ≤ 1000010000100000 + i
  own : ∃ l, OwnsLp W N (.slice va vn vc) l ∧ Cops W N l (loopsL f n i)
  off : Off (fun k => k = p ∨ k = g 4 ∨ N ≤ k) w2 W
  siz : N ≤ W.heap.size
theorem loopsL_len (f : FuncD) (n k : Nat) : (loopsL f n k).length ≤ k := by
  unfold loopsL
  rw [List.length_map]
  exact Nat.le_trans (List.length_filter_le _ _) (by simp)
section
variable {w2 W W' : World} {f : FuncD} {N B p n : Nat} {g : Nat → Nat} {Z : Nat → List Int} {ov : Value} {gf : Nat} {vs : List Value} {m i : Nat} {va : Option Addr} {vn vc : Nat}
theorem LpSt.since (h : LpSt w2 f N B p n g Z ov gf vs m i va vn vc W) (hb : Below W.heap.size W W') : LpSt w2 f N B p n g Z ov gf vs m i va vn vc W' := by
  obtain ⟨PS, rd, h1, h2⟩ := h.gr
  obtain ⟨l, h3, h4⟩ := h.own
  refine ⟨⟨PS, rd, h1.since hb, h2⟩, ⟨l, h3.at_ (fun k hk => hb.block k (h3.lt hk).2), h4.all fun x t hx => ⟨hx.1, hx.2.below hb⟩⟩, h.off.trans_new (Off.since (X := fun _ => False) hb) (fun k hk => hk.elim), Nat.le_trans h.siz hb.size⟩
theorem LpSt.skip (h : LpSt w2 f N B p n g Z ov gf vs m i va vn vc W) (hb : backL f n i = []) : LpSt w2 f N B p n g Z ov gf vs m (i + 1) va vn vc W := by
  obtain ⟨PS, rd, h1, h2⟩ := h.gr
  obtain ⟨l, h3, h4⟩ := h.own
  exact ⟨⟨PS, rd, h1, by omega⟩, ⟨l, h3, by rw [loopsL_more, if_pos hb, List.append_nil]; exact h4⟩, h.off, h.siz⟩
end
set_option maxRecDepth 100000 in
set_option maxHeartbeats 4000000 in
theorem loops_any (r : Int) (a : Option Addr) (n c : Nat) (f : FuncD) (w : World) (hrow : RowV BlockQ 8 w (.slice a n c) f.blocks) (hn : n ≤ 100000) :
    Calls Try.prog 14 #[.agg #[.int .i64 r, .slice a n c]] w fun e w' => ∃ va vn vc l, e = .returned (.slice va vn vc) ∧ OwnsLp w' w.heap.size (.slice va vn vc) l ∧ Cops w' w.heap.size l (loopsL f n n) ∧ Below w.heap.size w w' := by
  obtain ⟨W1, hW1⟩ : ∃ W, w.alloc (.cells #[.int .i64 r, .slice a n c] 24) = W := ⟨_, rfl⟩
  have hb1 : Below w.heap.size w W1 := by rw [← hW1]; exact (Below.refl _ w).alloc (Nat.le_refl _) _
  have hz1 : W1.heap.size = w.heap.size + 1 := by rw [← hW1]; simp
  have HB1 := Lib.hid hb1
  have CG := Lib.hid (grown_any r a n c f W1 (hrow.since BlockQ.lasts hb1) hn)
  have hc : ∀ j, W1.cell? ⟨w.heap.size, j, none⟩ = (#[.int .i64 r, .slice a n c] : Array Value)[j]? := fun j => by rw [← hW1]; exact World.cell?_alloc_mark _ _ _ _ _
  have hc0 := hc 0
  have hc1 := hc 1
  clear hrow hb1 hc
  go_enter Try.func14, Try.ntmps14
  go_upto_region 1 with fail
  try rw [hW1]
  clear hW1
  go_wp2_with (go_at_call 33; refine CG.out.mono ?_; rintro e w2 ⟨p, g, Z, ov, gf, vs, rd, m, rfl, hG, hrd, hb⟩; have HG := Lib.hid (And.intro hG hrd); have HB2 := Lib.hid hb; have d1 : w2.cell? ⟨w.heap.size, 1, none⟩ = some (.slice a n c) := ((hb.cell (p := ⟨w.heap.size, 1, none⟩) (show w.heap.size < W1.heap.size by omega)).trans hc1); clear hG hrd hb)
  have HN : RowKit.Hid (W1.heap.size ≤ w2.heap.size) := Lib.hid HB2.out.size
  have HTL := Lib.hid HG.out.1.at_.tlt
  have HS0 : RowKit.Hid (LpSt w2 f w2.heap.size W1.heap.size p n g Z ov gf vs m 0 none 0 0 w2) := Lib.hid ⟨⟨Z 4, rd, by
    have e : (fun k => if k = 4 then Z 4 else Z k) = Z := funext fun k => by split; rename_i h; rw [h]; rfl
    rw [e]; exact HG.out.1, by have := HG.out.2; omega⟩, ⟨[], World.ownsRow_nil _ _ _ 2, trivial⟩, Off.refl _ _, Nat.le_refl _⟩
  clear hc0 hc1 d1 CG
  go_loopw [4, 12] (fun v4 v12 wr => ∃ (i : Nat) (va : Option Addr) (vn vc : Nat), i ≤ n ∧ v4 = .slice va vn vc ∧ v12 = .int .i64 (i : Int) ∧ RowKit.Hid (LpSt w2 f w2.heap.size W1.heap.size p n g Z ov gf vs m i va vn vc wr)) (fun _ v12 _ => n - (intOf v12).toNat)
  case atStart => exact ⟨0, none, 0, 0, Nat.zero_le _, rfl, rfl, HS0⟩
  case round =>
    obtain ⟨i, va, vn, vc, hi, rfl, rfl, HI⟩ := hrel
    clear HS0
    obtain ⟨wo, hwo⟩ : ∃ u, u = wr := ⟨_, rfl⟩
    rw [← hwo] at HI ⊢
    clear hwo
    by_cases hlt : i < n
    · obtain ⟨PS, rd', hg1, hg2⟩ := HI.out.gr
      obtain ⟨l, hl1, hl2⟩ := HI.out.own
      have HG1 := Lib.hid (And.intro hg1 hg2)
      have HL1 := Lib.hid (And.intro hl1 hl2)
      have CB := Lib.hid (back_any hg1 i hlt hn)
      clear hg1 hg2 hl1 hl2
      by_cases hbk : backL f n i = []
      · have HSK := Lib.hid (HI.out.skip hbk)
        have HBK := Lib.hid hbk
        clear hbk
        go_wp2_with (go_at_call 39; refine CB.out.mono ?_; rintro e u ⟨xa, xn, xc, rfl, ho, hb⟩; have hxz : xn = 0 := (by have h := ho.read.1; rw [HBK.out] at h; simpa using h.symm); subst hxz; have HS1 := Lib.hid (HSK.out.since hb); clear ho hb)
        go_roundw
        case rel => exact ⟨i + 1, _, _, _, hlt, rfl, by go_num, HS1⟩
        case measure => simp [intOf]; omega
      · have hxl : 0 < (backL f n i).length := List.length_pos_iff.2 hbk
        obtain ⟨z0, hz0⟩ := List.exists_mem_of_ne_nil _ hbk
        have HMI : RowKit.Hid (MetF f i) := Lib.hid (by obtain ⟨_, _, _, h⟩ := back_met HG1.out.1.len hz0; exact h)
        have HBK := Lib.hid hbk
        have HXL := Lib.hid hxl
        clear hbk hxl hz0
        go_wp2_with (first
          | (go_at_call 39; refine CB.out.mono ?_; rintro e u ⟨xa, xn, xc, rfl, ho, hb⟩; have hxp : (0 : Int) < (xn : Int) := (by have h := ho.read.1; have := HXL.out; omega); have hN : w2.heap.size ≤ wo.heap.size := HI.out.siz; have CA := Lib.hid (around_any (HG1.out.1.since hb) i HMI.out xa xn xc ho.read (fun g0 off e0 _ => (by have h1 := ho.lt g0 (by rw [e0]; rfl); have h2 := HTL.out.1; have h3 := HTL.out.2.1 4 (by omega); omega)) hn (by have := HG1.out.2; omega)); have HBu := Lib.hid hb; clear ho hb)
          | (go_at_call 40; refine CA.out.mono ?_; rintro e u2 ⟨qa, qn, qc, PS2, rfl, ho2, hg2, hf2⟩; have HQ2 := Lib.hid (And.intro ho2 (And.intro hg2 hf2)); have HLL : RowKit.Hid (OwnsLp u2 w2.heap.size (.slice va vn vc) l ∧ Cops u2 w2.heap.size l (loopsL f n i) ∧ w2.heap.size ≤ u2.heap.size ∧ l.length ≤ 100000) := Lib.hid (by have hpg : ∀ k, w2.heap.size ≤ k → ¬ (k = p ∨ k = g 4) := (fun k hk h => by rcases h with h | h; (have := HTL.out.1; omega); (have := HTL.out.2.1 4 (by omega); omega)); have hus : wo.heap.size ≤ u.heap.size := HBu.out.size; exact ⟨(HL1.out.1.at_ (fun k hk => HBu.out.block k (HL1.out.1.lt hk).2)).at_ (fun k hk => hf2.block k (Nat.lt_of_lt_of_le (HL1.out.1.lt hk).2 hus) (hpg k (HL1.out.1.lt hk).1)), HL1.out.2.all (fun x t hx => ⟨hx.1, own_at (hx.2.below HBu.out) (fun k hk => hf2.block k (Nat.lt_of_lt_of_le (hx.2.lt k hk).2 hus) (hpg k (hx.2.lt k hk).1))⟩), Nat.le_trans (Nat.le_trans hN hus) hf2.size, by have h1 := HL1.out.2.len; have h2 := loopsL_len f n i; omega⟩); clear ho2 hg2 hf2 CA)
          | ((with_reducible refine wpList_append_lp _ rfl rfl _ _ rfl w2.heap.size (.slice va vn vc) l ?_ ?_ ?_ _ 1 u2.heap.size ((i : Int), qa, qn, qc) ?_ ?_ ?_ ?_ ?_); (next => rfl); (next => exact HLL.out.1); (next => exact HLL.out.2.2.1); (next => rfl); (next => rfl); (next => rfl); (next => exact HLL.out.2.2.2); intro ya yn yc w5 ho5 hg5; have HO5 := Lib.hid (And.intro ho5 hg5); clear ho5 hg5))
        have HS1 : RowKit.Hid (LpSt w2 f w2.heap.size W1.heap.size p n g Z ov gf vs m (i + 1) ya yn yc w5) := Lib.hid (by
          have hN : w2.heap.size ≤ wo.heap.size := HI.out.siz
          have hus : wo.heap.size ≤ u.heap.size := HBu.out.size
          have hoffA : Off (fun k => (Value.slice va vn vc).ownBlock = some k) u2 w5 := ((Off.refl _ u2).alloc _).grown HO5.out.2 (fun k hk => .inl hk)
          have hoffN : Off (fun k => w2.heap.size ≤ k) u2 w5 := hoffA.mono fun k _ hk => (HLL.out.1.lt hk).1
          obtain ⟨ho2, hg2, hf2⟩ := HQ2.out
          have e : (fun k => if k = 4 then PS2 else (fun k => if k = 4 then PS else Z k) k) = (fun k => if k = 4 then PS2 else Z k) := funext fun k => by by_cases hk : k = 4 <;> simp [hk]
          rw [e] at hg2
          have hne : ∀ k, (Value.slice va vn vc).ownBlock = some k → ∀ C (m : Nat × Nat), u2.heap[k]? ≠ some (.cells C 3 m) := fun k hk C m hc => by
            obtain ⟨cur, hc', _⟩ := ownsRow_blk HLL.out.1 hk
            rw [hc] at hc'; simp at hc'
          have hcop : ∀ x t, CopT u2 w2.heap.size x t → CopT w5 w2.heap.size x t := fun x t hx => ⟨hx.1, own_at hx.2 fun k hk => hoffA.block k (hx.2.lt k hk).2 (fun e => by
            obtain ⟨cur, hc, _⟩ := ownsI_blk hx.2 hk
            exact hne k e _ _ hc)⟩
          refine ⟨⟨PS2, rd' + 1, ⟨hg2.at_.beyond HTL.out hoffN (fun k hk => hk), hg2.len, hg2.vsl, hg2.place, hg2.set, hg2.over, hg2.pass⟩, by have := HG1.out.2; omega⟩, ⟨_, HO5.out.1, ?_⟩, ?_, Nat.le_trans HLL.out.2.2.1 hoffN.size⟩
          · rw [loopsL_more, if_neg HBK.out]
            exact Cops.snoc (hcop _ _ ⟨rfl, ho2.mono (by omega)⟩) (HLL.out.2.1.all hcop)
          · refine ((HI.out.off.trans_new (Off.since (X := fun _ => False) HBu.out) (fun k hk => hk.elim)).trans_new hf2 (fun k hk => ?_)).trans_new hoffN (fun k hk => .inl (.inr (.inr hk)))
            rcases hk with h | h
            · exact .inl (.inl h)
            · exact .inl (.inr (.inl h)))
        go_roundw
        case rel => exact ⟨i + 1, _, _, _, hlt, rfl, by go_num, HS1⟩
        case measure => simp [intOf]; omega
    · obtain rfl : i = n := by omega
      go_wp2_with fail
      refine bodyPost_ret (v := .slice va vn vc) (by simp [results, Try.results14, go_sem]) rfl ?_
      obtain ⟨l, hl1, hl2⟩ := HI.out.own
      have hN : w.heap.size ≤ w2.heap.size := by have := HN.out; omega
      exact ⟨va, vn, vc, l, rfl, hl1.mono hN, hl2.all (fun x t hx => ⟨hx.1, hx.2.mono hN⟩), (HB1.out.trans (HB2.out.mono HB1.out.size)).trans (HI.out.off.below hN (fun k hk => by
        rcases hk with h | h | h
        · have := HG.out.1.at_.ge; omega
        · obtain ⟨_, _, h5⟩ := HG.out.1.at_.gblk (i := 4) (by omega); omega
        · omega))⟩
end Go.Proofs.Ytnnccahpgailiaa
