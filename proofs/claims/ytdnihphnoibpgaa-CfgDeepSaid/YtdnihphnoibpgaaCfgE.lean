/- Layer 7: package cfg's Order: the blocks as the walk leaves them, turned about. -/
import Derived.Test.YtdnihphnoibpgaaCfgD
import Derived.Test.YtdnihphnoibpgaaShelf
import Derived.Lib.OwnBridge
namespace Go.Proofs.Ytdnihphnoibpgaa
open Go.RowKit
set_option linter.unusedVariables false
set_option linter.unusedSimpArgs false
attribute [local go_sem] Oper.semAt_some

theorem reverse_own (v : Value) (Z : List Int) (B : Nat) (w : World) (h : OwnsI w B 3 v Z) :
    Calls Try.prog 52 #[v] w fun e w' => e = .returned (.tuple #[]) ∧ OwnsI w' B 3 v Z.reverse ∧ w.grownBy w' v.ownBlock := by
  by_cases hv : v = .slice none 0 0
  · subst hv
    obtain rfl : Z = [] := by
      rcases h.2 with ⟨_, h0⟩ | ⟨_, _, _, e, _⟩
      · exact List.eq_nil_of_length_eq_zero h0
      · cases e
    refine (Try.slices_Reverse_int_empty none 0 w).mono ?_
    rintro e w' ⟨rfl, rfl⟩
    exact ⟨rfl, h, ⟨rfl, rfl, rfl, Nat.le_refl _, fun _ _ _ => rfl⟩⟩
  · obtain ⟨g, cap, rfl, hB, hlt, hn, hm, _, hH⟩ := Lib.holds_of_ownsRow (enc := Value.int .i64) (zs := Z) h hv
    refine (Try.slices_Reverse_int g 0 cap Z w hH (by unfold maxLen at hm; omega)).mono ?_
    rintro e w' ⟨rfl, q, rfl⟩
    have ho := Lib.ownsRow_putRow (enc := Value.int .i64) (q := q) (k := Z.length) (ys := Z.reverse) (zs := Z) h (by simp) (Nat.le_refl _)
    refine ⟨rfl, ?_, ⟨rfl, rfl, rfl, by simp [Sort.putRow, Sort.mapBlock, Sort.ahead], fun k hk hne => ?_⟩⟩
    · show World.ownsRow _ B _ 1 _ Z.reverse.length (Z.reverse.map numV)
      rw [List.take_of_length_le (by simp)] at ho
      rw [List.length_reverse]
      exact ho
    · have hgk : g ≠ k := fun e => hne (by rw [e]; rfl)
      simp [Sort.putRow, Sort.mapBlock, Sort.ahead, Array.getElem?_modify, hgk]

theorem left_any (r : Int) (a : Option Addr) (n c : Nat) (w : World) :
    Calls Try.prog 51 #[.agg #[.int .i64 r, .slice a n c]] w fun e w' => e = .returned (.func (.func 60) #[] #[.pointer (some ⟨w.heap.size, 0, none⟩)]) ∧ w' = w.alloc (.cells #[.int .i64 r, .slice a n c] 24) := by
  go_enter Try.func51, Try.ntmps51
  go_wp2_with fail
  go_ret
  exact ⟨rfl, rfl⟩

/-- Where Order stands. -/
structure OrdSt (w W : World) (v : Value) (Z : List Int) : Prop where
  box : Boxed W (w.heap.size + 1) 30 v
  own : OwnsI W (w.heap.size + 3) 3 v Z
  bel : Below w.heap.size w W
  siz : w.heap.size + 3 ≤ W.heap.size
theorem OrdSt.lies {w W : World} {v : Value} {Z : List Int} (h : OrdSt w W v Z) : Lies (w.heap.size + 1) 30 W := by
  intro i hi
  rcases hi with rfl | ⟨v', hb, hv⟩
  · exact ⟨_, h.box, rfl⟩
  · have e : v' = v := by have h1 := hb; have h2 := h.box; unfold Boxed at h1 h2; rw [h1] at h2; cases h2; rfl
    subst e
    obtain ⟨cur, hc, _⟩ := rowW_blk h.own hv
    exact ⟨_, hc, rfl⟩
theorem OrdSt.grown {w W W' : World} {v : Value} {Z : List Int} {row : Option Nat} (h : OrdSt w W v Z) (hg : W.grownBy W' row) (hr : ∀ r, row = some r → w.heap.size ≤ r ∧ ¬ Owns (w.heap.size + 1) 30 W r) : OrdSt w W' v Z :=
  ⟨h.box.kept hg (fun e => (hr _ e.symm).2 (.inl rfl)), World.ownsRow.kept h.own hg (row_off fun r e hv => (hr r e).2 (.inr ⟨v, h.box, hv⟩)), h.bel.trans ((Below.grown (Below.refl w.heap.size W) hg (by have := h.siz; omega) (fun k e => (hr k e).1))), Nat.le_trans h.siz hg.size⟩

set_option maxRecDepth 100000 in
set_option maxHeartbeats 2000000 in
theorem order_any (r : Int) (a : Option Addr) (n c : Nat) (f : FuncD) (w : World) (hrow : RowV BlockQ 8 w (.slice a n c) f.blocks) (hn : n ≤ 1099511627776) :
    Calls Try.prog 39 #[.agg #[.int .i64 r, .slice a n c]] w fun e w' => ∃ va vn vc, e = .returned (.slice va vn vc) ∧ OwnsI w' w.heap.size 3 (.slice va vn vc) (orderL f) ∧ Below w.heap.size w w' := by
  have hlen : n = f.blocks.length := by obtain ⟨_, _, _, e, h, _⟩ := hrow; cases e; exact h.symm
  have hgl : ∀ g off, a = some ⟨g, off, none⟩ → 0 < n → g < w.heap.size := fun g off e h0 => by
    obtain ⟨_, _, _, e', _, _, _, h'⟩ := hrow; cases e'; obtain ⟨g', off', e2, hl, _⟩ := h' h0; rw [e] at e2; cases e2; exact hl
  refine (callsIn_wide (n := 9)).1 ?_
  refine callsIn_of_wp_marks Try.func39 rfl trivial ?_ rfl
  simp only [Try.ntmps39, List.size_toArray, List.length_cons, List.length_nil, Nat.reduceAdd, Nat.reduceSub, Array.replicate_succ, Array.replicate_zero, List.push_toArray, List.append_toArray, List.nil_append, List.cons_append]
  have HROW := Lib.hid hrow
  have HLEN := Lib.hid hlen
  have HGL := Lib.hid hgl
  clear hrow hlen hgl
  gi_wp2_with (refine ⟨trivial, ?_⟩; gi_at_call 51; refine (callsIn_wide.2 (left_any r a n c _)).mono ?_; rintro e w' ⟨rfl, rfl⟩)
  obtain ⟨W0, hW0⟩ : ∃ W0, (((w.alloc (.cells #[.int .i64 r, .slice a n c] 24)).alloc (.cells #[.slice none 0 0] 30)).alloc (.cells #[.int .i64 r, .slice a n c] 24)) = W0 := ⟨_, rfl⟩
  have hz0 : W0.heap.size = w.heap.size + 3 := by rw [← hW0]; simp
  have hbw : Below w.heap.size w W0 := by rw [← hW0]; exact (((Below.refl w.heap.size w).alloc (Nat.le_refl _) _).alloc (by simp) _).alloc (by simp <;> omega) _
  have hbx : Boxed W0 (w.heap.size + 1) 30 (.slice none 0 0) := by
    rw [← hW0]
    have h := (Boxed.new (w.alloc (.cells #[.int .i64 r, .slice a n c] 24)) 30 (.slice none 0 0)).alloc (.cells #[.int .i64 r, .slice a n c] 24)
    rw [World.size_alloc] at h
    exact h
  have hcb : ∀ j, W0.cell? ⟨w.heap.size + 1 + 1, j, none⟩ = (#[.int .i64 r, .slice a n c] : Array Value)[j]? := by
    intro j
    rw [← hW0, show w.heap.size + 1 + 1 = ((w.alloc (.cells #[.int .i64 r, .slice a n c] 24)).alloc (.cells #[.slice none 0 0] 30)).heap.size by simp]
    exact World.cell?_alloc_mark _ _ _ _ _
  have HS0 : RowKit.Hid (OrdSt w W0 (.slice none 0 0) []) := Lib.hid ⟨hbx, World.ownsRow_nil _ _ _ 1, hbw, by omega⟩
  rw [hW0]
  clear hW0
  have hseq := left_seq r a n c f (w.heap.size + 1 + 1) (w.heap.size + 1) 30 W0 (HROW.out.since BlockQ.lasts hbw) hn hcb (fun W hb hl => by
    have h1 : W.heap[w.heap.size + 1]? = _ := (hb.block _ (by omega)).trans hbx
    have h2 : ∀ i, Owns (w.heap.size + 1) 30 W i → i = w.heap.size + 1 := fun i hi => by
      rcases hi with hi | ⟨v, hv, ho⟩
      · exact hi
      · unfold Boxed at hv; rw [h1] at hv; cases hv; cases ho
    exact ⟨fun h => by have := h2 _ h; omega, fun g off e h0 h => by have := h2 _ h; have := HGL.out g off e h0; omega⟩)
  clear hbx hcb hbw
  refine wpIn_rangeFunc_X rfl (by omega) (gf := 60) (lb := #[.pointer (some ⟨w.heap.size + 1 + 1, 0, none⟩)]) rfl trivial (enters_of Try.func60 (by kernel_rfl) rfl) hseq (Below.refl _ _) (fun _ => rfl)
    (fun pre W => ∃ v, OrdSt w W v pre) (fun s W ⟨v, h⟩ => h.lies) ?hI ⟨_, HS0.out⟩
    (fun x a' _ => a' = { tmps := #[.agg #[.int .i64 r, .slice a n c], .pointer (some ⟨w.heap.size, 0, none⟩), .slice none 0 0, .pointer (some ⟨w.heap.size + 1, 0, none⟩), .int .i64 x, .agg #[.int .i64 r, .slice a n c], .func (.func 60) #[] #[.pointer (some ⟨w.heap.size + 1 + 1, 0, none⟩)], .int .i64 x, undef, undef, undef, undef, undef, undef, undef], defers := [] })
    (fun _ _ _ _ _ _ h _ _ => h) ?assign ?body ?ran
  case hI =>
    rintro s W W' row ⟨v, h⟩ hg hr
    exact ⟨v, h.grown hg (fun r e => ⟨by have := (hr r e).1; omega, (hr r e).2⟩)⟩
  case assign =>
    rintro l pre x W K' hI hK'
    gi_wp2
    exact hK' _ _ (KeepX.refl _ _ _) hI rfl
  case body =>
    rintro l pre x a' W hl0 _ ⟨v, hS⟩ rfl _ hlen
    have HS := Lib.hid hS
    have hv := Boxed.cell hS.box
    have hvf := Boxed.frozen hS.box
    have HLN : RowKit.Hid ((pre.length + 1) * 8 ≤ 140737488355328) := Lib.hid (by omega)
    have HSZ := Lib.hid hS.siz
    have HOW := Lib.hid hS.own
    clear hS
    gi_wp2_with (gi_at_builtin; refine wpListIn_append_numW W rfl _ _ 30 rfl 3 Try.underlying30 info_int (w.heap.size + 3) v pre rfl HOW.out HSZ.out _ 1 _ x rfl rfl rfl HLN.out ?_; intro va vn vc w1 hown1 hgrow1 hwh; obtain ⟨hb1, hb2, ho2, hk2, hoff2⟩ := push_box HS.out.box HS.out.own (by omega) ((Below.refl W.heap.size W).alloc (Nat.le_refl _) _) hown1 hgrow1; have hc1 := hb1.cell; have hf1 := hb1.frozen; have hoff3 := Lib.hid hoff2; have hb3 := Lib.hid hb2; have ho3 := Lib.hid ho2; have hwh3 := Lib.hid hwh; clear hb1 hb2 ho2 hk2 hoff2 hown1 hgrow1 hwh)
    have hge : ∀ i, PushX (w.heap.size + 1) v i → w.heap.size ≤ i := fun i hi => by
      rcases hi with rfl | hi
      · omega
      · have := (HOW.out.lt i hi).1; omega
    refine ⟨⟨hoff3.out.size, fun i hi hn => hoff3.out.block i hi (fun hx => hn (by
      rcases hx with hx | hx
      · exact .inl hx
      · exact .inr ⟨v, HS.out.box, hx⟩)), fun i ho hi => ?_⟩, _, ⟨hb3.out, ho3.out, HS.out.bel.trans (hoff3.out.below (by have := HSZ.out; omega) hge), Nat.le_trans HSZ.out hoff3.out.size⟩⟩
    rcases ho with ho | ⟨v', hv', ho⟩
    · exact .inl ho
    · have e : v' = .slice va vn vc := by have h1 := hv'; have h2 := hb3.out; unfold Boxed at h1 h2; rw [h1] at h2; cases h2; rfl
      subst e
      rcases hwh3.out i ho with h | h
      · exact .inr ⟨v, HS.out.box, h⟩
      · omega
  case ran =>
    rintro D ys U hD rfl ⟨v, hS⟩ hK
    have HR := Lib.hid (reverse_own v _ _ U hS.own)
    have hv := Boxed.cell hS.box
    have HS := Lib.hid hS
    have HK := Lib.hid hK
    clear hS hK
    gi_wp2_with (refine ⟨trivial, ?_⟩; gi_at_call 52; refine (callsIn_wide.2 HR.out).mono ?_; rintro e U2 ⟨rfl, ho2, hg2⟩; have hv2 : U2.cell? ⟨w.heap.size + 1, 0, none⟩ = some v := (World.cell?_of_block (hg2.block _ HS.out.box.lt (fun e => by
      obtain ⟨cur, hc, _⟩ := rowW_blk HS.out.own e.symm
      have h2 := HS.out.box
      unfold Boxed at h2
      rw [hc] at h2
      simp at h2))).trans hv; have HO2 := Lib.hid ho2; have HG2 := Lib.hid hg2; clear ho2 hg2)
    have hge : ∀ k, v.ownBlock = some k → w.heap.size + 3 ≤ k := fun k hk => (HS.out.own.lt k hk).1
    have hk2 : U2.heap[D]? = some (.deferred (some [])) := (HG2.out.block D (Array.getElem?_eq_some_iff.1 HK.out).1 (fun e => by
      obtain ⟨cur, hc, _⟩ := rowW_blk HS.out.own e.symm
      rw [HK.out] at hc
      cases hc)).trans HK.out
    refine ⟨by simp, .inl ⟨_, _, rfl, run_takeDeferred hk2, ?_⟩⟩
    have ho := HO2.out
    rw [List.reverse_reverse] at ho
    obtain ⟨va, vn, vc, rfl, _⟩ := ho.nums
    refine ⟨_, results_tmp rfl _ _ _, va, vn, vc, rfl, (OwnsI.grownRow ho (grownBy_putObj' U2 D _) (fun r e => by cases e; exact ⟨_, hk2, rfl⟩)).mono (by omega), ?_⟩
    have hb1 := HS.out.bel.trans (Below.grown (Below.refl w.heap.size U) HG2.out (by have := HS.out.siz; omega) (fun k e => by have := hge k e; omega))
    exact hb1.trans (Below.grown (Below.refl w.heap.size U2) (grownBy_putObj' U2 D _) (by have := HG2.out.size; have := HS.out.siz; omega) (fun k e => by cases e; omega))
end Go.Proofs.Ytdnihphnoibpgaa
