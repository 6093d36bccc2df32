/- Layer 7: the document's walk, which calls itself: which blocks were met, and left. -/
import Derived.Test.YtdchhfdmingnaaaDoorFT2

namespace Go.Proofs.YtdchhfdmingnaaaDoor
open Go.RowKit (wrap64 intOf Below)
set_option linter.unusedVariables false
set_option linter.unusedSimpArgs false
theorem wpList_append_numW {P : Program} (w : World) {ops : Array Oper} {rest : List Oper} {o : Oper} {a : Act} {Q : Exit → Act → World → Prop} (hgd : o.guard = none) (s x : Operand) (t : TypeId)
    (ho : o.op = .call { callee := .builtin .append, args := #[s, x], argTypes := #[t, t] }) (e : TypeId) (ht : P.underlying t = some (.slice e))
    (hinfo : (P.info? e).map (fun i => (i.zero, i.size, i.bytes)) = some (some (.int .i64 0), 1, 8))
    (B : Nat) (v : Value) (Z : List Int) (hs : a.eval s = v) (hown : OwnsI w B e v Z) (hB : B ≤ w.heap.size)
    (C : Array Value) (c g : Nat) (z : Int) (hx : a.eval x = .slice (some ⟨g, 0, none⟩) 1 c) (hg : g = w.heap.size) (hC : C = #[.int .i64 z])
    (hlen : (Z.length + 1) * 8 ≤ 140737488355328)
    (h : ∀ va vn vc w', OwnsI w' B e (.slice va vn vc) (Z ++ [z]) → (w.alloc (.cells C e)).grownBy w' v.ownBlock → (∀ i, (Value.slice va vn vc).ownBlock = some i → v.ownBlock = some i ∨ w.heap.size ≤ i) → wpList P ops Q rest (a.put o.dst (.slice va vn vc)) w') : wpList P ops Q (o :: rest) a (w.alloc (.cells C e)) := by
  obtain ⟨i0, hi, hz0, hz1, hz2⟩ := info_parts hinfo
  subst hC hg
  have hcell : (w.alloc (.cells #[.int .i64 z] e)).cell? ⟨w.heap.size, 0, none⟩ = some (.int .i64 z) := by rw [World.cell?_alloc_mark]; rfl
  have hown1 : OwnsI (w.alloc (.cells #[.int .i64 z] e)) B e v Z := World.ownsRow.alloc hown _
  refine wpList_plain hgd fun K hK' => ?_
  obtain ⟨v', w', hrun, r1, r2, _⟩ := run_append_own (P := P) (w.alloc (.cells #[.int .i64 z] e)) B t o.type e i0 (.int .i64 0) 1 8 ht hi hz0 hz1 hz2 rfl (by decide) v Z.length (Z.map numV) hown1 ⟨w.heap.size, 0, none⟩ 1 c [.int .i64 z] rfl (fun j u hu => by
    obtain ⟨hj, rfl⟩ := List.getElem?_eq_some_iff.1 hu
    simp only [List.length_cons, List.length_nil] at hj
    obtain rfl : j = 0 := by omega
    simp [Addr.add]) (by intro u hu; simp at hu; subst hu; rfl) (by unfold maxLen; omega) hlen (by simp; omega)
  have hwh := append_where ht hi hz0 hz1 hz2 hown1 hcell hlen hrun
  have hown2 : OwnsI w' B e v' (Z ++ [z]) := by
    show w'.ownsRow B e 1 v' (Z ++ [z]).length ((Z ++ [z]).map numV)
    rw [List.map_append, List.length_append]
    exact r1
  obtain ⟨va, vn, vc, rfl, _⟩ := hown2.nums
  unfold Oper.wp
  simp [execOp, ho, resolve, invoke, builtin, hs, hx, hrun, Result.andThen]
  exact hK' _ _ (h va vn vc w' hown2 r2 (fun i hi' => (hwh i hi').imp id (fun h' => by simp at h'; omega)))
def WkAt (pw : Nat) (W : World) (mv lv : Value) : Prop := W.heap[pw]? = some (.cells #[mv, lv] 115 (0, 0))
structure WkSt (pw : Nat) (W : World) (mv lv : Value) (met left : List Int) : Prop where
  blk : WkAt pw W mv lv
  met : OwnsI W (pw + 1) 3 mv met
  left : OwnsI W (pw + 1) 3 lv left
  apart : ∀ i, mv.ownBlock = some i → lv.ownBlock ≠ some i
structure WkKeep (pw : Nat) (W W' : World) (mv mv' : Value) : Prop where
  off : Off (fun i => i = pw ∨ mv.ownBlock = some i) W W'
  new : ∀ i, mv'.ownBlock = some i → mv.ownBlock = some i ∨ W.heap.size ≤ i
theorem WkKeep.refl (pw : Nat) (W : World) (mv : Value) : WkKeep pw W W mv mv := ⟨Off.refl _ _, fun i h => .inl h⟩
theorem WkKeep.trans {pw : Nat} {A B C : World} {a b c : Value} (h : WkKeep pw A B a b) (k : WkKeep pw B C b c) : WkKeep pw A C a c :=
  ⟨h.off.trans_new k.off (fun i hi => by
    rcases hi with rfl | hi
    · exact .inl (.inl rfl)
    · rcases h.new i hi with h' | h'
      · exact .inl (.inr h')
      · exact .inr h'), fun i hi => by
    rcases k.new i hi with h' | h'
    · exact h.new i h'
    · exact .inr (Nat.le_trans h.off.size h')⟩
theorem WkKeep.since {pw : Nat} {W W' : World} {mv : Value} (hb : Below W.heap.size W W') : WkKeep pw W W' mv mv := ⟨Off.since hb, fun i h => .inl h⟩
theorem WkSt.since {pw : Nat} {W W' : World} {mv lv : Value} {met left : List Int} (h : WkSt pw W mv lv met left) (hb : Below W.heap.size W W') : WkSt pw W' mv lv met left :=
  ⟨(hb.block pw (Array.getElem?_eq_some_iff.1 h.blk).1).trans h.blk, h.met.below hb, h.left.below hb, h.apart⟩
theorem WkKeep.below {pw n0 : Nat} {W W' : World} {mv mv' : Value} {met : List Int} (h : WkKeep pw W W' mv mv') (hm : OwnsI W (pw + 1) 3 mv met) (hn : n0 ≤ pw) (hW : n0 ≤ W.heap.size) : Below n0 W W' :=
  h.off.below hW (fun i hi => by
    rcases hi with rfl | hi
    · exact hn
    · have := (hm.lt i hi).1; omega)
theorem WkSt.meet {pw : Nat} {W w1 : World} {mv lv mv' : Value} {met left : List Int} {b : Int} {C : Array Value} {et : TypeId} (h : WkSt pw W mv lv met left) (ho : OwnsI w1 (pw + 1) 3 mv' (met ++ [b])) (hg : (W.alloc (.cells C et)).grownBy w1 mv.ownBlock) (hwh : ∀ i, mv'.ownBlock = some i → mv.ownBlock = some i ∨ W.heap.size ≤ i) :
    WkAt pw w1 mv lv ∧ WkSt pw (w1.setCell ⟨pw, 0, none⟩ mv') mv' lv (met ++ [b]) left ∧ WkKeep pw W (w1.setCell ⟨pw, 0, none⟩ mv') mv mv' := by
  have hpl : pw < W.heap.size := (Array.getElem?_eq_some_iff.1 h.blk).1
  have hmpw : mv.ownBlock ≠ some pw := fun e => by have := (h.met.lt pw e).1; omega
  have hblk : WkAt pw w1 mv lv := (hg.block pw (by simp; omega) (fun e => hmpw e.symm)).trans ((Below.heap_alloc W _ pw hpl).trans h.blk)
  have hlt1 : pw < w1.heap.size := (Array.getElem?_eq_some_iff.1 hblk).1
  have hl1 : OwnsI w1 (pw + 1) 3 lv left := World.ownsRow.kept (World.ownsRow.alloc h.left _) hg (by
    cases hv : lv.ownBlock with
    | none => exact .inl rfl
    | some i => exact .inr fun e => h.apart i e.symm hv)
  refine ⟨hblk, ⟨?_, ho.setCell _ _ (by show pw < pw + 1; omega), hl1.setCell _ _ (by show pw < pw + 1; omega), fun i hi hl => ?_⟩, ?_, fun i hi => hwh i hi⟩
  · unfold WkAt at hblk ⊢
    have := heap_setCell_same w1 pw 0 #[mv, lv] 115 mv' hblk
    simpa using this
  · rcases hwh i hi with h' | h'
    · exact h.apart i h' hl
    · have := (h.left.lt i hl).2; omega
  · exact (((Off.since ((Below.refl W.heap.size W).alloc (Nat.le_refl _) _)).grown hg (fun k hk => .inl (.inr hk))).setCell (.inl (.inl rfl)) _)
theorem fold_facts {N : Nat} {nx : Nat → List Int} (k : Nat) : ∀ (l : List Int) (s : List Int × List Int), Inv N s.1 → N - s.1.length < k → s.2.length ≤ s.1.length → Inv N (l.foldl (walkF N nx k) s).1 ∧ s.1.length ≤ (l.foldl (walkF N nx k) s).1.length ∧ (l.foldl (walkF N nx k) s).2.length ≤ (l.foldl (walkF N nx k) s).1.length
  | [], s, h1, _, h3 => ⟨h1, Nat.le_refl _, h3⟩
  | b :: l, s, h1, h2, h3 => by
    obtain ⟨t, u, a, _⟩ := walk_adds (nx := nx) k s b h1 h2
    have e1 : (walkF N nx k s b).1.length = s.1.length + t.length := by rw [a.met, List.length_append]
    have e2 : (walkF N nx k s b).2.length = u.length + s.2.length := by rw [a.left, List.length_append]
    have e3 := a.perm.length_eq
    obtain ⟨r1, r2, r3⟩ := fold_facts k l (walkF N nx k s b) a.inv (by omega) (by omega)
    exact ⟨r1, by rw [List.foldl_cons]; omega, r3⟩
theorem croom_step {n m s k : Nat} (h : n - m < k + 1) (hm : m < n) (hs : m + 1 ≤ s) : n - s < k := by omega
theorem meas_step {i zn : Nat} (h : i < zn) : zn - (intOf (.int .i64 ((i : Int) + 1))).toNat < zn - (intOf (.int .i64 (i : Int))).toNat := by
  simp [intOf]
  omega
theorem WkSt.leave {pw : Nat} {wo w' : World} {mv lv nv : Value} {met left : List Int} {b : Int} (h : WkSt pw wo mv lv met left) (hb : Below wo.heap.size wo w') (ho : OwnsI w' wo.heap.size 3 nv (b :: left)) :
    WkAt pw w' mv lv ∧ WkSt pw (w'.setCell ⟨pw, 1, none⟩ nv) mv nv met (b :: left) ∧ WkKeep pw wo (w'.setCell ⟨pw, 1, none⟩ nv) mv mv := by
  have hpl : pw < wo.heap.size := (Array.getElem?_eq_some_iff.1 h.blk).1
  have hblk : WkAt pw w' mv lv := (hb.block pw hpl).trans h.blk
  refine ⟨hblk, ⟨?_, (h.met.below hb).setCell _ _ (by show pw < pw + 1; omega), (ho.mono (by omega)).setCell _ _ (by show pw < pw + 1; omega), fun i hi hl => ?_⟩, (Off.since hb).setCell (.inl (.inl rfl)) _, fun i hi => .inl hi⟩
  · unfold WkAt at hblk ⊢
    have := heap_setCell_same w' pw 1 #[mv, lv] 115 nv hblk
    simpa using this
  · have h1 := (h.met.lt i hi).2
    have h2 := (ho.lt i hl).1
    omega
theorem own_nil {w : World} {B : Nat} {e : TypeId} {va : Option Addr} {vn vc : Nat} {Z : List Int} (h : OwnsI w B e (.slice va vn vc) Z) : va = none → vc = 0 := by
  intro hv
  rcases h.2 with ⟨e, _⟩ | ⟨g, cap, cur, e, _⟩
  · cases e; rfl
  · cases e; cases hv
theorem one_own (w : World) (z : Int) : OwnsI (w.alloc (.cells #[.int .i64 z] 3)) w.heap.size 3 (.slice (some ⟨w.heap.size, 0, none⟩) 1 1) [z] := World.ownsRow_lit w #[.int .i64 z] 1 (Nat.le_refl _) (by decide) rfl
theorem walkF_end {n k p : Nat} {f : FuncD} {met left L : List Int} {s2 : List Int × List Int} {zn : Nat} (hw : walkF n (nxF f) (k + 1) (met, left) (p : Int) = (((nxF f (p : Int).toNat).foldl (walkF n (nxF f) k) (met ++ [(p : Int)], left)).1, (p : Int) :: ((nxF f (p : Int).toNat).foldl (walkF n (nxF f) k) (met ++ [(p : Int)], left)).2)) (hL : nxF f p = L) (hz : L.length = zn) (hs : s2 = (L.take zn).foldl (walkF n (nxF f) k) (met ++ [(p : Int)], left)) :
    (walkF n (nxF f) (k + 1) (met, left) (p : Int)).1 = s2.1 ∧ (walkF n (nxF f) (k + 1) (met, left) (p : Int)).2 = (p : Int) :: s2.2 := by
  rw [hw, Int.toNat_natCast, hL, hs, ← hz, List.take_length]
  exact ⟨rfl, rfl⟩
theorem left_fits {n s t : Nat} (h : t ≤ s) (h2 : s ≤ n) (hn : n ≤ 1099511627776) : (1 + t) * 8 ≤ 140737488355328 := by omega
theorem walkF_now {N : Nat} {nx : Nat → List Int} {k : Nat} {met left : List Int} {b : Int} (h : There N b) (h2 : b ∉ met) : walkF N nx (k + 1) (met, left) b = (((nx b.toNat).foldl (walkF N nx k) (met ++ [b], left)).1, b :: ((nx b.toNat).foldl (walkF N nx k) (met ++ [b], left)).2) := walkF_go h h2
set_option maxRecDepth 100000 in
set_option maxHeartbeats 4000000 in
theorem walk_any (r : Int) (a : Option Addr) (n c : Nat) (f : FuncD) (pw : Nat) (w0 : World) (hrow : RowV BlockQ 8 w0 (.slice a n c) f.blocks) (hn : n ≤ 1099511627776) (hp : w0.heap.size ≤ pw) :
    ∀ (k : Nat) (b : Int) (met left : List Int) (mv lv : Value) (W : World), Below w0.heap.size w0 W → WkSt pw W mv lv met left → Inv n met → left.length ≤ met.length → n - met.length < k →
      Calls Tryd.prog 67 #[.pointer (some ⟨pw, 0, none⟩), .agg #[.int .i64 r, .slice a n c], .int .i64 b] W fun e W' => e = .returned (.tuple #[]) ∧ ∃ mv' lv', WkSt pw W' mv' lv' (walkF n (nxF f) k (met, left) b).1 (walkF n (nxF f) k (met, left) b).2 ∧ WkKeep pw W W' mv mv' := by
  intro k
  induction k with
  | zero => intro _ _ _ _ _ _ _ _ _ _ h; exact absurd h (by omega)
  | succ k ih =>
    intro b met left mv lv W hbel hst hinv hle hk
    have HIH := Lib.hid ih
    have HKK := Lib.hid hk
    have HLE := Lib.hid hle
    clear ih hk hle
    have hcM : W.cell? ⟨pw, 0, none⟩ = some mv := by have := hst.blk; unfold WkAt at this; simp [World.cell?, this]
    have hcL : W.cell? ⟨pw, 1, none⟩ = some lv := by have := hst.blk; unfold WkAt at this; simp [World.cell?, this]
    have hpl : pw < W.heap.size := (Array.getElem?_eq_some_iff.1 hst.blk).1
    have hml := hinv.len
    have HST := Lib.hid hst
    have HINV := Lib.hid hinv
    have HB := Lib.hid hbel
    obtain ⟨ma, mn, mc, rfl, hmn⟩ := hst.met.nums
    have hmn2 : mn ≤ n := by have := hmn.1; omega
    have HMN := Lib.hid hmn
    have HSN : RowKit.Hid (∀ u, Below W.heap.size W u → WkKeep pw W u (.slice ma mn mc) (.slice ma mn mc) ∧ WkSt pw u (.slice ma mn mc) lv met left) := Lib.hid fun u hu => ⟨WkKeep.since hu, hst.since hu⟩
    have hbl : Below W.heap.size W (W.alloc (.cells #[.int .i64 r, .slice a n c] 30)) := (Below.refl _ _).alloc (Nat.le_refl _) _
    have HBL := Lib.hid hbl
    have CH : RowKit.Hid (Calls Tryd.prog 20 #[.slice ma mn mc, .int .i64 b] (W.alloc (.cells #[.int .i64 r, .slice a n c] 30)) fun e w' => e = .returned (.bool (inL met b)) ∧ (W.alloc (.cells #[.int .i64 r, .slice a n c] 30)) = w') := Lib.hid (chas_any ma mn mc met b _ (hmn.since hbl) (by omega))
    clear hst hinv hbel hmn hbl
    by_cases h0 : b < 0
    · have HSK : RowKit.Hid (walkF n (nxF f) (k + 1) (met, left) b = (met, left)) := Lib.hid (walkF_skip (.inl (fun h => by have := h.1; omega)))
      go_enter Tryd.func67, Tryd.ntmps67
      go_wp2_with fail
      refine bodyPost_ret (results_none rfl _ _ _) rfl ?_
      first | exact ⟨rfl, _, ⟨lv, by rw [HSK.out]; exact (HSN.out _ HBL.out).2⟩, (HSN.out _ HBL.out).1⟩ | exact ⟨rfl, _, lv, by rw [HSK.out]; exact (HSN.out _ HBL.out).2, (HSN.out _ HBL.out).1⟩
    · by_cases h1 : (n : Int) ≤ b
      · have HSK : RowKit.Hid (walkF n (nxF f) (k + 1) (met, left) b = (met, left)) := Lib.hid (walkF_skip (.inl (fun h => by have := h.2; omega)))
        go_enter Tryd.func67, Tryd.ntmps67
        go_wp2_with fail
        refine bodyPost_ret (results_none rfl _ _ _) rfl ?_
        first | exact ⟨rfl, _, ⟨lv, by rw [HSK.out]; exact (HSN.out _ HBL.out).2⟩, (HSN.out _ HBL.out).1⟩ | exact ⟨rfl, _, lv, by rw [HSK.out]; exact (HSN.out _ HBL.out).2, (HSN.out _ HBL.out).1⟩
      · cases hin : inL met b with
        | true =>
          have HSK : RowKit.Hid (walkF n (nxF f) (k + 1) (met, left) b = (met, left)) := Lib.hid (walkF_skip (.inr (of_decide_eq_true hin)))
          rw [hin] at CH
          clear hin
          go_enter Tryd.func67, Tryd.ntmps67
          go_wp2_with (go_at_call 20; refine CH.out.mono ?_; rintro e u ⟨rfl, rfl⟩)
          refine bodyPost_ret (results_none rfl _ _ _) rfl ?_
          first | exact ⟨rfl, _, ⟨lv, by rw [HSK.out]; exact (HSN.out _ HBL.out).2⟩, (HSN.out _ HBL.out).1⟩ | exact ⟨rfl, _, lv, by rw [HSK.out]; exact (HSN.out _ HBL.out).2, (HSN.out _ HBL.out).1⟩
        | false =>
          obtain ⟨p, rfl⟩ : ∃ p : Nat, b = p := Int.eq_ofNat_of_zero_le (by omega)
          have hpn : p < n := by omega
          have hT : There n (p : Int) := ⟨by omega, by omega⟩
          have hM : (p : Int) ∉ met := of_decide_eq_false hin
          rw [hin] at CH
          have HWN := Lib.hid (walkF_now (nx := nxF f) (k := k) (left := left) hT hM)
          have HT := Lib.hid hT
          have HM := Lib.hid hM
          obtain ⟨g2, off2, pa, pn, pc, oa, on, oc, la, ln, lc, xa, xn, xc, rfl, hg2, hblk⟩ := block_at hrow hpn
          clear hin hT hM
          go_enter Tryd.func67, Tryd.ntmps67
          go_upto_region 3 with (first | (go_at_call 20; refine CH.out.mono ?_; rintro e u ⟨rfl, rfl⟩) | ((with_reducible refine wpList_append_numW _ rfl _ _ 34 rfl 3 Tryd.underlying34 info_int (pw + 1) (.slice ma mn mc) met ?_ ?_ ?_ _ 1 (W.heap.size + 1) (p : Int) ?_ ?_ ?_ ?_ ?_); (next => rfl); (next => exact (HSN.out _ HBL.out).2.met); (next => simp; omega); (next => rfl); (next => simp); (next => rfl); (next => have := HINV.out.len; omega); intro ya yn yc w1 ho hg hwh; have HMT := Lib.hid (WkSt.meet (HSN.out _ HBL.out).2 ho hg hwh); clear ho hg hwh; have hd0 : w1.cell? ⟨pw, 0, none⟩ = some (.slice ma mn mc) := (by have := HMT.out.1; unfold WkAt at this; simp [World.cell?, this]); have hdf : w1.frozen? ⟨pw, 0, none⟩ = false := (by have := HMT.out.1; unfold WkAt at this; simp [World.frozen?, this])))
          obtain ⟨U, hU⟩ : ∃ U, w1.setCell ⟨pw, 0, none⟩ (.slice ya yn yc) = U := ⟨_, rfl⟩
          rw [hU] at HMT ⊢
          clear hU hd0 hdf
          have hkU := HMT.out.2.2
          have hsU := HMT.out.2.1
          have hmlt : ∀ i, (Value.slice ma mn mc).ownBlock = some i → i < W.heap.size := fun i hi => by have h1 := (HST.out.met.lt i hi).2; exact h1
          have hylt : ∀ i, (Value.slice ya yn yc).ownBlock = some i → i < U.heap.size := fun i hi => (hsU.met.lt i hi).2
          have hyne : (Value.slice ya yn yc).ownBlock ≠ some W.heap.size := fun e => by
            rcases hkU.new _ e with h | h
            · have := hmlt _ h; omega
            · simp at h; omega
          have hUsz : W.heap.size < U.heap.size := by have := hkU.off.size; simp at this; omega
          have hbU0 : U.cell? ⟨W.heap.size, 0, none⟩ = some (.int .i64 r) := (hkU.off.cell (p := ⟨W.heap.size, 0, none⟩) (by simp) (fun e => by rcases e with e | e; (have e2 : W.heap.size = pw := e; omega); exact absurd (hmlt _ e) (Nat.lt_irrefl _))).trans (World.cell?_alloc_mark _ _ _ _ _)
          have hbU1 : U.cell? ⟨W.heap.size, 1, none⟩ = some (.slice (some ⟨g2, off2, none⟩) n c) := (hkU.off.cell (p := ⟨W.heap.size, 1, none⟩) (by simp) (fun e => by rcases e with e | e; (have e2 : W.heap.size = pw := e; omega); exact absurd (hmlt _ e) (Nat.lt_irrefl _))).trans (World.cell?_alloc_mark _ _ _ _ _)
          have hWU : Below w0.heap.size W U := (HBL.out.mono HB.out.size).trans (hkU.below (HSN.out _ HBL.out).2.met hp (by simp; have := HB.out.size; omega))
          have HBU := Lib.hid (HB.out.trans hWU)
          obtain ⟨d0, d1, d2, d3, d4, d5, d6, d7⟩ := hblk U HBU.out
          have CN : RowKit.Hid (∀ u, Calls Tryd.prog 29 #[.agg #[.slice pa pn pc, .slice oa on oc, .int .i64 (theEnd f p).K, .int .i64 (theEnd f p).A, .int .i64 (theEnd f p).To, .int .i64 (theEnd f p).Else, .slice la ln lc, .slice xa xn xc]] u fun e' w' => ∃ va vn vc, e' = .returned (.slice va vn vc) ∧ OwnsI w' u.heap.size 3 (.slice va vn vc) (nextL (theEnd f p)) ∧ Below u.heap.size u w') := Lib.hid fun u => refnext_any pa pn pc oa on oc (theEnd f p).A la ln lc xa xn xc (theEnd f p) u
          have HNL := Lib.hid (next_len (theEnd f p))
          have HNX : RowKit.Hid (nxF f p = nextL (theEnd f p)) := Lib.hid rfl
          have HSU := Lib.hid hsU
          have HKU := Lib.hid hkU
          have HPN : RowKit.Hid (Inv n (met ++ [(p : Int)])) := Lib.hid (HINV.out.more HT.out HM.out)
          have HROOM := Lib.hid (HINV.out.room HT.out HM.out)
          generalize (theEnd f p).K = EK at *
          generalize (theEnd f p).A = EA at *
          generalize (theEnd f p).To = ET at *
          generalize (theEnd f p).Else = EE at *
          have hpi : (p : Int) < (n : Int) := by omega
          clear hblk hcM hcL hsU hkU hWU
          go_upto_region 4 with (go_at_call 29; refine (CN.out _).mono ?_; rintro e v1 ⟨za, zn, zc, rfl, ho, hb1⟩; have HO := Lib.hid ho; have HB1 := Lib.hid hb1; have hzl : (nextL (theEnd f p)).length = zn := ho.read.1; clear ho hb1)
          have HZL := Lib.hid hzl
          have hzn : zn ≤ 2 := by have := HNL.out; omega
          have hb10 : v1.cell? ⟨W.heap.size, 0, none⟩ = some (.int .i64 r) := (HB1.out.cell (p := ⟨W.heap.size, 0, none⟩) hUsz).trans hbU0
          have hb11 : v1.cell? ⟨W.heap.size, 1, none⟩ = some (.slice (some ⟨g2, off2, none⟩) n c) := (HB1.out.cell (p := ⟨W.heap.size, 1, none⟩) hUsz).trans hbU1
          have HKT : RowKit.Hid (∀ (u : World) (mv2 : Value), WkKeep pw v1 u (.slice ya yn yc) mv2 → u.cell? ⟨W.heap.size, 0, none⟩ = some (.int .i64 r) ∧ u.cell? ⟨W.heap.size, 1, none⟩ = some (.slice (some ⟨g2, off2, none⟩) n c)) := Lib.hid fun u mv2 hu => ⟨(hu.off.cell (p := ⟨W.heap.size, 0, none⟩) (Nat.lt_of_lt_of_le hUsz HB1.out.size) (fun e => by rcases e with e | e; (have e2 : W.heap.size = pw := e; omega); exact hyne e)).trans hb10, (hu.off.cell (p := ⟨W.heap.size, 1, none⟩) (Nat.lt_of_lt_of_le hUsz HB1.out.size) (fun e => by rcases e with e | e; (have e2 : W.heap.size = pw := e; omega); exact hyne e)).trans hb11⟩
          have HYLT := Lib.hid hylt
          have HS1 : RowKit.Hid (WkSt pw v1 (.slice ya yn yc) lv (met ++ [(p : Int)]) left) := Lib.hid (HSU.out.since HB1.out)
          have HUSZ := Lib.hid hUsz
          clear hzl d0 d1 d2 d3 d4 d5 d6 d7 hbU0 hbU1 hb10 hb11 hyne hylt CN CH
          go_wp2_with fail
          go_loopw [7] (fun v7 wr => ∃ i : Nat, i ≤ zn ∧ v7 = .int .i64 (i : Int) ∧ RowKit.Hid (∃ mv2 lv2, WkSt pw wr mv2 lv2 (((nextL (theEnd f p)).take i).foldl (walkF n (nxF f) k) (met ++ [(p : Int)], left)).1 (((nextL (theEnd f p)).take i).foldl (walkF n (nxF f) k) (met ++ [(p : Int)], left)).2 ∧ WkKeep pw v1 wr (.slice ya yn yc) mv2)) (fun v7 _ => zn - (intOf v7).toNat)
          case atStart => exact ⟨0, Nat.zero_le _, rfl, Lib.hid ⟨_, lv, HS1.out, WkKeep.refl _ _ _⟩⟩
          case round =>
            obtain ⟨i, hi, rfl, HI⟩ := hrel
            obtain ⟨wo, hwo⟩ : ∃ u, u = wr := ⟨_, rfl⟩
            rw [← hwo] at HI ⊢
            clear hwo
            obtain ⟨mv2, lv2, hs2, hk2⟩ := HI.out
            have hwi : wrap64 ((i : Int) + 1) = (i : Int) + 1 := by unfold wrap64; omega
            obtain ⟨s2, hs2e⟩ : ∃ s, s = ((nextL (theEnd f p)).take i).foldl (walkF n (nxF f) k) (met ++ [(p : Int)], left) := ⟨_, rfl⟩
            have hff := fold_facts (nx := nxF f) k ((nextL (theEnd f p)).take i) (met ++ [(p : Int)], left) HPN.out (by have h1 := HKK.out; have h2 := HROOM.out; simp only [List.length_append, List.length_cons, List.length_nil]; exact croom_step h1 h2 (Nat.le_refl _)) (by have := HLE.out; simp; omega)
            rw [← hs2e] at hff hs2
            obtain ⟨hf1, hf2, hf3⟩ := hff
            have HF2 : RowKit.Hid (met.length + 1 ≤ s2.1.length) := Lib.hid (by simpa using hf2)
            clear hf2
            have HS2E := Lib.hid hs2e
            have HF1 := Lib.hid hf1
            have HF3 := Lib.hid hf3
            have HK2 := Lib.hid hk2
            have HS2 := Lib.hid hs2
            have HW2 : RowKit.Hid (Below w0.heap.size w0 wo) := Lib.hid (HBU.out.trans ((HB1.out.mono HBU.out.size).trans (hk2.below HS1.out.met hp (by have := HBU.out.size; have := HB1.out.size; omega))))
            clear HI hs2e hs2 hf1 hf3
            by_cases hlt : i < zn
            · have h00 : 0 < zn := Nat.lt_of_le_of_lt (Nat.zero_le i) hlt
              have hrd := HO.out.read.2 h00
              obtain ⟨gl, ol, hza, hgl, hcs⟩ := hrd
              subst hza
              have hin : i < (nextL (theEnd f p)).length := by rw [HZL.out]; exact hlt
              have HIN := Lib.hid hin
              obtain ⟨z, hz⟩ : ∃ z, z = (nextL (theEnd f p))[i]'HIN.out := ⟨_, rfl⟩
              have HZ := Lib.hid hz
              have hcz : v1.cell? ⟨gl, ol + i, none⟩ = some (.int .i64 z) := by rw [hz]; exact hcs i hin
              have hgu : U.heap.size ≤ gl := (HO.out.lt gl rfl).1
              have HK7 : RowKit.Hid (∀ (u : World) (mv3 : Value), WkKeep pw v1 u (.slice ya yn yc) mv3 → (fun u : World => u.cell? ⟨W.heap.size, 0, none⟩ = some (.int .i64 r) ∧ u.cell? ⟨W.heap.size, 1, none⟩ = some (.slice (some ⟨g2, off2, none⟩) n c) ∧ u.cell? ⟨gl, ol + i, none⟩ = some (.int .i64 z)) u) := Lib.hid fun u mv3 hu => ⟨(HKT.out u mv3 hu).1, (HKT.out u mv3 hu).2, (hu.off.cell (p := ⟨gl, ol + i, none⟩) hgl (fun e => by rcases e with e | e; (have e2 : gl = pw := e; have := HUSZ.out; omega); (have := HYLT.out gl e; omega))).trans hcz⟩
              have IH : RowKit.Hid (Calls Tryd.prog 67 #[.pointer (some ⟨pw, 0, none⟩), .agg #[.int .i64 r, .slice (some ⟨g2, off2, none⟩) n c], .int .i64 z] wo.drew fun e W' => e = .returned (.tuple #[]) ∧ ∃ mv' lv', WkSt pw W' mv' lv' (walkF n (nxF f) k (s2.1, s2.2) z).1 (walkF n (nxF f) k (s2.1, s2.2) z).2 ∧ WkKeep pw wo.drew W' mv2 mv') := Lib.hid (HIH.out z s2.1 s2.2 mv2 lv2 wo.drew HW2.out.drew (HS2.out.since (Below.refl _ _).drew) HF1.out HF3.out (croom_step HKK.out HROOM.out HF2.out))
              have hkd : WkKeep pw v1 wo.drew (.slice ya yn yc) mv2 := HK2.out.trans (WkKeep.since (Below.refl _ _).drew)
              have hz1 : (i : Int) < (zn : Int) := Int.ofNat_lt.2 hlt
              clear hcs hz hin hcz hgl hgu hk2
              go_upto_region 7 with fail
              refine wp_region_held_drew (S := (fun u : World => u.cell? ⟨W.heap.size, 0, none⟩ = some (.int .i64 r) ∧ u.cell? ⟨W.heap.size, 1, none⟩ = some (.slice (some ⟨g2, off2, none⟩) n c) ∧ u.cell? ⟨gl, ol + i, none⟩ = some (.int .i64 z))) (by kernel_rfl) (HK7.out _ _ hkd) (fun hHeld => ?_)
              refine wpAnyH_take (i := 0) (oi := ⟨some 47, _, _, _, _, _⟩) (v := ?_) rfl (by kernel_rfl) (by kernel_rfl) (by kernel_rfl) (fun _ _ _ h => h) (Or.inl ⟨by rfl, ?_⟩) (by assumption) ?_
              rotate_left
              · ((intro w hSw; (try dsimp only at hSw); go_simp); try with_reducible rfl)
              (try simp only [Act.put, List.setIfInBounds_toArray, List.set_cons_zero, List.set_cons_succ])
              refine wpAnyH_take (i := 1) (oi := ⟨some 48, _, _, _, _, _⟩) (v := ?_) rfl (by kernel_rfl) (by kernel_rfl) (by kernel_rfl) (fun _ _ _ h => h) (Or.inl ⟨by rfl, ?_⟩) (by assumption) ?_
              rotate_left
              · ((intro w hSw; (try dsimp only at hSw); go_simp); try with_reducible rfl)
              (try simp only [Act.put, List.setIfInBounds_toArray, List.set_cons_zero, List.set_cons_succ])
              refine wpAnyH_take (i := 2) (oi := ⟨some 49, _, _, _, _, _⟩) (v := ?_) rfl (by kernel_rfl) (by kernel_rfl) (by kernel_rfl) (fun _ _ _ h => h) (Or.inl ⟨by rfl, ?_⟩) (by assumption) ?_
              rotate_left
              · ((intro w hSw; (try dsimp only at hSw); go_simp); try with_reducible rfl)
              (try simp only [Act.put, List.setIfInBounds_toArray, List.set_cons_zero, List.set_cons_succ])
              refine wpAnyH_take (i := 3) (oi := ⟨some 50, _, _, _, _, _⟩) (v := ?_) rfl (by kernel_rfl) (by kernel_rfl) (by kernel_rfl) (fun _ _ _ h => h) (Or.inl ⟨by rfl, ?_⟩) (by assumption) ?_
              rotate_left
              · ((intro w hSw; (try dsimp only at hSw); go_simp); try with_reducible rfl)
              (try simp only [Act.put, List.setIfInBounds_toArray, List.set_cons_zero, List.set_cons_succ])
              refine wpAnyH_take (i := 4) (oi := ⟨some 51, _, _, _, _, _⟩) (v := ?_) rfl (by kernel_rfl) (by kernel_rfl) (by kernel_rfl) (fun _ _ _ h => h) (Or.inl ⟨by rfl, ?_⟩) (by assumption) ?_
              rotate_left
              · ((intro w hSw; (try dsimp only at hSw); go_simp); try with_reducible rfl)
              (try simp only [Act.put, List.setIfInBounds_toArray, List.set_cons_zero, List.set_cons_succ])
              refine wpAnyH_take (i := 5) (oi := ⟨some 52, _, _, _, _, _⟩) (v := ?_) rfl (by kernel_rfl) (by kernel_rfl) (by kernel_rfl) (fun _ _ _ h => h) (Or.inl ⟨by rfl, ?_⟩) (by assumption) ?_
              rotate_left
              · ((intro w hSw; (try dsimp only at hSw); go_simp); try with_reducible rfl)
              (try simp only [Act.put, List.setIfInBounds_toArray, List.set_cons_zero, List.set_cons_succ])
              refine wpAnyH_ready (rs := [6]) (by kernel_rfl) (by simp) (AllReadyH.cons rfl (fun K hK => ?_) AllReadyH.nil)
              rw [if_pos (by rfl)]
              go_simp
              go_at_call 67
              (with_reducible refine IH.out.mono ?_)
              rintro e v2 ⟨rfl, mv3, lv3, hs3, hk3⟩
              have hk4 : WkKeep pw v1 v2 (.slice ya yn yc) mv3 := hkd.trans hk3
              refine hK.out _ _ (HK7.out _ _ hk4) (fun hHeld => ?_)
              clear hK K
              (try simp only [Act.put, List.setIfInBounds_toArray, List.set_cons_zero, List.set_cons_succ])
              refine wpAnyH_done (by kernel_rfl) ?_ _
              have HS4 : RowKit.Hid (WkSt pw v2 mv3 lv3 (((nextL (theEnd f p)).take (i + 1)).foldl (walkF n (nxF f) k) (met ++ [(p : Int)], left)).1 (((nextL (theEnd f p)).take (i + 1)).foldl (walkF n (nxF f) k) (met ++ [(p : Int)], left)).2) := Lib.hid (by
                rw [List.take_succ_eq_append_getElem HIN.out, List.foldl_append, ← HS2E.out, ← HZ.out]
                exact hs3)
              have HK4 := Lib.hid hk4
              clear hs3 hk3 hk4 hkd hmlt hrow hzn hpi hi hHeld hg2 hpl hml hmn2 hpn h0 h1 hUsz h00 hz1 hn hp
              go_wp2_with fail
              go_roundw
              case rel => exact ⟨i + 1, hlt, by go_num, Lib.hid ⟨mv3, lv3, HS4.out, HK4.out⟩⟩
              case measure => rw [hwi]; exact meas_step hlt
            · obtain rfl : i = zn := Nat.le_antisymm hi (Nat.not_lt.1 hlt)
              obtain ⟨qa, qn, qc, rfl, hqn⟩ := HS2.out.left.nums
              have hql : s2.2.length = qn := hqn.1
              have HQN := Lib.hid hqn
              have HQL := Lib.hid hql
              have HNIL := Lib.hid (own_nil HS2.out.left)
              have hcL : wo.cell? ⟨pw, 1, none⟩ = some (.slice qa qn qc) := by have := HS2.out.blk; unfold WkAt at this; simp [World.cell?, this]
              have hpwo : pw < wo.heap.size := (Array.getElem?_eq_some_iff.1 HS2.out.blk).1
              have HFIT : RowKit.Hid ((1 + qn) * 8 ≤ 140737488355328) := Lib.hid (by rw [← HQL.out]; exact left_fits HF3.out HF1.out.len hn)
              have HEND := Lib.hid (walkF_end HWN.out HNX.out HZL.out HS2E.out)
              clear hqn hql hi hlt hk2 hwi
              go_upto_region 8 with fail
              go_wp2_with (at_builtin; (with_reducible refine wpList_append_nums _ rfl _ _ 34 rfl 3 Tryd.underlying34 info_int wo.heap.size (.slice (some ⟨wo.heap.size, 0, none⟩) 1 1) [(p : Int)] ?_ ?_ ?_ qa qn qc s2.2 ?_ ?_ ?_ ?_ ?_); (next => rfl); (next => exact one_own wo (p : Int)); (next => simp); (next => rfl); (next => exact HNIL.out); (next => exact HQN.out.since ((Below.refl wo.heap.size wo).alloc (Nat.le_refl _) _)); (next => exact HFIT.out); intro ea en ec w5 ho hb5; have HLV := Lib.hid (WkSt.leave HS2.out (((Below.refl wo.heap.size wo).alloc (Nat.le_refl _) _).trans hb5) ho); have hd1 : w5.cell? ⟨pw, 1, none⟩ = some (.slice qa qn qc) := (by have := HLV.out.1; unfold WkAt at this; simp [World.cell?, this]); have hdf : w5.frozen? ⟨pw, 1, none⟩ = false := (by have := HLV.out.1; unfold WkAt at this; simp [World.frozen?, this]); clear ho hb5)
              go_end0
              have hkeep := (WkKeep.since HBL.out).trans (HKU.out.trans ((WkKeep.since HB1.out).trans (HK2.out.trans HLV.out.2.2)))
              first | exact ⟨rfl, _, ⟨_, by rw [HEND.out.1, HEND.out.2]; exact HLV.out.2.1⟩, hkeep⟩ | exact ⟨rfl, _, _, by rw [HEND.out.1, HEND.out.2]; exact HLV.out.2.1, hkeep⟩
end Go.Proofs.YtdchhfdmingnaaaDoor
