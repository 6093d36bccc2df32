/- Layer 5: the walk's list, with a reader, at each type of what is listed (gen/rklist.py). -/
import Derived.Test.YtfnkmigcklmghaaDoorQCodeRw
import Derived.Test.YtfnkmigcklmghaaDoorQT0

namespace Go.Proofs.YtfnkmigcklmghaaDoor
open Go.RowKit (wrap64 intOf Below)
set_option linter.unusedVariables false
set_option linter.unusedSimpArgs false

/-- A list of the call's own, and one more place of which the cells are known alone. -/
def RowR {α : Type} (T k : Nat) (Q : World → (Nat → Prop) → List Value → α → Prop) (w : World) (S : Nat → Prop) (v : Value) (xs : List α) (C : List Value) : Prop :=
  ∃ css : List (List Value), w.ownsRow 0 T k v (xs.length + 1) (css.flatten ++ C) ∧ css.length = xs.length ∧ (∀ cs ∈ css, cs.length = k) ∧ C.length = k ∧ (∀ b, v.ownBlock = some b → S b) ∧ xs.length ≤ 100000 ∧
    ∀ i (h : i < xs.length) (h' : i < css.length), Q w (fun b => S b ∧ v.ownBlock ≠ some b) css[i] xs[i]
theorem RowO.same {α : Type} {T k : Nat} {Q : World → (Nat → Prop) → List Value → α → Prop} {w : World} {S : Nat → Prop} {a : Option Addr} {n c : Nat} {xs : List α} (h : RowO T k Q w S (.slice a n c) xs) : n = xs.length := by
  obtain ⟨css, h1, _⟩ := h
  rcases h1.2 with ⟨he, h0⟩ | ⟨g, cap, cur, he, _⟩
  · cases he; exact h0.symm
  · cases he; rfl
theorem wpList_append_raw {P : Program} (w : World) {ops : Array Oper} {rest : List Oper} {o : Oper} {a : Act} {Q' : Exit → Act → World → Prop} (hgd : o.guard = none) (s x : Operand) (t : TypeId)
    (ho : o.op = .call { callee := .builtin .append, args := #[s, x], argTypes := #[t, t] }) (e : TypeId) (ht : P.underlying t = some (.slice e)) (z : Value) (k bytes : Nat)
    (hinfo : (P.info? e).map (fun i => (i.zero, i.size, i.bytes)) = some (some z, k, bytes)) (hzs : z.cells.size = k) (hk : 0 < k) (hby : bytes ≤ 1000)
    {α : Type} {Q : World → (Nat → Prop) → List Value → α → Prop} (hQ : Holds Q) (B : Nat) (v : Value) (xs : List α) (hs : a.eval s = v) (hrow : RowO e k Q w (From B) v xs) (hB : B ≤ w.heap.size)
    (C : Array Value) (c g : Nat) (hx : a.eval x = .slice (some ⟨g, 0, none⟩) 1 c) (hg : g = w.heap.size) (hC : C.size = k) (h1 : ∀ u ∈ C.toList, u.oneCell' = true) (hn : xs.length ≤ 100000)
    (h : ∀ g' cap w', RowR e k Q w' (From B) (.slice (some ⟨g', 0, none⟩) (xs.length + 1) cap) xs C.toList → Below B w w' → B ≤ g' → Off (fun b => v.ownBlock = some b) w w' → wpList P ops Q' rest (a.put o.dst (.slice (some ⟨g', 0, none⟩) (xs.length + 1) cap)) w') : wpList P ops Q' (o :: rest) a (w.alloc (.cells C e)) := by
  obtain ⟨i0, hi, hz0, hz1, hz2⟩ := info_parts hinfo
  subst hg
  obtain ⟨css, r1, r2, r3, r4, r5, r6⟩ := hrow
  have hown := ownsRow_base r1 (base' := B) (fun b hb => r4 b hb)
  refine wpList_append_lies _ hgd s x t ho B e i0 z k bytes ht hi hz0 hz1 hz2 hzs hk v xs.length css.flatten hs (World.ownsRow.alloc hown _) ⟨w.heap.size, 0, none⟩ 1 c C.toList hx (by simp [hC]) (World.news_of_block (heap_alloc_new w _)) h1 (by omega) (by unfold maxLen; omega) (Nat.le_trans (Nat.mul_le_mul (show xs.length + 1 ≤ 100001 by omega) hby) (by decide)) (by simp; omega) (w.heap.size + 1) (by simp) ?_
  intro g' cap w' hown' hgrow hat hlt
  have hkeep : ∀ b, b < w.heap.size → v.ownBlock ≠ some b → w'.heap[b]? = w.heap[b]? := fun b hb hne => (hgrow.block b (by simp; omega) (fun e => hne e.symm)).trans (heap_alloc_old w _ hb)
  have hne' : ∀ b, b < w.heap.size → v.ownBlock ≠ some b → g' ≠ b := fun b hb hne e => by
    subst e
    rcases hat with h' | h'
    · exact hne h'
    · omega
  have hgB : B ≤ g' := by
    rcases hat with h' | h'
    · exact r4 g' h'
    · omega
  refine h _ _ w' ⟨css, ownsRow_base hown' (base' := 0) (fun _ _ => Nat.zero_le _), r2, r3, by simpa using hC, ?_, hn, ?_⟩ (Below.grown ((Below.refl B w).alloc hB _) hgrow (by simp; omega) (fun k hk => r4 k hk)) hgB ?_
  · intro b hb
    simp only [Value.ownBlock, Option.some.injEq] at hb
    subst hb
    exact hgB
  · intro i hi1 hi2
    exact hQ _ _ _ _ _ _ (fun b hb hS => ⟨hkeep b hb hS.2, hS.1, by simp only [Value.ownBlock, ne_eq, Option.some.injEq]; exact hne' b hb hS.2⟩) (r6 i hi1 hi2)
  · exact (Off.alloc (Off.refl _ _) _).grown hgrow (fun k hk => .inl hk)
theorem RowR.win {α : Type} {T k : Nat} {Q : World → (Nat → Prop) → List Value → α → Prop} {w : World} {S : Nat → Prop} {g n c : Nat} {xs : List α} {C : List Value} (h : RowR T k Q w S (.slice (some ⟨g, 0, none⟩) n c) xs C) : WinAt w g (xs.length * k) C := by
  obtain ⟨css, r1, r2, r3, r4, r5, r6, r7⟩ := h
  have h1 : w.ownsRow 0 T k (.slice (some ⟨g, 0, none⟩) n c) (xs.length + 1) (css ++ [C]).flatten := by simpa using r1
  have hk : ∀ cs ∈ css ++ [C], cs.length = k := fun cs hcs => by
    rcases List.mem_append.1 hcs with h' | h'
    · exact r3 cs h'
    · simp only [List.mem_singleton] at h'; rw [h']; exact r4
  have := ownsRow_win h1 hk (g := g) rfl (i := css.length) (by simp)
  have h2 : (css ++ [C])[css.length]'(by simp) = C := by simp
  rw [h2, r2] at this
  exact this
/-- Its last place filled. -/
theorem RowR.fill {α : Type} {T k : Nat} {Q : World → (Nat → Prop) → List Value → α → Prop} (hQ : Holds Q) {r B : Nat} {w w' : World} {g n c : Nat} {xs : List α} {C cs : List Value} {x : α} (h : RowR T k Q w (From B) (.slice (some ⟨g, 0, none⟩) n c) xs C) (hw : RWin r g (xs.length * k) k w w') (hc : WinAt w' g (xs.length * k) cs) (hl : cs.length = k) (hq : Q w' (From w.heap.size) cs x) (hr : r < B) (hB : B ≤ w.heap.size) :
    RowO T k Q w' (From B) (.slice (some ⟨g, 0, none⟩) n c) (xs ++ [x]) := by
  obtain ⟨css, r1, r2, r3, r4, r5, r6, r7⟩ := h
  obtain ⟨cur, cur', T', e1, e2, e3, e4⟩ := hw.obj
  obtain ⟨cur2, T2, f1, f2⟩ := hc
  rw [e2] at f1
  cases f1
  have hgl : g < w.heap.size := (Array.getElem?_eq_some_iff.1 e1).1
  rcases r1.2 with ⟨he, _⟩ | ⟨g', cap, cur0, he, hg0, hg1, hc1, hc2, hc3, htake⟩
  · cases he
  · cases he
    rw [e1] at hg1
    cases hg1
    have hfl : css.flatten.length = xs.length * k := by rw [flatten_len css r3, r2]
    refine ⟨css ++ [cs], ⟨by rw [List.flatten_append, List.length_append, List.length_append, hfl]; simp [hl, Nat.succ_mul], .inr ⟨g, c, cur', by rw [List.length_append]; rfl, Nat.zero_le _, e2, by simpa using hc1, hc2, by rw [e3]; exact hc3, ?_⟩⟩, by simp [r2], ?_, r5, by simp; omega, ?_⟩
    · rw [List.length_append]
      apply List.ext_getElem?
      intro j
      have hsz : (xs.length + 1) * k ≤ cur.size := by rw [hc3]; exact Nat.mul_le_mul_right _ hc1
      have hnk : (xs.length + 1) * k = xs.length * k + k := Nat.succ_mul _ _
      rw [List.getElem?_take]
      simp only [List.length_singleton, List.flatten_append, List.flatten_cons, List.flatten_nil, List.append_nil]
      by_cases hj : j < xs.length * k
      · rw [if_pos (by omega), List.getElem?_append_left (by omega)]
        have h1 : (List.take ((xs.length + 1) * k) cur.toList)[j]? = (css.flatten ++ C)[j]? := by rw [htake]
        rw [List.getElem?_take, if_pos (by omega), List.getElem?_append_left (by omega)] at h1
        rw [← h1]
        simpa using e4 j (.inl hj)
      · by_cases hj2 : j < xs.length * k + k
        · rw [if_pos (by omega), List.getElem?_append_right (by omega), hfl, List.getElem?_eq_getElem (show j - xs.length * k < cs.length by omega)]
          have := f2 (j - xs.length * k) (by omega)
          rw [show xs.length * k + (j - xs.length * k) = j by omega] at this
          simpa using this
        · rw [if_neg (by omega), List.getElem?_eq_none (by rw [List.length_append, hfl, hl]; omega)]
    · intro c' hc'
      rcases List.mem_append.1 hc' with h' | h'
      · exact r3 c' h'
      · simp only [List.mem_singleton] at h'; rw [h']; exact hl
    · have hsame : ∀ b, b < w.heap.size → From B b → (Value.slice (some ⟨g, 0, none⟩) (xs.length + 1) c).ownBlock ≠ some b → w'.heap[b]? = w.heap[b]? := fun b hb hS hne => hw.block b hb (fun e => by subst e; have : B ≤ b := hS; omega) (fun e => hne (by rw [e]; rfl))
      intro i hi1 hi2
      by_cases hii : i < xs.length
      · have hic : i < css.length := by omega
        rw [List.getElem_append_left hic, List.getElem_append_left hii]
        exact hQ _ _ _ _ _ _ (fun b hb hS => ⟨hsame b hb hS.1 hS.2, hS⟩) (r7 i hii hic)
      · have hie : i = xs.length := by simp at hi1; omega
        subst hie
        rw [List.getElem_append_right (by omega), List.getElem_append_right (by omega)]
        simp only [r2, Nat.sub_self, List.getElem_cons_zero]
        exact hQ.wider hq (fun b hb hS => ⟨Nat.le_trans hB hS, fun e => by simp only [Value.ownBlock, Option.some.injEq] at e; have : w.heap.size ≤ b := hS; omega⟩)
/-- What comes of a list that is read. -/
def ListPostR {α : Type} (T k : Nat) (Q : World → (Nat → Prop) → List Value → α → Prop) (r B : Nat) (p : PR (List α)) (w : World) (e : Ending) (w' : World) : Prop :=
  (∃ xs rest va vn vc, p = .ok xs rest ∧ e = .returned (.slice va vn vc) ∧ RdAt w' r B rest ∧ RowO T k Q w' (From w.heap.size) (.slice va vn vc) xs ∧ Off (RX r) w w') ∨
  (∃ er, p = .no er ∧ e = .panicked [{ v := .iface 31 (.int .i64 er), recovered := false }] ∧ Off (RX r) w w')
theorem FT.rd {r B : Nat} {L : List UInt8} {w w' : World} (h : FT w) (hr : RdAt w r B L) (hfb : 2 < B) (ho : Off (RX r) w w') : FT w' := fun k hk => by
  rw [ho.cell (p := ⟨2, k, none⟩) h.lt (fun e => by have e : 2 = r := e; have := hr.lt; omega)]
  exact h k hk

theorem rinfo_int : (Tryd.prog.info? 3).map (fun i => (i.zero, i.size, i.bytes)) = some (some (.int .i64 0), 1, 8) := by kernel_rfl
set_option maxRecDepth 100000 in
set_option maxHeartbeats 2000000 in
theorem rl_int {α : Type} (p : List UInt8 → PR α) (Q : World → (Nat → Prop) → List Value → α → Prop) (hQ : Holds Q) (r B : Nat) (L : List UInt8) (most : Nat) (mi : Int) (hmi : mi = (most : Int)) (w : World) (h : RdAt w r B L) (hm : most ≤ 1000) (hft : FT w) (hfb : 2 < B)
    (h1 : OneR 105 p Q 1 [.int .i64 0] r B) :
    Calls Tryd.prog 104 #[.agg #[.iface 97 (.pointer (some ⟨r, 0, none⟩))], .slice none 0 0, .int .i64 mi, .func (.func 105) #[.agg #[.iface 97 (.pointer (some ⟨r, 0, none⟩))]] #[]] w
      (ListPostR 3 1 Q r B (rdList most p L) w) := by
  subst hmi
  have HW := Lib.hid (h.since ((Below.refl _ _).alloc (Nat.le_refl _) (.cells #[.iface 97 (.pointer (some ⟨r, 0, none⟩))] 110)))
  have HH := Lib.hid h
  have HFT := Lib.hid hft
  have H1 := Lib.hid h1
  have hrl := h.lt
  clear h hft h1
  go_enter Tryd.func104, Tryd.ntmps104
  go_wp2_with fail
  refine (rk_count r B L 0 most _ rfl _ HW.out hm).mono ?_
  rintro e w1 (⟨n, L1, hx, rfl, hr1, ho1⟩ | ⟨er, hx, rfl, ho1⟩)
  · have hn : n ≤ 100000 := by
      unfold rdCount at hx
      cases hr : rdNum L with
      | no e => rw [hr] at hx; cases hx
      | ok m rest =>
        rw [hr] at hx
        simp only [PR.bind] at hx
        split at hx
        · cases hx
        · split at hx
          · cases hx
          · cases hx; omega
    have HX := Lib.hid hx
    have HE := Lib.hid ho1.rbehind
    have HR := Lib.hid hr1
    clear hx ho1 hr1
    unfold natV
    go_wp2_with fail
    go_loopw [1, 16] (fun sv iv wr => ∃ (k : Nat) (va : Option Addr) (vc : Nat) , k ≤ n ∧ iv = .int .i64 (k : Int) ∧ sv = .slice va k vc ∧ RowKit.Hid (∃ xs rest, rdTimes p k L1 = .ok xs rest ∧ xs.length = k ∧ RdAt wr r B rest ∧ RowO 3 1 Q wr (From w.heap.size) (.slice va k vc) xs ∧ Off (RX r) w wr)) (fun _ iv _ => n - (intOf iv).toNat)
    case atStart => exact ⟨0, none, 0, Nat.zero_le _, rfl, rfl, Lib.hid ⟨[], L1, rfl, rfl, HR.out, RowO.none _ _, HE.out⟩⟩
    case round =>
      obtain ⟨k, va, vc, hk, rfl, rfl, HK⟩ := hrel
      by_cases hlt : k < n
      · obtain ⟨xs, rest, k1, k2, k3, k4, k5⟩ := HK.out
        subst k2
        have hwz : w.heap.size ≤ wr.heap.size := k5.size
        have hbl : Below wr.heap.size wr wr := Below.refl _ _
        have HROW := Lib.hid (k4.holds hQ (w' := wr) (S' := From w.heap.size) (fun b hb hS => ⟨hbl.block b hb, hS⟩))
        have HRD := Lib.hid (k3.since hbl)
        have HOF := Lib.hid (k5.trans (Off.since (X := RX r) hbl))
        have HK1 := Lib.hid k1
        have hsz : w.heap.size ≤ wr.heap.size := Nat.le_trans hwz hbl.size
        have hown : ∀ b, (Value.slice va xs.length vc).ownBlock = some b → w.heap.size ≤ b := fun b hb => (k4.own hb).1
        have HOWN := Lib.hid hown
        have HLE : RowKit.Hid (xs.length ≤ 100000) := Lib.hid (by omega)
        clear k1 k3 k4 k5 hbl hown HK
        go_wp2_with (at_builtin; refine wpList_append_raw wr rfl _ _ 36 rfl 3 Tryd.underlying36 _ 1 8 rinfo_int rfl (by decide) (by decide) hQ w.heap.size (.slice va xs.length vc) xs rfl HROW.out hsz _ 1 wr.heap.size rfl (by simp) rfl (by intro u hu; simp at hu; subst hu; rfl) HLE.out ?_; intro g2 cap w2 hrow2 hb2 hg2 hoff2)
        have hw2 : Off (RX r) w w2 := HOF.out.trans_new hoff2 (fun i hi => .inr (HOWN.out i hi))
        have hrd2 : RdAt w2 r B rest := HRD.out.stays hoff2 (fun i hi => ⟨Nat.le_trans (Nat.le_of_lt (Nat.lt_of_le_of_lt hrl.1 hrl.2)) (HOWN.out i hi), fun e => by subst e; have := HOWN.out i hi; omega⟩)
        have HW2 := Lib.hid hw2
        have HRD2 := Lib.hid hrd2
        have HR2 := Lib.hid hrow2
        have HWI := Lib.hid hrow2.win
        have HF2 := Lib.hid (HFT.out.rd HH.out hfb hw2)
        have hwz2 : w.heap.size ≤ w2.heap.size := hw2.size
        clear hrow2 hoff2 hw2 hrd2 hb2
        go_wp2_with fail
        refine (H1.out w2 rest g2 (xs.length) HRD2.out (by have h := HWI.out; rwa [Nat.mul_one] at h) (by omega) (by omega) HF2.out).mono ?_
        rintro e w3 (⟨x, rest2, cs, hp, rfl, hr3, hwin, hcl, hcw, hq⟩ | ⟨er, hp, rfl, hoff⟩)
        · have hfin := HR2.out.fill hQ (r := r) (by rw [Nat.mul_one]; exact hwin) (by rw [Nat.mul_one]; exact hcw) hcl hq hrl.2 hwz2
          have hw3 : Off (RX r) w w3 := HW2.out.trans_new hwin.offs (fun i hi => by rcases hi with rfl | rfl; exact .inl rfl; exact .inr hg2)
          have HK' : RowKit.Hid (∃ xs' rest', rdTimes p (xs.length + 1) L1 = .ok xs' rest' ∧ xs'.length = xs.length + 1 ∧ RdAt w3 r B rest' ∧ RowO 3 1 Q w3 (From w.heap.size) (.slice (some ⟨g2, 0, none⟩) (xs.length + 1) cap) xs' ∧ Off (RX r) w w3) := Lib.hid ⟨xs ++ [x], rest2, by rw [rdTimes_more, HK1.out]; simp only [PR.bind, hp], by simp, hr3, hfin, hw3⟩
          clear hfin hw3 hp hr3 hwin hcw hq
          go_wp2_with fail
          go_roundw
          case rel => exact ⟨xs.length + 1, _, cap, by omega, by go_num, rfl, HK'⟩
          case measure => simp [intOf]; omega
        · have HP : RowKit.Hid (rdList most p L = .no er ∧ Off (RX r) w w3) := Lib.hid ⟨by unfold rdList; rw [HX.out]; exact rdTimes_no HK1.out hp hlt, HW2.out.trans_new hoff (fun i hi => by rcases hi with rfl | rfl; exact .inl rfl; exact .inr hg2)⟩
          clear hp hoff
          go_wp2_with fail
          exact ⟨rfl, .inr ⟨er, HP.out.1, rfl, HP.out.2⟩⟩
      · obtain rfl : k = n := by omega
        obtain ⟨xs, rest, k1, k2, k3, k4, k5⟩ := HK.out
        have HP : RowKit.Hid (rdList most p L = .ok xs rest ∧ RdAt wr r B rest ∧ RowO 3 1 Q wr (From w.heap.size) (.slice va k vc) xs ∧ Off (RX r) w wr) := Lib.hid ⟨by unfold rdList; rw [HX.out]; exact k1, k3, k4, k5⟩
        clear k1 k2 k3 k4 k5 HK
        go_wp2_with fail
        go_ret
        exact .inl ⟨xs, rest, va, k, vc, HP.out.1, rfl, HP.out.2⟩
  · have HP : RowKit.Hid (rdList most p L = .no er ∧ Off (RX r) w w1) := Lib.hid ⟨by unfold rdList; rw [hx]; rfl, ho1.rbehind⟩
    clear hx ho1
    go_wp2_with fail
    exact ⟨rfl, .inr ⟨er, HP.out.1, rfl, HP.out.2⟩⟩

theorem rinfo_sig : (Tryd.prog.info? 52).map (fun i => (i.zero, i.size, i.bytes)) = some (some (.agg #[.slice none 0 0, .int .i64 0]), 2, 32) := by kernel_rfl
set_option maxRecDepth 100000 in
set_option maxHeartbeats 2000000 in
theorem rl_sig {α : Type} (p : List UInt8 → PR α) (Q : World → (Nat → Prop) → List Value → α → Prop) (hQ : Holds Q) (r B : Nat) (L : List UInt8) (most : Nat) (mi : Int) (hmi : mi = (most : Int)) (w : World) (h : RdAt w r B L) (hm : most ≤ 1000) (hft : FT w) (hfb : 2 < B)
    (h1 : OneR 86 p Q 2 [.slice none 0 0, .int .i64 0] r B) :
    Calls Tryd.prog 85 #[.agg #[.iface 97 (.pointer (some ⟨r, 0, none⟩))], .slice none 0 0, .int .i64 mi, .func (.func 86) #[.agg #[.iface 97 (.pointer (some ⟨r, 0, none⟩))]] #[]] w
      (ListPostR 52 2 Q r B (rdList most p L) w) := by
  subst hmi
  have HW := Lib.hid (h.since ((Below.refl _ _).alloc (Nat.le_refl _) (.cells #[.iface 97 (.pointer (some ⟨r, 0, none⟩))] 110)))
  have HH := Lib.hid h
  have HFT := Lib.hid hft
  have H1 := Lib.hid h1
  have hrl := h.lt
  clear h hft h1
  go_enter Tryd.func85, Tryd.ntmps85
  go_wp2_with fail
  refine (rk_count r B L 0 most _ rfl _ HW.out hm).mono ?_
  rintro e w1 (⟨n, L1, hx, rfl, hr1, ho1⟩ | ⟨er, hx, rfl, ho1⟩)
  · have hn : n ≤ 100000 := by
      unfold rdCount at hx
      cases hr : rdNum L with
      | no e => rw [hr] at hx; cases hx
      | ok m rest =>
        rw [hr] at hx
        simp only [PR.bind] at hx
        split at hx
        · cases hx
        · split at hx
          · cases hx
          · cases hx; omega
    have HX := Lib.hid hx
    have HE := Lib.hid ho1.rbehind
    have HR := Lib.hid hr1
    clear hx ho1 hr1
    unfold natV
    go_wp2_with fail
    go_loopw [1, 16] (fun sv iv wr => ∃ (k : Nat) (va : Option Addr) (vc : Nat) , k ≤ n ∧ iv = .int .i64 (k : Int) ∧ sv = .slice va k vc ∧ RowKit.Hid (∃ xs rest, rdTimes p k L1 = .ok xs rest ∧ xs.length = k ∧ RdAt wr r B rest ∧ RowO 52 2 Q wr (From w.heap.size) (.slice va k vc) xs ∧ Off (RX r) w wr)) (fun _ iv _ => n - (intOf iv).toNat)
    case atStart => exact ⟨0, none, 0, Nat.zero_le _, rfl, rfl, Lib.hid ⟨[], L1, rfl, rfl, HR.out, RowO.none _ _, HE.out⟩⟩
    case round =>
      obtain ⟨k, va, vc, hk, rfl, rfl, HK⟩ := hrel
      by_cases hlt : k < n
      · obtain ⟨xs, rest, k1, k2, k3, k4, k5⟩ := HK.out
        subst k2
        have hwz : w.heap.size ≤ wr.heap.size := k5.size
        have hbl : Below wr.heap.size wr (wr.alloc (.cells #[.slice none 0 0, .int .i64 0] 52)) := (Below.refl _ _).alloc (Nat.le_refl _) _
        have HROW := Lib.hid (k4.holds hQ (w' := (wr.alloc (.cells #[.slice none 0 0, .int .i64 0] 52))) (S' := From w.heap.size) (fun b hb hS => ⟨hbl.block b hb, hS⟩))
        have HRD := Lib.hid (k3.since hbl)
        have HOF := Lib.hid (k5.trans (Off.since (X := RX r) hbl))
        have HK1 := Lib.hid k1
        have hsz : w.heap.size ≤ (wr.alloc (.cells #[.slice none 0 0, .int .i64 0] 52)).heap.size := Nat.le_trans hwz hbl.size
        have hown : ∀ b, (Value.slice va xs.length vc).ownBlock = some b → w.heap.size ≤ b := fun b hb => (k4.own hb).1
        have HOWN := Lib.hid hown
        have HLE : RowKit.Hid (xs.length ≤ 100000) := Lib.hid (by omega)
        clear k1 k3 k4 k5 hbl hown HK
        go_wp2_with (at_builtin; refine wpList_append_raw (wr.alloc (.cells #[.slice none 0 0, .int .i64 0] 52)) rfl _ _ 22 rfl 52 Tryd.underlying22 _ 2 32 rinfo_sig rfl (by decide) (by decide) hQ w.heap.size (.slice va xs.length vc) xs rfl HROW.out hsz _ 1 (wr.heap.size + 1) rfl (by simp) rfl (by intro u hu; simp at hu; rcases hu with rfl | rfl <;> rfl) HLE.out ?_; intro g2 cap w2 hrow2 hb2 hg2 hoff2)
        have hw2 : Off (RX r) w w2 := HOF.out.trans_new hoff2 (fun i hi => .inr (HOWN.out i hi))
        have hrd2 : RdAt w2 r B rest := HRD.out.stays hoff2 (fun i hi => ⟨Nat.le_trans (Nat.le_of_lt (Nat.lt_of_le_of_lt hrl.1 hrl.2)) (HOWN.out i hi), fun e => by subst e; have := HOWN.out i hi; omega⟩)
        have HW2 := Lib.hid hw2
        have HRD2 := Lib.hid hrd2
        have HR2 := Lib.hid hrow2
        have HWI := Lib.hid hrow2.win
        have HF2 := Lib.hid (HFT.out.rd HH.out hfb hw2)
        have hwz2 : w.heap.size ≤ w2.heap.size := hw2.size
        clear hrow2 hoff2 hw2 hrd2 hb2
        go_wp2_with fail
        refine (H1.out w2 rest g2 (xs.length * 2) HRD2.out HWI.out (by omega) (by omega) HF2.out).mono ?_
        rintro e w3 (⟨x, rest2, cs, hp, rfl, hr3, hwin, hcl, hcw, hq⟩ | ⟨er, hp, rfl, hoff⟩)
        · have hfin := HR2.out.fill hQ (r := r) (by exact hwin) (by exact hcw) hcl hq hrl.2 hwz2
          have hw3 : Off (RX r) w w3 := HW2.out.trans_new hwin.offs (fun i hi => by rcases hi with rfl | rfl; exact .inl rfl; exact .inr hg2)
          have HK' : RowKit.Hid (∃ xs' rest', rdTimes p (xs.length + 1) L1 = .ok xs' rest' ∧ xs'.length = xs.length + 1 ∧ RdAt w3 r B rest' ∧ RowO 52 2 Q w3 (From w.heap.size) (.slice (some ⟨g2, 0, none⟩) (xs.length + 1) cap) xs' ∧ Off (RX r) w w3) := Lib.hid ⟨xs ++ [x], rest2, by rw [rdTimes_more, HK1.out]; simp only [PR.bind, hp], by simp, hr3, hfin, hw3⟩
          clear hfin hw3 hp hr3 hwin hcw hq
          go_wp2_with fail
          go_roundw
          case rel => exact ⟨xs.length + 1, _, cap, by omega, by go_num, rfl, HK'⟩
          case measure => simp [intOf]; omega
        · have HP : RowKit.Hid (rdList most p L = .no er ∧ Off (RX r) w w3) := Lib.hid ⟨by unfold rdList; rw [HX.out]; exact rdTimes_no HK1.out hp hlt, HW2.out.trans_new hoff (fun i hi => by rcases hi with rfl | rfl; exact .inl rfl; exact .inr hg2)⟩
          clear hp hoff
          go_wp2_with fail
          exact ⟨rfl, .inr ⟨er, HP.out.1, rfl, HP.out.2⟩⟩
      · obtain rfl : k = n := by omega
        obtain ⟨xs, rest, k1, k2, k3, k4, k5⟩ := HK.out
        have HP : RowKit.Hid (rdList most p L = .ok xs rest ∧ RdAt wr r B rest ∧ RowO 52 2 Q wr (From w.heap.size) (.slice va k vc) xs ∧ Off (RX r) w wr) := Lib.hid ⟨by unfold rdList; rw [HX.out]; exact k1, k3, k4, k5⟩
        clear k1 k2 k3 k4 k5 HK
        go_wp2_with fail
        go_ret
        exact .inl ⟨xs, rest, va, k, vc, HP.out.1, rfl, HP.out.2⟩
  · have HP : RowKit.Hid (rdList most p L = .no er ∧ Off (RX r) w w1) := Lib.hid ⟨by unfold rdList; rw [hx]; rfl, ho1.rbehind⟩
    clear hx ho1
    go_wp2_with fail
    exact ⟨rfl, .inr ⟨er, HP.out.1, rfl, HP.out.2⟩⟩

theorem rinfo_cls : (Tryd.prog.info? 54).map (fun i => (i.zero, i.size, i.bytes)) = some (some (.agg #[.slice none 0 0, .slice none 0 0]), 2, 48) := by kernel_rfl
set_option maxRecDepth 100000 in
set_option maxHeartbeats 2000000 in
theorem rl_cls {α : Type} (p : List UInt8 → PR α) (Q : World → (Nat → Prop) → List Value → α → Prop) (hQ : Holds Q) (r B : Nat) (L : List UInt8) (most : Nat) (mi : Int) (hmi : mi = (most : Int)) (w : World) (h : RdAt w r B L) (hm : most ≤ 1000) (hft : FT w) (hfb : 2 < B)
    (h1 : OneR 88 p Q 2 [.slice none 0 0, .slice none 0 0] r B) :
    Calls Tryd.prog 87 #[.agg #[.iface 97 (.pointer (some ⟨r, 0, none⟩))], .slice none 0 0, .int .i64 mi, .func (.func 88) #[.agg #[.iface 97 (.pointer (some ⟨r, 0, none⟩))]] #[]] w
      (ListPostR 54 2 Q r B (rdList most p L) w) := by
  subst hmi
  have HW := Lib.hid (h.since ((Below.refl _ _).alloc (Nat.le_refl _) (.cells #[.iface 97 (.pointer (some ⟨r, 0, none⟩))] 110)))
  have HH := Lib.hid h
  have HFT := Lib.hid hft
  have H1 := Lib.hid h1
  have hrl := h.lt
  clear h hft h1
  go_enter Tryd.func87, Tryd.ntmps87
  go_wp2_with fail
  refine (rk_count r B L 0 most _ rfl _ HW.out hm).mono ?_
  rintro e w1 (⟨n, L1, hx, rfl, hr1, ho1⟩ | ⟨er, hx, rfl, ho1⟩)
  · have hn : n ≤ 100000 := by
      unfold rdCount at hx
      cases hr : rdNum L with
      | no e => rw [hr] at hx; cases hx
      | ok m rest =>
        rw [hr] at hx
        simp only [PR.bind] at hx
        split at hx
        · cases hx
        · split at hx
          · cases hx
          · cases hx; omega
    have HX := Lib.hid hx
    have HE := Lib.hid ho1.rbehind
    have HR := Lib.hid hr1
    clear hx ho1 hr1
    unfold natV
    go_wp2_with fail
    go_loopw [1, 16] (fun sv iv wr => ∃ (k : Nat) (va : Option Addr) (vc : Nat) , k ≤ n ∧ iv = .int .i64 (k : Int) ∧ sv = .slice va k vc ∧ RowKit.Hid (∃ xs rest, rdTimes p k L1 = .ok xs rest ∧ xs.length = k ∧ RdAt wr r B rest ∧ RowO 54 2 Q wr (From w.heap.size) (.slice va k vc) xs ∧ Off (RX r) w wr)) (fun _ iv _ => n - (intOf iv).toNat)
    case atStart => exact ⟨0, none, 0, Nat.zero_le _, rfl, rfl, Lib.hid ⟨[], L1, rfl, rfl, HR.out, RowO.none _ _, HE.out⟩⟩
    case round =>
      obtain ⟨k, va, vc, hk, rfl, rfl, HK⟩ := hrel
      by_cases hlt : k < n
      · obtain ⟨xs, rest, k1, k2, k3, k4, k5⟩ := HK.out
        subst k2
        have hwz : w.heap.size ≤ wr.heap.size := k5.size
        have hbl : Below wr.heap.size wr (wr.alloc (.cells #[.slice none 0 0, .slice none 0 0] 54)) := (Below.refl _ _).alloc (Nat.le_refl _) _
        have HROW := Lib.hid (k4.holds hQ (w' := (wr.alloc (.cells #[.slice none 0 0, .slice none 0 0] 54))) (S' := From w.heap.size) (fun b hb hS => ⟨hbl.block b hb, hS⟩))
        have HRD := Lib.hid (k3.since hbl)
        have HOF := Lib.hid (k5.trans (Off.since (X := RX r) hbl))
        have HK1 := Lib.hid k1
        have hsz : w.heap.size ≤ (wr.alloc (.cells #[.slice none 0 0, .slice none 0 0] 54)).heap.size := Nat.le_trans hwz hbl.size
        have hown : ∀ b, (Value.slice va xs.length vc).ownBlock = some b → w.heap.size ≤ b := fun b hb => (k4.own hb).1
        have HOWN := Lib.hid hown
        have HLE : RowKit.Hid (xs.length ≤ 100000) := Lib.hid (by omega)
        clear k1 k3 k4 k5 hbl hown HK
        go_wp2_with (at_builtin; refine wpList_append_raw (wr.alloc (.cells #[.slice none 0 0, .slice none 0 0] 54)) rfl _ _ 23 rfl 54 Tryd.underlying23 _ 2 48 rinfo_cls rfl (by decide) (by decide) hQ w.heap.size (.slice va xs.length vc) xs rfl HROW.out hsz _ 1 (wr.heap.size + 1) rfl (by simp) rfl (by intro u hu; simp at hu; rcases hu with rfl | rfl <;> rfl) HLE.out ?_; intro g2 cap w2 hrow2 hb2 hg2 hoff2)
        have hw2 : Off (RX r) w w2 := HOF.out.trans_new hoff2 (fun i hi => .inr (HOWN.out i hi))
        have hrd2 : RdAt w2 r B rest := HRD.out.stays hoff2 (fun i hi => ⟨Nat.le_trans (Nat.le_of_lt (Nat.lt_of_le_of_lt hrl.1 hrl.2)) (HOWN.out i hi), fun e => by subst e; have := HOWN.out i hi; omega⟩)
        have HW2 := Lib.hid hw2
        have HRD2 := Lib.hid hrd2
        have HR2 := Lib.hid hrow2
        have HWI := Lib.hid hrow2.win
        have HF2 := Lib.hid (HFT.out.rd HH.out hfb hw2)
        have hwz2 : w.heap.size ≤ w2.heap.size := hw2.size
        clear hrow2 hoff2 hw2 hrd2 hb2
        go_wp2_with fail
        refine (H1.out w2 rest g2 (xs.length * 2) HRD2.out HWI.out (by omega) (by omega) HF2.out).mono ?_
        rintro e w3 (⟨x, rest2, cs, hp, rfl, hr3, hwin, hcl, hcw, hq⟩ | ⟨er, hp, rfl, hoff⟩)
        · have hfin := HR2.out.fill hQ (r := r) (by exact hwin) (by exact hcw) hcl hq hrl.2 hwz2
          have hw3 : Off (RX r) w w3 := HW2.out.trans_new hwin.offs (fun i hi => by rcases hi with rfl | rfl; exact .inl rfl; exact .inr hg2)
          have HK' : RowKit.Hid (∃ xs' rest', rdTimes p (xs.length + 1) L1 = .ok xs' rest' ∧ xs'.length = xs.length + 1 ∧ RdAt w3 r B rest' ∧ RowO 54 2 Q w3 (From w.heap.size) (.slice (some ⟨g2, 0, none⟩) (xs.length + 1) cap) xs' ∧ Off (RX r) w w3) := Lib.hid ⟨xs ++ [x], rest2, by rw [rdTimes_more, HK1.out]; simp only [PR.bind, hp], by simp, hr3, hfin, hw3⟩
          clear hfin hw3 hp hr3 hwin hcw hq
          go_wp2_with fail
          go_roundw
          case rel => exact ⟨xs.length + 1, _, cap, by omega, by go_num, rfl, HK'⟩
          case measure => simp [intOf]; omega
        · have HP : RowKit.Hid (rdList most p L = .no er ∧ Off (RX r) w w3) := Lib.hid ⟨by unfold rdList; rw [HX.out]; exact rdTimes_no HK1.out hp hlt, HW2.out.trans_new hoff (fun i hi => by rcases hi with rfl | rfl; exact .inl rfl; exact .inr hg2)⟩
          clear hp hoff
          go_wp2_with fail
          exact ⟨rfl, .inr ⟨er, HP.out.1, rfl, HP.out.2⟩⟩
      · obtain rfl : k = n := by omega
        obtain ⟨xs, rest, k1, k2, k3, k4, k5⟩ := HK.out
        have HP : RowKit.Hid (rdList most p L = .ok xs rest ∧ RdAt wr r B rest ∧ RowO 54 2 Q wr (From w.heap.size) (.slice va k vc) xs ∧ Off (RX r) w wr) := Lib.hid ⟨by unfold rdList; rw [HX.out]; exact k1, k3, k4, k5⟩
        clear k1 k2 k3 k4 k5 HK
        go_wp2_with fail
        go_ret
        exact .inl ⟨xs, rest, va, k, vc, HP.out.1, rfl, HP.out.2⟩
  · have HP : RowKit.Hid (rdList most p L = .no er ∧ Off (RX r) w w1) := Lib.hid ⟨by unfold rdList; rw [hx]; rfl, ho1.rbehind⟩
    clear hx ho1
    go_wp2_with fail
    exact ⟨rfl, .inr ⟨er, HP.out.1, rfl, HP.out.2⟩⟩

theorem rinfo_fun : (Tryd.prog.info? 47).map (fun i => (i.zero, i.size, i.bytes)) = some (some (.agg #[.int .i64 0, .slice none 0 0]), 2, 32) := by kernel_rfl
set_option maxRecDepth 100000 in
set_option maxHeartbeats 2000000 in
theorem rl_fun {α : Type} (p : List UInt8 → PR α) (Q : World → (Nat → Prop) → List Value → α → Prop) (hQ : Holds Q) (r B : Nat) (L : List UInt8) (most : Nat) (mi : Int) (hmi : mi = (most : Int)) (w : World) (h : RdAt w r B L) (hm : most ≤ 1000) (hft : FT w) (hfb : 2 < B)
    (h1 : OneR 90 p Q 2 [.int .i64 0, .slice none 0 0] r B) :
    Calls Tryd.prog 89 #[.agg #[.iface 97 (.pointer (some ⟨r, 0, none⟩))], .slice none 0 0, .int .i64 mi, .func (.func 90) #[.agg #[.iface 97 (.pointer (some ⟨r, 0, none⟩))]] #[]] w
      (ListPostR 47 2 Q r B (rdList most p L) w) := by
  subst hmi
  have HW := Lib.hid (h.since ((Below.refl _ _).alloc (Nat.le_refl _) (.cells #[.iface 97 (.pointer (some ⟨r, 0, none⟩))] 110)))
  have HH := Lib.hid h
  have HFT := Lib.hid hft
  have H1 := Lib.hid h1
  have hrl := h.lt
  clear h hft h1
  go_enter Tryd.func89, Tryd.ntmps89
  go_wp2_with fail
  refine (rk_count r B L 0 most _ rfl _ HW.out hm).mono ?_
  rintro e w1 (⟨n, L1, hx, rfl, hr1, ho1⟩ | ⟨er, hx, rfl, ho1⟩)
  · have hn : n ≤ 100000 := by
      unfold rdCount at hx
      cases hr : rdNum L with
      | no e => rw [hr] at hx; cases hx
      | ok m rest =>
        rw [hr] at hx
        simp only [PR.bind] at hx
        split at hx
        · cases hx
        · split at hx
          · cases hx
          · cases hx; omega
    have HX := Lib.hid hx
    have HE := Lib.hid ho1.rbehind
    have HR := Lib.hid hr1
    clear hx ho1 hr1
    unfold natV
    go_wp2_with fail
    go_loopw [1, 16] (fun sv iv wr => ∃ (k : Nat) (va : Option Addr) (vc : Nat) , k ≤ n ∧ iv = .int .i64 (k : Int) ∧ sv = .slice va k vc ∧ RowKit.Hid (∃ xs rest, rdTimes p k L1 = .ok xs rest ∧ xs.length = k ∧ RdAt wr r B rest ∧ RowO 47 2 Q wr (From w.heap.size) (.slice va k vc) xs ∧ Off (RX r) w wr)) (fun _ iv _ => n - (intOf iv).toNat)
    case atStart => exact ⟨0, none, 0, Nat.zero_le _, rfl, rfl, Lib.hid ⟨[], L1, rfl, rfl, HR.out, RowO.none _ _, HE.out⟩⟩
    case round =>
      obtain ⟨k, va, vc, hk, rfl, rfl, HK⟩ := hrel
      by_cases hlt : k < n
      · obtain ⟨xs, rest, k1, k2, k3, k4, k5⟩ := HK.out
        subst k2
        have hwz : w.heap.size ≤ wr.heap.size := k5.size
        have hbl : Below wr.heap.size wr (wr.alloc (.cells #[.int .i64 0, .slice none 0 0] 47)) := (Below.refl _ _).alloc (Nat.le_refl _) _
        have HROW := Lib.hid (k4.holds hQ (w' := (wr.alloc (.cells #[.int .i64 0, .slice none 0 0] 47))) (S' := From w.heap.size) (fun b hb hS => ⟨hbl.block b hb, hS⟩))
        have HRD := Lib.hid (k3.since hbl)
        have HOF := Lib.hid (k5.trans (Off.since (X := RX r) hbl))
        have HK1 := Lib.hid k1
        have hsz : w.heap.size ≤ (wr.alloc (.cells #[.int .i64 0, .slice none 0 0] 47)).heap.size := Nat.le_trans hwz hbl.size
        have hown : ∀ b, (Value.slice va xs.length vc).ownBlock = some b → w.heap.size ≤ b := fun b hb => (k4.own hb).1
        have HOWN := Lib.hid hown
        have HLE : RowKit.Hid (xs.length ≤ 100000) := Lib.hid (by omega)
        clear k1 k3 k4 k5 hbl hown HK
        go_wp2_with (at_builtin; refine wpList_append_raw (wr.alloc (.cells #[.int .i64 0, .slice none 0 0] 47)) rfl _ _ 24 rfl 47 Tryd.underlying24 _ 2 32 rinfo_fun rfl (by decide) (by decide) hQ w.heap.size (.slice va xs.length vc) xs rfl HROW.out hsz _ 1 (wr.heap.size + 1) rfl (by simp) rfl (by intro u hu; simp at hu; rcases hu with rfl | rfl <;> rfl) HLE.out ?_; intro g2 cap w2 hrow2 hb2 hg2 hoff2)
        have hw2 : Off (RX r) w w2 := HOF.out.trans_new hoff2 (fun i hi => .inr (HOWN.out i hi))
        have hrd2 : RdAt w2 r B rest := HRD.out.stays hoff2 (fun i hi => ⟨Nat.le_trans (Nat.le_of_lt (Nat.lt_of_le_of_lt hrl.1 hrl.2)) (HOWN.out i hi), fun e => by subst e; have := HOWN.out i hi; omega⟩)
        have HW2 := Lib.hid hw2
        have HRD2 := Lib.hid hrd2
        have HR2 := Lib.hid hrow2
        have HWI := Lib.hid hrow2.win
        have HF2 := Lib.hid (HFT.out.rd HH.out hfb hw2)
        have hwz2 : w.heap.size ≤ w2.heap.size := hw2.size
        clear hrow2 hoff2 hw2 hrd2 hb2
        go_wp2_with fail
        refine (H1.out w2 rest g2 (xs.length * 2) HRD2.out HWI.out (by omega) (by omega) HF2.out).mono ?_
        rintro e w3 (⟨x, rest2, cs, hp, rfl, hr3, hwin, hcl, hcw, hq⟩ | ⟨er, hp, rfl, hoff⟩)
        · have hfin := HR2.out.fill hQ (r := r) (by exact hwin) (by exact hcw) hcl hq hrl.2 hwz2
          have hw3 : Off (RX r) w w3 := HW2.out.trans_new hwin.offs (fun i hi => by rcases hi with rfl | rfl; exact .inl rfl; exact .inr hg2)
          have HK' : RowKit.Hid (∃ xs' rest', rdTimes p (xs.length + 1) L1 = .ok xs' rest' ∧ xs'.length = xs.length + 1 ∧ RdAt w3 r B rest' ∧ RowO 47 2 Q w3 (From w.heap.size) (.slice (some ⟨g2, 0, none⟩) (xs.length + 1) cap) xs' ∧ Off (RX r) w w3) := Lib.hid ⟨xs ++ [x], rest2, by rw [rdTimes_more, HK1.out]; simp only [PR.bind, hp], by simp, hr3, hfin, hw3⟩
          clear hfin hw3 hp hr3 hwin hcw hq
          go_wp2_with fail
          go_roundw
          case rel => exact ⟨xs.length + 1, _, cap, by omega, by go_num, rfl, HK'⟩
          case measure => simp [intOf]; omega
        · have HP : RowKit.Hid (rdList most p L = .no er ∧ Off (RX r) w w3) := Lib.hid ⟨by unfold rdList; rw [HX.out]; exact rdTimes_no HK1.out hp hlt, HW2.out.trans_new hoff (fun i hi => by rcases hi with rfl | rfl; exact .inl rfl; exact .inr hg2)⟩
          clear hp hoff
          go_wp2_with fail
          exact ⟨rfl, .inr ⟨er, HP.out.1, rfl, HP.out.2⟩⟩
      · obtain rfl : k = n := by omega
        obtain ⟨xs, rest, k1, k2, k3, k4, k5⟩ := HK.out
        have HP : RowKit.Hid (rdList most p L = .ok xs rest ∧ RdAt wr r B rest ∧ RowO 47 2 Q wr (From w.heap.size) (.slice va k vc) xs ∧ Off (RX r) w wr) := Lib.hid ⟨by unfold rdList; rw [HX.out]; exact k1, k3, k4, k5⟩
        clear k1 k2 k3 k4 k5 HK
        go_wp2_with fail
        go_ret
        exact .inl ⟨xs, rest, va, k, vc, HP.out.1, rfl, HP.out.2⟩
  · have HP : RowKit.Hid (rdList most p L = .no er ∧ Off (RX r) w w1) := Lib.hid ⟨by unfold rdList; rw [hx]; rfl, ho1.rbehind⟩
    clear hx ho1
    go_wp2_with fail
    exact ⟨rfl, .inr ⟨er, HP.out.1, rfl, HP.out.2⟩⟩

theorem rinfo_block : (Tryd.prog.info? 59).map (fun i => (i.zero, i.size, i.bytes)) = some (some (.agg #[.slice none 0 0, .slice none 0 0, .int .i64 0, .int .i64 0, .int .i64 0, .int .i64 0, .slice none 0 0, .slice none 0 0]), 8, 128) := by kernel_rfl
set_option maxRecDepth 100000 in
set_option maxHeartbeats 2000000 in
theorem rl_block {α : Type} (p : List UInt8 → PR α) (Q : World → (Nat → Prop) → List Value → α → Prop) (hQ : Holds Q) (r B : Nat) (L : List UInt8) (most : Nat) (mi : Int) (hmi : mi = (most : Int)) (w : World) (h : RdAt w r B L) (hm : most ≤ 1000) (hft : FT w) (hfb : 2 < B)
    (h1 : OneR 107 p Q 8 [.slice none 0 0, .slice none 0 0, .int .i64 0, .int .i64 0, .int .i64 0, .int .i64 0, .slice none 0 0, .slice none 0 0] r B) :
    Calls Tryd.prog 106 #[.agg #[.iface 97 (.pointer (some ⟨r, 0, none⟩))], .slice none 0 0, .int .i64 mi, .func (.func 107) #[.agg #[.iface 97 (.pointer (some ⟨r, 0, none⟩))]] #[]] w
      (ListPostR 59 8 Q r B (rdList most p L) w) := by
  subst hmi
  have HW := Lib.hid (h.since ((Below.refl _ _).alloc (Nat.le_refl _) (.cells #[.iface 97 (.pointer (some ⟨r, 0, none⟩))] 110)))
  have HH := Lib.hid h
  have HFT := Lib.hid hft
  have H1 := Lib.hid h1
  have hrl := h.lt
  clear h hft h1
  go_enter Tryd.func106, Tryd.ntmps106
  go_wp2_with fail
  refine (rk_count r B L 0 most _ rfl _ HW.out hm).mono ?_
  rintro e w1 (⟨n, L1, hx, rfl, hr1, ho1⟩ | ⟨er, hx, rfl, ho1⟩)
  · have hn : n ≤ 100000 := by
      unfold rdCount at hx
      cases hr : rdNum L with
      | no e => rw [hr] at hx; cases hx
      | ok m rest =>
        rw [hr] at hx
        simp only [PR.bind] at hx
        split at hx
        · cases hx
        · split at hx
          · cases hx
          · cases hx; omega
    have HX := Lib.hid hx
    have HE := Lib.hid ho1.rbehind
    have HR := Lib.hid hr1
    clear hx ho1 hr1
    unfold natV
    go_wp2_with fail
    go_loopw [1, 16] (fun sv iv wr => ∃ (k : Nat) (va : Option Addr) (vc : Nat) , k ≤ n ∧ iv = .int .i64 (k : Int) ∧ sv = .slice va k vc ∧ RowKit.Hid (∃ xs rest, rdTimes p k L1 = .ok xs rest ∧ xs.length = k ∧ RdAt wr r B rest ∧ RowO 59 8 Q wr (From w.heap.size) (.slice va k vc) xs ∧ Off (RX r) w wr)) (fun _ iv _ => n - (intOf iv).toNat)
    case atStart => exact ⟨0, none, 0, Nat.zero_le _, rfl, rfl, Lib.hid ⟨[], L1, rfl, rfl, HR.out, RowO.none _ _, HE.out⟩⟩
    case round =>
      obtain ⟨k, va, vc, hk, rfl, rfl, HK⟩ := hrel
      by_cases hlt : k < n
      · obtain ⟨xs, rest, k1, k2, k3, k4, k5⟩ := HK.out
        subst k2
        have hwz : w.heap.size ≤ wr.heap.size := k5.size
        have hbl : Below wr.heap.size wr (wr.alloc (.cells #[.slice none 0 0, .slice none 0 0, .int .i64 0, .int .i64 0, .int .i64 0, .int .i64 0, .slice none 0 0, .slice none 0 0] 59)) := (Below.refl _ _).alloc (Nat.le_refl _) _
        have HROW := Lib.hid (k4.holds hQ (w' := (wr.alloc (.cells #[.slice none 0 0, .slice none 0 0, .int .i64 0, .int .i64 0, .int .i64 0, .int .i64 0, .slice none 0 0, .slice none 0 0] 59))) (S' := From w.heap.size) (fun b hb hS => ⟨hbl.block b hb, hS⟩))
        have HRD := Lib.hid (k3.since hbl)
        have HOF := Lib.hid (k5.trans (Off.since (X := RX r) hbl))
        have HK1 := Lib.hid k1
        have hsz : w.heap.size ≤ (wr.alloc (.cells #[.slice none 0 0, .slice none 0 0, .int .i64 0, .int .i64 0, .int .i64 0, .int .i64 0, .slice none 0 0, .slice none 0 0] 59)).heap.size := Nat.le_trans hwz hbl.size
        have hown : ∀ b, (Value.slice va xs.length vc).ownBlock = some b → w.heap.size ≤ b := fun b hb => (k4.own hb).1
        have HOWN := Lib.hid hown
        have HLE : RowKit.Hid (xs.length ≤ 100000) := Lib.hid (by omega)
        clear k1 k3 k4 k5 hbl hown HK
        go_wp2_with (at_builtin; refine wpList_append_raw (wr.alloc (.cells #[.slice none 0 0, .slice none 0 0, .int .i64 0, .int .i64 0, .int .i64 0, .int .i64 0, .slice none 0 0, .slice none 0 0] 59)) rfl _ _ 45 rfl 59 Tryd.underlying45 _ 8 128 rinfo_block rfl (by decide) (by decide) hQ w.heap.size (.slice va xs.length vc) xs rfl HROW.out hsz _ 1 (wr.heap.size + 1) rfl (by simp) rfl (by intro u hu; simp at hu; rcases hu with rfl | rfl | rfl | rfl | rfl | rfl | rfl | rfl <;> rfl) HLE.out ?_; intro g2 cap w2 hrow2 hb2 hg2 hoff2)
        have hw2 : Off (RX r) w w2 := HOF.out.trans_new hoff2 (fun i hi => .inr (HOWN.out i hi))
        have hrd2 : RdAt w2 r B rest := HRD.out.stays hoff2 (fun i hi => ⟨Nat.le_trans (Nat.le_of_lt (Nat.lt_of_le_of_lt hrl.1 hrl.2)) (HOWN.out i hi), fun e => by subst e; have := HOWN.out i hi; omega⟩)
        have HW2 := Lib.hid hw2
        have HRD2 := Lib.hid hrd2
        have HR2 := Lib.hid hrow2
        have HWI := Lib.hid hrow2.win
        have HF2 := Lib.hid (HFT.out.rd HH.out hfb hw2)
        have hwz2 : w.heap.size ≤ w2.heap.size := hw2.size
        clear hrow2 hoff2 hw2 hrd2 hb2
        go_wp2_with fail
        refine (H1.out w2 rest g2 (xs.length * 8) HRD2.out HWI.out (by omega) (by omega) HF2.out).mono ?_
        rintro e w3 (⟨x, rest2, cs, hp, rfl, hr3, hwin, hcl, hcw, hq⟩ | ⟨er, hp, rfl, hoff⟩)
        · have hfin := HR2.out.fill hQ (r := r) (by exact hwin) (by exact hcw) hcl hq hrl.2 hwz2
          have hw3 : Off (RX r) w w3 := HW2.out.trans_new hwin.offs (fun i hi => by rcases hi with rfl | rfl; exact .inl rfl; exact .inr hg2)
          have HK' : RowKit.Hid (∃ xs' rest', rdTimes p (xs.length + 1) L1 = .ok xs' rest' ∧ xs'.length = xs.length + 1 ∧ RdAt w3 r B rest' ∧ RowO 59 8 Q w3 (From w.heap.size) (.slice (some ⟨g2, 0, none⟩) (xs.length + 1) cap) xs' ∧ Off (RX r) w w3) := Lib.hid ⟨xs ++ [x], rest2, by rw [rdTimes_more, HK1.out]; simp only [PR.bind, hp], by simp, hr3, hfin, hw3⟩
          clear hfin hw3 hp hr3 hwin hcw hq
          go_wp2_with fail
          go_roundw
          case rel => exact ⟨xs.length + 1, _, cap, by omega, by go_num, rfl, HK'⟩
          case measure => simp [intOf]; omega
        · have HP : RowKit.Hid (rdList most p L = .no er ∧ Off (RX r) w w3) := Lib.hid ⟨by unfold rdList; rw [HX.out]; exact rdTimes_no HK1.out hp hlt, HW2.out.trans_new hoff (fun i hi => by rcases hi with rfl | rfl; exact .inl rfl; exact .inr hg2)⟩
          clear hp hoff
          go_wp2_with fail
          exact ⟨rfl, .inr ⟨er, HP.out.1, rfl, HP.out.2⟩⟩
      · obtain rfl : k = n := by omega
        obtain ⟨xs, rest, k1, k2, k3, k4, k5⟩ := HK.out
        have HP : RowKit.Hid (rdList most p L = .ok xs rest ∧ RdAt wr r B rest ∧ RowO 59 8 Q wr (From w.heap.size) (.slice va k vc) xs ∧ Off (RX r) w wr) := Lib.hid ⟨by unfold rdList; rw [HX.out]; exact k1, k3, k4, k5⟩
        clear k1 k2 k3 k4 k5 HK
        go_wp2_with fail
        go_ret
        exact .inl ⟨xs, rest, va, k, vc, HP.out.1, rfl, HP.out.2⟩
  · have HP : RowKit.Hid (rdList most p L = .no er ∧ Off (RX r) w w1) := Lib.hid ⟨by unfold rdList; rw [hx]; rfl, ho1.rbehind⟩
    clear hx ho1
    go_wp2_with fail
    exact ⟨rfl, .inr ⟨er, HP.out.1, rfl, HP.out.2⟩⟩

theorem rinfo_op : (Tryd.prog.info? 38).map (fun i => (i.zero, i.size, i.bytes)) = some (some (.agg #[.int .i64 0, .int .i64 0, .int .i64 0, .int .i64 0, .int .i64 0, .string ⟨#[]⟩, .slice none 0 0, .bool false]), 8, 88) := by kernel_rfl
set_option maxRecDepth 100000 in
set_option maxHeartbeats 2000000 in
theorem rl_op {α : Type} (p : List UInt8 → PR α) (Q : World → (Nat → Prop) → List Value → α → Prop) (hQ : Holds Q) (r B : Nat) (L : List UInt8) (most : Nat) (mi : Int) (hmi : mi = (most : Int)) (w : World) (h : RdAt w r B L) (hm : most ≤ 1000) (hft : FT w) (hfb : 2 < B)
    (h1 : OneR 115 p Q 8 [.int .i64 0, .int .i64 0, .int .i64 0, .int .i64 0, .int .i64 0, .string ⟨#[]⟩, .slice none 0 0, .bool false] r B) :
    Calls Tryd.prog 114 #[.agg #[.iface 97 (.pointer (some ⟨r, 0, none⟩))], .slice none 0 0, .int .i64 mi, .func (.func 115) #[.agg #[.iface 97 (.pointer (some ⟨r, 0, none⟩))]] #[]] w
      (ListPostR 38 8 Q r B (rdList most p L) w) := by
  subst hmi
  have HW := Lib.hid (h.since ((Below.refl _ _).alloc (Nat.le_refl _) (.cells #[.iface 97 (.pointer (some ⟨r, 0, none⟩))] 110)))
  have HH := Lib.hid h
  have HFT := Lib.hid hft
  have H1 := Lib.hid h1
  have hrl := h.lt
  clear h hft h1
  go_enter Tryd.func114, Tryd.ntmps114
  go_wp2_with fail
  refine (rk_count r B L 0 most _ rfl _ HW.out hm).mono ?_
  rintro e w1 (⟨n, L1, hx, rfl, hr1, ho1⟩ | ⟨er, hx, rfl, ho1⟩)
  · have hn : n ≤ 100000 := by
      unfold rdCount at hx
      cases hr : rdNum L with
      | no e => rw [hr] at hx; cases hx
      | ok m rest =>
        rw [hr] at hx
        simp only [PR.bind] at hx
        split at hx
        · cases hx
        · split at hx
          · cases hx
          · cases hx; omega
    have HX := Lib.hid hx
    have HE := Lib.hid ho1.rbehind
    have HR := Lib.hid hr1
    clear hx ho1 hr1
    unfold natV
    go_wp2_with fail
    go_loopw [1, 16] (fun sv iv wr => ∃ (k : Nat) (va : Option Addr) (vc : Nat) , k ≤ n ∧ iv = .int .i64 (k : Int) ∧ sv = .slice va k vc ∧ RowKit.Hid (∃ xs rest, rdTimes p k L1 = .ok xs rest ∧ xs.length = k ∧ RdAt wr r B rest ∧ RowO 38 8 Q wr (From w.heap.size) (.slice va k vc) xs ∧ Off (RX r) w wr)) (fun _ iv _ => n - (intOf iv).toNat)
    case atStart => exact ⟨0, none, 0, Nat.zero_le _, rfl, rfl, Lib.hid ⟨[], L1, rfl, rfl, HR.out, RowO.none _ _, HE.out⟩⟩
    case round =>
      obtain ⟨k, va, vc, hk, rfl, rfl, HK⟩ := hrel
      by_cases hlt : k < n
      · obtain ⟨xs, rest, k1, k2, k3, k4, k5⟩ := HK.out
        subst k2
        have hwz : w.heap.size ≤ wr.heap.size := k5.size
        have hbl : Below wr.heap.size wr (wr.alloc (.cells #[.int .i64 0, .int .i64 0, .int .i64 0, .int .i64 0, .int .i64 0, .string ⟨#[]⟩, .slice none 0 0, .bool false] 38)) := (Below.refl _ _).alloc (Nat.le_refl _) _
        have HROW := Lib.hid (k4.holds hQ (w' := (wr.alloc (.cells #[.int .i64 0, .int .i64 0, .int .i64 0, .int .i64 0, .int .i64 0, .string ⟨#[]⟩, .slice none 0 0, .bool false] 38))) (S' := From w.heap.size) (fun b hb hS => ⟨hbl.block b hb, hS⟩))
        have HRD := Lib.hid (k3.since hbl)
        have HOF := Lib.hid (k5.trans (Off.since (X := RX r) hbl))
        have HK1 := Lib.hid k1
        have hsz : w.heap.size ≤ (wr.alloc (.cells #[.int .i64 0, .int .i64 0, .int .i64 0, .int .i64 0, .int .i64 0, .string ⟨#[]⟩, .slice none 0 0, .bool false] 38)).heap.size := Nat.le_trans hwz hbl.size
        have hown : ∀ b, (Value.slice va xs.length vc).ownBlock = some b → w.heap.size ≤ b := fun b hb => (k4.own hb).1
        have HOWN := Lib.hid hown
        have HLE : RowKit.Hid (xs.length ≤ 100000) := Lib.hid (by omega)
        clear k1 k3 k4 k5 hbl hown HK
        go_wp2_with (at_builtin; refine wpList_append_raw (wr.alloc (.cells #[.int .i64 0, .int .i64 0, .int .i64 0, .int .i64 0, .int .i64 0, .string ⟨#[]⟩, .slice none 0 0, .bool false] 38)) rfl _ _ 55 rfl 38 Tryd.underlying55 _ 8 88 rinfo_op rfl (by decide) (by decide) hQ w.heap.size (.slice va xs.length vc) xs rfl HROW.out hsz _ 1 (wr.heap.size + 1) rfl (by simp) rfl (by intro u hu; simp at hu; rcases hu with rfl | rfl | rfl | rfl | rfl | rfl | rfl | rfl <;> rfl) HLE.out ?_; intro g2 cap w2 hrow2 hb2 hg2 hoff2)
        have hw2 : Off (RX r) w w2 := HOF.out.trans_new hoff2 (fun i hi => .inr (HOWN.out i hi))
        have hrd2 : RdAt w2 r B rest := HRD.out.stays hoff2 (fun i hi => ⟨Nat.le_trans (Nat.le_of_lt (Nat.lt_of_le_of_lt hrl.1 hrl.2)) (HOWN.out i hi), fun e => by subst e; have := HOWN.out i hi; omega⟩)
        have HW2 := Lib.hid hw2
        have HRD2 := Lib.hid hrd2
        have HR2 := Lib.hid hrow2
        have HWI := Lib.hid hrow2.win
        have HF2 := Lib.hid (HFT.out.rd HH.out hfb hw2)
        have hwz2 : w.heap.size ≤ w2.heap.size := hw2.size
        clear hrow2 hoff2 hw2 hrd2 hb2
        go_wp2_with fail
        refine (H1.out w2 rest g2 (xs.length * 8) HRD2.out HWI.out (by omega) (by omega) HF2.out).mono ?_
        rintro e w3 (⟨x, rest2, cs, hp, rfl, hr3, hwin, hcl, hcw, hq⟩ | ⟨er, hp, rfl, hoff⟩)
        · have hfin := HR2.out.fill hQ (r := r) (by exact hwin) (by exact hcw) hcl hq hrl.2 hwz2
          have hw3 : Off (RX r) w w3 := HW2.out.trans_new hwin.offs (fun i hi => by rcases hi with rfl | rfl; exact .inl rfl; exact .inr hg2)
          have HK' : RowKit.Hid (∃ xs' rest', rdTimes p (xs.length + 1) L1 = .ok xs' rest' ∧ xs'.length = xs.length + 1 ∧ RdAt w3 r B rest' ∧ RowO 38 8 Q w3 (From w.heap.size) (.slice (some ⟨g2, 0, none⟩) (xs.length + 1) cap) xs' ∧ Off (RX r) w w3) := Lib.hid ⟨xs ++ [x], rest2, by rw [rdTimes_more, HK1.out]; simp only [PR.bind, hp], by simp, hr3, hfin, hw3⟩
          clear hfin hw3 hp hr3 hwin hcw hq
          go_wp2_with fail
          go_roundw
          case rel => exact ⟨xs.length + 1, _, cap, by omega, by go_num, rfl, HK'⟩
          case measure => simp [intOf]; omega
        · have HP : RowKit.Hid (rdList most p L = .no er ∧ Off (RX r) w w3) := Lib.hid ⟨by unfold rdList; rw [HX.out]; exact rdTimes_no HK1.out hp hlt, HW2.out.trans_new hoff (fun i hi => by rcases hi with rfl | rfl; exact .inl rfl; exact .inr hg2)⟩
          clear hp hoff
          go_wp2_with fail
          exact ⟨rfl, .inr ⟨er, HP.out.1, rfl, HP.out.2⟩⟩
      · obtain rfl : k = n := by omega
        obtain ⟨xs, rest, k1, k2, k3, k4, k5⟩ := HK.out
        have HP : RowKit.Hid (rdList most p L = .ok xs rest ∧ RdAt wr r B rest ∧ RowO 38 8 Q wr (From w.heap.size) (.slice va k vc) xs ∧ Off (RX r) w wr) := Lib.hid ⟨by unfold rdList; rw [HX.out]; exact k1, k3, k4, k5⟩
        clear k1 k2 k3 k4 k5 HK
        go_wp2_with fail
        go_ret
        exact .inl ⟨xs, rest, va, k, vc, HP.out.1, rfl, HP.out.2⟩
  · have HP : RowKit.Hid (rdList most p L = .no er ∧ Off (RX r) w w1) := Lib.hid ⟨by unfold rdList; rw [hx]; rfl, ho1.rbehind⟩
    clear hx ho1
    go_wp2_with fail
    exact ⟨rfl, .inr ⟨er, HP.out.1, rfl, HP.out.2⟩⟩

end Go.Proofs.YtfnkmigcklmghaaDoor
