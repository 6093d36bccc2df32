/- Layer 8: the blocks of the tree are counted: the walk (mk_dom.py F). -/
import Derived.Test.YtnnccahpgailiaaQDomE
import Derived.Test.YtnnccahpgailiaaQDomR
import Derived.Test.YtnnccahpgailiaaQT0
import Derived.Test.YtnnccahpgailiaaQT1
import Derived.Test.YtnnccahpgailiaaQT3

namespace Go.Proofs.Ytnnccahpgailiaa
open Go.RowKit
set_option linter.unusedVariables false
set_option linter.unusedSimpArgs false
attribute [local go_sem] Oper.semAt_some

/-- What count comes to. -/
def CountPost (M : Nat → Prop) (pl : Nat → Nat) (up : Nat → Int) (o : Nat → Nat) (K : Nat) (w : World) (B p n : Nat) (g : Nat → Nat) (Z : Nat → List Int) (ov fv : Value) (ord : List Int) (vs : List Value) (FR : List (List Int)) (rd : Int) (w' : World) : Prop :=
  ∃ NU EN S N, TreeAt w' B p n g (ZN Z NU EN) ov fv ord vs FR rd ∧ Off (fun i => i = g 2 ∨ i = g 3) w w' ∧ Numbered M pl up o K S N ∧ (∀ v, M v → nth NU v = (N v : Int)) ∧ ∀ v, M v → nth EN v = (S v : Int) + (N v : Int)
set_option maxRecDepth 100000 in
set_option maxHeartbeats 8000000 in
theorem count_any {M : Nat → Prop} {pl : Nat → Nat} {up : Nat → Int} {o : Nat → Nat} {K : Nat} {w : World} {B p n : Nat} {g : Nat → Nat} {Z : Nat → List Int} {ov fv : Value} {ord : List Int} {vs : List Value} {FR : List (List Int)} {rd : Int}
    (hA : TreeAt w B p n g Z ov fv ord vs FR rd) (hL : Lined M pl up o K) (hup : ∀ v, v < n → nth (Z 1) v = up v) (hlt : ∀ v, M v → v < n) (hol : ord.length = K) (hoa : ∀ i (h : i < ord.length), ord[i] = (o i : Int)) (h2 : ∀ v, M v → nth (Z 2) v = 0) (h3 : ∀ v, M v → nth (Z 3) v = 0) (hn : n ≤ 100000) (hKn : K ≤ n) (hroot : 0 < K → up (o 0) < 0) :
    Calls Try.prog 67 #[.pointer (some ⟨p, 0, none⟩)] w fun e w' => e = .returned (.tuple #[]) ∧ CountPost M pl up o K w B p n g Z ov fv ord vs FR rd w' := by
  refine (callsIn_wide (n := 9)).1 ?_
  refine callsIn_of_wp_marks Try.func67 rfl trivial ?_ rfl
  simp only [Try.ntmps67, List.size_toArray, List.length_cons, List.length_nil, Nat.reduceAdd, Nat.reduceSub, Array.replicate_succ, Array.replicate_zero, List.push_toArray, List.append_toArray, List.nil_append, List.cons_append]
  obtain ⟨oa, on, oc, rfl, hon⟩ := hA.ord.nums
  have HON : RowKit.Hid (on = K) := Lib.hid (hon.1.symm.trans hol)
  have HL := Lib.hid hL
  have HUP : RowKit.Hid (∀ v, v < n → nth (Z 1) v = up v ∧ (up v < 0 ∨ ∃ c : Nat, up v = (c : Int) ∧ c < n)) := Lib.hid fun v hv => ⟨hup v hv, by
    by_cases h : up v < 0
    · exact .inl h
    · obtain ⟨c, hc⟩ := Int.eq_ofNat_of_zero_le (show 0 ≤ up v by omega)
      exact .inr ⟨c, hc, hlt c (hL.lt v c hc).1⟩⟩
  have HOA : RowKit.Hid (∀ i, i < K → nth ord i = (o i : Int)) := Lib.hid fun i hi => by rw [nth_is (by omega)]; exact hoa i (by omega)
  have HOO : RowKit.Hid (∀ x, 0 < K → ∃ b : Nat, nth ord x = (b : Int) ∧ b < n ∧ ∀ i, i < K → x = i → b = o i) := Lib.hid fun x h0 => by
    by_cases hx : x < K
    · exact ⟨o x, HOA.out x hx, hlt _ (hL.met x hx).1, fun i _ e => by rw [e]⟩
    · refine ⟨0, ?_, by omega, fun i hi e => by omega⟩
      unfold nth
      rw [List.getD_eq_getElem?_getD, List.getElem?_eq_none (by omega)]
      rfl
  have HONE : RowKit.Hid (∀ i, i < 5 → ∀ g0 off, oa = some ⟨g0, off, none⟩ → g0 ≠ g i) := Lib.hid fun i hi g0 off e h => hA.ordne i hi (by rw [e, ← h]; rfl)
  have HRT := Lib.hid hroot
  have HLT := Lib.hid hlt
  obtain ⟨W0, hW0⟩ : ∃ W0, ((w.alloc (.cells #[.pointer (some ⟨p, 0, none⟩)] 72)).alloc (.cells #[.slice oa on oc] 29)) = W0 := ⟨_, rfl⟩
  have hb0 : Below w.heap.size w W0 := by rw [← hW0]; exact ((Below.refl w.heap.size w).alloc (Nat.le_refl _) _).alloc (by simp) _
  have HB0 := Lib.hid hb0
  have hz0 : W0.heap.size = w.heap.size + 2 := by rw [← hW0]; simp
  have HA0 : RowKit.Hid (TreeAt W0 B p n g Z (.slice oa on oc) fv ord vs FR rd) := Lib.hid (hA.since hb0)
  have HBX : RowKit.Hid (TBox W0 w.heap.size p) := Lib.hid (by
    unfold TBox
    rw [← hW0]
    exact (Below.heap_alloc _ _ _ (by simp)).trans (World.alloc_heap_new w _))
  have hbs : W0.cell? ⟨w.heap.size + 1, 0, none⟩ = some (.slice oa on oc) := by
    rw [← hW0, show w.heap.size + 1 = (w.alloc (.cells #[.pointer (some ⟨p, 0, none⟩)] 72)).heap.size by simp]
    exact World.cell?_alloc_mark _ _ _ _ _
  have HGN : RowKit.Hid (∀ i, i < 5 → g i < w.heap.size) := Lib.hid fun i hi => by obtain ⟨cur, hc, _⟩ := hA.gblk hi; exact (Array.getElem?_eq_some_iff.1 hc).1
  have HS0 : RowKit.Hid (SizeMem W0 M pl up o K B p n g Z (.slice oa on oc) fv ord vs FR rd w.heap.size [] (Z 3) W0) := Lib.hid ⟨by rw [ZN_same]; exact HA0.out, HBX.out, Off.refl _ _, fun q hq he => by
    have : q = 0 := by have := congrArg List.length he; simpa [dn_len] using this.symm
    subst this
    exact ⟨fun _ => 0, SizeSt.start (fun _ _ => rfl) hL, fun v hv => h3 v hv⟩⟩
  have H2 := Lib.hid h2
  have w0 : w.cell? ⟨p, 0, none⟩ = some (.slice oa on oc) := by simp [World.cell?, hA.blk]
  have hplt := hA.plt
  have hcb0 : (w.alloc (.cells #[.pointer (some ⟨p, 0, none⟩)] 72)).cell? ⟨p, 0, none⟩ = some (.slice oa on oc) := (((Below.refl w.heap.size w).alloc (Nat.le_refl _) _).cell (p := ⟨p, 0, none⟩) hplt).trans w0
  have hon' : NumsAt W0 oa on ord := hon.since hb0
  have HNO := Lib.hid hon'
  have honn : on ≤ 100000 := by have := HON.out; omega
  clear hon hol hup hlt hoa h2 h3 hroot hA hL w0 hb0 hplt
  gi_wp2_with (refine ⟨trivial, ?_⟩; gi_at_call 91; refine (callsIn_wide.2 (backward_any oa on oc _)).mono ?_; rintro e w' ⟨rfl, rfl⟩)
  try rw [World.size_alloc]
  try rw [hW0]
  clear hW0 hcb0
  have hst := bw_stops oa on oc ord (w.heap.size + 1) 8 W0 hbs hon' (by omega)
  clear hbs hon'
  refine wpIn_rangeFunc_ownH rfl (by omega) (gf := 104) (lb := #[.pointer (some ⟨w.heap.size + 1, 0, none⟩)]) rfl trivial (enters_of Try.func104 (by kernel_rfl) rfl) hst KeptN.trans ?hKb (Below.refl _ _) (fun x => rfl)
    (fun pre W => ∃ EN, SizeMem W0 M pl up o K B p n g Z (.slice oa on oc) fv ord vs FR rd w.heap.size pre EN W)
    (fun _ _ _ => False) ?hI (fun _ _ _ _ _ hs _ _ => hs) ⟨_, HS0.out⟩
    (fun x a' W => a' = { tmps := #[.pointer (some ⟨p, 0, none⟩), .pointer (some ⟨w.heap.size, 0, none⟩), undef, .int .i64 (nth ord x), undef, undef, undef, undef, undef, .pointer (some ⟨p, 0, none⟩), .pointer (some ⟨p, 0, none⟩), .pointer (some ⟨p, 0, none⟩), .slice oa on oc, .func (.func 104) #[] #[.pointer (some ⟨w.heap.size + 1, 0, none⟩)], .int .i64 (x : Int), .int .i64 (nth ord x), undef, undef, undef, undef, undef, undef, undef, undef, undef, undef, undef, undef, undef, undef, undef, undef, undef, undef, undef, undef, undef, undef, undef, undef, undef, undef, undef, undef, undef, undef, undef, undef, undef, undef, undef, undef, undef, undef, undef, undef, undef, undef, undef, undef, undef, undef, undef, undef, undef, undef, undef, undef, undef, undef, undef, undef, undef, undef, undef, undef, undef, undef, undef, undef, undef, undef, undef, undef, undef, undef, undef, undef, undef, undef, undef, undef, undef, undef, undef, undef, undef, undef, undef, undef, undef, undef, undef, undef, undef, undef, undef, undef, undef, undef, undef, undef, undef, undef, undef, undef, undef, undef, undef, undef, undef, undef, undef, undef, undef], defers := [] })
    ?hAx ?assign ?body ?done ?stop
  case hKb => exact keptN_putObj (n0 := W0.heap.size) (by omega)
  case hI =>
    rintro pre W W' row ⟨EN, hS⟩ hg hr
    refine ⟨EN, hS.kept (X := fun i => row = some i) ((Off.refl _ W).grown hg (fun k hk => .inl hk)) fun i hi => ?_⟩
    obtain ⟨h1, o, ho, hc⟩ := hr i hi
    exact ⟨h1, fun C t e => by rw [ho] at e; cases e; cases hc⟩
  case hAx => rintro x a' _ W W' row h hg hr; exact h
  case assign =>
    rintro l pre x W K' hI hK
    gi_wp2
    exact hK _ _ (KeepsFrom.refl _ _) (KeptN.refl _ _ _ _ _) hI rfl
  case body =>
    rintro l pre x a' W hl0 _ ⟨EN, hS⟩ rfl hlen
    obtain ⟨b, hb, hbn, hbo⟩ := HOO.out x (by have := HON.out; omega)
    rw [hb]
    have HBO := Lib.hid hbo
    have HS := Lib.hid hS
    clear hb hbo hS hlen
    have c1 := HS.out.box.cell
    have c5 : W.cell? ⟨p, 5, none⟩ = some (.slice (some ⟨g 3, 0, none⟩) n n) := by simp [World.cell?, HS.out.at_.blk]
    have e1 : W.cell? ⟨g 3, b, none⟩ = some (.int .i64 (nth EN b)) := HS.out.at_.cell (i := 3) (by omega) hbn
    have ef : W.frozen? ⟨g 3, b, none⟩ = false := HS.out.at_.free (by omega) b
    have hbi : (b : Int) < (n : Int) := by omega
    have hbi0 : (0 : Int) ≤ (b : Int) := by omega
    have HK1 : RowKit.Hid (K ≤ 100000) := Lib.hid (by have := HON.out; omega)
    obtain ⟨y, hy⟩ : ∃ y, y = wrap64 (nth EN b + 1) := ⟨_, rfl⟩
    obtain ⟨EN1, hE1⟩ : ∃ E1, E1 = EN.set b y := ⟨_, rfl⟩
    have hput := HS.out.at_.put (i := 3) (by omega) b y
    rw [ZN_end, ZN_three, ← hE1] at hput
    have HP := Lib.hid hput
    have HOF : RowKit.Hid (Off (fun i => i = g 3) W (W.setCell ⟨g 3, b, none⟩ (.int .i64 y))) := Lib.hid (Off.setCell (X := fun i => i = g 3) (p := ⟨g 3, b, none⟩) (Off.refl _ W) (.inl rfl) _)
    have HBX1 : RowKit.Hid (TBox (W.setCell ⟨g 3, b, none⟩ (.int .i64 y)) w.heap.size p) := Lib.hid (HS.out.box.kept HOF.out (HS.out.box.ne HS.out.at_ (by omega)))
    have hg3 : g 3 < W0.heap.size := by have := HGN.out 3 (by omega); omega
    have HKO : RowKit.Hid (∀ U, Off (fun i => i = g 3) W U → (∀ B0, KeepsFrom B0 W U) ∧ KeptN (w.heap.size + 1) oa on ord W U) := Lib.hid fun U hU => by
      have hcell : ∀ i, i = g 3 → ∀ ob, W.heap[i]? = some ob → ob.isCells = true := fun i hi ob hob => by
        obtain ⟨cur, hc, _⟩ := HS.out.at_.gblk (i := 3) (by omega)
        rw [hi, hc] at hob
        cases hob; rfl
      have hko := KeepsOthers.of_off hU hcell
      exact ⟨fun B0 => hko.from B0, KeptN.off hU hko (by have := HS.out.off.size; omega) (by have := HGN.out 3 (by omega); omega) (fun g0 off e _ => HONE.out 3 (by omega) g0 off e)⟩
    have d1 := HBX1.out.cell
    have d3 : (W.setCell ⟨g 3, b, none⟩ (.int .i64 y)).cell? ⟨p, 3, none⟩ = some (.slice (some ⟨g 1, 0, none⟩) n n) := by simp [World.cell?, HP.out.blk]
    have d4 : (W.setCell ⟨g 3, b, none⟩ (.int .i64 y)).cell? ⟨g 1, b, none⟩ = some (.int .i64 (up b)) := by
      have := HP.out.cell (i := 1) (by omega) hbn
      rw [ZN_one, (HUP.out b hbn).1] at this
      exact this
    have HY := Lib.hid hy
    have HE1 := Lib.hid hE1
    rw [hy] at d1 d3 d4
    rcases (HUP.out b hbn).2 with hneg | ⟨c, hc, hcn⟩
    · have hge : ¬ (0 : Int) ≤ up b := by omega
      have hdec : decide ((0 : Int) ≤ up b) = false := decide_eq_false hge
      have HNE := Lib.hid hneg
      clear hy hE1 hput hneg
      gi_wp2_with fail
      rw [← HY.out]
      have hn1 := HS.out.one HL.out HBO.out hbn HNE.out HK1.out
      rw [← HY.out, ← HE1.out] at hn1
      exact ⟨(HKO.out _ HOF.out).1 _, (HKO.out _ HOF.out).2, _, hn1⟩
    · have hdec : decide ((0 : Int) ≤ up b) = true := decide_eq_true (by omega)
      have HC := Lib.hid hc
      rw [hc] at d4 hdec
      clear hy hE1 hput hc
      gi_wp2_with fail
      rw [← HY.out]
      generalize hU : W.setCell ⟨g 3, b, none⟩ (.int .i64 y) = U at *
      have HPD : RowKit.Hid (TreeAt U.drew B p n g (ZN Z (Z 2) EN1) (.slice oa on oc) fv ord vs FR rd) := Lib.hid (HP.out.since (Below.refl _ _).drew)
      have HBD : RowKit.Hid (TBox U.drew w.heap.size p) := Lib.hid HBX1.out
      have k1 := HBD.out.cell
      have k5 : U.drew.cell? ⟨p, 5, none⟩ = some (.slice (some ⟨g 3, 0, none⟩) n n) := by simp [World.cell?, HPD.out.blk]
      have kc : U.drew.cell? ⟨g 3, c, none⟩ = some (.int .i64 (nth EN1 c)) := by have := HPD.out.cell (i := 3) (by omega) hcn; rwa [ZN_three] at this
      have kb : U.drew.cell? ⟨g 3, b, none⟩ = some (.int .i64 (nth EN1 b)) := by have := HPD.out.cell (i := 3) (by omega) hbn; rwa [ZN_three] at this
      have kf : U.drew.frozen? ⟨g 3, c, none⟩ = false := HPD.out.free (by omega) c
      have hci : (c : Int) < (n : Int) := by omega
      have hci0 : (0 : Int) ≤ (c : Int) := by omega
      clear c1 c5 e1 ef d1 d3 d4
      refine wpIn_region_calmN (by kernel_rfl) (by kernel_rfl) (wpAny_of_Z (S := (fun u : World => u.cell? ⟨w.heap.size, 0, none⟩ = some (.pointer (some ⟨p, 0, none⟩)) ∧ u.cell? ⟨p, 5, none⟩ = some (.slice (some ⟨g 3, 0, none⟩) n n) ∧ u.cell? ⟨g 3, c, none⟩ = some (.int .i64 (nth EN1 c)) ∧ u.cell? ⟨g 3, b, none⟩ = some (.int .i64 (nth EN1 b)))) (z := 16) _ _ _ _ ?_)
      have hHeld := And.intro k1 (And.intro k5 (And.intro kc kb))
      refine wpAnyZ_take (i := 0) (oi := ⟨some 34, _, _, _, _, _⟩) (v := ?_) rfl (by kernel_rfl) (by kernel_rfl) (by kernel_rfl) (by kernel_rfl) (fun _ _ _ h => h) (Or.inl ⟨by rfl, ?_⟩) (by assumption) ?_
      rotate_left
      · ((intro w hSw; (try dsimp only at hSw); go_simp); try with_reducible rfl)
      (try simp only [Act.put, List.setIfInBounds_toArray, List.set_cons_zero, List.set_cons_succ])
      refine wpAnyZ_take (i := 1) (oi := ⟨some 35, _, _, _, _, _⟩) (v := ?_) rfl (by kernel_rfl) (by kernel_rfl) (by kernel_rfl) (by kernel_rfl) (fun _ _ _ h => h) (Or.inl ⟨by rfl, ?_⟩) (by assumption) ?_
      rotate_left
      · ((intro w hSw; (try dsimp only at hSw); go_simp); try with_reducible rfl)
      (try simp only [Act.put, List.setIfInBounds_toArray, List.set_cons_zero, List.set_cons_succ])
      refine wpAnyZ_take (i := 2) (oi := ⟨some 36, _, _, _, _, _⟩) (v := ?_) rfl (by kernel_rfl) (by kernel_rfl) (by kernel_rfl) (by kernel_rfl) (fun _ _ _ h => h) (Or.inl ⟨by rfl, ?_⟩) (by assumption) ?_
      rotate_left
      · ((intro w hSw; (try dsimp only at hSw); go_simp); try with_reducible rfl)
      (try simp only [Act.put, List.setIfInBounds_toArray, List.set_cons_zero, List.set_cons_succ])
      refine wpAnyZ_take (i := 3) (oi := ⟨some 37, _, _, _, _, _⟩) (v := ?_) rfl (by kernel_rfl) (by kernel_rfl) (by kernel_rfl) (by kernel_rfl) (fun _ _ _ h => h) (Or.inl ⟨by rfl, ?_⟩) (by assumption) ?_
      rotate_left
      · ((intro w hSw; (try dsimp only at hSw); go_simp); try with_reducible rfl)
      (try simp only [Act.put, List.setIfInBounds_toArray, List.set_cons_zero, List.set_cons_succ])
      refine wpAnyZ_take (i := 4) (oi := ⟨some 38, _, _, _, _, _⟩) (v := ?_) rfl (by kernel_rfl) (by kernel_rfl) (by kernel_rfl) (by kernel_rfl) (fun _ _ _ h => h) (Or.inl ⟨by rfl, ?_⟩) (by assumption) ?_
      rotate_left
      · ((intro w hSw; (try dsimp only at hSw); go_simp); try with_reducible rfl)
      (try simp only [Act.put, List.setIfInBounds_toArray, List.set_cons_zero, List.set_cons_succ])
      refine wpAnyZ_take (i := 5) (oi := ⟨some 39, _, _, _, _, _⟩) (v := ?_) rfl (by kernel_rfl) (by kernel_rfl) (by kernel_rfl) (by kernel_rfl) (fun _ _ _ h => h) (Or.inl ⟨by rfl, ?_⟩) (by assumption) ?_
      rotate_left
      · ((intro w hSw; (try dsimp only at hSw); go_simp); try with_reducible rfl)
      (try simp only [Act.put, List.setIfInBounds_toArray, List.set_cons_zero, List.set_cons_succ])
      refine wpAnyZ_take (i := 6) (oi := ⟨some 40, _, _, _, _, _⟩) (v := ?_) rfl (by kernel_rfl) (by kernel_rfl) (by kernel_rfl) (by kernel_rfl) (fun _ _ _ h => h) (Or.inl ⟨by rfl, ?_⟩) (by assumption) ?_
      rotate_left
      · ((intro w hSw; (try dsimp only at hSw); go_simp); try with_reducible rfl)
      (try simp only [Act.put, List.setIfInBounds_toArray, List.set_cons_zero, List.set_cons_succ])
      refine wpAnyZ_take (i := 7) (oi := ⟨some 41, _, _, _, _, _⟩) (v := ?_) rfl (by kernel_rfl) (by kernel_rfl) (by kernel_rfl) (by kernel_rfl) (fun _ _ _ h => h) (Or.inl ⟨by rfl, ?_⟩) (by assumption) ?_
      rotate_left
      · ((intro w hSw; (try dsimp only at hSw); go_simp); try with_reducible rfl)
      (try simp only [Act.put, List.setIfInBounds_toArray, List.set_cons_zero, List.set_cons_succ])
      refine wpAnyZ_take (i := 8) (oi := ⟨some 42, _, _, _, _, _⟩) (v := ?_) rfl (by kernel_rfl) (by kernel_rfl) (by kernel_rfl) (by kernel_rfl) (fun _ _ _ h => h) (Or.inl ⟨by rfl, ?_⟩) (by assumption) ?_
      rotate_left
      · ((intro w hSw; (try dsimp only at hSw); go_simp); try with_reducible rfl)
      (try simp only [Act.put, List.setIfInBounds_toArray, List.set_cons_zero, List.set_cons_succ])
      refine wpAnyZ_take (i := 9) (oi := ⟨some 43, _, _, _, _, _⟩) (v := ?_) rfl (by kernel_rfl) (by kernel_rfl) (by kernel_rfl) (by kernel_rfl) (fun _ _ _ h => h) (Or.inl ⟨by rfl, ?_⟩) (by assumption) ?_
      rotate_left
      · ((intro w hSw; (try dsimp only at hSw); go_simp); try with_reducible rfl)
      (try simp only [Act.put, List.setIfInBounds_toArray, List.set_cons_zero, List.set_cons_succ])
      refine wpAnyZ_take (i := 10) (oi := ⟨some 44, _, _, _, _, _⟩) (v := ?_) rfl (by kernel_rfl) (by kernel_rfl) (by kernel_rfl) (by kernel_rfl) (fun _ _ _ h => h) (Or.inl ⟨by rfl, ?_⟩) (by assumption) ?_
      rotate_left
      · ((intro w hSw; (try dsimp only at hSw); go_simp); try with_reducible rfl)
      (try simp only [Act.put, List.setIfInBounds_toArray, List.set_cons_zero, List.set_cons_succ])
      refine wpAnyZ_take (i := 11) (oi := ⟨some 45, _, _, _, _, _⟩) (v := ?_) rfl (by kernel_rfl) (by kernel_rfl) (by kernel_rfl) (by kernel_rfl) (fun _ _ _ h => h) (Or.inl ⟨by rfl, ?_⟩) (by assumption) ?_
      rotate_left
      · ((intro w hSw; (try dsimp only at hSw); go_simp); try with_reducible rfl)
      (try simp only [Act.put, List.setIfInBounds_toArray, List.set_cons_zero, List.set_cons_succ])
      refine wpAnyZ_take (i := 12) (oi := ⟨some 46, _, _, _, _, _⟩) (v := ?_) rfl (by kernel_rfl) (by kernel_rfl) (by kernel_rfl) (by kernel_rfl) (fun _ _ _ h => h) (Or.inl ⟨by rfl, ?_⟩) (by assumption) ?_
      rotate_left
      · ((intro w hSw; (try dsimp only at hSw); go_simp); try with_reducible rfl)
      (try simp only [Act.put, List.setIfInBounds_toArray, List.set_cons_zero, List.set_cons_succ])
      refine wpAnyZ_take (i := 13) (oi := ⟨some 47, _, _, _, _, _⟩) (v := ?_) rfl (by kernel_rfl) (by kernel_rfl) (by kernel_rfl) (by kernel_rfl) (fun _ _ _ h => h) (Or.inl ⟨by rfl, ?_⟩) (by assumption) ?_
      rotate_left
      · ((intro w hSw; (try dsimp only at hSw); go_simp); try with_reducible rfl)
      (try simp only [Act.put, List.setIfInBounds_toArray, List.set_cons_zero, List.set_cons_succ])
      refine wpAnyZ_take (i := 14) (oi := ⟨some 48, _, _, _, _, _⟩) (v := ?_) rfl (by kernel_rfl) (by kernel_rfl) (by kernel_rfl) (by kernel_rfl) (fun _ _ _ h => h) (Or.inl ⟨by rfl, ?_⟩) (by assumption) ?_
      rotate_left
      · ((intro w hSw; (try dsimp only at hSw); go_simp); try with_reducible rfl)
      (try simp only [Act.put, List.setIfInBounds_toArray, List.set_cons_zero, List.set_cons_succ])
      refine wpAnyZ_take (i := 15) (oi := ⟨some 49, _, _, _, _, _⟩) (v := ?_) rfl (by kernel_rfl) (by kernel_rfl) (by kernel_rfl) (by kernel_rfl) (fun _ _ _ h => h) (Or.inl ⟨by rfl, ?_⟩) (by assumption) ?_
      rotate_left
      · ((intro w hSw; (try dsimp only at hSw); go_simp); try with_reducible rfl)
      (try simp only [Act.put, List.setIfInBounds_toArray, List.set_cons_zero, List.set_cons_succ])
      refine wpAnyZ_last (by kernel_rfl) rfl (by kernel_rfl) (fun K hK => ?_)
      rw [if_pos (by rfl)]
      go_simp
      refine hK.out _ _ ?_
      clear hK K
      (try simp only [Act.put, List.setIfInBounds_toArray, List.set_cons_zero, List.set_cons_succ])
      refine onlyN_go ?_
      rw [IntWalk.i64_left]
      have hn2 := HS.out.two HL.out HBO.out hbn hcn HC.out HK1.out HY.out HE1.out HPD.out HBD.out HOF.out.drew
      have hoff2 : Off (fun i => i = g 3) W (U.drew.setCell ⟨g 3, c, none⟩ (.int .i64 (wrap64 (nth EN1 c + nth EN1 b)))) := HOF.out.drew.setCell (.inl rfl) _
      exact ⟨(HKO.out _ hoff2).1 _, (HKO.out _ hoff2).2, _, hn2⟩
  case stop =>
    rintro D c pre W _ _ h _
    exact h.elim
  case done =>
    rintro D ys W hD rfl ⟨EN, hS⟩ hK
    obtain ⟨S, hSS, hSE⟩ := hS.st on (by have := HON.out; omega) (by rw [HON.out])
    have hSS0 : SizeSt M pl up o K 0 S := by
      have e : K - on = 0 := by have := HON.out; omega
      rw [e] at hSS
      exact hSS
    have HSZ := Lib.hid hSS0.done
    have HS := Lib.hid hS
    have c1 := HS.out.box.cell
    have c3 : W.cell? ⟨p, 3, none⟩ = some (.slice (some ⟨g 1, 0, none⟩) n n) := by simp [World.cell?, HS.out.at_.blk]
    have hmk := make_intsR n n rfl (by omega)
    obtain ⟨W1, hW1⟩ : ∃ W1, W.alloc (.cells (madeCells #[.int .i64 0] n) 3) = W1 := ⟨_, rfl⟩
    have hb1 : Below W.heap.size W W1 := by rw [← hW1]; exact (Below.refl _ W).alloc (Nat.le_refl _) _
    have HB1 := Lib.hid hb1
    have hz1 : W1.heap.size = W.heap.size + 1 := by rw [← hW1]; simp
    have hWz : W0.heap.size ≤ W.heap.size := HS.out.off.size
    have HTL : RowKit.Hid (TreeLt W0.heap.size p g (.slice oa on oc) fv vs) := Lib.hid HA0.out.tlt
    have HN0 : RowKit.Hid (NumMem W1 M pl up o K S B p n g Z (.slice oa on oc) fv ord vs FR rd w.heap.size W.heap.size W0.heap.size 0 (Z 2) EN (List.replicate n 0) W1) := Lib.hid ⟨HS.out.at_.since hb1, (hb1.block _ HS.out.box.lt).trans HS.out.box, by rw [← hW1]; exact own_zeros hWz (by unfold maxLen; omega), Off.refl _ _, fun _ => 0, fun _ => 0, NumSt.start, fun v hv => by rw [if_neg (by omega)]; exact H2.out v hv, fun v hv => by rw [if_neg (by omega), hSE v hv]; omega, fun v hv hl => absurd hl (by omega)⟩
    have HSE := Lib.hid hSE
    have d1 := HN0.out.box.cell
    have d0 : W1.cell? ⟨p, 0, none⟩ = some (.slice oa on oc) := by simp [World.cell?, HN0.out.at_.blk]
    have HND : RowKit.Hid (NumsAt W1 oa on ord ∧ ∀ g0 off, oa = some ⟨g0, off, none⟩ → g0 < W0.heap.size) := Lib.hid ⟨(HNO.out.off HS.out.off (fun g0 off e _ => HONE.out 3 (by omega) g0 off e)).since hb1, fun g0 off e => HTL.out.2.2.1 g0 (by rw [e]; rfl)⟩
    have HDW : RowKit.Hid (W1.heap[D]? = some (.deferred (some []))) := Lib.hid ((hb1.block D (Array.getElem?_eq_some_iff.1 hK).1).trans hK)
    have HK1 : RowKit.Hid (K ≤ 100000) := Lib.hid (by have := HON.out; omega)
    have hd2 : D ≠ g 2 := fun e => by
      obtain ⟨cur, hc, _⟩ := HS.out.at_.gblk (i := 2) (by omega)
      rw [← e, hK] at hc
      cases hc
    have hd3 : D ≠ g 3 := fun e => by
      obtain ⟨cur, hc, _⟩ := HS.out.at_.gblk (i := 3) (by omega)
      rw [← e, hK] at hc
      cases hc
    have HDN : RowKit.Hid (D ≠ g 2 ∧ D ≠ g 3 ∧ D < W.heap.size) := Lib.hid ⟨hd2, hd3, (Array.getElem?_eq_some_iff.1 hK).1⟩
    clear hd2 hd3
    have HOW : RowKit.Hid (Off (fun i => i = g 2 ∨ i = g 3) w W1) := Lib.hid (((Off.since HB0.out).trans_new HS.out.off (fun i hi => .inl (.inr hi))).trans_new (Off.since (X := fun _ => False) HB1.out) (fun i hi => hi.elim))
    clear hS hSS hSS0 hSE hK hb1
    gi_wp2_with fail
    try rw [hW1]
    clear hW1 d1 d0 c1 c3 hmk
    gi_loopw [61] (fun v61 wr => ∃ (i : Nat) (NU EN RE : List Int), i ≤ on ∧ v61 = .int .i64 (i : Int) ∧ RowKit.Hid (NumMem W1 M pl up o K S B p n g Z (.slice oa on oc) fv ord vs FR rd w.heap.size W.heap.size W0.heap.size i NU EN RE wr)) (fun v61 _ => on - (intOf v61).toNat)
    case atStart => exact ⟨0, _, _, _, Nat.zero_le _, rfl, HN0⟩
    case round =>
      obtain ⟨i, NU, EN, RE, hi, rfl, HI⟩ := hrel
      clear HN0
      obtain ⟨wo, hwo⟩ : ∃ u, u = wr := ⟨_, rfl⟩
      rw [← hwo] at HI ⊢
      clear hwo
      by_cases hlt : i < on
      · have HIK : RowKit.Hid (i < K) := Lib.hid (by have := HON.out; omega)
        obtain ⟨b, hb, hbn, hbo⟩ := HOO.out i (by have := HIK.out; omega)
        have HBO : RowKit.Hid (b = o i) := Lib.hid (hbo i HIK.out rfl)
        have HMB : RowKit.Hid (M b ∧ pl b = i) := Lib.hid (by rw [HBO.out]; exact HL.out.met i HIK.out)
        obtain ⟨g0, off, hae, hg0, hcs⟩ := HND.out.1.2 (by omega)
        subst hae
        have hil : i < ord.length := by have := HND.out.1.1; omega
        have hcb : wo.cell? ⟨g0, off + i, none⟩ = some (.int .i64 (b : Int)) := by
          rw [← hb, nth_is hil]
          refine (HI.out.off.cell (p := ⟨g0, off + i, none⟩) hg0 ?_).trans (hcs i hil)
          rintro (h | h | h)
          · exact HONE.out 2 (by omega) g0 off rfl h
          · exact HONE.out 3 (by omega) g0 off rfl h
          · have := HND.out.2 g0 off rfl
            have h' : g0 = W.heap.size := h
            omega
        clear hb hbo hg0 hcs hil
        have c1 := HI.out.box.cell
        have c3 : wo.cell? ⟨p, 3, none⟩ = some (.slice (some ⟨g 1, 0, none⟩) n n) := by simp [World.cell?, HI.out.at_.blk]
        have u1 : wo.cell? ⟨g 1, b, none⟩ = some (.int .i64 (up b)) := by
          have := HI.out.at_.cell (i := 1) (by omega) hbn
          rw [ZN_one, (HUP.out b hbn).1] at this
          exact this
        have hbi : (b : Int) < (n : Int) := by omega
        have hbi0 : (0 : Int) ≤ (b : Int) := by omega
        have HSM := Lib.hid (HI.out.small HL.out HSZ.out HIK.out HK1.out)
        have HGR : RowKit.Hid (∀ k, k < 5 → g k ≠ W.heap.size) := Lib.hid fun k hk => by have := HTL.out.2.1 k hk; omega
        have HBR : RowKit.Hid (w.heap.size ≠ W.heap.size ∧ ∀ k, k < 5 → w.heap.size ≠ g k) := Lib.hid ⟨by omega, fun k hk => by have := HGN.out k hk; omega⟩
        obtain ⟨eb, heb⟩ : ∃ eb, eb = nth EN b := ⟨_, rfl⟩
        have hebB : 0 ≤ eb ∧ eb ≤ 200000 := by rw [heb]; exact HSM.out.2.1 b HMB.out.1
        rcases (HUP.out b hbn).2 with hneg | ⟨c, hc, hcn⟩
        · have hdec : decide ((0 : Int) ≤ up b) = false := decide_eq_false (by omega)
          have HNE := Lib.hid hneg
          clear hneg
          obtain ⟨x, hx⟩ : ∃ x, x = nth NU b := ⟨_, rfl⟩
          have hxB : 0 ≤ x ∧ x ≤ 100000 := by rw [hx]; exact HSM.out.1 b HMB.out.1
          have c4 : wo.cell? ⟨p, 4, none⟩ = some (.slice (some ⟨g 2, 0, none⟩) n n) := by simp [World.cell?, HI.out.at_.blk]
          have n1 : wo.cell? ⟨g 2, b, none⟩ = some (.int .i64 x) := by have := HI.out.at_.cell (i := 2) (by omega) hbn; rw [ZN_two, ← hx] at this; exact this
          have rf : wo.frozen? ⟨W.heap.size, b, none⟩ = false := own_free HI.out.free b
          have rc : wo.cell? ⟨W.heap.size, b, none⟩ = some (.int .i64 (nth RE b)) := own_cell HI.out.free (by have := HI.out.free.read.1; omega)
          have hw1 : wrap64 (x + 1) = x + 1 := by unfold wrap64; omega
          have hw2 : wrap64 (eb + x) = eb + x := by unfold wrap64; omega
          obtain ⟨U3, hU3⟩ : ∃ U, wo.setCell ⟨W.heap.size, b, none⟩ (.int .i64 (x + 1)) = U := ⟨_, rfl⟩
          have ho3 : Off (fun i => i = W.heap.size) wo U3 := by rw [← hU3]; exact Off.setCell (X := fun i => i = W.heap.size) (p := ⟨W.heap.size, b, none⟩) (Off.refl _ wo) (.inl rfl) _
          have HO3 := Lib.hid ho3
          have HA3 : RowKit.Hid (TreeAt U3 B p n g (ZN Z NU EN) (.slice (some ⟨g0, off, none⟩) on oc) fv ord vs FR rd) := Lib.hid (HI.out.at_.beyond HTL.out ho3 (fun k hk => by have h' : k = W.heap.size := hk; omega))
          have HX3 : RowKit.Hid (TBox U3 w.heap.size p) := Lib.hid (HI.out.box.kept ho3 HBR.out.1)
          have HR3 : RowKit.Hid (OwnsI U3 W0.heap.size 3 (.slice (some ⟨W.heap.size, 0, none⟩) n n) (RE.set b (x + 1))) := Lib.hid (by rw [← hU3]; exact own_store HI.out.free b (x + 1))
          clear ho3
          have HEB := Lib.hid heb
          have HX := Lib.hid hx
          clear heb hx
          gi_wp2_with fail
          try rw [hU3]
          clear hU3 c1 c3 u1 c4 n1 rf rc hcb
          have HAD : RowKit.Hid (TreeAt U3.drew B p n g (ZN Z NU EN) (.slice (some ⟨g0, off, none⟩) on oc) fv ord vs FR rd) := Lib.hid (HA3.out.since (Below.refl _ _).drew)
          have k1 : U3.drew.cell? ⟨w.heap.size, 0, none⟩ = some (.pointer (some ⟨p, 0, none⟩)) := HX3.out.cell
          have k5 : U3.drew.cell? ⟨p, 5, none⟩ = some (.slice (some ⟨g 3, 0, none⟩) n n) := by simp [World.cell?, HAD.out.blk]
          have k4 : U3.drew.cell? ⟨p, 4, none⟩ = some (.slice (some ⟨g 2, 0, none⟩) n n) := by simp [World.cell?, HAD.out.blk]
          have ke : U3.drew.cell? ⟨g 3, b, none⟩ = some (.int .i64 eb) := by have := HAD.out.cell (i := 3) (by omega) hbn; rw [ZN_three, ← HEB.out] at this; exact this
          have kn : U3.drew.cell? ⟨g 2, b, none⟩ = some (.int .i64 x) := by have := HAD.out.cell (i := 2) (by omega) hbn; rw [ZN_two, ← HX.out] at this; exact this
          have kf : U3.drew.frozen? ⟨g 3, b, none⟩ = false := HAD.out.free (by omega) b
          refine wpIn_region_calmN (by kernel_rfl) (by kernel_rfl) (wpAny_of_Z (S := (fun u : World => u.cell? ⟨w.heap.size, 0, none⟩ = some (.pointer (some ⟨p, 0, none⟩)) ∧ u.cell? ⟨p, 5, none⟩ = some (.slice (some ⟨g 3, 0, none⟩) n n) ∧ u.cell? ⟨p, 4, none⟩ = some (.slice (some ⟨g 2, 0, none⟩) n n) ∧ u.cell? ⟨g 3, b, none⟩ = some (.int .i64 eb) ∧ u.cell? ⟨g 2, b, none⟩ = some (.int .i64 x))) (z := 16) _ _ _ _ ?_)
          have hHeld := And.intro k1 (And.intro k5 (And.intro k4 (And.intro ke kn)))
          refine wpAnyZ_take (i := 0) (oi := ⟨some 108, _, _, _, _, _⟩) (v := ?_) rfl (by kernel_rfl) (by kernel_rfl) (by kernel_rfl) (by kernel_rfl) (fun _ _ _ h => h) (Or.inl ⟨by rfl, ?_⟩) (by assumption) ?_
          rotate_left
          · ((intro w hSw; (try dsimp only at hSw); go_simp); try with_reducible rfl)
          (try simp only [Act.put, List.setIfInBounds_toArray, List.set_cons_zero, List.set_cons_succ])
          refine wpAnyZ_take (i := 1) (oi := ⟨some 109, _, _, _, _, _⟩) (v := ?_) rfl (by kernel_rfl) (by kernel_rfl) (by kernel_rfl) (by kernel_rfl) (fun _ _ _ h => h) (Or.inl ⟨by rfl, ?_⟩) (by assumption) ?_
          rotate_left
          · ((intro w hSw; (try dsimp only at hSw); go_simp); try with_reducible rfl)
          (try simp only [Act.put, List.setIfInBounds_toArray, List.set_cons_zero, List.set_cons_succ])
          refine wpAnyZ_take (i := 2) (oi := ⟨some 110, _, _, _, _, _⟩) (v := ?_) rfl (by kernel_rfl) (by kernel_rfl) (by kernel_rfl) (by kernel_rfl) (fun _ _ _ h => h) (Or.inl ⟨by rfl, ?_⟩) (by assumption) ?_
          rotate_left
          · ((intro w hSw; (try dsimp only at hSw); go_simp); try with_reducible rfl)
          (try simp only [Act.put, List.setIfInBounds_toArray, List.set_cons_zero, List.set_cons_succ])
          refine wpAnyZ_take (i := 3) (oi := ⟨some 111, _, _, _, _, _⟩) (v := ?_) rfl (by kernel_rfl) (by kernel_rfl) (by kernel_rfl) (by kernel_rfl) (fun _ _ _ h => h) (Or.inl ⟨by rfl, ?_⟩) (by assumption) ?_
          rotate_left
          · ((intro w hSw; (try dsimp only at hSw); go_simp); try with_reducible rfl)
          (try simp only [Act.put, List.setIfInBounds_toArray, List.set_cons_zero, List.set_cons_succ])
          refine wpAnyZ_take (i := 4) (oi := ⟨some 112, _, _, _, _, _⟩) (v := ?_) rfl (by kernel_rfl) (by kernel_rfl) (by kernel_rfl) (by kernel_rfl) (fun _ _ _ h => h) (Or.inl ⟨by rfl, ?_⟩) (by assumption) ?_
          rotate_left
          · ((intro w hSw; (try dsimp only at hSw); go_simp); try with_reducible rfl)
          (try simp only [Act.put, List.setIfInBounds_toArray, List.set_cons_zero, List.set_cons_succ])
          refine wpAnyZ_take (i := 5) (oi := ⟨some 113, _, _, _, _, _⟩) (v := ?_) rfl (by kernel_rfl) (by kernel_rfl) (by kernel_rfl) (by kernel_rfl) (fun _ _ _ h => h) (Or.inl ⟨by rfl, ?_⟩) (by assumption) ?_
          rotate_left
          · ((intro w hSw; (try dsimp only at hSw); go_simp); try with_reducible rfl)
          (try simp only [Act.put, List.setIfInBounds_toArray, List.set_cons_zero, List.set_cons_succ])
          refine wpAnyZ_take (i := 6) (oi := ⟨some 114, _, _, _, _, _⟩) (v := ?_) rfl (by kernel_rfl) (by kernel_rfl) (by kernel_rfl) (by kernel_rfl) (fun _ _ _ h => h) (Or.inl ⟨by rfl, ?_⟩) (by assumption) ?_
          rotate_left
          · ((intro w hSw; (try dsimp only at hSw); go_simp); try with_reducible rfl)
          (try simp only [Act.put, List.setIfInBounds_toArray, List.set_cons_zero, List.set_cons_succ])
          refine wpAnyZ_take (i := 7) (oi := ⟨some 115, _, _, _, _, _⟩) (v := ?_) rfl (by kernel_rfl) (by kernel_rfl) (by kernel_rfl) (by kernel_rfl) (fun _ _ _ h => h) (Or.inl ⟨by rfl, ?_⟩) (by assumption) ?_
          rotate_left
          · ((intro w hSw; (try dsimp only at hSw); go_simp); try with_reducible rfl)
          (try simp only [Act.put, List.setIfInBounds_toArray, List.set_cons_zero, List.set_cons_succ])
          refine wpAnyZ_take (i := 8) (oi := ⟨some 116, _, _, _, _, _⟩) (v := ?_) rfl (by kernel_rfl) (by kernel_rfl) (by kernel_rfl) (by kernel_rfl) (fun _ _ _ h => h) (Or.inl ⟨by rfl, ?_⟩) (by assumption) ?_
          rotate_left
          · ((intro w hSw; (try dsimp only at hSw); go_simp); try with_reducible rfl)
          (try simp only [Act.put, List.setIfInBounds_toArray, List.set_cons_zero, List.set_cons_succ])
          refine wpAnyZ_take (i := 9) (oi := ⟨some 117, _, _, _, _, _⟩) (v := ?_) rfl (by kernel_rfl) (by kernel_rfl) (by kernel_rfl) (by kernel_rfl) (fun _ _ _ h => h) (Or.inl ⟨by rfl, ?_⟩) (by assumption) ?_
          rotate_left
          · ((intro w hSw; (try dsimp only at hSw); go_simp); try with_reducible rfl)
          (try simp only [Act.put, List.setIfInBounds_toArray, List.set_cons_zero, List.set_cons_succ])
          refine wpAnyZ_take (i := 10) (oi := ⟨some 118, _, _, _, _, _⟩) (v := ?_) rfl (by kernel_rfl) (by kernel_rfl) (by kernel_rfl) (by kernel_rfl) (fun _ _ _ h => h) (Or.inl ⟨by rfl, ?_⟩) (by assumption) ?_
          rotate_left
          · ((intro w hSw; (try dsimp only at hSw); go_simp); try with_reducible rfl)
          (try simp only [Act.put, List.setIfInBounds_toArray, List.set_cons_zero, List.set_cons_succ])
          refine wpAnyZ_take (i := 11) (oi := ⟨some 119, _, _, _, _, _⟩) (v := ?_) rfl (by kernel_rfl) (by kernel_rfl) (by kernel_rfl) (by kernel_rfl) (fun _ _ _ h => h) (Or.inl ⟨by rfl, ?_⟩) (by assumption) ?_
          rotate_left
          · ((intro w hSw; (try dsimp only at hSw); go_simp); try with_reducible rfl)
          (try simp only [Act.put, List.setIfInBounds_toArray, List.set_cons_zero, List.set_cons_succ])
          refine wpAnyZ_take (i := 12) (oi := ⟨some 120, _, _, _, _, _⟩) (v := ?_) rfl (by kernel_rfl) (by kernel_rfl) (by kernel_rfl) (by kernel_rfl) (fun _ _ _ h => h) (Or.inl ⟨by rfl, ?_⟩) (by assumption) ?_
          rotate_left
          · ((intro w hSw; (try dsimp only at hSw); go_simp); try with_reducible rfl)
          (try simp only [Act.put, List.setIfInBounds_toArray, List.set_cons_zero, List.set_cons_succ])
          refine wpAnyZ_take (i := 13) (oi := ⟨some 121, _, _, _, _, _⟩) (v := ?_) rfl (by kernel_rfl) (by kernel_rfl) (by kernel_rfl) (by kernel_rfl) (fun _ _ _ h => h) (Or.inl ⟨by rfl, ?_⟩) (by assumption) ?_
          rotate_left
          · ((intro w hSw; (try dsimp only at hSw); go_simp); try with_reducible rfl)
          (try simp only [Act.put, List.setIfInBounds_toArray, List.set_cons_zero, List.set_cons_succ])
          refine wpAnyZ_take (i := 14) (oi := ⟨some 122, _, _, _, _, _⟩) (v := ?_) rfl (by kernel_rfl) (by kernel_rfl) (by kernel_rfl) (by kernel_rfl) (fun _ _ _ h => h) (Or.inl ⟨by rfl, ?_⟩) (by assumption) ?_
          rotate_left
          · ((intro w hSw; (try dsimp only at hSw); go_simp); try with_reducible rfl)
          (try simp only [Act.put, List.setIfInBounds_toArray, List.set_cons_zero, List.set_cons_succ])
          refine wpAnyZ_take (i := 15) (oi := ⟨some 123, _, _, _, _, _⟩) (v := ?_) rfl (by kernel_rfl) (by kernel_rfl) (by kernel_rfl) (by kernel_rfl) (fun _ _ _ h => h) (Or.inl ⟨by rfl, ?_⟩) (by assumption) ?_
          rotate_left
          · ((intro w hSw; (try dsimp only at hSw); go_simp); try with_reducible rfl)
          (try simp only [Act.put, List.setIfInBounds_toArray, List.set_cons_zero, List.set_cons_succ])
          refine wpAnyZ_last (by kernel_rfl) rfl (by kernel_rfl) (fun K hK => ?_)
          rw [if_pos (by rfl)]
          go_simp
          refine hK.out _ _ ?_
          clear hK K
          (try simp only [Act.put, List.setIfInBounds_toArray, List.set_cons_zero, List.set_cons_succ])
          refine onlyN_go ?_
          try rw [IntWalk.i64_left]
          try rw [hw2]
          obtain ⟨U4, hU4⟩ : ∃ U, (U3.setCell ⟨g 3, b, none⟩ (.int .i64 (eb + x))).drew = U := ⟨_, rfl⟩
          have hU4' : U3.drew.setCell ⟨g 3, b, none⟩ (.int .i64 (eb + x)) = U4 := hU4
          have hput := HAD.out.put (i := 3) (by omega) b (eb + x)
          rw [ZN_end, ZN_three, hU4'] at hput
          have ho4 : Off (fun i => i = g 3) U3 U4 := by rw [← hU4']; exact Off.setCell (X := fun i => i = g 3) (p := ⟨g 3, b, none⟩) (Off.refl _ U3).drew (.inl rfl) _
          have HN1 := Lib.hid (HI.out.first HL.out HSZ.out HIK.out HBO.out hbn HNE.out HK1.out (W2 := U4) (by rw [← HX.out, ← HEB.out]; exact hput) (HX3.out.kept ho4 (HBR.out.2 3 (by omega))) (by rw [← HX.out]; exact own_at HR3.out (fun k hk => by cases hk; exact ho4.block _ (HR3.out.lt _ rfl).2 (fun h => HGR.out 3 (by omega) h.symm))) ((HO3.out.mono (fun k _ hk => .inr (.inr hk))).trans (ho4.mono (fun k _ hk => .inr (.inl hk)))))
          rw [hU4]
          clear hU4 hU4' hput ho4 k1 k5 k4 ke kn kf hHeld
          gi_wp2_with fail
          go_roundw
          case rel => exact ⟨i + 1, _, _, _, hlt, by go_num, HN1⟩
          case measure => simp [intOf]; omega
        · have hdec : decide ((0 : Int) ≤ up b) = true := decide_eq_true (by omega)
          have HC := Lib.hid hc
          rw [hc] at u1 hdec
          have hltc := HL.out.lt b c hc
          rw [HMB.out.2] at hltc
          have HLC := Lib.hid hltc
          obtain ⟨x, hx⟩ : ∃ x, x = nth RE c := ⟨_, rfl⟩
          have hxB : 0 ≤ x ∧ x ≤ 100000 := by rw [hx]; exact HSM.out.2.2 c hltc.1 hltc.2
          have hw0 : wrap64 (x + eb) = x + eb := by unfold wrap64; omega
          have hw1 : wrap64 (x + 1) = x + 1 := by unfold wrap64; omega
          have hw2 : wrap64 (eb + x) = eb + x := by unfold wrap64; omega
          have hci : (c : Int) < (n : Int) := by omega
          have hci0 : (0 : Int) ≤ (c : Int) := by omega
          have hREl : RE.length = n := HI.out.free.read.1
          have HREL := Lib.hid hREl
          have HEB := Lib.hid heb
          have HX := Lib.hid hx
          clear hc hltc heb
          gi_wp2_with fail
          clear c1 c3 u1 hcb
          have HAD : RowKit.Hid (TreeAt wo.drew B p n g (ZN Z NU EN) (.slice (some ⟨g0, off, none⟩) on oc) fv ord vs FR rd) := Lib.hid (HI.out.at_.since (Below.refl _ _).drew)
          have k1 : wo.drew.cell? ⟨w.heap.size, 0, none⟩ = some (.pointer (some ⟨p, 0, none⟩)) := HI.out.box.cell
          have k4 : wo.drew.cell? ⟨p, 4, none⟩ = some (.slice (some ⟨g 2, 0, none⟩) n n) := by simp [World.cell?, HAD.out.blk]
          have kr : wo.drew.cell? ⟨W.heap.size, c, none⟩ = some (.int .i64 x) := by rw [hx]; exact own_cell HI.out.free (by omega)
          have kn : wo.drew.cell? ⟨g 2, b, none⟩ = some (.int .i64 (nth NU b)) := by have := HAD.out.cell (i := 2) (by omega) hbn; rw [ZN_two] at this; exact this
          have kf : wo.drew.frozen? ⟨g 2, b, none⟩ = false := HAD.out.free (by omega) b
          clear hx
          refine wpIn_region_calmN (by kernel_rfl) (by kernel_rfl) (wpAny_of_Z (S := (fun u : World => u.cell? ⟨w.heap.size, 0, none⟩ = some (.pointer (some ⟨p, 0, none⟩)) ∧ u.cell? ⟨p, 4, none⟩ = some (.slice (some ⟨g 2, 0, none⟩) n n) ∧ u.cell? ⟨W.heap.size, c, none⟩ = some (.int .i64 x))) (z := 10) _ _ _ _ ?_)
          have hHeld := And.intro k1 (And.intro k4 kr)
          refine wpAnyZ_take (i := 0) (oi := ⟨some 74, _, _, _, _, _⟩) (v := ?_) rfl (by kernel_rfl) (by kernel_rfl) (by kernel_rfl) (by kernel_rfl) (fun _ _ _ h => h) (Or.inl ⟨by rfl, ?_⟩) (by assumption) ?_
          rotate_left
          · ((intro w hSw; (try dsimp only at hSw); go_simp); try with_reducible rfl)
          (try simp only [Act.put, List.setIfInBounds_toArray, List.set_cons_zero, List.set_cons_succ])
          refine wpAnyZ_take (i := 1) (oi := ⟨some 75, _, _, _, _, _⟩) (v := ?_) rfl (by kernel_rfl) (by kernel_rfl) (by kernel_rfl) (by kernel_rfl) (fun _ _ _ h => h) (Or.inl ⟨by rfl, ?_⟩) (by assumption) ?_
          rotate_left
          · ((intro w hSw; (try dsimp only at hSw); go_simp); try with_reducible rfl)
          (try simp only [Act.put, List.setIfInBounds_toArray, List.set_cons_zero, List.set_cons_succ])
          refine wpAnyZ_take (i := 2) (oi := ⟨some 76, _, _, _, _, _⟩) (v := ?_) rfl (by kernel_rfl) (by kernel_rfl) (by kernel_rfl) (by kernel_rfl) (fun _ _ _ h => h) (Or.inl ⟨by rfl, ?_⟩) (by assumption) ?_
          rotate_left
          · ((intro w hSw; (try dsimp only at hSw); go_simp); try with_reducible rfl)
          (try simp only [Act.put, List.setIfInBounds_toArray, List.set_cons_zero, List.set_cons_succ])
          refine wpAnyZ_take (i := 3) (oi := ⟨some 77, _, _, _, _, _⟩) (v := ?_) rfl (by kernel_rfl) (by kernel_rfl) (by kernel_rfl) (by kernel_rfl) (fun _ _ _ h => h) (Or.inl ⟨by rfl, ?_⟩) (by assumption) ?_
          rotate_left
          · ((intro w hSw; (try dsimp only at hSw); go_simp); try with_reducible rfl)
          (try simp only [Act.put, List.setIfInBounds_toArray, List.set_cons_zero, List.set_cons_succ])
          refine wpAnyZ_take (i := 4) (oi := ⟨some 78, _, _, _, _, _⟩) (v := ?_) rfl (by kernel_rfl) (by kernel_rfl) (by kernel_rfl) (by kernel_rfl) (fun _ _ _ h => h) (Or.inl ⟨by rfl, ?_⟩) (by assumption) ?_
          rotate_left
          · ((intro w hSw; (try dsimp only at hSw); go_simp); try with_reducible rfl)
          (try simp only [Act.put, List.setIfInBounds_toArray, List.set_cons_zero, List.set_cons_succ])
          refine wpAnyZ_take (i := 5) (oi := ⟨some 79, _, _, _, _, _⟩) (v := ?_) rfl (by kernel_rfl) (by kernel_rfl) (by kernel_rfl) (by kernel_rfl) (fun _ _ _ h => h) (Or.inl ⟨by rfl, ?_⟩) (by assumption) ?_
          rotate_left
          · ((intro w hSw; (try dsimp only at hSw); go_simp); try with_reducible rfl)
          (try simp only [Act.put, List.setIfInBounds_toArray, List.set_cons_zero, List.set_cons_succ])
          refine wpAnyZ_take (i := 6) (oi := ⟨some 80, _, _, _, _, _⟩) (v := ?_) rfl (by kernel_rfl) (by kernel_rfl) (by kernel_rfl) (by kernel_rfl) (fun _ _ _ h => h) (Or.inl ⟨by rfl, ?_⟩) (by assumption) ?_
          rotate_left
          · ((intro w hSw; (try dsimp only at hSw); go_simp); try with_reducible rfl)
          (try simp only [Act.put, List.setIfInBounds_toArray, List.set_cons_zero, List.set_cons_succ])
          refine wpAnyZ_take (i := 7) (oi := ⟨some 81, _, _, _, _, _⟩) (v := ?_) rfl (by kernel_rfl) (by kernel_rfl) (by kernel_rfl) (by kernel_rfl) (fun _ _ _ h => h) (Or.inl ⟨by rfl, ?_⟩) (by assumption) ?_
          rotate_left
          · ((intro w hSw; (try dsimp only at hSw); go_simp); try with_reducible rfl)
          (try simp only [Act.put, List.setIfInBounds_toArray, List.set_cons_zero, List.set_cons_succ])
          refine wpAnyZ_take (i := 8) (oi := ⟨some 82, _, _, _, _, _⟩) (v := ?_) rfl (by kernel_rfl) (by kernel_rfl) (by kernel_rfl) (by kernel_rfl) (fun _ _ _ h => h) (Or.inl ⟨by rfl, ?_⟩) (by assumption) ?_
          rotate_left
          · ((intro w hSw; (try dsimp only at hSw); go_simp); try with_reducible rfl)
          (try simp only [Act.put, List.setIfInBounds_toArray, List.set_cons_zero, List.set_cons_succ])
          refine wpAnyZ_take (i := 9) (oi := ⟨some 83, _, _, _, _, _⟩) (v := ?_) rfl (by kernel_rfl) (by kernel_rfl) (by kernel_rfl) (by kernel_rfl) (fun _ _ _ h => h) (Or.inl ⟨by rfl, ?_⟩) (by assumption) ?_
          rotate_left
          · ((intro w hSw; (try dsimp only at hSw); go_simp); try with_reducible rfl)
          (try simp only [Act.put, List.setIfInBounds_toArray, List.set_cons_zero, List.set_cons_succ])
          refine wpAnyZ_last (by kernel_rfl) rfl (by kernel_rfl) (fun K hK => ?_)
          rw [if_pos (by rfl)]
          go_simp
          refine hK.out _ _ ?_
          clear hK K
          (try simp only [Act.put, List.setIfInBounds_toArray, List.set_cons_zero, List.set_cons_succ])
          refine onlyN_go ?_
          obtain ⟨U1, hU1⟩ : ∃ U, (wo.setCell ⟨g 2, b, none⟩ (.int .i64 x)).drew = U := ⟨_, rfl⟩
          have hU1' : wo.drew.setCell ⟨g 2, b, none⟩ (.int .i64 x) = U1 := hU1
          have hput := HAD.out.put (i := 2) (by omega) b x
          rw [ZN_num, ZN_two, hU1'] at hput
          have HA1 : RowKit.Hid (TreeAt U1 B p n g (ZN Z (NU.set b x) EN) (.slice (some ⟨g0, off, none⟩) on oc) fv ord vs FR rd) := Lib.hid hput
          have ho1 : Off (fun i => i = g 2) wo U1 := by rw [← hU1']; exact Off.setCell (X := fun i => i = g 2) (p := ⟨g 2, b, none⟩) (Off.refl _ wo).drew (.inl rfl) _
          have HO1 := Lib.hid ho1
          have HX1 : RowKit.Hid (TBox U1 w.heap.size p) := Lib.hid (HI.out.box.kept ho1 (HBR.out.2 2 (by omega)))
          have HR1 : RowKit.Hid (OwnsI U1 W0.heap.size 3 (.slice (some ⟨W.heap.size, 0, none⟩) n n) RE) := Lib.hid (own_at HI.out.free (fun k hk => by cases hk; exact ho1.block _ (HI.out.free.lt _ rfl).2 (fun h => HGR.out 2 (by omega) h.symm)))
          rw [hU1]
          clear hU1 hU1' hput ho1 k1 k4 kr kn kf hHeld HAD
          gi_wp2_with fail
          have HAD : RowKit.Hid (TreeAt U1.drew B p n g (ZN Z (NU.set b x) EN) (.slice (some ⟨g0, off, none⟩) on oc) fv ord vs FR rd) := Lib.hid (HA1.out.since (Below.refl _ _).drew)
          have k1 : U1.drew.cell? ⟨w.heap.size, 0, none⟩ = some (.pointer (some ⟨p, 0, none⟩)) := HX1.out.cell
          have k5 : U1.drew.cell? ⟨p, 5, none⟩ = some (.slice (some ⟨g 3, 0, none⟩) n n) := by simp [World.cell?, HAD.out.blk]
          have kr : U1.drew.cell? ⟨W.heap.size, c, none⟩ = some (.int .i64 x) := by rw [HX.out]; exact own_cell HR1.out (by omega)
          have ke : U1.drew.cell? ⟨g 3, b, none⟩ = some (.int .i64 eb) := by have := HAD.out.cell (i := 3) (by omega) hbn; rw [ZN_three, ← HEB.out] at this; exact this
          have kf : U1.drew.frozen? ⟨W.heap.size, c, none⟩ = false := own_free HR1.out c
          refine wpIn_region_calmN (by kernel_rfl) (by kernel_rfl) (wpAny_of_Z (S := (fun u : World => u.cell? ⟨w.heap.size, 0, none⟩ = some (.pointer (some ⟨p, 0, none⟩)) ∧ u.cell? ⟨p, 5, none⟩ = some (.slice (some ⟨g 3, 0, none⟩) n n) ∧ u.cell? ⟨W.heap.size, c, none⟩ = some (.int .i64 x) ∧ u.cell? ⟨g 3, b, none⟩ = some (.int .i64 eb))) (z := 13) _ _ _ _ ?_)
          have hHeld := And.intro k1 (And.intro k5 (And.intro kr ke))
          refine wpAnyZ_take (i := 0) (oi := ⟨some 84, _, _, _, _, _⟩) (v := ?_) rfl (by kernel_rfl) (by kernel_rfl) (by kernel_rfl) (by kernel_rfl) (fun _ _ _ h => h) (Or.inl ⟨by rfl, ?_⟩) (by assumption) ?_
          rotate_left
          · ((intro w hSw; (try dsimp only at hSw); go_simp); try with_reducible rfl)
          (try simp only [Act.put, List.setIfInBounds_toArray, List.set_cons_zero, List.set_cons_succ])
          refine wpAnyZ_take (i := 1) (oi := ⟨some 85, _, _, _, _, _⟩) (v := ?_) rfl (by kernel_rfl) (by kernel_rfl) (by kernel_rfl) (by kernel_rfl) (fun _ _ _ h => h) (Or.inl ⟨by rfl, ?_⟩) (by assumption) ?_
          rotate_left
          · ((intro w hSw; (try dsimp only at hSw); go_simp); try with_reducible rfl)
          (try simp only [Act.put, List.setIfInBounds_toArray, List.set_cons_zero, List.set_cons_succ])
          refine wpAnyZ_take (i := 2) (oi := ⟨some 86, _, _, _, _, _⟩) (v := ?_) rfl (by kernel_rfl) (by kernel_rfl) (by kernel_rfl) (by kernel_rfl) (fun _ _ _ h => h) (Or.inl ⟨by rfl, ?_⟩) (by assumption) ?_
          rotate_left
          · ((intro w hSw; (try dsimp only at hSw); go_simp); try with_reducible rfl)
          (try simp only [Act.put, List.setIfInBounds_toArray, List.set_cons_zero, List.set_cons_succ])
          refine wpAnyZ_take (i := 3) (oi := ⟨some 87, _, _, _, _, _⟩) (v := ?_) rfl (by kernel_rfl) (by kernel_rfl) (by kernel_rfl) (by kernel_rfl) (fun _ _ _ h => h) (Or.inl ⟨by rfl, ?_⟩) (by assumption) ?_
          rotate_left
          · ((intro w hSw; (try dsimp only at hSw); go_simp); try with_reducible rfl)
          (try simp only [Act.put, List.setIfInBounds_toArray, List.set_cons_zero, List.set_cons_succ])
          refine wpAnyZ_take (i := 4) (oi := ⟨some 88, _, _, _, _, _⟩) (v := ?_) rfl (by kernel_rfl) (by kernel_rfl) (by kernel_rfl) (by kernel_rfl) (fun _ _ _ h => h) (Or.inl ⟨by rfl, ?_⟩) (by assumption) ?_
          rotate_left
          · ((intro w hSw; (try dsimp only at hSw); go_simp); try with_reducible rfl)
          (try simp only [Act.put, List.setIfInBounds_toArray, List.set_cons_zero, List.set_cons_succ])
          refine wpAnyZ_take (i := 5) (oi := ⟨some 89, _, _, _, _, _⟩) (v := ?_) rfl (by kernel_rfl) (by kernel_rfl) (by kernel_rfl) (by kernel_rfl) (fun _ _ _ h => h) (Or.inl ⟨by rfl, ?_⟩) (by assumption) ?_
          rotate_left
          · ((intro w hSw; (try dsimp only at hSw); go_simp); try with_reducible rfl)
          (try simp only [Act.put, List.setIfInBounds_toArray, List.set_cons_zero, List.set_cons_succ])
          refine wpAnyZ_take (i := 6) (oi := ⟨some 90, _, _, _, _, _⟩) (v := ?_) rfl (by kernel_rfl) (by kernel_rfl) (by kernel_rfl) (by kernel_rfl) (fun _ _ _ h => h) (Or.inl ⟨by rfl, ?_⟩) (by assumption) ?_
          rotate_left
          · ((intro w hSw; (try dsimp only at hSw); go_simp); try with_reducible rfl)
          (try simp only [Act.put, List.setIfInBounds_toArray, List.set_cons_zero, List.set_cons_succ])
          refine wpAnyZ_take (i := 7) (oi := ⟨some 91, _, _, _, _, _⟩) (v := ?_) rfl (by kernel_rfl) (by kernel_rfl) (by kernel_rfl) (by kernel_rfl) (fun _ _ _ h => h) (Or.inl ⟨by rfl, ?_⟩) (by assumption) ?_
          rotate_left
          · ((intro w hSw; (try dsimp only at hSw); go_simp); try with_reducible rfl)
          (try simp only [Act.put, List.setIfInBounds_toArray, List.set_cons_zero, List.set_cons_succ])
          refine wpAnyZ_take (i := 8) (oi := ⟨some 92, _, _, _, _, _⟩) (v := ?_) rfl (by kernel_rfl) (by kernel_rfl) (by kernel_rfl) (by kernel_rfl) (fun _ _ _ h => h) (Or.inl ⟨by rfl, ?_⟩) (by assumption) ?_
          rotate_left
          · ((intro w hSw; (try dsimp only at hSw); go_simp); try with_reducible rfl)
          (try simp only [Act.put, List.setIfInBounds_toArray, List.set_cons_zero, List.set_cons_succ])
          refine wpAnyZ_take (i := 9) (oi := ⟨some 93, _, _, _, _, _⟩) (v := ?_) rfl (by kernel_rfl) (by kernel_rfl) (by kernel_rfl) (by kernel_rfl) (fun _ _ _ h => h) (Or.inl ⟨by rfl, ?_⟩) (by assumption) ?_
          rotate_left
          · ((intro w hSw; (try dsimp only at hSw); go_simp); try with_reducible rfl)
          (try simp only [Act.put, List.setIfInBounds_toArray, List.set_cons_zero, List.set_cons_succ])
          refine wpAnyZ_take (i := 10) (oi := ⟨some 94, _, _, _, _, _⟩) (v := ?_) rfl (by kernel_rfl) (by kernel_rfl) (by kernel_rfl) (by kernel_rfl) (fun _ _ _ h => h) (Or.inl ⟨by rfl, ?_⟩) (by assumption) ?_
          rotate_left
          · ((intro w hSw; (try dsimp only at hSw); go_simp); try with_reducible rfl)
          (try simp only [Act.put, List.setIfInBounds_toArray, List.set_cons_zero, List.set_cons_succ])
          refine wpAnyZ_take (i := 11) (oi := ⟨some 95, _, _, _, _, _⟩) (v := ?_) rfl (by kernel_rfl) (by kernel_rfl) (by kernel_rfl) (by kernel_rfl) (fun _ _ _ h => h) (Or.inl ⟨by rfl, ?_⟩) (by assumption) ?_
          rotate_left
          · ((intro w hSw; (try dsimp only at hSw); go_simp); try with_reducible rfl)
          (try simp only [Act.put, List.setIfInBounds_toArray, List.set_cons_zero, List.set_cons_succ])
          refine wpAnyZ_take (i := 12) (oi := ⟨some 96, _, _, _, _, _⟩) (v := ?_) rfl (by kernel_rfl) (by kernel_rfl) (by kernel_rfl) (by kernel_rfl) (fun _ _ _ h => h) (Or.inl ⟨by rfl, ?_⟩) (by assumption) ?_
          rotate_left
          · ((intro w hSw; (try dsimp only at hSw); go_simp); try with_reducible rfl)
          (try simp only [Act.put, List.setIfInBounds_toArray, List.set_cons_zero, List.set_cons_succ])
          refine wpAnyZ_last (by kernel_rfl) rfl (by kernel_rfl) (fun K hK => ?_)
          rw [if_pos (by rfl)]
          go_simp
          refine hK.out _ _ ?_
          clear hK K
          (try simp only [Act.put, List.setIfInBounds_toArray, List.set_cons_zero, List.set_cons_succ])
          refine onlyN_go ?_
          try rw [IntWalk.i64_left]
          try rw [hw0]
          obtain ⟨U2, hU2⟩ : ∃ U, (U1.setCell ⟨W.heap.size, c, none⟩ (.int .i64 (x + eb))).drew = U := ⟨_, rfl⟩
          have hU2' : U1.drew.setCell ⟨W.heap.size, c, none⟩ (.int .i64 (x + eb)) = U2 := hU2
          have ho2 : Off (fun i => i = W.heap.size) U1 U2 := by rw [← hU2']; exact Off.setCell (X := fun i => i = W.heap.size) (p := ⟨W.heap.size, c, none⟩) (Off.refl _ U1).drew (.inl rfl) _
          have HO2 := Lib.hid ho2
          have HA2 : RowKit.Hid (TreeAt U2 B p n g (ZN Z (NU.set b x) EN) (.slice (some ⟨g0, off, none⟩) on oc) fv ord vs FR rd) := Lib.hid (HA1.out.beyond HTL.out ho2 (fun k hk => by have h' : k = W.heap.size := hk; omega))
          have HX2 : RowKit.Hid (TBox U2 w.heap.size p) := Lib.hid (HX1.out.kept ho2 HBR.out.1)
          have HR2 : RowKit.Hid (OwnsI U2 W0.heap.size 3 (.slice (some ⟨W.heap.size, 0, none⟩) n n) (RE.set c (x + eb))) := Lib.hid (by rw [← hU2']; exact own_store (W := U1.drew) HR1.out c (x + eb))
          rw [hU2]
          clear hU2 hU2' ho2 k1 k5 kr ke kf hHeld HAD
          have c1 := HX2.out.cell
          have c4 : U2.cell? ⟨p, 4, none⟩ = some (.slice (some ⟨g 2, 0, none⟩) n n) := by simp [World.cell?, HA2.out.blk]
          have n1 : U2.cell? ⟨g 2, b, none⟩ = some (.int .i64 x) := by
            have h1 := HA2.out.cell (i := 2) (by omega) hbn
            have h2 := HI.out.at_.len (i := 2) (by omega)
            rw [ZN_two] at h1 h2
            rw [nth_set (by omega), if_pos rfl] at h1
            exact h1
          have rf : U2.frozen? ⟨W.heap.size, b, none⟩ = false := own_free HR2.out b
          have rc : U2.cell? ⟨W.heap.size, b, none⟩ = some (.int .i64 (nth (RE.set c (x + eb)) b)) := own_cell HR2.out (by simp; omega)
          obtain ⟨U3, hU3⟩ : ∃ U, U2.setCell ⟨W.heap.size, b, none⟩ (.int .i64 (x + 1)) = U := ⟨_, rfl⟩
          have ho3 : Off (fun i => i = W.heap.size) U2 U3 := by rw [← hU3]; exact Off.setCell (X := fun i => i = W.heap.size) (p := ⟨W.heap.size, b, none⟩) (Off.refl _ U2) (.inl rfl) _
          have HO3 := Lib.hid ho3
          have HA3 : RowKit.Hid (TreeAt U3 B p n g (ZN Z (NU.set b x) EN) (.slice (some ⟨g0, off, none⟩) on oc) fv ord vs FR rd) := Lib.hid (HA2.out.beyond HTL.out ho3 (fun k hk => by have h' : k = W.heap.size := hk; omega))
          have HX3 : RowKit.Hid (TBox U3 w.heap.size p) := Lib.hid (HX2.out.kept ho3 HBR.out.1)
          have HR3 : RowKit.Hid (OwnsI U3 W0.heap.size 3 (.slice (some ⟨W.heap.size, 0, none⟩) n n) ((RE.set c (x + eb)).set b (x + 1))) := Lib.hid (by rw [← hU3]; exact own_store HR2.out b (x + 1))
          clear ho3
          gi_wp2_with fail
          try rw [hU3]
          clear hU3 c1 c4 n1 rf rc
          have HAD : RowKit.Hid (TreeAt U3.drew B p n g (ZN Z (NU.set b x) EN) (.slice (some ⟨g0, off, none⟩) on oc) fv ord vs FR rd) := Lib.hid (HA3.out.since (Below.refl _ _).drew)
          have k1 : U3.drew.cell? ⟨w.heap.size, 0, none⟩ = some (.pointer (some ⟨p, 0, none⟩)) := HX3.out.cell
          have k5 : U3.drew.cell? ⟨p, 5, none⟩ = some (.slice (some ⟨g 3, 0, none⟩) n n) := by simp [World.cell?, HAD.out.blk]
          have k4 : U3.drew.cell? ⟨p, 4, none⟩ = some (.slice (some ⟨g 2, 0, none⟩) n n) := by simp [World.cell?, HAD.out.blk]
          have ke : U3.drew.cell? ⟨g 3, b, none⟩ = some (.int .i64 eb) := by have := HAD.out.cell (i := 3) (by omega) hbn; rw [ZN_three, ← HEB.out] at this; exact this
          have kn : U3.drew.cell? ⟨g 2, b, none⟩ = some (.int .i64 x) := by
            have h1 := HAD.out.cell (i := 2) (by omega) hbn
            have h2 := HI.out.at_.len (i := 2) (by omega)
            rw [ZN_two] at h1 h2
            rw [nth_set (by omega), if_pos rfl] at h1
            exact h1
          have kf : U3.drew.frozen? ⟨g 3, b, none⟩ = false := HAD.out.free (by omega) b
          refine wpIn_region_calmN (by kernel_rfl) (by kernel_rfl) (wpAny_of_Z (S := (fun u : World => u.cell? ⟨w.heap.size, 0, none⟩ = some (.pointer (some ⟨p, 0, none⟩)) ∧ u.cell? ⟨p, 5, none⟩ = some (.slice (some ⟨g 3, 0, none⟩) n n) ∧ u.cell? ⟨p, 4, none⟩ = some (.slice (some ⟨g 2, 0, none⟩) n n) ∧ u.cell? ⟨g 3, b, none⟩ = some (.int .i64 eb) ∧ u.cell? ⟨g 2, b, none⟩ = some (.int .i64 x))) (z := 16) _ _ _ _ ?_)
          have hHeld := And.intro k1 (And.intro k5 (And.intro k4 (And.intro ke kn)))
          refine wpAnyZ_take (i := 0) (oi := ⟨some 108, _, _, _, _, _⟩) (v := ?_) rfl (by kernel_rfl) (by kernel_rfl) (by kernel_rfl) (by kernel_rfl) (fun _ _ _ h => h) (Or.inl ⟨by rfl, ?_⟩) (by assumption) ?_
          rotate_left
          · ((intro w hSw; (try dsimp only at hSw); go_simp); try with_reducible rfl)
          (try simp only [Act.put, List.setIfInBounds_toArray, List.set_cons_zero, List.set_cons_succ])
          refine wpAnyZ_take (i := 1) (oi := ⟨some 109, _, _, _, _, _⟩) (v := ?_) rfl (by kernel_rfl) (by kernel_rfl) (by kernel_rfl) (by kernel_rfl) (fun _ _ _ h => h) (Or.inl ⟨by rfl, ?_⟩) (by assumption) ?_
          rotate_left
          · ((intro w hSw; (try dsimp only at hSw); go_simp); try with_reducible rfl)
          (try simp only [Act.put, List.setIfInBounds_toArray, List.set_cons_zero, List.set_cons_succ])
          refine wpAnyZ_take (i := 2) (oi := ⟨some 110, _, _, _, _, _⟩) (v := ?_) rfl (by kernel_rfl) (by kernel_rfl) (by kernel_rfl) (by kernel_rfl) (fun _ _ _ h => h) (Or.inl ⟨by rfl, ?_⟩) (by assumption) ?_
          rotate_left
          · ((intro w hSw; (try dsimp only at hSw); go_simp); try with_reducible rfl)
          (try simp only [Act.put, List.setIfInBounds_toArray, List.set_cons_zero, List.set_cons_succ])
          refine wpAnyZ_take (i := 3) (oi := ⟨some 111, _, _, _, _, _⟩) (v := ?_) rfl (by kernel_rfl) (by kernel_rfl) (by kernel_rfl) (by kernel_rfl) (fun _ _ _ h => h) (Or.inl ⟨by rfl, ?_⟩) (by assumption) ?_
          rotate_left
          · ((intro w hSw; (try dsimp only at hSw); go_simp); try with_reducible rfl)
          (try simp only [Act.put, List.setIfInBounds_toArray, List.set_cons_zero, List.set_cons_succ])
          refine wpAnyZ_take (i := 4) (oi := ⟨some 112, _, _, _, _, _⟩) (v := ?_) rfl (by kernel_rfl) (by kernel_rfl) (by kernel_rfl) (by kernel_rfl) (fun _ _ _ h => h) (Or.inl ⟨by rfl, ?_⟩) (by assumption) ?_
          rotate_left
          · ((intro w hSw; (try dsimp only at hSw); go_simp); try with_reducible rfl)
          (try simp only [Act.put, List.setIfInBounds_toArray, List.set_cons_zero, List.set_cons_succ])
          refine wpAnyZ_take (i := 5) (oi := ⟨some 113, _, _, _, _, _⟩) (v := ?_) rfl (by kernel_rfl) (by kernel_rfl) (by kernel_rfl) (by kernel_rfl) (fun _ _ _ h => h) (Or.inl ⟨by rfl, ?_⟩) (by assumption) ?_
          rotate_left
          · ((intro w hSw; (try dsimp only at hSw); go_simp); try with_reducible rfl)
          (try simp only [Act.put, List.setIfInBounds_toArray, List.set_cons_zero, List.set_cons_succ])
          refine wpAnyZ_take (i := 6) (oi := ⟨some 114, _, _, _, _, _⟩) (v := ?_) rfl (by kernel_rfl) (by kernel_rfl) (by kernel_rfl) (by kernel_rfl) (fun _ _ _ h => h) (Or.inl ⟨by rfl, ?_⟩) (by assumption) ?_
          rotate_left
          · ((intro w hSw; (try dsimp only at hSw); go_simp); try with_reducible rfl)
          (try simp only [Act.put, List.setIfInBounds_toArray, List.set_cons_zero, List.set_cons_succ])
          refine wpAnyZ_take (i := 7) (oi := ⟨some 115, _, _, _, _, _⟩) (v := ?_) rfl (by kernel_rfl) (by kernel_rfl) (by kernel_rfl) (by kernel_rfl) (fun _ _ _ h => h) (Or.inl ⟨by rfl, ?_⟩) (by assumption) ?_
          rotate_left
          · ((intro w hSw; (try dsimp only at hSw); go_simp); try with_reducible rfl)
          (try simp only [Act.put, List.setIfInBounds_toArray, List.set_cons_zero, List.set_cons_succ])
          refine wpAnyZ_take (i := 8) (oi := ⟨some 116, _, _, _, _, _⟩) (v := ?_) rfl (by kernel_rfl) (by kernel_rfl) (by kernel_rfl) (by kernel_rfl) (fun _ _ _ h => h) (Or.inl ⟨by rfl, ?_⟩) (by assumption) ?_
          rotate_left
          · ((intro w hSw; (try dsimp only at hSw); go_simp); try with_reducible rfl)
          (try simp only [Act.put, List.setIfInBounds_toArray, List.set_cons_zero, List.set_cons_succ])
          refine wpAnyZ_take (i := 9) (oi := ⟨some 117, _, _, _, _, _⟩) (v := ?_) rfl (by kernel_rfl) (by kernel_rfl) (by kernel_rfl) (by kernel_rfl) (fun _ _ _ h => h) (Or.inl ⟨by rfl, ?_⟩) (by assumption) ?_
          rotate_left
          · ((intro w hSw; (try dsimp only at hSw); go_simp); try with_reducible rfl)
          (try simp only [Act.put, List.setIfInBounds_toArray, List.set_cons_zero, List.set_cons_succ])
          refine wpAnyZ_take (i := 10) (oi := ⟨some 118, _, _, _, _, _⟩) (v := ?_) rfl (by kernel_rfl) (by kernel_rfl) (by kernel_rfl) (by kernel_rfl) (fun _ _ _ h => h) (Or.inl ⟨by rfl, ?_⟩) (by assumption) ?_
          rotate_left
          · ((intro w hSw; (try dsimp only at hSw); go_simp); try with_reducible rfl)
          (try simp only [Act.put, List.setIfInBounds_toArray, List.set_cons_zero, List.set_cons_succ])
          refine wpAnyZ_take (i := 11) (oi := ⟨some 119, _, _, _, _, _⟩) (v := ?_) rfl (by kernel_rfl) (by kernel_rfl) (by kernel_rfl) (by kernel_rfl) (fun _ _ _ h => h) (Or.inl ⟨by rfl, ?_⟩) (by assumption) ?_
          rotate_left
          · ((intro w hSw; (try dsimp only at hSw); go_simp); try with_reducible rfl)
          (try simp only [Act.put, List.setIfInBounds_toArray, List.set_cons_zero, List.set_cons_succ])
          refine wpAnyZ_take (i := 12) (oi := ⟨some 120, _, _, _, _, _⟩) (v := ?_) rfl (by kernel_rfl) (by kernel_rfl) (by kernel_rfl) (by kernel_rfl) (fun _ _ _ h => h) (Or.inl ⟨by rfl, ?_⟩) (by assumption) ?_
          rotate_left
          · ((intro w hSw; (try dsimp only at hSw); go_simp); try with_reducible rfl)
          (try simp only [Act.put, List.setIfInBounds_toArray, List.set_cons_zero, List.set_cons_succ])
          refine wpAnyZ_take (i := 13) (oi := ⟨some 121, _, _, _, _, _⟩) (v := ?_) rfl (by kernel_rfl) (by kernel_rfl) (by kernel_rfl) (by kernel_rfl) (fun _ _ _ h => h) (Or.inl ⟨by rfl, ?_⟩) (by assumption) ?_
          rotate_left
          · ((intro w hSw; (try dsimp only at hSw); go_simp); try with_reducible rfl)
          (try simp only [Act.put, List.setIfInBounds_toArray, List.set_cons_zero, List.set_cons_succ])
          refine wpAnyZ_take (i := 14) (oi := ⟨some 122, _, _, _, _, _⟩) (v := ?_) rfl (by kernel_rfl) (by kernel_rfl) (by kernel_rfl) (by kernel_rfl) (fun _ _ _ h => h) (Or.inl ⟨by rfl, ?_⟩) (by assumption) ?_
          rotate_left
          · ((intro w hSw; (try dsimp only at hSw); go_simp); try with_reducible rfl)
          (try simp only [Act.put, List.setIfInBounds_toArray, List.set_cons_zero, List.set_cons_succ])
          refine wpAnyZ_take (i := 15) (oi := ⟨some 123, _, _, _, _, _⟩) (v := ?_) rfl (by kernel_rfl) (by kernel_rfl) (by kernel_rfl) (by kernel_rfl) (fun _ _ _ h => h) (Or.inl ⟨by rfl, ?_⟩) (by assumption) ?_
          rotate_left
          · ((intro w hSw; (try dsimp only at hSw); go_simp); try with_reducible rfl)
          (try simp only [Act.put, List.setIfInBounds_toArray, List.set_cons_zero, List.set_cons_succ])
          refine wpAnyZ_last (by kernel_rfl) rfl (by kernel_rfl) (fun K hK => ?_)
          rw [if_pos (by rfl)]
          go_simp
          refine hK.out _ _ ?_
          clear hK K
          (try simp only [Act.put, List.setIfInBounds_toArray, List.set_cons_zero, List.set_cons_succ])
          refine onlyN_go ?_
          try rw [IntWalk.i64_left]
          try rw [hw2]
          obtain ⟨U4, hU4⟩ : ∃ U, (U3.setCell ⟨g 3, b, none⟩ (.int .i64 (eb + x))).drew = U := ⟨_, rfl⟩
          have hU4' : U3.drew.setCell ⟨g 3, b, none⟩ (.int .i64 (eb + x)) = U4 := hU4
          have hput := HAD.out.put (i := 3) (by omega) b (eb + x)
          rw [ZN_end, ZN_three, hU4'] at hput
          have ho4 : Off (fun i => i = g 3) U3 U4 := by rw [← hU4']; exact Off.setCell (X := fun i => i = g 3) (p := ⟨g 3, b, none⟩) (Off.refl _ U3).drew (.inl rfl) _
          have hoff := (((HO1.out.mono (Y := fun i => i = g 2 ∨ i = g 3 ∨ i = W.heap.size) (fun k _ hk => .inl hk)).trans (HO2.out.mono (fun k _ hk => .inr (.inr hk)))).trans (HO3.out.mono (fun k _ hk => .inr (.inr hk)))).trans (ho4.mono (fun k _ hk => .inr (.inl hk)))
          have HN1 := Lib.hid (HI.out.next HL.out HSZ.out HIK.out HBO.out hbn hcn HC.out HK1.out (W2 := U4) HX.out rfl (by rw [← HX.out, ← HEB.out]) (by rw [← HEB.out]) hput (HX3.out.kept ho4 (HBR.out.2 3 (by omega))) (own_at HR3.out (fun k hk => by cases hk; exact ho4.block _ (HR3.out.lt _ rfl).2 (fun h => HGR.out 3 (by omega) h.symm))) hoff)
          rw [hU4]
          clear hU4 hU4' hput ho4 hoff k1 k5 k4 ke kn kf hHeld
          gi_wp2_with fail
          go_roundw
          case rel => exact ⟨i + 1, _, _, _, hlt, by go_num, HN1⟩
          case measure => simp [intOf]; omega
      · obtain rfl : i = on := by omega
        obtain ⟨N, R, hN, h1, h2, h3⟩ := HI.out.st
        have HNB : RowKit.Hid (Numbered M pl up o K S N ∧ (∀ v, M v → nth NU v = (N v : Int)) ∧ ∀ v, M v → nth EN v = (S v : Int) + (N v : Int)) := Lib.hid ⟨by rw [HON.out] at hN; exact hN.done HL.out HSZ.out, fun v hv => by rw [h1 v hv, if_pos (by have := (HL.out.at_ v hv).2; have := HON.out; omega)], fun v hv => by rw [h2 v hv, if_pos (by have := (HL.out.at_ v hv).2; have := HON.out; omega)]⟩
        have hDlt := (Array.getElem?_eq_some_iff.1 HDW.out).1
        have hDo : wo.heap[D]? = some (.deferred (some [])) := by
          refine (HI.out.off.block D hDlt ?_).trans HDW.out
          rintro (h | h | h)
          · exact HDN.out.1 h
          · exact HDN.out.2.1 h
          · have := HDN.out.2.2
            have h' : D = W.heap.size := h
            omega
        clear hN h1 h2 h3
        gi_wp2
        refine ⟨by simp, .inl ⟨_, _, rfl, run_takeDeferred hDo, ?_⟩⟩
        have hg := grownBy_putObj' wo D (.deferred none)
        refine ⟨_, results_none rfl _ _ _, rfl, NU, EN, S, N, HI.out.at_.kept (X := fun k => k = D) ((Off.refl _ wo).grown hg (fun k e => by cases e; exact .inl rfl)) (fun k hk C t e => by have h' : k = D := hk; rw [h', hDo] at e; cases e), ?_, HNB.out⟩
        refine Off.grown (HOW.out.trans_new HI.out.off (fun k hk => ?_)) hg (fun k e => by cases e; exact .inr (by omega))
        rcases hk with h | h | h
        · exact .inl (.inl h)
        · exact .inl (.inr h)
        · have h' : k = W.heap.size := h
          exact .inr (by omega)
end Go.Proofs.Ytnnccahpgailiaa

/- Layer 8: the document's Over. -/
namespace Go.Proofs.Ytnnccahpgailiaa
open Go.RowKit (wrap64 intOf Below)
set_option linter.unusedVariables false
set_option linter.unusedSimpArgs false

/-- The block z is met from fr on, over blocks that are not wo. -/
def MI (f : FuncD) (fr wo z : Int) : Prop := ∃ v : Nat, z = v ∧ RM f fr wo v
theorem mi_iff {f : FuncD} {fr wo : Int} {n : Nat} {Z : List Int} (hI : Inv n Z) (h : ∀ v : Nat, (v : Int) ∈ Z ↔ RM f fr wo v) (z : Int) : z ∈ Z ↔ MI f fr wo z := by
  constructor
  · intro hz
    obtain ⟨v, rfl, _⟩ := nat_of (hI.2 z hz)
    exact ⟨v, rfl, (h v).1 hz⟩
  · rintro ⟨v, rfl, hv⟩
    exact (h v).2 hv
/-- x is met, y is met, and y is not met without x. -/
def OverF (f : FuncD) (x y : Int) : Prop := MI f 0 (-1) x ∧ MI f 0 (-1) y ∧ ¬ MI f 0 x y
open Classical in
noncomputable def overB (f : FuncD) (x y : Int) : Bool := decide (OverF f x y)
theorem overB_of {f : FuncD} {x y : Int} {q : Bool} (h : q = true ↔ OverF f x y) : q = overB f x y := by
  unfold overB
  rw [Bool.eq_iff_iff]
  simpa using h
theorem overB_iff {f : FuncD} {x y : Int} : overB f x y = true ↔ OverF f x y := by unfold overB; simp
theorem law_enter (w : World) (r : Int) (a : Option Addr) (n c : Nat) : LawSt w r a n c none 0 [] (w.alloc (.cells #[.int .i64 r, .slice a n c] 24)) := by
  have hc : ∀ j, (w.alloc (.cells #[.int .i64 r, .slice a n c] 24)).cell? ⟨w.heap.size, j, none⟩ = (#[.int .i64 r, .slice a n c] : Array Value)[j]? := fun j => World.cell?_alloc_mark _ _ _ _ _
  exact ⟨(Below.refl w.heap.size w).alloc (Nat.le_refl _) _, by simp, hc 0, hc 1, NumsAt.nil _ _⟩
set_option maxRecDepth 100000 in
set_option maxHeartbeats 4000000 in
theorem refover_any (r : Int) (a : Option Addr) (n c : Nat) (f : FuncD) (x y : Int) (w : World) (hrow : RowV BlockQ 8 w (.slice a n c) f.blocks) (hn : n ≤ 1099511627776) :
    Calls Try.prog 16 #[.agg #[.int .i64 r, .slice a n c], .int .i64 x, .int .i64 y] w fun e w' => e = .returned (.bool (overB f x y)) ∧ Below w.heap.size w w' := by
  have HROW := Lib.hid hrow
  clear hrow
  have CM : RowKit.Hid (∀ (fr wo : Int) (u : World), Below w.heap.size w u → Calls Try.prog 35 #[.agg #[.int .i64 r, .slice a n c], .int .i64 fr, .int .i64 wo] u fun e w' => ∃ va vn vc Z, e = .returned (.slice va vn vc) ∧ OwnsI w' u.heap.size 3 (.slice va vn vc) Z ∧ vn ≤ n ∧ (∀ z, z ∈ Z ↔ MI f fr wo z) ∧ Below u.heap.size u w') := Lib.hid fun fr wo u hu => (refmet_any r a n c f fr wo u (HROW.out.since BlockQ.lasts hu) hn).mono (by
    rintro e w' ⟨va, vn, vc, Z, he, ho, hI, hZ, hb⟩
    exact ⟨va, vn, vc, Z, he, ho, by have := ho.read.1; have := hI.len; omega, mi_iff hI hZ, hb⟩)
  obtain ⟨W0, hW0⟩ : ∃ W0, w.alloc (.cells #[.int .i64 r, .slice a n c] 24) = W0 := ⟨_, rfl⟩
  have HS0 : RowKit.Hid (LawSt w r a n c none 0 [] W0) := Lib.hid (by rw [← hW0]; exact law_enter w r a n c)
  have hc0 := HS0.out.c0
  have hc1 := HS0.out.c1
  go_enter Try.func16, Try.ntmps16
  go_upto_region 2 with (go_at_call 35; refine (CM.out 0 (-1) W0 HS0.out.bel).mono ?_; rintro e w1 ⟨va, vn, vc, Z, rfl, ho, hvn, hZ, hb⟩; have HB1 := Lib.hid hb; have HO1 := Lib.hid ho; have HZ1 := Lib.hid hZ; clear ho hZ hb)
  clear hW0 hc0 hc1
  have HS1 : RowKit.Hid (LawSt w r a n c none 0 [] w1) := Lib.hid (HS0.out.since HB1.out)
  have hc0 := HS1.out.c0
  have hc1 := HS1.out.c1
  have CHx : RowKit.Hid (Calls Try.prog 36 #[.slice va vn vc, .int .i64 x] w1 fun e w' => e = .returned (.bool (inL Z x)) ∧ w1 = w') := Lib.hid (has_any va vn vc Z x w1 HO1.out.read (by omega))
  have CHy : RowKit.Hid (Calls Try.prog 36 #[.slice va vn vc, .int .i64 y] w1 fun e w' => e = .returned (.bool (inL Z y)) ∧ w1 = w') := Lib.hid (has_any va vn vc Z y w1 HO1.out.read (by omega))
  cases hx : inL Z x with
  | false =>
    have HR : RowKit.Hid (false = overB f x y) := Lib.hid (overB_of ⟨fun h => by simp at h, fun h => absurd ((HZ1.out x).2 h.1) (of_decide_eq_false hx)⟩)
    rw [hx] at CHx
    clear hx
    go_wp2_with (go_at_call 36; (with_reducible refine CHx.out.mono ?_); rintro e u ⟨rfl, rfl⟩; clear CHx)
    go_ret
    exact ⟨by rw [← HR.out]; rfl, HS1.out.bel⟩
  | true =>
    rw [hx] at CHx
    have HX := Lib.hid ((HZ1.out x).1 (of_decide_eq_true hx))
    clear hx
    cases hy : inL Z y with
    | false =>
      have HR : RowKit.Hid (false = overB f x y) := Lib.hid (overB_of ⟨fun h => by simp at h, fun h => absurd ((HZ1.out y).2 h.2.1) (of_decide_eq_false hy)⟩)
      rw [hy] at CHy
      clear hy
      go_wp2_with (first
        | (go_at_call 36; (with_reducible refine CHx.out.mono ?_); rintro e u ⟨rfl, rfl⟩; clear CHx)
        | (go_at_call 36; (with_reducible refine CHy.out.mono ?_); rintro e u ⟨rfl, rfl⟩; clear CHy))
      go_ret
      exact ⟨by rw [← HR.out]; rfl, HS1.out.bel⟩
    | true =>
      rw [hy] at CHy
      have HY := Lib.hid ((HZ1.out y).1 (of_decide_eq_true hy))
      clear hy
      go_wp2_with (first
        | (go_at_call 36; (with_reducible refine CHx.out.mono ?_); rintro e u ⟨rfl, rfl⟩; clear CHx)
        | (go_at_call 36; (with_reducible refine CHy.out.mono ?_); rintro e u ⟨rfl, rfl⟩; clear CHy)
        | (go_at_call 35; (with_reducible refine (CM.out 0 x w1 HS1.out.bel).mono ?_); rintro e w2 ⟨ya, yn, yc, Y, rfl, ho, hyn, hY, hb⟩; have HB2 := Lib.hid hb; have CHz := Lib.hid (has_any ya yn yc Y y w2 ho.read (by omega)); have HR : RowKit.Hid ((!inL Y y) = overB f x y) := Lib.hid (overB_of (by rw [Bool.not_eq_true']; constructor; (intro h; exact ⟨HX.out, HY.out, fun h2 => of_decide_eq_false h ((hY y).2 h2)⟩); (intro h; exact decide_eq_false fun h2 => h.2.2 ((hY y).1 h2)))); generalize inL Y y = bb at CHz HR; clear ho hY hb)
        | (go_at_call 36; (with_reducible refine CHz.out.mono ?_); rintro e u ⟨rfl, rfl⟩; clear CHz))
      go_ret
      exact ⟨by rw [← HR.out]; rfl, (HS1.out.since HB2.out).bel⟩
end Go.Proofs.Ytnnccahpgailiaa

/- Layer 8, plain: what the settled tree tells is what the document asks: over, above, edges, loops, tame. Nothing of the program is named here. -/
namespace Go.Proofs.Ytnnccahpgailiaa
set_option linter.unusedVariables false

section
variable {f : FuncD} {n m : Nat} {UP : List Int}
theorem way_mono_ok {E : Nat → Nat → Prop} {ok ok' : Nat → Prop} (h : ∀ v, ok v ↔ ok' v) {x y : Nat} : Way E ok x y ↔ Way E ok' x y :=
  ⟨fun p => p.mono fun v => (h v).1, fun p => p.mono fun v => (h v).2⟩
theorem mi_met (f : FuncD) (v : Nat) : MI f 0 (-1) v ↔ MetF f v := by
  constructor
  · rintro ⟨u, hu, k, hk, hkl, hw⟩
    obtain rfl : v = u := by omega
    obtain rfl : k = 0 := by omega
    exact (met_way hkl v).2 (hw.mono fun _ _ => trivial)
  · intro h
    have h0 : 0 < f.blocks.length := by have := met_lt h; omega
    exact ⟨v, rfl, 0, rfl, h0, ((met_way h0 v).1 h).mono fun u _ => by omega⟩
theorem mi_none {f : FuncD} {fr wo z : Int} (h : MI f fr wo z) : ∃ v : Nat, z = v := by obtain ⟨v, h, _⟩ := h; exact ⟨v, h⟩
theorem mi_without (f : FuncD) (h0 : 0 < f.blocks.length) (a v : Nat) : MI f 0 a v ↔ ¬ Dom (EdgeF f) a v := by
  unfold Dom
  rw [Classical.not_not]
  constructor
  · rintro ⟨u, hu, k, hk, hkl, hw⟩
    obtain rfl : v = u := by omega
    obtain rfl : k = 0 := by omega
    exact hw.mono fun u hu => by omega
  · intro h
    exact ⟨v, rfl, 0, rfl, h0, h.mono fun u hu => by omega⟩
theorem over_on (hs : Settled (EdgeF f) (MetF f) (plF f) n UP m) (x y : Int) : OverF f x y ↔ ∃ a b : Nat, x = a ∧ y = b ∧ MetF f a ∧ MetF f b ∧ On (upOf n UP) b a := by
  constructor
  · rintro ⟨h1, h2, h3⟩
    obtain ⟨a, rfl⟩ := mi_none h1
    obtain ⟨b, rfl⟩ := mi_none h2
    have ha := (mi_met f a).1 h1
    have hb := (mi_met f b).1 h2
    have h0 : 0 < f.blocks.length := by have := met_lt ha; omega
    exact ⟨a, b, rfl, rfl, ha, hb, (settled (rpo_of f h0) hs.tree hs.all hs.fix hb ha).2 (Classical.byContradiction fun h => h3 ((mi_without f h0 a b).2 h))⟩
  · rintro ⟨a, b, rfl, rfl, ha, hb, ho⟩
    have h0 : 0 < f.blocks.length := by have := met_lt ha; omega
    exact ⟨(mi_met f a).2 ha, (mi_met f b).2 hb, fun h => (mi_without f h0 a b).1 h ((settled (rpo_of f h0) hs.tree hs.all hs.fix hb ha).1 ho)⟩
theorem over_nat (hs : Settled (EdgeF f) (MetF f) (plF f) n UP m) (a b : Nat) : OverF f a b ↔ MetF f a ∧ MetF f b ∧ On (upOf n UP) b a := by
  rw [over_on hs]
  constructor
  · rintro ⟨a', b', e1, e2, h⟩
    obtain rfl : a = a' := by omega
    obtain rfl : b = b' := by omega
    exact h
  · exact fun h => ⟨a, b, rfl, rfl, h⟩
theorem on_anti {E : Nat → Nat → Prop} {M : Nat → Prop} {pl : Nat → Nat} {up : Nat → Int} (T : Tree E M pl up m) {a b : Nat} (h1 : On up a b) (h2 : On up b a) : a = b := by
  rcases on_pl T.lt h1 with h | ⟨_, h, _⟩
  · exact h
  · have := on_le T.lt h2; omega
theorem on_other {up : Nat → Int} {b a : Nat} (h : On up b a) (hne : a ≠ b) : ∃ c : Nat, up b = (c : Int) ∧ On up c a := by
  cases h with
  | refl _ => exact absurd rfl hne
  | step e h => exact ⟨_, e, h⟩
/-- a is over b, and next to it. -/
def NextOver (f : FuncD) (n : Nat) (b a : Nat) : Prop := a ≠ b ∧ OverF f a b ∧ ∀ c, c < n → c ≠ b → OverF f c b → OverF f c a
theorem nextOver_up (hs : Settled (EdgeF f) (MetF f) (plF f) n UP m) (hn : n = f.blocks.length) {a b : Nat} : NextOver f n b a ↔ upOf n UP b = (a : Int) := by
  constructor
  · rintro ⟨h1, h2, h3⟩
    have h4 := (over_nat hs a b).1 h2
    obtain ⟨c, hc, hca⟩ := on_other h4.2.2 h1
    have hlt := hs.tree.lt _ _ hc
    have h5 := h3 c (by rw [hn]; exact met_lt hlt.1) (fun e => by rw [e] at hlt; omega) ((over_nat hs c b).2 ⟨hlt.1, h4.2.1, .step hc (.refl _)⟩)
    have := on_anti hs.tree hca ((over_nat hs c a).1 h5).2.2
    rw [hc, this]
  · intro h
    have hlt := hs.tree.lt _ _ h
    have hMb : MetF f b := Classical.byContradiction fun hn => by
      rw [hs.tree.none b (fun h => hn h.1)] at h; omega
    refine ⟨fun e => by rw [e] at hlt; omega, (over_nat hs a b).2 ⟨hlt.1, hMb, .step h (.refl _)⟩, fun c hc hcb ho => ?_⟩
    have h4 := (over_nat hs c b).1 ho
    obtain ⟨d, hd, hda⟩ := on_other h4.2.2 hcb
    have : d = a := Int.ofNat.inj (hd.symm.trans h)
    subst this
    exact (over_nat hs c d).2 ⟨h4.1, hlt.1, hda⟩
/-- The blocks where a's being over others ends. -/
def EdgeAt (f : FuncD) (n : Nat) (a b : Nat) : Prop := MetF f a ∧ MetF f b ∧ ¬ (a ≠ b ∧ OverF f a b) ∧ ∃ p ∈ ahL f n b, OverF f a p
open Classical in
noncomputable def edgeL (f : FuncD) (n k : Nat) (a : Nat) : List Int := ((List.range k).filter fun b => decide (EdgeAt f n a b)).map Int.ofNat
open Classical in
theorem edgeL_more (f : FuncD) (n k a : Nat) : edgeL f n (k + 1) a = edgeL f n k a ++ (if EdgeAt f n a k then [(k : Int)] else []) := by
  unfold edgeL
  rw [List.range_succ, List.filter_append, List.map_append]
  congr 1
  by_cases h : EdgeAt f n a k <;> simp [h]
/-- The blocks from which a way back goes to h. -/
noncomputable def backL (f : FuncD) (n : Nat) (h : Nat) : List Int := (ahL f n h).filter fun p => overB f h p
/-- The blocks of the loop of h. -/
def InLoop (f : FuncD) (n : Nat) (h b : Nat) : Prop := b = h ∨ (MetF f b ∧ ∃ p ∈ backL f n h, MI f b h p)
open Classical in
noncomputable def loopB (f : FuncD) (n k : Nat) (h : Nat) : List Int := ((List.range k).filter fun b => decide (InLoop f n h b)).map Int.ofNat
open Classical in
theorem loopB_more (f : FuncD) (n k h : Nat) : loopB f n (k + 1) h = loopB f n k h ++ (if InLoop f n h k then [(k : Int)] else []) := by
  unfold loopB
  rw [List.range_succ, List.filter_append, List.map_append]
  congr 1
  by_cases hb : InLoop f n h k <;> simp [hb]
/-- All loops, of the first k heads. -/
noncomputable def loopsL (f : FuncD) (n k : Nat) : List (Int × List Int) := ((List.range k).filter fun h => !(backL f n h).isEmpty).map fun (h : Nat) => ((h : Int), loopB f n n h)
theorem loopsL_more (f : FuncD) (n k : Nat) : loopsL f n (k + 1) = loopsL f n k ++ (if backL f n k = [] then [] else [((k : Int), loopB f n n k)]) := by
  unfold loopsL
  rw [List.range_succ, List.filter_append, List.map_append]
  congr 1
  by_cases h : backL f n k = [] <;> simp [h]
theorem loopB_mem {f : FuncD} {n k h : Nat} {z : Int} : z ∈ loopB f n k h ↔ ∃ b : Nat, z = b ∧ b < k ∧ InLoop f n h b := by
  unfold loopB
  simp only [List.mem_map, List.mem_filter, List.mem_range, decide_eq_true_eq]
  constructor
  · rintro ⟨b, ⟨h1, h2⟩, rfl⟩; exact ⟨b, rfl, h1, h2⟩
  · rintro ⟨b, rfl, h1, h2⟩; exact ⟨b, ⟨h1, h2⟩, rfl⟩
/-- A loop's head is over all of its blocks. -/
theorem loop_over (hs : Settled (EdgeF f) (MetF f) (plF f) n UP m) {h b : Nat} (hb : backL f n h ≠ []) (hi : InLoop f n h b) : OverF f h b := by
  obtain ⟨p0, hp0⟩ := List.exists_mem_of_ne_nil _ hb
  have hover : ∀ p ∈ backL f n h, OverF f h p := fun p hp => by
    unfold backL at hp
    exact overB_iff.1 (List.mem_filter.1 hp).2
  have hMh : MetF f h := by
    obtain ⟨a, b, e, _, ha, _⟩ := (over_on hs _ _).1 (hover p0 hp0)
    obtain rfl : h = a := by omega
    exact ha
  rcases hi with rfl | ⟨hMb, p, hp, v, rfl, k, hk, hkl, hw⟩
  · exact (over_nat hs b b).2 ⟨hMh, hMh, .refl _⟩
  · obtain rfl : b = k := by omega
    have ho := (over_nat hs h v).1 (hover _ hp)
    have h0 : 0 < f.blocks.length := by have := met_lt hMh; omega
    have hR := rpo_of f h0
    refine (over_nat hs h b).2 ⟨hMh, hMb, (settled hR hs.tree hs.all hs.fix hMb hMh).2 fun hw2 => ?_⟩
    exact (settled hR hs.tree hs.all hs.fix ho.2.1 hMh).1 ho.2.2 (hw2.append (hw.mono fun u hu => by omega))
/-- All ways that go back go to a block that is over them. -/
def TameF (f : FuncD) : Prop := ∀ u v : Nat, MetF f u → MetF f v → EdgeF f u v → plF f v ≤ plF f u → OverF f v u
/-- The first block is over just those that are met. -/
theorem over_zero (hs : Settled (EdgeF f) (MetF f) (plF f) n UP m) (b : Nat) : OverF f 0 b ↔ MetF f b := by
  refine ⟨fun h => ((over_nat hs 0 b).1 h).2.1, fun hb => ?_⟩
  have h0 : 0 < f.blocks.length := by have := met_lt hb; omega
  have hR := rpo_of f h0
  have key : ∀ (k v : Nat), plF f v ≤ k → MetF f v → On (upOf n UP) v 0 := by
    intro k
    induction k with
    | zero => intro v hk hv; rw [(hR.pl0 v hv).1 (by omega)]; exact .refl _
    | succ k ih =>
      intro v hk hv
      by_cases hv0 : v = 0
      · subst hv0; exact .refl _
      · obtain ⟨c, hc⟩ := Int.eq_ofNat_of_zero_le ((hs.tree.known v hv hv0).2 (hs.all v hv))
        have hlt := hs.tree.lt _ _ hc
        exact .step hc (ih c (by omega) hlt.1)
  exact (over_nat hs 0 b).2 ⟨hR.zero, hb, key _ b (Nat.le_refl _) hb⟩
/-- Where a single block goes to b, that one is next over it. -/
theorem up_single (hs : Settled (EdgeF f) (MetF f) (plF f) n UP m) {a b : Nat} (hb : MetF f b) (hb0 : b ≠ 0) (hone : ∀ p, EdgeF f p b → p = a) : upOf n UP b = (a : Int) := by
  have h0 : 0 < f.blocks.length := by have := met_lt hb; omega
  have hR := rpo_of f h0
  obtain ⟨c, hc⟩ := Int.eq_ofNat_of_zero_le ((hs.tree.known b hb hb0).2 (hs.all b hb))
  obtain ⟨u, hu, he, _⟩ := hR.fwd b hb hb0
  have hua := hone u he
  subst hua
  have h1 := hs.fix b c hb hc u hu he
  have h2 := hs.tree.mono b c hb hc u fun p hp he' _ => by rw [hone p he']; exact .refl _
  rw [hc, on_anti hs.tree h2 h1]
end
end Go.Proofs.Ytnnccahpgailiaa
