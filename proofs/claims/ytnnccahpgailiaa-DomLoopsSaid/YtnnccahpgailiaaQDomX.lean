/- Layer 8: a loop's blocks: the walk (mk_dom.py X). -/
import Derived.Test.YtnnccahpgailiaaQDomV
import Derived.Test.YtnnccahpgailiaaQT0

namespace Go.Proofs.Ytnnccahpgailiaa
open Go.RowKit (wrap64 intOf Below)
set_option linter.unusedVariables false
set_option linter.unusedSimpArgs false

theorem ArSt.len {W : World} {f : FuncD} {Nt B p n : Nat} {g : Nat → Nat} {Z0 : Nat → List Int} {ov : Value} {gf : Nat} {vs : List Value} {rd : Int} {bt bb : Nat} {PS Zb : List Int} {va : Option Addr} {vn vc : Nat} (h : ArSt W f Nt B p n g Z0 ov gf vs rd bt bb PS Zb va vn vc) : Zb.length ≤ n := by
  have h2 := nodup_len n (Zb.map Int.toNat) (by
    rw [List.nodup_iff_pairwise_ne, List.pairwise_map]
    exact List.Pairwise.imp_of_mem (fun {x y} hx hy hne e => hne (by
      obtain ⟨u, hu, _⟩ := h.there x hx
      obtain ⟨v, hv, _⟩ := h.there y hy
      omega)) h.nodup) (fun q hq => by
    obtain ⟨z, hz, rfl⟩ := List.mem_map.1 hq
    obtain ⟨u, hu, hun⟩ := h.there z hz
    omega)
  simpa using h2
set_option maxRecDepth 100000 in
set_option maxHeartbeats 4000000 in
theorem around_any {W : World} {f : FuncD} {B p n : Nat} {g : Nat → Nat} {Z : Nat → List Int} {ov : Value} {gf : Nat} {vs : List Value} {rd m : Nat} (h : GrownSt W f B p n g Z ov gf vs rd m) (hd : Nat) (hM : MetF f hd) (xa : Option Addr) (xn xc : Nat) (hx : NumsAt W xa xn (backL f n hd)) (hxa : ∀ g0 off, xa = some ⟨g0, off, none⟩ → 0 < xn → g0 ≠ g 4 ∧ g0 ≠ p) (hn : n ≤ 100000) (hrd : rd ≤ 4000000000000000) :
    Calls Try.prog 40 #[.pointer (some ⟨p, 0, none⟩), .int .i64 (hd : Int), .slice xa xn xc] W fun e w' => ∃ va vn vc PS, e = .returned (.slice va vn vc) ∧ OwnsI w' W.heap.size 3 (.slice va vn vc) (loopB f n n hd) ∧ GrownSt w' f B p n g (fun k => if k = 4 then PS else Z k) ov gf vs (rd + 1) m ∧ Off (fun i => i = p ∨ i = g 4) W w' := by
  have HG := Lib.hid h
  have HX := Lib.hid hx
  have HXA := Lib.hid hxa
  have HM := Lib.hid hM
  have hhn : hd < n := by rw [h.len]; exact met_lt hM
  have hxn : xn ≤ n := by rw [← hx.1]; unfold backL; exact Nat.le_trans (List.length_filter_le _ _) (ahL_len f n hd)
  have HTL := Lib.hid h.at_.tlt
  -- the world with the tree's box
  obtain ⟨W1, hW1⟩ : ∃ w, W.alloc (.cells #[.pointer (some ⟨p, 0, none⟩)] 72) = w := ⟨_, rfl⟩
  have hb1 : Below W.heap.size W W1 := by rw [← hW1]; exact (Below.refl _ W).alloc (Nat.le_refl _) _
  have hz1 : W1.heap.size = W.heap.size + 1 := by rw [← hW1]; simp
  have HG1 := Lib.hid (h.since hb1)
  have HT1 : RowKit.Hid (TBox W1 W.heap.size p) := Lib.hid (by unfold TBox; rw [← hW1]; exact World.alloc_heap_new W _)
  have HB1 := Lib.hid hb1
  have c1 := HT1.out.cell
  have c7 : W1.cell? ⟨p, 7, none⟩ = some (.int .i64 (rd : Int)) := by simp [World.cell?, HG1.out.at_.blk]
  have f7 : W1.frozen? ⟨p, 7, none⟩ = false := by simp [World.frozen?, HG1.out.at_.blk]
  have hw7 : wrap64 ((rd : Int) + 1) = (rd : Int) + 1 := by unfold wrap64; omega
  obtain ⟨W2, hW2⟩ : ∃ w, W1.setCell ⟨p, 7, none⟩ (.int .i64 ((rd : Int) + 1)) = w := ⟨_, rfl⟩
  have ho2 : Off (fun i => i = p) W1 W2 := by rw [← hW2]; exact Off.setCell (X := fun i => i = p) (p := ⟨p, 7, none⟩) (Off.refl _ W1) (.inl rfl) _
  have HO2 := Lib.hid ho2
  have HA2 : RowKit.Hid (TreeAt W2 B p n g Z ov (.slice (some ⟨gf, 0, none⟩) n n) (orderL f) vs (frL f n) ((rd : Int) + 1)) := Lib.hid (by rw [← hW2]; exact HG1.out.at_.turn _)
  have HT2 : RowKit.Hid (TBox W2 W.heap.size p) := Lib.hid (HT1.out.kept ho2 (fun e => by have := HTL.out.1; have e' : W.heap.size = p := e; omega))
  clear h hx hxa hM hb1 ho2
  go_enter Try.func40, Try.ntmps40
  go_wp2_with fail
  try rw [hW1]
  try rw [hW2]
  clear hW1 hW2 c1 c7 f7
  have HAD : RowKit.Hid (TreeAt W2.drew B p n g Z ov (.slice (some ⟨gf, 0, none⟩) n n) (orderL f) vs (frL f n) ((rd : Int) + 1)) := Lib.hid (HA2.out.since (Below.refl _ _).drew)
  have k1 : W2.drew.cell? ⟨W.heap.size, 0, none⟩ = some (.pointer (some ⟨p, 0, none⟩)) := HT2.out.cell
  have k6 : W2.drew.cell? ⟨p, 6, none⟩ = some (.slice (some ⟨g 4, 0, none⟩) n n) := by simp [World.cell?, HAD.out.blk]
  have k7 : W2.drew.cell? ⟨p, 7, none⟩ = some (.int .i64 ((rd : Int) + 1)) := by simp [World.cell?, HAD.out.blk]
  have ks : W2.drew.cell? ⟨g 4, hd, none⟩ = some (.int .i64 (nth (Z 4) hd)) := HAD.out.cell (i := 4) (by omega) hhn
  have kf : W2.drew.frozen? ⟨g 4, hd, none⟩ = false := HAD.out.free (by omega) hd
  have hdi : (hd : Int) < (n : Int) := by omega
  have hdi0 : (0 : Int) ≤ (hd : Int) := by omega
  refine wp_region_Z (S := (fun u : World => u.cell? ⟨W.heap.size, 0, none⟩ = some (.pointer (some ⟨p, 0, none⟩)) ∧ u.cell? ⟨p, 6, none⟩ = some (.slice (some ⟨g 4, 0, none⟩) n n) ∧ u.cell? ⟨p, 7, none⟩ = some (.int .i64 ((rd : Int) + 1)))) 10 (by kernel_rfl) ⟨k1, k6, k7⟩ (fun hHeld => ?_)
  refine wpAnyZ_take (i := 0) (oi := ⟨some 17, _, _, _, _, _⟩) (v := ?_) rfl (by kernel_rfl) (by kernel_rfl) (by kernel_rfl) (by kernel_rfl) (fun _ _ _ h => h) (Or.inl ⟨by rfl, ?_⟩) (by assumption) ?_
  rotate_left
  · ((intro w hSw; (try dsimp only at hSw); go_simp); try with_reducible rfl)
  (try simp only [Act.put, List.setIfInBounds_toArray, List.set_cons_zero, List.set_cons_succ])
  refine wpAnyZ_take (i := 1) (oi := ⟨some 18, _, _, _, _, _⟩) (v := ?_) rfl (by kernel_rfl) (by kernel_rfl) (by kernel_rfl) (by kernel_rfl) (fun _ _ _ h => h) (Or.inl ⟨by rfl, ?_⟩) (by assumption) ?_
  rotate_left
  · ((intro w hSw; (try dsimp only at hSw); go_simp); try with_reducible rfl)
  (try simp only [Act.put, List.setIfInBounds_toArray, List.set_cons_zero, List.set_cons_succ])
  refine wpAnyZ_take (i := 2) (oi := ⟨some 19, _, _, _, _, _⟩) (v := ?_) rfl (by kernel_rfl) (by kernel_rfl) (by kernel_rfl) (by kernel_rfl) (fun _ _ _ h => h) (Or.inl ⟨by rfl, ?_⟩) (by assumption) ?_
  rotate_left
  · ((intro w hSw; (try dsimp only at hSw); go_simp); try with_reducible rfl)
  (try simp only [Act.put, List.setIfInBounds_toArray, List.set_cons_zero, List.set_cons_succ])
  refine wpAnyZ_take (i := 3) (oi := ⟨some 20, _, _, _, _, _⟩) (v := ?_) rfl (by kernel_rfl) (by kernel_rfl) (by kernel_rfl) (by kernel_rfl) (fun _ _ _ h => h) (Or.inl ⟨by rfl, ?_⟩) (by assumption) ?_
  rotate_left
  · ((intro w hSw; (try dsimp only at hSw); go_simp); try with_reducible rfl)
  (try simp only [Act.put, List.setIfInBounds_toArray, List.set_cons_zero, List.set_cons_succ])
  refine wpAnyZ_take (i := 4) (oi := ⟨some 21, _, _, _, _, _⟩) (v := ?_) rfl (by kernel_rfl) (by kernel_rfl) (by kernel_rfl) (by kernel_rfl) (fun _ _ _ h => h) (Or.inl ⟨by rfl, ?_⟩) (by assumption) ?_
  rotate_left
  · ((intro w hSw; (try dsimp only at hSw); go_simp); try with_reducible rfl)
  (try simp only [Act.put, List.setIfInBounds_toArray, List.set_cons_zero, List.set_cons_succ])
  refine wpAnyZ_take (i := 5) (oi := ⟨some 22, _, _, _, _, _⟩) (v := ?_) rfl (by kernel_rfl) (by kernel_rfl) (by kernel_rfl) (by kernel_rfl) (fun _ _ _ h => h) (Or.inl ⟨by rfl, ?_⟩) (by assumption) ?_
  rotate_left
  · ((intro w hSw; (try dsimp only at hSw); go_simp); try with_reducible rfl)
  (try simp only [Act.put, List.setIfInBounds_toArray, List.set_cons_zero, List.set_cons_succ])
  refine wpAnyZ_take (i := 6) (oi := ⟨some 23, _, _, _, _, _⟩) (v := ?_) rfl (by kernel_rfl) (by kernel_rfl) (by kernel_rfl) (by kernel_rfl) (fun _ _ _ h => h) (Or.inl ⟨by rfl, ?_⟩) (by assumption) ?_
  rotate_left
  · ((intro w hSw; (try dsimp only at hSw); go_simp); try with_reducible rfl)
  (try simp only [Act.put, List.setIfInBounds_toArray, List.set_cons_zero, List.set_cons_succ])
  refine wpAnyZ_take (i := 7) (oi := ⟨some 24, _, _, _, _, _⟩) (v := ?_) rfl (by kernel_rfl) (by kernel_rfl) (by kernel_rfl) (by kernel_rfl) (fun _ _ _ h => h) (Or.inl ⟨by rfl, ?_⟩) (by assumption) ?_
  rotate_left
  · ((intro w hSw; (try dsimp only at hSw); go_simp); try with_reducible rfl)
  (try simp only [Act.put, List.setIfInBounds_toArray, List.set_cons_zero, List.set_cons_succ])
  refine wpAnyZ_take (i := 8) (oi := ⟨some 25, _, _, _, _, _⟩) (v := ?_) rfl (by kernel_rfl) (by kernel_rfl) (by kernel_rfl) (by kernel_rfl) (fun _ _ _ h => h) (Or.inl ⟨by rfl, ?_⟩) (by assumption) ?_
  rotate_left
  · ((intro w hSw; (try dsimp only at hSw); go_simp); try with_reducible rfl)
  (try simp only [Act.put, List.setIfInBounds_toArray, List.set_cons_zero, List.set_cons_succ])
  refine wpAnyZ_take (i := 9) (oi := ⟨some 26, _, _, _, _, _⟩) (v := ?_) rfl (by kernel_rfl) (by kernel_rfl) (by kernel_rfl) (by kernel_rfl) (fun _ _ _ h => h) (Or.inl ⟨by rfl, ?_⟩) (by assumption) ?_
  rotate_left
  · ((intro w hSw; (try dsimp only at hSw); go_simp); try with_reducible rfl)
  (try simp only [Act.put, List.setIfInBounds_toArray, List.set_cons_zero, List.set_cons_succ])
  refine wpAnyZ_last (by kernel_rfl) rfl (by kernel_rfl) (fun K hK => ?_)
  rw [if_pos (by rfl)]
  go_simp
  refine hK.out _ _ ?_
  clear hK K
  (try simp only [Act.put, List.setIfInBounds_toArray, List.set_cons_zero, List.set_cons_succ])
  obtain ⟨W3, hW3⟩ : ∃ w, (W2.setCell ⟨g 4, hd, none⟩ (.int .i64 ((rd : Int) + 1))).drew = w := ⟨_, rfl⟩
  have hW3' : W2.drew.setCell ⟨g 4, hd, none⟩ (.int .i64 ((rd : Int) + 1)) = W3 := hW3
  have hput := HAD.out.put (i := 4) (by omega) hd ((rd : Int) + 1)
  rw [hW3'] at hput
  have HA3 : RowKit.Hid (TreeAt W3 B p n g (fun k => if k = 4 then (Z 4).set hd ((rd : Int) + 1) else Z k) ov (.slice (some ⟨gf, 0, none⟩) n n) (orderL f) vs (frL f n) ((rd : Int) + 1)) := Lib.hid hput
  have ho3 : Off (fun i => i = g 4) W2 W3 := by rw [← hW3']; exact Off.setCell (X := fun i => i = g 4) (p := ⟨g 4, hd, none⟩) (Off.refl _ W2).drew (.inl rfl) _
  have HO3 : RowKit.Hid (Off (fun i => i = p ∨ i = g 4) W W3) := Lib.hid (((Off.since HB1.out).trans (HO2.out.mono (fun k _ hk => .inl hk))).trans (ho3.mono (fun k _ hk => .inr hk)))
  have HT3 : RowKit.Hid (TBox W3 W.heap.size p) := Lib.hid (HT2.out.kept ho3 (fun e => by have := HTL.out.2.1 4 (by omega); have e' : W.heap.size = g 4 := e; omega))
  rw [hW3]
  clear hW3 hW3' hput ho3 k1 k6 k7 ks kf hHeld HAD
  go_upto_region 5 with fail
  obtain ⟨W4, hW4⟩ : ∃ w, ((W3.alloc (.cells #[.int .i64 (hd : Int)] 3)).alloc (.cells #[.slice (some ⟨W3.heap.size, 0, none⟩) 1 1] 29)) = w := ⟨_, rfl⟩
  have hb4 : Below W3.heap.size W3 W4 := by rw [← hW4]; exact ((Below.refl _ W3).alloc (Nat.le_refl _) _).alloc (by simp) _
  have hWz : W.heap.size ≤ W3.heap.size := HO3.out.size
  have HA4 : RowKit.Hid (ArSt W4 f W.heap.size B p n g Z ov gf vs ((rd : Int) + 1) W.heap.size (W3.heap.size + 1) ((Z 4).set hd ((rd : Int) + 1)) [(hd : Int)] (some ⟨W3.heap.size, 0, none⟩) 1 1) := Lib.hid (by
    have hl4 := HG.out.at_.len (i := 4) (by omega)
    refine ⟨HA3.out.since hb4, HTL.out, (hb4.block _ HT3.out.lt).trans HT3.out, ?_, ?_, ⟨Nat.le_refl _, by omega, Nat.le_trans hWz hb4.size⟩, fun v hv => ?_, fun z hz => ⟨hd, by simpa using hz, hhn⟩, by simp, fun v hv => ?_⟩
    · rw [← hW4]
      have h := Boxed.new (W3.alloc (.cells #[.int .i64 (hd : Int)] 3)) 29 (.slice (some ⟨W3.heap.size, 0, none⟩) 1 1)
      rw [World.size_alloc] at h
      exact h
    · have h := World.ownsRow_lit (base := W.heap.size) (e := 3) (size := 1) W3 #[.int .i64 (hd : Int)] 1 hWz (by decide) rfl
      rw [← hW4]
      exact World.ownsRow.alloc h _
    · rw [nth_set (by omega)]
      by_cases e : v = hd
      · subst e; simp
      · rw [if_neg e]
        have := HG.out.pass v hv
        constructor
        · intro h; omega
        · intro h; simp at h; omega
    · rw [nth_set (by omega)]
      split
      · exact Int.le_refl _
      · have := HG.out.pass v hv; omega)
  rw [hW4]
  have HB4 : RowKit.Hid (Off (ArX g W.heap.size) W3 W4) := Lib.hid (Off.since hb4)
  have HX4 : RowKit.Hid (NumsAt W4 xa xn (backL f n hd)) := Lib.hid ((HX.out.off HO3.out (fun g0 off e h0 => by
    have := HXA.out g0 off e h0
    rintro (h | h)
    · exact this.2 h
    · exact this.1 h)).since hb4)
  have CA := Lib.hid (add_any HA4.out xa xn xc (backL f n hd) HX4.out (fun g0 off e h0 => ⟨(HXA.out g0 off e h0).1, by
    obtain ⟨g', off', e', hg', _⟩ := HX.out.2 h0
    rw [e] at e'; cases e'; exact hg'⟩) (fun z hz => by
    obtain ⟨q, e, hq, _⟩ := back_met HG.out.len hz
    exact ⟨q, e, by rw [HG.out.len]; exact met_lt hq⟩) hn hxn)
  clear hW4 hb4
  go_upto_region 6 with (go_at_call 70; refine CA.out.mono ?_; rintro e w5 ⟨rfl, PS5, va, vn, vc, hA5, hO5⟩; have HS0 : RowKit.Hid (ArSt w5 f W.heap.size B p n g Z ov gf vs ((rd : Int) + 1) W.heap.size (W3.heap.size + 1) PS5 ((backL f n hd).foldl addN [(hd : Int)]) va vn vc ∧ BInv f n hd ((backL f n hd).foldl addN [(hd : Int)]) 1 ∧ Off (ArX g W.heap.size) W3 w5) := Lib.hid ⟨hA5, BInv.start HG.out.len HM.out, HB4.out.trans hO5⟩; clear hA5 hO5)
  clear CA
  go_wp2_with fail
  go_loopw [9] (fun v9 wr => ∃ (k : Nat) (PS Zb : List Int) (va : Option Addr) (vn vc : Nat), 1 ≤ k ∧ k ≤ vn ∧ v9 = .int .i64 (k : Int) ∧ RowKit.Hid (ArSt wr f W.heap.size B p n g Z ov gf vs ((rd : Int) + 1) W.heap.size (W3.heap.size + 1) PS Zb va vn vc ∧ BInv f n hd Zb k ∧ Off (ArX g W.heap.size) W3 wr)) (fun v9 _ => n + 1 - (intOf v9).toNat)
  case atStart =>
    refine ⟨1, PS5, _, va, vn, vc, Nat.le_refl _, ?_, rfl, HS0⟩
    have h1 := HS0.out.1.own.read.1
    obtain ⟨T, hT⟩ := HS0.out.2.1.head
    rw [hT] at h1
    simp at h1
    omega
  case round =>
    obtain ⟨k, PS, Zb, va, vn, vc, hk1, hkv, rfl, HI⟩ := hrel
    clear HS0
    obtain ⟨wo, hwo⟩ : ∃ u, u = wr := ⟨_, rfl⟩
    rw [← hwo] at HI ⊢
    clear hwo
    have hzl : Zb.length = vn := HI.out.1.own.read.1
    have hvn : vn ≤ n := by rw [← hzl]; exact HI.out.1.len
    have cb : wo.cell? ⟨W3.heap.size + 1, 0, none⟩ = some (.slice va vn vc) := HI.out.1.bx.cell
    by_cases hlt : k < vn
    · obtain ⟨x, hx, hxn'⟩ := HI.out.1.there (Zb[k]'(by omega)) (List.getElem_mem _)
      obtain ⟨q, rfl, hq1, hq2⟩ := own_addr HI.out.1.own (by omega)
      have cx : wo.cell? ⟨q, k, none⟩ = some (.int .i64 (x : Int)) := by
        have h1 := own_cell HI.out.1.own (j := k) (by omega)
        rw [nth_is (by omega), hx] at h1
        exact h1
      obtain ⟨ya, yn, yc, cy, hyn, hyl, hya⟩ := HI.out.1.from_ HG.out.vsl hxn'
      have c1 := HI.out.1.tb.cell
      have c2 : wo.cell? ⟨p, 2, none⟩ = some (.slice (some ⟨gf, 0, none⟩) n n) := by simp [World.cell?, HI.out.1.at_.blk]
      have hki : (k : Int) < (vn : Int) := by omega
      have hk0 : (0 : Int) ≤ (k : Int) := by omega
      have hxi : (x : Int) < (n : Int) := by omega
      have hxi0 : (0 : Int) ≤ (x : Int) := by omega
      have HNX : RowKit.Hid (BInv f n hd (((ahL f n x).filter (metZ f)).foldl addN Zb) (k + 1)) := Lib.hid (HI.out.2.1.next HG.out.len HI.out.1.nodup hk1 (by omega) hx)
      have CA := Lib.hid (add_any (HI.out.1.since (Below.refl _ _).drew) ya yn yc ((ahL f n x).filter (metZ f)) (hyn.drewN 1) hya (fun z hz => by
        obtain ⟨v, e, hv, _⟩ := (fr_mem HG.out.len).1 hz
        exact ⟨v, e, by rw [HG.out.len]; exact met_lt hv⟩) hn hyl)
      have HKL : RowKit.Hid (k + 1 ≤ (((ahL f n x).filter (metZ f)).foldl addN Zb).length) := Lib.hid (by
        obtain ⟨T, hT⟩ := addF_pre (L := (ahL f n x).filter (metZ f)) (Z := Zb)
        rw [hT, List.length_append]
        omega)
      clear hx hq1 hq2 hyn hya
      go_wp2_with fail
      have k1 : wo.drew.cell? ⟨W.heap.size, 0, none⟩ = some (.pointer (some ⟨p, 0, none⟩)) := c1
      have k2 : wo.drew.cell? ⟨p, 2, none⟩ = some (.slice (some ⟨gf, 0, none⟩) n n) := c2
      have kb : wo.drew.cell? ⟨W3.heap.size + 1, 0, none⟩ = some (.slice (some ⟨q, 0, none⟩) vn vc) := cb
      have kx : wo.drew.cell? ⟨q, k, none⟩ = some (.int .i64 (x : Int)) := cx
      have ky : wo.drew.cell? ⟨gf, x, none⟩ = some (.slice ya yn yc) := cy
      clear c1 c2 cb cx cy
      refine wp_region_Z (S := (fun u : World => u.cell? ⟨W.heap.size, 0, none⟩ = some (.pointer (some ⟨p, 0, none⟩)) ∧ u.cell? ⟨p, 2, none⟩ = some (.slice (some ⟨gf, 0, none⟩) n n) ∧ u.cell? ⟨W3.heap.size + 1, 0, none⟩ = some (.slice (some ⟨q, 0, none⟩) vn vc) ∧ u.cell? ⟨q, k, none⟩ = some (.int .i64 (x : Int)) ∧ u.cell? ⟨gf, x, none⟩ = some (.slice ya yn yc))) 11 (by kernel_rfl) ⟨k1, k2, kb, kx, ky⟩ (fun hHeld => ?_)
      refine wpAnyZ_takeT (i := 0) (oi := ⟨some 39, _, _, _, _, _⟩) (v := ?_) 12 rfl (by kernel_rfl) (by kernel_rfl) (by kernel_rfl) (by kernel_rfl) (by kernel_rfl) (fun _ _ _ h => h) (Or.inl ⟨by rfl, ?_⟩) (by assumption) ?_
      rotate_left
      · ((intro w hSw; (try dsimp only at hSw); go_simp); try with_reducible rfl)
      (try simp only [Act.put, List.setIfInBounds_toArray, List.set_cons_zero, List.set_cons_succ])
      refine wpAnyZ_takeT (i := 1) (oi := ⟨some 40, _, _, _, _, _⟩) (v := ?_) 12 rfl (by kernel_rfl) (by kernel_rfl) (by kernel_rfl) (by kernel_rfl) (by kernel_rfl) (fun _ _ _ h => h) (Or.inl ⟨by rfl, ?_⟩) (by assumption) ?_
      rotate_left
      · ((intro w hSw; (try dsimp only at hSw); go_simp); try with_reducible rfl)
      (try simp only [Act.put, List.setIfInBounds_toArray, List.set_cons_zero, List.set_cons_succ])
      refine wpAnyZ_takeT (i := 2) (oi := ⟨some 41, _, _, _, _, _⟩) (v := ?_) 12 rfl (by kernel_rfl) (by kernel_rfl) (by kernel_rfl) (by kernel_rfl) (by kernel_rfl) (fun _ _ _ h => h) (Or.inl ⟨by rfl, ?_⟩) (by assumption) ?_
      rotate_left
      · ((intro w hSw; (try dsimp only at hSw); go_simp); try with_reducible rfl)
      (try simp only [Act.put, List.setIfInBounds_toArray, List.set_cons_zero, List.set_cons_succ])
      refine wpAnyZ_takeT (i := 3) (oi := ⟨some 42, _, _, _, _, _⟩) (v := ?_) 12 rfl (by kernel_rfl) (by kernel_rfl) (by kernel_rfl) (by kernel_rfl) (by kernel_rfl) (fun _ _ _ h => h) (Or.inl ⟨by rfl, ?_⟩) (by assumption) ?_
      rotate_left
      · ((intro w hSw; (try dsimp only at hSw); go_simp); try with_reducible rfl)
      (try simp only [Act.put, List.setIfInBounds_toArray, List.set_cons_zero, List.set_cons_succ])
      refine wpAnyZ_takeT (i := 4) (oi := ⟨some 43, _, _, _, _, _⟩) (v := ?_) 12 rfl (by kernel_rfl) (by kernel_rfl) (by kernel_rfl) (by kernel_rfl) (by kernel_rfl) (fun _ _ _ h => h) (Or.inl ⟨by rfl, ?_⟩) (by assumption) ?_
      rotate_left
      · ((intro w hSw; (try dsimp only at hSw); go_simp); try with_reducible rfl)
      (try simp only [Act.put, List.setIfInBounds_toArray, List.set_cons_zero, List.set_cons_succ])
      refine wpAnyZ_takeT (i := 5) (oi := ⟨some 44, _, _, _, _, _⟩) (v := ?_) 12 rfl (by kernel_rfl) (by kernel_rfl) (by kernel_rfl) (by kernel_rfl) (by kernel_rfl) (fun _ _ _ h => h) (Or.inl ⟨by rfl, ?_⟩) (by assumption) ?_
      rotate_left
      · ((intro w hSw; (try dsimp only at hSw); go_simp); try with_reducible rfl)
      (try simp only [Act.put, List.setIfInBounds_toArray, List.set_cons_zero, List.set_cons_succ])
      refine wpAnyZ_takeT (i := 6) (oi := ⟨some 45, _, _, _, _, _⟩) (v := ?_) 12 rfl (by kernel_rfl) (by kernel_rfl) (by kernel_rfl) (by kernel_rfl) (by kernel_rfl) (fun _ _ _ h => h) (Or.inl ⟨by rfl, ?_⟩) (by assumption) ?_
      rotate_left
      · ((intro w hSw; (try dsimp only at hSw); go_simp); try with_reducible rfl)
      (try simp only [Act.put, List.setIfInBounds_toArray, List.set_cons_zero, List.set_cons_succ])
      refine wpAnyZ_takeT (i := 7) (oi := ⟨some 46, _, _, _, _, _⟩) (v := ?_) 12 rfl (by kernel_rfl) (by kernel_rfl) (by kernel_rfl) (by kernel_rfl) (by kernel_rfl) (fun _ _ _ h => h) (Or.inl ⟨by rfl, ?_⟩) (by assumption) ?_
      rotate_left
      · ((intro w hSw; (try dsimp only at hSw); go_simp); try with_reducible rfl)
      (try simp only [Act.put, List.setIfInBounds_toArray, List.set_cons_zero, List.set_cons_succ])
      refine wpAnyZ_takeT (i := 8) (oi := ⟨some 47, _, _, _, _, _⟩) (v := ?_) 12 rfl (by kernel_rfl) (by kernel_rfl) (by kernel_rfl) (by kernel_rfl) (by kernel_rfl) (fun _ _ _ h => h) (Or.inl ⟨by rfl, ?_⟩) (by assumption) ?_
      rotate_left
      · ((intro w hSw; (try dsimp only at hSw); go_simp); try with_reducible rfl)
      (try simp only [Act.put, List.setIfInBounds_toArray, List.set_cons_zero, List.set_cons_succ])
      refine wpAnyZ_takeT (i := 9) (oi := ⟨some 48, _, _, _, _, _⟩) (v := ?_) 12 rfl (by kernel_rfl) (by kernel_rfl) (by kernel_rfl) (by kernel_rfl) (by kernel_rfl) (fun _ _ _ h => h) (Or.inl ⟨by rfl, ?_⟩) (by assumption) ?_
      rotate_left
      · ((intro w hSw; (try dsimp only at hSw); go_simp); try with_reducible rfl)
      (try simp only [Act.put, List.setIfInBounds_toArray, List.set_cons_zero, List.set_cons_succ])
      refine wpAnyZ_takeT (i := 10) (oi := ⟨some 49, _, _, _, _, _⟩) (v := ?_) 12 rfl (by kernel_rfl) (by kernel_rfl) (by kernel_rfl) (by kernel_rfl) (by kernel_rfl) (fun _ _ _ h => h) (Or.inl ⟨by rfl, ?_⟩) (by assumption) ?_
      rotate_left
      · ((intro w hSw; (try dsimp only at hSw); go_simp); try with_reducible rfl)
      (try simp only [Act.put, List.setIfInBounds_toArray, List.set_cons_zero, List.set_cons_succ])
      refine wpAnyZ_last (by kernel_rfl) rfl (by kernel_rfl) (fun K hK => ?_)
      rw [if_pos (by rfl)]
      go_simp
      go_at_call 70
      refine CA.out.mono ?_
      rintro e w6 ⟨rfl, PS', za, zn, zc, hA6, hO6⟩
      have HA6 := Lib.hid (And.intro hA6 hO6)
      clear hA6 hO6
      refine hK.out _ _ ?_
      clear hK K
      (try simp only [Act.put, List.setIfInBounds_toArray, List.set_cons_zero, List.set_cons_succ])
      clear hHeld k1 k2 kb kx ky CA
      go_wp2_with fail
      go_roundw
      case rel => exact ⟨k + 1, PS', _, za, zn, zc, by omega, by have h1 := HA6.out.1.own.read.1; have h2 := HKL.out; omega, by go_num, Lib.hid ⟨HA6.out.1, HNX.out, (HI.out.2.2.drew).trans HA6.out.2⟩⟩
      case measure => simp [intOf]; omega
    · obtain rfl : k = vn := by omega
      obtain ⟨T, hT⟩ := HI.out.2.1.head
      have CS := Lib.hid (sort_own HI.out.1.own (by omega) (by omega))
      have HSE : RowKit.Hid ((Zb.mergeSort fun x y => decide (x ≤ y)) = loopB f n n hd) := Lib.hid (sorted_eq HI.out.1.nodup (loopB_rising f n n hd) (by
        have h := HI.out.2.1
        rw [← hzl] at h
        exact h.all HG.out.len))
      have hbO : (Value.slice va k vc).ownBlock ≠ some (W3.heap.size + 1) := fun e => by
        obtain ⟨cur, hc, _⟩ := ownsI_blk HI.out.1.own e
        have h2 : wo.heap[W3.heap.size + 1]? = _ := HI.out.1.bx
        rw [hc] at h2; simp at h2
      have HBO := Lib.hid hbO
      clear hT hbO
      go_wp2_with (go_at_call 71; refine CS.out.mono ?_; rintro e w7 ⟨rfl, ho7, hoff7⟩; have HO7 := Lib.hid ho7; have HF7 := Lib.hid hoff7; have cb7 : w7.cell? ⟨W3.heap.size + 1, 0, none⟩ = some (.slice va k vc) := ((hoff7.cell (p := ⟨W3.heap.size + 1, 0, none⟩) HI.out.1.bx.lt HBO.out).trans cb); clear ho7 hoff7)
      go_ret
      have e1 : ((rd + 1 : Nat) : Int) = (rd : Int) + 1 := by omega
      have hN : Off (fun i => W.heap.size ≤ i) wo w7 := HF7.out.mono fun i _ hi => (HI.out.1.own.lt i hi).1
      refine ⟨va, k, vc, PS, rfl, by rw [← HSE.out]; exact HO7.out, ⟨by rw [e1]; exact HI.out.1.at_.beyond HTL.out hN (fun i hi => hi), HG.out.len, HG.out.vsl, HG.out.place, HG.out.set, HG.out.over, fun v hv => by rw [e1]; exact HI.out.1.le v hv⟩, ?_⟩
      refine (HO3.out.trans_new HI.out.2.2 (fun i hi => ?_)).trans_new hN (fun i hi => .inr hi)
      rcases hi with h | h
      · exact .inl (.inr h)
      · exact .inr h
end Go.Proofs.Ytnnccahpgailiaa
