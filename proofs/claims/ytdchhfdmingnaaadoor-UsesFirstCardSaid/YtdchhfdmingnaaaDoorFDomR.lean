/- Layer 8: the document's met: what is met from a block on, without another one (mk_rm.py). -/
import Derived.Test.YtdchhfdmingnaaaDoorFCfgW
import Derived.Test.YtdchhfdmingnaaaDoorFT0
import Derived.Test.YtdchhfdmingnaaaDoorFT3
import Derived.Deep.RegionHeld3
import Derived.Deep.DeepCutAuto
namespace Go.Proofs.YtdchhfdmingnaaaDoor
open Go.RowKit (wrap64 intOf Below)
set_option linter.unusedVariables false
set_option linter.unusedSimpArgs false
def RM (f : FuncD) (fr wo : Int) (v : Nat) : Prop := ∃ k : Nat, fr = (k : Int) ∧ k < f.blocks.length ∧ Way (EdgeF f) (fun u => (u : Int) ≠ wo) k v
structure BMet (f : FuncD) (fr wo : Int) (D Z : List Int) : Prop where
  inv : Inv f.blocks.length Z
  reach : ∀ v : Nat, (v : Int) ∈ Z → RM f fr wo v
  start : There f.blocks.length fr → fr ≠ wo → fr ∈ Z
  clos : ∀ x ∈ D, ∀ z ∈ nxF f x.toNat, There f.blocks.length z → z ≠ wo → z ∈ Z
section
variable {f : FuncD} {fr wo : Int} {D Z : List Int}
theorem BMet.none (h : ¬ (There f.blocks.length fr ∧ fr ≠ wo)) : BMet f fr wo [] [] :=
  ⟨Inv.nil, fun v hv => (nomatch hv), fun h1 h2 => absurd ⟨h1, h2⟩ h, fun x hx => (nomatch hx)⟩
theorem BMet.one (h1 : There f.blocks.length fr) (h2 : fr ≠ wo) : BMet f fr wo [] [fr] := by
  obtain ⟨k, rfl, hk⟩ := nat_of h1
  refine ⟨⟨by simp, fun x hx => by simp at hx; subst hx; exact h1⟩, fun v hv => ?_, fun _ _ => by simp, fun x hx => (nomatch hx)⟩
  simp at hv
  have : v = k := by omega
  subst this
  exact ⟨v, rfl, hk, .nil h2⟩
theorem BMet.more (h : BMet f fr wo D Z) {x z : Int} (hx : x ∈ Z) (hz : z ∈ nxF f x.toNat) (hT : There f.blocks.length z) (hw : z ≠ wo) (hn : z ∉ Z) : BMet f fr wo D (Z ++ [z]) := by
  refine ⟨h.inv.more hT hn, fun v hv => ?_, fun h1 h2 => List.mem_append_left _ (h.start h1 h2), fun y hy u hu h1 h2 => List.mem_append_left _ (h.clos y hy u hu h1 h2)⟩
  rcases List.mem_append.1 hv with hv | hv
  · exact h.reach v hv
  · simp at hv
    subst hv
    obtain ⟨y, rfl, hy⟩ := nat_of (h.inv.2 x hx)
    obtain ⟨k, hk, hkN, hw2⟩ := h.reach y hx
    exact ⟨k, hk, hkN, .snoc hw2 ⟨by simpa using hz, by have := hT.2; omega⟩ hw⟩
theorem BMet.done (h : BMet f fr wo D Z) {x : Int} (hx : ∀ z ∈ nxF f x.toNat, There f.blocks.length z → z ≠ wo → z ∈ Z) : BMet f fr wo (D ++ [x]) Z :=
  ⟨h.inv, h.reach, h.start, fun y hy => by
    rcases List.mem_append.1 hy with hy | hy
    · exact h.clos y hy
    · simp at hy; subst hy; exact hx⟩
theorem BMet.all (h : BMet f fr wo Z Z) (v : Nat) : (v : Int) ∈ Z ↔ RM f fr wo v := by
  refine ⟨h.reach v, fun ⟨k, hk, hkN, hw⟩ => ?_⟩
  have key : ∀ v, Way (EdgeF f) (fun u => (u : Int) ≠ wo) k v → (v : Int) ∈ Z := by
    intro v hw
    induction hw with
    | nil h1 => rw [← hk]; exact h.start (by rw [hk]; exact ⟨by omega, by omega⟩) (by rw [hk]; exact h1)
    | snoc _ e h1 ih => exact h.clos _ ih _ (by simpa using e.1) ⟨by omega, by have := e.2; omega⟩ h1
  exact key v hw
end
structure RmSt (w : World) (r : Int) (a : Option Addr) (n c : Nat) (va : Option Addr) (vn vc : Nat) (Z : List Int) (W : World) : Prop where
  law : LawSt w r a n c none 0 [] W
  own : OwnsI W (w.heap.size + 1) 3 (.slice va vn vc) Z
theorem RmSt.since {w : World} {r : Int} {a : Option Addr} {n c : Nat} {va : Option Addr} {vn vc : Nat} {Z : List Int} {W W' : World} (h : RmSt w r a n c va vn vc Z W) (hb : Below W.heap.size W W') : RmSt w r a n c va vn vc Z W' :=
  ⟨h.law.since hb, h.own.below hb⟩
structure InSt (w : World) (r : Int) (a : Option Addr) (n c : Nat) (f : FuncD) (fr wo : Int) (Z : List Int) (i : Nat) (L : List Int) (xa : Option Addr) (xn xc : Nat) (ya : Option Addr) (yn k : Nat) (Zk : List Int) (W : World) : Prop where
  st : RmSt w r a n c xa xn xc Zk W
  met : BMet f fr wo (Z.take i) Zk
  siz : w.heap.size + 1 ≤ W.heap.size
  lst : NumsAt W ya yn L
  apart : ∀ g off, ya = some ⟨g, off, none⟩ → 0 < yn → g < W.heap.size ∧ (Value.slice xa xn xc).ownBlock ≠ some g
  ext : ∃ T, Zk = Z ++ T
  part : ∀ z ∈ L.take k, There f.blocks.length z → z ≠ wo → z ∈ Zk
section
variable {w W : World} {r : Int} {a : Option Addr} {n c : Nat} {f : FuncD} {fr wo : Int} {Z : List Int} {i : Nat} {L : List Int} {xa : Option Addr} {xn xc : Nat} {ya : Option Addr} {yn k : Nat} {Zk : List Int}
theorem InSt.skip (h : InSt w r a n c f fr wo Z i L xa xn xc ya yn k Zk W) (hk : k < L.length) (hz : There f.blocks.length L[k] → L[k] ≠ wo → L[k] ∈ Zk) : InSt w r a n c f fr wo Z i L xa xn xc ya yn (k + 1) Zk W :=
  ⟨h.st, h.met, h.siz, h.lst, h.apart, h.ext, fun z hz' => by
    rw [List.take_succ_eq_append_getElem hk, List.mem_append, List.mem_singleton] at hz'
    rcases hz' with hz' | rfl
    · exact h.part z hz'
    · exact hz⟩
theorem InSt.add {va : Option Addr} {vn vc : Nat} {w' : World} {C : Array Value} {e : TypeId} (h : InSt w r a n c f fr wo Z i L xa xn xc ya yn k Zk W) (hk : k < L.length) (hi : i < Z.length) (hx : nxF f (nth Z i).toNat = L)
    (hT : There f.blocks.length L[k]) (hw : L[k] ≠ wo) (hn : L[k] ∉ Zk)
    (ho : OwnsI w' (w.heap.size + 1) 3 (.slice va vn vc) (Zk ++ [L[k]])) (hg : (W.alloc (.cells C e)).grownBy w' (Value.slice xa xn xc).ownBlock)
    (hwh : ∀ i, (Value.slice va vn vc).ownBlock = some i → (Value.slice xa xn xc).ownBlock = some i ∨ W.heap.size ≤ i) : InSt w r a n c f fr wo Z i L va vn vc ya yn (k + 1) (Zk ++ [L[k]]) w' := by
  have hU : ∀ k, (Value.slice xa xn xc).ownBlock = some k → w.heap.size + 1 ≤ k := fun k hk => (h.st.own.lt k hk).1
  have hb : Below (w.heap.size + 1) W w' := Below.grown ((Below.refl (w.heap.size + 1) W).alloc h.siz _) hg (by simp; have := h.siz; omega) (fun k hk => hU k hk)
  have hoff : Off (fun k => (Value.slice xa xn xc).ownBlock = some k) W w' := ((Off.refl _ W).alloc _).grown hg (fun k hk => .inl hk)
  obtain ⟨T, hT2⟩ := h.ext
  have hin : nth Z i ∈ Zk := by rw [hT2, nth_is hi]; exact List.mem_append_left _ (List.getElem_mem _)
  refine ⟨⟨law_above h.st.law hb, ho⟩, h.met.more hin (by rw [hx]; exact List.getElem_mem _) hT hw hn, Nat.le_trans h.siz hb.size, h.lst.off hoff (fun g off e h0 => (h.apart g off e h0).2), fun g off e h0 => ?_, ⟨T ++ [L[k]], by rw [hT2, List.append_assoc]⟩, fun z hz h1 h2 => ?_⟩
  · obtain ⟨h1, h2⟩ := h.apart g off e h0
    refine ⟨Nat.lt_of_lt_of_le h1 hb.size, fun e' => ?_⟩
    rcases hwh g e' with h3 | h3
    · exact h2 h3
    · omega
  · rw [List.take_succ_eq_append_getElem hk, List.mem_append] at hz
    rcases hz with hz | hz
    · exact List.mem_append_left _ (h.part z hz h1 h2)
    · exact List.mem_append_right _ hz
theorem InSt.fin (h : InSt w r a n c f fr wo Z i L xa xn xc ya yn L.length Zk W) (hi : i < Z.length) (hx : nxF f (nth Z i).toNat = L) : i + 1 ≤ Zk.length ∧ BMet f fr wo (Zk.take (i + 1)) Zk := by
  obtain ⟨T, hT⟩ := h.ext
  have hl : i + 1 ≤ Zk.length := by rw [hT, List.length_append]; omega
  refine ⟨hl, ?_⟩
  have e : Zk.take (i + 1) = Z.take i ++ [nth Z i] := by
    rw [hT, List.take_append_of_le_length (by omega), List.take_succ_eq_append_getElem hi, nth_is hi]
  rw [e]
  refine h.met.done fun z hz h1 h2 => h.part z (by rw [List.take_length, ← hx]; exact hz) h1 h2
end
set_option maxRecDepth 100000 in
set_option maxHeartbeats 8000000 in
theorem refmet_any (r : Int) (a : Option Addr) (n c : Nat) (f : FuncD) (fr wo : Int) (w : World) (hrow : RowV BlockQ 8 w (.slice a n c) f.blocks) (hn : n ≤ 1099511627776) :
    Calls Tryd.prog 82 #[.agg #[.int .i64 r, .slice a n c], .int .i64 fr, .int .i64 wo] w fun e w' => ∃ va vn vc Z, e = .returned (.slice va vn vc) ∧ OwnsI w' w.heap.size 3 (.slice va vn vc) Z ∧ Inv n Z ∧ (∀ v : Nat, (v : Int) ∈ Z ↔ RM f fr wo v) ∧ Below w.heap.size w w' := by
  have HROW := Lib.hid hrow
  have HLEN : RowKit.Hid (n = f.blocks.length) := Lib.hid (by obtain ⟨_, _, _, e, h, _⟩ := hrow; cases e; exact h.symm)
  clear hrow
  obtain ⟨W0, hW0⟩ : ∃ W0, ((w.alloc (.cells #[.int .i64 r, .slice a n c] 30)).alloc (.cells #[] 3)) = W0 := ⟨_, rfl⟩
  have HS0 : RowKit.Hid (LawSt w r a n c none 0 [] W0) := Lib.hid (by
    have hc : ∀ j, W0.cell? ⟨w.heap.size, j, none⟩ = (#[.int .i64 r, .slice a n c] : Array Value)[j]? := fun j => by
      rw [← hW0, World.cell?_of_block (a := ⟨w.heap.size, j, none⟩) ((World.grownBy_alloc (w.alloc (.cells #[.int .i64 r, .slice a n c] 30)) _ none).block w.heap.size (by simp) (fun e => by cases e))]
      exact World.cell?_alloc_mark _ _ _ _ _
    exact ⟨by rw [← hW0]; exact ((Below.refl w.heap.size w).alloc (Nat.le_refl _) _).alloc (by simp) _, by rw [← hW0]; simp <;> omega, hc 0, hc 1, NumsAt.nil _ _⟩)
  have HO0 : RowKit.Hid (OwnsI W0 (w.heap.size + 1) 3 (.slice (some ⟨w.heap.size + 1, 0, none⟩) 0 0) []) := Lib.hid (by rw [← hW0]; exact OwnsI.laid (by simp) (by omega))
  have HZ0 : RowKit.Hid (w.heap.size + 1 ≤ W0.heap.size) := Lib.hid (by rw [← hW0]; simp)
  go_enter Tryd.func82, Tryd.ntmps82
  go_upto_region 2 with fail
  try rw [hW0]
  clear hW0
  go_cut [26] (fun tc wc => tc = .bool (decide (There n fr ∧ fr ≠ wo)) ∧ wc = W0)
  case first =>
    have hc1 := HS0.out.c1
    by_cases h1 : fr = wo
    · have hb1 : (fr != wo) = false := by rw [h1]; simp
      have HD : RowKit.Hid (decide (There n fr ∧ fr ≠ wo) = false) := Lib.hid (decide_eq_false fun h => h.2 h1)
      clear h1
      go_wp2_with fail
      go_meet
      exact ⟨by rw [HD.out], rfl⟩
    · have hb1 : (fr != wo) = true := by rw [bne_iff_ne]; exact h1
      have HW := Lib.hid h1
      clear h1
      by_cases h2 : 0 ≤ fr
      · by_cases h3 : fr < (n : Int)
        · have HD : RowKit.Hid (decide (There n fr ∧ fr ≠ wo) = true) := Lib.hid (decide_eq_true ⟨⟨h2, h3⟩, HW.out⟩)
          go_wp2_with fail
          go_meet
          exact ⟨by rw [HD.out], rfl⟩
        · have HD : RowKit.Hid (decide (There n fr ∧ fr ≠ wo) = false) := Lib.hid (decide_eq_false fun h => h3 h.1.2)
          go_wp2_with fail
          go_meet
          exact ⟨by rw [HD.out], rfl⟩
      · have HD : RowKit.Hid (decide (There n fr ∧ fr ≠ wo) = false) := Lib.hid (decide_eq_false fun h => h2 h.1.1)
        go_wp2_with fail
        go_meet
        exact ⟨by rw [HD.out], rfl⟩
  case rest =>
    obtain ⟨rfl, rfl⟩ := hcut
    obtain ⟨wb, rfl⟩ : ∃ v, v = wc := ⟨_, rfl⟩
    go_upto_if 26 with fail
    go_cut [7] (fun v7 wd => ∃ xa xn xc, v7 = .slice xa xn xc ∧ RowKit.Hid (∃ Z, RmSt w r a n c xa xn xc Z wd ∧ BMet f fr wo [] Z ∧ w.heap.size + 1 ≤ wd.heap.size))
    case first =>
      by_cases hst : There n fr ∧ fr ≠ wo
      · have hd : decide (There n fr ∧ fr ≠ wo) = true := decide_eq_true hst
        have HST := Lib.hid hst
        clear hst
        go_wp2_with ((with_reducible refine wpList_append_num _ rfl _ _ 34 rfl 3 Tryd.underlying34 info_int (w.heap.size + 1) (.slice (some ⟨w.heap.size + 1, 0, none⟩) 0 0) [] ?_ ?_ ?_ _ 1 wb.heap.size fr ?_ ?_ ?_ ?_ ?_); (next => rfl); (next => exact HO0.out); (next => exact HZ0.out); (next => rfl); (next => rfl); (next => rfl); (next => simp); intro v3 w3 ho3 hb3; obtain ⟨va, vn, vc, rfl, _⟩ := ho3.nums; have HR0 : RowKit.Hid (RmSt w r a n c va vn vc [fr] w3 ∧ BMet f fr wo [] [fr] ∧ w.heap.size + 1 ≤ w3.heap.size) := Lib.hid ⟨⟨law_above HS0.out hb3, ho3⟩, BMet.one (by rw [← HLEN.out]; exact HST.out.1) HST.out.2, Nat.le_trans HZ0.out hb3.size⟩; clear ho3 hb3)
        go_meet
        exact ⟨_, _, _, rfl, Lib.hid ⟨_, HR0.out⟩⟩
      · have hd : decide (There n fr ∧ fr ≠ wo) = false := decide_eq_false hst
        have HST := Lib.hid hst
        clear hst
        go_wp2_with fail
        go_meet
        exact ⟨_, _, _, rfl, Lib.hid ⟨[], ⟨HS0.out, HO0.out⟩, BMet.none (by rw [← HLEN.out]; exact HST.out), HZ0.out⟩⟩
    case rest =>
      obtain ⟨xa0, xn0, xc0, rfl, HR0⟩ := hcut
      clear HS0 HO0 HZ0
      obtain ⟨wd0, rfl⟩ : ∃ v, v = wc := ⟨_, rfl⟩
      go_wp2_with fail
      go_loopw [7, 8] (fun v7 v8 wr => ∃ i xa xn xc, i ≤ xn ∧ v7 = .slice xa xn xc ∧ v8 = .int .i64 (i : Int) ∧ RowKit.Hid (∃ Z, RmSt w r a n c xa xn xc Z wr ∧ BMet f fr wo (Z.take i) Z ∧ w.heap.size + 1 ≤ wr.heap.size)) (fun _ v8 _ => n - (intOf v8).toNat)
      case atStart => exact ⟨0, xa0, xn0, xc0, Nat.zero_le _, rfl, rfl, HR0⟩
      case round =>
        obtain ⟨i, xa, xn, xc, hi, rfl, rfl, HI⟩ := hrel
        clear HR0
        obtain ⟨wp, hwp⟩ : ∃ u, u = wr := ⟨_, rfl⟩
        rw [← hwp] at HI ⊢
        clear hwp
        obtain ⟨Z, hZr, hZm, hZs⟩ := HI.out
        have hxl : Z.length = xn := hZr.own.read.1
        have hzn : Z.length ≤ n := by rw [HLEN.out]; exact hZm.inv.len
        by_cases hlt : i < xn
        · have hil : i < Z.length := by omega
          obtain ⟨h, hh⟩ : ∃ h : Nat, nth Z i = h := by
            obtain ⟨h, e, _⟩ := nat_of (hZm.inv.2 (nth Z i) (by rw [nth_is hil]; exact List.getElem_mem _))
            exact ⟨h, e⟩
          have hhn : h < n := by
            have := (hZm.inv.2 (nth Z i) (by rw [nth_is hil]; exact List.getElem_mem _)).2
            rw [hh, ← HLEN.out] at this
            omega
          obtain ⟨gz, hxa, hgz, hgzs⟩ := own_addr hZr.own (by omega)
          subst hxa
          have hcz : wp.cell? ⟨gz, i, none⟩ = some (.int .i64 (h : Int)) := by rw [← hh]; exact own_cell hZr.own hil
          obtain ⟨g, off, pa, pn, pc, oa, on, oc, la, ln, lc, ma, mn, mc, rfl, hg, hblk⟩ := block_at (HROW.out.since BlockQ.lasts hZr.law.bel) hhn
          have HKT : RowKit.Hid (∀ u, Below wp.heap.size wp u → (fun u : World => u.cell? ⟨w.heap.size, 1, none⟩ = some (.slice (some ⟨g, off, none⟩) n c) ∧ u.cell? ⟨gz, i, none⟩ = some (.int .i64 (h : Int)) ∧ u.cell? ⟨g, off + h * 8, none⟩ = some (.slice pa pn pc) ∧ u.cell? ⟨g, off + h * 8 + 1, none⟩ = some (.slice oa on oc) ∧ u.cell? ⟨g, off + h * 8 + 2, none⟩ = some (.int .i64 (theEnd f h).K) ∧ u.cell? ⟨g, off + h * 8 + 3, none⟩ = some (.int .i64 (theEnd f h).A) ∧ u.cell? ⟨g, off + h * 8 + 4, none⟩ = some (.int .i64 (theEnd f h).To) ∧ u.cell? ⟨g, off + h * 8 + 5, none⟩ = some (.int .i64 (theEnd f h).Else) ∧ u.cell? ⟨g, off + h * 8 + 6, none⟩ = some (.slice la ln lc) ∧ u.cell? ⟨g, off + h * 8 + 7, none⟩ = some (.slice ma mn mc)) u) := Lib.hid fun u hu => by
            obtain ⟨b0, b1, b2, b3, b4, b5, b6, b7⟩ := hblk u hu
            exact ⟨(hu.cell (p := ⟨w.heap.size, 1, none⟩) hZr.law.siz).trans hZr.law.c1, (hu.cell (p := ⟨gz, i, none⟩) hgzs).trans hcz, b0, b1, b2, b3, b4, b5, b6, b7⟩
          have HNXF : RowKit.Hid (nextL (theEnd f h) = nxF f h) := Lib.hid rfl
          have CN : RowKit.Hid (∀ u, Calls Tryd.prog 29 #[.agg #[.slice pa pn pc, .slice oa on oc, .int .i64 (theEnd f h).K, .int .i64 (theEnd f h).A, .int .i64 (theEnd f h).To, .int .i64 (theEnd f h).Else, .slice la ln lc, .slice ma mn mc]] u fun e' w' => ∃ va vn vc, e' = .returned (.slice va vn vc) ∧ OwnsI w' u.heap.size 3 (.slice va vn vc) (nxF f h) ∧ Below u.heap.size u w') := Lib.hid fun u => by rw [← HNXF.out]; exact refnext_any pa pn pc oa on oc (theEnd f h).A la ln lc ma mn mc (theEnd f h) u
          have HNL : RowKit.Hid ((nxF f h).length ≤ 2) := Lib.hid (next_len _)
          have hhi : (h : Int) < (n : Int) := by omega
          have hii : (i : Int) < (xn : Int) := by omega
          have hk0 : Below wp.heap.size wp wp.drew := (Below.refl _ _).drew
          have HZ : RowKit.Hid (RmSt w r (some ⟨g, off, none⟩) n c (some ⟨gz, 0, none⟩) xn xc Z wp ∧ BMet f fr wo (Z.take i) Z ∧ w.heap.size + 1 ≤ wp.heap.size) := Lib.hid ⟨hZr, hZm, hZs⟩
          have HIL : RowKit.Hid (i < Z.length ∧ nth Z i = h ∧ h < n ∧ Z.length = xn ∧ gz < wp.heap.size ∧ Z.length ≤ n) := Lib.hid ⟨hil, hh, hhn, hxl, hgzs, hzn⟩
          clear hblk hg hcz hZr hZm hZs HI hxl hil hh hhn hgzs hzn hgz
          generalize (theEnd f h).K = EK at *
          generalize (theEnd f h).A = EA at *
          generalize (theEnd f h).To = ET at *
          generalize (theEnd f h).Else = EE at *
          go_upto_region 7 with fail
          refine wp_region_held_drew (S := (fun u : World => u.cell? ⟨w.heap.size, 1, none⟩ = some (.slice (some ⟨g, off, none⟩) n c) ∧ u.cell? ⟨gz, i, none⟩ = some (.int .i64 (h : Int)) ∧ u.cell? ⟨g, off + h * 8, none⟩ = some (.slice pa pn pc) ∧ u.cell? ⟨g, off + h * 8 + 1, none⟩ = some (.slice oa on oc) ∧ u.cell? ⟨g, off + h * 8 + 2, none⟩ = some (.int .i64 EK) ∧ u.cell? ⟨g, off + h * 8 + 3, none⟩ = some (.int .i64 EA) ∧ u.cell? ⟨g, off + h * 8 + 4, none⟩ = some (.int .i64 ET) ∧ u.cell? ⟨g, off + h * 8 + 5, none⟩ = some (.int .i64 EE) ∧ u.cell? ⟨g, off + h * 8 + 6, none⟩ = some (.slice la ln lc) ∧ u.cell? ⟨g, off + h * 8 + 7, none⟩ = some (.slice ma mn mc))) (by kernel_rfl) (HKT.out _ hk0) (fun hHeld => ?_)
          refine wpAnyH_take (i := 0) (oi := ⟨some 37, _, _, _, _, _⟩) (v := ?_) rfl (by kernel_rfl) (by kernel_rfl) (by kernel_rfl) (fun _ _ _ h => h) (Or.inl ⟨by rfl, ?_⟩) (by assumption) ?_
          rotate_left
          · ((intro w hSw; (try dsimp only at hSw); go_simp); try with_reducible rfl)
          (try simp only [Act.put, List.setIfInBounds_toArray, List.set_cons_zero, List.set_cons_succ])
          refine wpAnyH_take (i := 1) (oi := ⟨some 38, _, _, _, _, _⟩) (v := ?_) rfl (by kernel_rfl) (by kernel_rfl) (by kernel_rfl) (fun _ _ _ h => h) (Or.inl ⟨by rfl, ?_⟩) (by assumption) ?_
          rotate_left
          · ((intro w hSw; (try dsimp only at hSw); go_simp); try with_reducible rfl)
          (try simp only [Act.put, List.setIfInBounds_toArray, List.set_cons_zero, List.set_cons_succ])
          refine wpAnyH_take (i := 2) (oi := ⟨some 39, _, _, _, _, _⟩) (v := ?_) rfl (by kernel_rfl) (by kernel_rfl) (by kernel_rfl) (fun _ _ _ h => h) (Or.inl ⟨by rfl, ?_⟩) (by assumption) ?_
          rotate_left
          · ((intro w hSw; (try dsimp only at hSw); go_simp); try with_reducible rfl)
          (try simp only [Act.put, List.setIfInBounds_toArray, List.set_cons_zero, List.set_cons_succ])
          refine wpAnyH_take (i := 3) (oi := ⟨some 40, _, _, _, _, _⟩) (v := ?_) rfl (by kernel_rfl) (by kernel_rfl) (by kernel_rfl) (fun _ _ _ h => h) (Or.inl ⟨by rfl, ?_⟩) (by assumption) ?_
          rotate_left
          · ((intro w hSw; (try dsimp only at hSw); go_simp); try with_reducible rfl)
          (try simp only [Act.put, List.setIfInBounds_toArray, List.set_cons_zero, List.set_cons_succ])
          refine wpAnyH_take (i := 4) (oi := ⟨some 41, _, _, _, _, _⟩) (v := ?_) rfl (by kernel_rfl) (by kernel_rfl) (by kernel_rfl) (fun _ _ _ h => h) (Or.inl ⟨by rfl, ?_⟩) (by assumption) ?_
          rotate_left
          · ((intro w hSw; (try dsimp only at hSw); go_simp); try with_reducible rfl)
          (try simp only [Act.put, List.setIfInBounds_toArray, List.set_cons_zero, List.set_cons_succ])
          refine wpAnyH_take (i := 5) (oi := ⟨some 42, _, _, _, _, _⟩) (v := ?_) rfl (by kernel_rfl) (by kernel_rfl) (by kernel_rfl) (fun _ _ _ h => h) (Or.inl ⟨by rfl, ?_⟩) (by assumption) ?_
          rotate_left
          · ((intro w hSw; (try dsimp only at hSw); go_simp); try with_reducible rfl)
          (try simp only [Act.put, List.setIfInBounds_toArray, List.set_cons_zero, List.set_cons_succ])
          refine wpAnyH_take (i := 6) (oi := ⟨some 43, _, _, _, _, _⟩) (v := ?_) rfl (by kernel_rfl) (by kernel_rfl) (by kernel_rfl) (fun _ _ _ h => h) (Or.inl ⟨by rfl, ?_⟩) (by assumption) ?_
          rotate_left
          · ((intro w hSw; (try dsimp only at hSw); go_simp); try with_reducible rfl)
          (try simp only [Act.put, List.setIfInBounds_toArray, List.set_cons_zero, List.set_cons_succ])
          refine wpAnyH_take (i := 7) (oi := ⟨some 44, _, _, _, _, _⟩) (v := ?_) rfl (by kernel_rfl) (by kernel_rfl) (by kernel_rfl) (fun _ _ _ h => h) (Or.inl ⟨by rfl, ?_⟩) (by assumption) ?_
          rotate_left
          · ((intro w hSw; (try dsimp only at hSw); go_simp); try with_reducible rfl)
          (try simp only [Act.put, List.setIfInBounds_toArray, List.set_cons_zero, List.set_cons_succ])
          refine wpAnyH_ready (rs := [8]) (by kernel_rfl) (by simp) (AllReadyH.cons rfl (fun K hK => ?_) AllReadyH.nil)
          rw [if_pos (by rfl)]
          go_simp
          go_at_call 29
          (with_reducible refine (CN.out _).mono ?_)
          rintro e v1 ⟨ya, yn, yc, rfl, ho1, hb1⟩
          have hk1 : Below wp.heap.size wp v1 := hk0.trans (hb1.mono hk0.size)
          have HY1 := Lib.hid ho1
          clear ho1 hb1
          refine hK.out _ _ (HKT.out _ hk1) (fun hHeld => ?_)
          clear hK K
          (try simp only [Act.put, List.setIfInBounds_toArray, List.set_cons_zero, List.set_cons_succ])
          refine wpAnyH_take (i := 9) (oi := ⟨some 9, _, _, _, _, _⟩) (v := ?_) rfl (by kernel_rfl) (by kernel_rfl) (by kernel_rfl) (fun _ _ _ h => h) (Or.inl ⟨by rfl, ?_⟩) (by assumption) ?_
          rotate_left
          · ((intro w hSw; (try dsimp only at hSw); go_simp); try with_reducible rfl)
          (try simp only [Act.put, List.setIfInBounds_toArray, List.set_cons_zero, List.set_cons_succ])
          refine wpAnyH_done (by kernel_rfl) ?_ _
          have hyl : (nxF f h).length = yn := HY1.out.read.1
          have HYL := Lib.hid hyl
          have hyn2 : yn ≤ 2 := by have := HNL.out; omega
          have HIN0 : RowKit.Hid (InSt w r (some ⟨g, off, none⟩) n c f fr wo Z i (nxF f h) (some ⟨gz, 0, none⟩) xn xc ya yn 0 Z v1) := Lib.hid ⟨HZ.out.1.since hk1, HZ.out.2.1, Nat.le_trans HZ.out.2.2 hk1.size, HY1.out.read, fun g' off' e h0 => by
            have hbk : (Value.slice ya yn yc).ownBlock = some g' := by rw [e]; rfl
            obtain ⟨h1, h2⟩ := HY1.out.lt g' hbk
            refine ⟨h2, fun e2 => ?_⟩
            have e3 : gz = g' := by simpa [Value.ownBlock] using e2
            have h3 := HIL.out.2.2.2.2.1
            simp at h1
            omega, ⟨[], by rw [List.append_nil]⟩, fun z hz => by simp at hz⟩
          have HNXT : RowKit.Hid (nxF f (nth Z i).toNat = nxF f h) := Lib.hid (by rw [HIL.out.2.1]; rfl)
          clear HKT CN HY1 hk0 hk1 hyl hHeld
          go_wp2_with fail
          go_loopw [7, 10] (fun v7 v10 wr => ∃ k xa' xn' xc', k ≤ yn ∧ v7 = .slice xa' xn' xc' ∧ v10 = .int .i64 (k : Int) ∧ RowKit.Hid (∃ Zk, InSt w r (some ⟨g, off, none⟩) n c f fr wo Z i (nxF f h) xa' xn' xc' ya yn k Zk wr)) (fun _ v10 _ => yn - (intOf v10).toNat)
          case atStart => exact ⟨0, _, _, _, Nat.zero_le _, rfl, rfl, Lib.hid ⟨_, HIN0.out⟩⟩
          case round =>
            obtain ⟨k, qa, qn, qc, hk, rfl, rfl, HK⟩ := hrel
            clear HIN0
            obtain ⟨wz, hwz⟩ : ∃ u, u = wr := ⟨_, rfl⟩
            rw [← hwz] at HK ⊢
            clear hwz
            obtain ⟨Zk, hZK⟩ := HK.out
            have HZK := Lib.hid hZK
            have hc1 := hZK.st.law.c1
            clear HK hZK
            by_cases hkl : k < yn
            · have hkli : (k : Int) < (yn : Int) := by omega
              have HKL : RowKit.Hid (k < (nxF f h).length) := Lib.hid (by rw [HYL.out]; exact hkl)
              obtain ⟨g2, off2, hya, hg2, hcs⟩ := HZK.out.lst.2 (by omega)
              obtain ⟨z, hz⟩ : ∃ z, z = (nxF f h)[k]'HKL.out := ⟨_, rfl⟩
              have hcz : wz.cell? ⟨g2, off2 + k, none⟩ = some (.int .i64 z) := by rw [hz]; exact hcs k HKL.out
              have HZE := Lib.hid hz
              subst hya
              clear hcs hz hg2
              have hqn : Zk.length = qn := HZK.out.st.own.read.1
              have hqb : qn ≤ 1099511627776 := by have h1 := HZK.out.met.inv.len; rw [← HLEN.out] at h1; omega
              have CH : RowKit.Hid (Calls Tryd.prog 20 #[.slice qa qn qc, .int .i64 z] wz fun e w' => e = .returned (.bool (inL Zk z)) ∧ wz = w') := Lib.hid (chas_any qa qn qc Zk z wz HZK.out.st.own.read (by omega))
              have HQL : RowKit.Hid ((Zk.length + 1) * 8 ≤ 140737488355328) := Lib.hid (by rw [hqn]; omega)
              have HQN := Lib.hid hqn
              clear hqn
              by_cases hw : z = wo
              · have hzb : (z != wo) = false := by rw [hw]; simp
                have HSK : RowKit.Hid (InSt w r (some ⟨g, off, none⟩) n c f fr wo Z i (nxF f h) qa qn qc (some ⟨g2, off2, none⟩) yn (k + 1) Zk wz) := Lib.hid (HZK.out.skip HKL.out fun _ h2 => absurd (by rw [← HZE.out]; exact hw) h2)
                clear hw
                go_wp2_with fail
                go_roundw
                case rel => exact ⟨k + 1, _, _, _, by omega, rfl, by go_num, Lib.hid ⟨_, HSK.out⟩⟩
                case measure => simp [intOf]; omega
              · have hzb : (z != wo) = true := by rw [bne_iff_ne]; exact hw
                have HW := Lib.hid hw
                clear hw
                by_cases h0 : 0 ≤ z
                · by_cases h1 : z < (n : Int)
                  · have HT : RowKit.Hid (There f.blocks.length z) := Lib.hid ⟨h0, by rw [← HLEN.out]; exact h1⟩
                    cases hin : inL Zk z with
                    | true =>
                      have HSK : RowKit.Hid (InSt w r (some ⟨g, off, none⟩) n c f fr wo Z i (nxF f h) qa qn qc (some ⟨g2, off2, none⟩) yn (k + 1) Zk wz) := Lib.hid (HZK.out.skip HKL.out fun _ _ => by rw [← HZE.out]; exact of_decide_eq_true hin)
                      rw [hin] at CH
                      clear hin
                      go_wp2_with (go_at_call 20; refine CH.out.mono ?_; rintro e u ⟨rfl, rfl⟩)
                      go_roundw
                      case rel => exact ⟨k + 1, _, _, _, by omega, rfl, by go_num, Lib.hid ⟨_, HSK.out⟩⟩
                      case measure => simp [intOf]; omega
                    | false =>
                      have HNI : RowKit.Hid (z ∉ Zk) := Lib.hid (of_decide_eq_false hin)
                      rw [hin] at CH
                      clear hin
                      go_wp2_with (first
                        | (go_at_call 20; refine CH.out.mono ?_; rintro e u ⟨rfl, rfl⟩)
                        | ((with_reducible refine wpList_append_numW _ rfl _ _ 34 rfl 3 Tryd.underlying34 info_int (w.heap.size + 1) (.slice qa qn qc) Zk ?_ ?_ ?_ _ 1 wz.heap.size z ?_ ?_ ?_ ?_ ?_); (next => rfl); (next => exact HZK.out.st.own); (next => exact HZK.out.siz); (next => rfl); (next => rfl); (next => rfl); (next => exact HQL.out); intro va vn vc w3 ho3 hg3 hwh3; have HAD : RowKit.Hid (InSt w r (some ⟨g, off, none⟩) n c f fr wo Z i (nxF f h) va vn vc (some ⟨g2, off2, none⟩) yn (k + 1) (Zk ++ [z]) w3) := Lib.hid (by have e := HZE.out; rw [e] at ho3 ⊢; exact HZK.out.add HKL.out HIL.out.1 HNXT.out (by rw [← e]; exact HT.out) (by rw [← e]; exact HW.out) (by rw [← e]; exact HNI.out) ho3 hg3 hwh3); clear ho3 hg3 hwh3))
                      go_roundw
                      case rel => exact ⟨k + 1, _, _, _, by omega, rfl, by go_num, Lib.hid ⟨_, HAD.out⟩⟩
                      case measure => simp [intOf]; omega
                  · have HSK : RowKit.Hid (InSt w r (some ⟨g, off, none⟩) n c f fr wo Z i (nxF f h) qa qn qc (some ⟨g2, off2, none⟩) yn (k + 1) Zk wz) := Lib.hid (HZK.out.skip HKL.out fun h2 _ => absurd h2.2 (by rw [← HZE.out, ← HLEN.out]; exact h1))
                    go_wp2_with fail
                    go_roundw
                    case rel => exact ⟨k + 1, _, _, _, by omega, rfl, by go_num, Lib.hid ⟨_, HSK.out⟩⟩
                    case measure => simp [intOf]; omega
                · have HSK : RowKit.Hid (InSt w r (some ⟨g, off, none⟩) n c f fr wo Z i (nxF f h) qa qn qc (some ⟨g2, off2, none⟩) yn (k + 1) Zk wz) := Lib.hid (HZK.out.skip HKL.out fun h2 _ => absurd h2.1 (by rw [← HZE.out]; exact h0))
                  go_wp2_with fail
                  go_roundw
                  case rel => exact ⟨k + 1, _, _, _, by omega, rfl, by go_num, Lib.hid ⟨_, HSK.out⟩⟩
                  case measure => simp [intOf]; omega
            · have hky : k = yn := by omega
              have HFI : RowKit.Hid (i + 1 ≤ Zk.length ∧ BMet f fr wo (Zk.take (i + 1)) Zk) := Lib.hid (by
                have := HZK.out
                rw [hky, ← HYL.out] at this
                exact this.fin HIL.out.1 HNXT.out)
              have HQN : RowKit.Hid (Zk.length = qn) := Lib.hid HZK.out.st.own.read.1
              have hi1 : i < n := Nat.lt_of_lt_of_le HIL.out.1 HIL.out.2.2.2.2.2
              clear hky
              go_wp2_with fail
              go_roundw
              case rel => exact ⟨i + 1, _, _, _, by rw [← HQN.out]; exact HFI.out.1, rfl, by go_num, Lib.hid ⟨_, HZK.out.st, HFI.out.2, HZK.out.siz⟩⟩
              case measure => simp [intOf]; omega
        · obtain rfl : i = xn := by omega
          have HZ : RowKit.Hid (RmSt w r a n c xa i xc Z wp ∧ BMet f fr wo Z Z) := Lib.hid ⟨hZr, by rw [← hxl, List.take_length] at hZm; exact hZm⟩
          clear hZr hZm hZs hxl hzn HI
          go_wp2_with fail
          go_ret
          exact ⟨_, _, _, Z, rfl, HZ.out.1.own.mono (by omega), by rw [HLEN.out]; exact HZ.out.2.inv, fun v => HZ.out.2.all v, HZ.out.1.law.bel⟩
end Go.Proofs.YtdchhfdmingnaaaDoor
