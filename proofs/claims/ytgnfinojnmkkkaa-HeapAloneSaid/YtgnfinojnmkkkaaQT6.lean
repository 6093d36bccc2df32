/- Layer 10: the document's Leave. -/
import Derived.Test.YtgnfinojnmkkkaaQHeapRM

namespace Go.Proofs.Ytgnfinojnmkkkaa
open Go.RowKit (wrap64 intOf Below)
set_option linter.unusedVariables false
set_option linter.unusedSimpArgs false

/-- The first i things are told anew. -/
def goneTo (f : Int) (i : Nat) (L : List RT) : List RT := (L.take i).map (goneT f) ++ L.drop i
theorem goneTo_len (f : Int) (i : Nat) (L : List RT) : (goneTo f i L).length = L.length := by unfold goneTo; simp; omega
theorem goneTo_zero (f : Int) (L : List RT) : goneTo f 0 L = L := by unfold goneTo; simp
theorem goneTo_all (f : Int) (L : List RT) : goneTo f L.length L = L.map (goneT f) := by unfold goneTo; simp
theorem goneTo_at (f : Int) (i : Nat) (L : List RT) (h : i < L.length) (h' : i < (goneTo f i L).length) : (goneTo f i L)[i] = L[i] := by
  unfold goneTo at h' ⊢
  rw [List.getElem_append_right (by simp; omega)]
  simp [List.length_take, Nat.min_eq_left (Nat.le_of_lt h)]
theorem goneTo_next (f : Int) (i : Nat) (L : List RT) (h : i < L.length) : (goneTo f i L).set i (goneT f L[i]) = goneTo f (i + 1) L := by
  unfold goneTo
  rw [List.set_append_right _ _ (by simp; omega)]
  have e1 : L.drop i = L[i] :: L.drop (i + 1) := List.drop_eq_getElem_cons h
  rw [e1]
  simp only [List.length_map, List.length_take, Nat.min_eq_left (Nat.le_of_lt h), Nat.sub_self, List.set_cons_zero]
  rw [List.take_succ_eq_append_getElem h, List.map_append]
  simp
section
variable {W : World} {B cap : Nat} {R : RM} {G : GR}
/-- Thing k is gone. -/
theorem RefAt.goes (h : RefAt W B cap R G) {k : Nat} (h1 : k < R.L.length) (h2 : k < G.gts.length) {lb : Nat} (hla : G.la = some ⟨lb, 0, none⟩) :
    RefAt (W.setCell ⟨lb, k * 6 + 5, none⟩ (.bool true)) B cap {R with L := R.L.set k {R.L[k] with gone := true}} G ∧ Below B W (W.setCell ⟨lb, k * 6 + 5, none⟩ (.bool true)) ∧ Sep W (W.setCell ⟨lb, k * 6 + 5, none⟩ (.bool true)) G.ρ G.ρ ∧ W.frozen? ⟨lb, k * 6 + 5, none⟩ = false := by
  have hT := h.th k h1 h2
  have hlr : G.ρ lb = some (1, 0) := h.rl lb (by rw [hla]; rfl)
  have hll := h.range _ _ hlr
  have hzl := zip_len h
  have hz : k < (R.L.zip G.gts).length := by rw [hzl]; exact h1
  have hln := h.ln
  have hnl : G.ln = (R.L.zip G.gts).length := by rw [hzl, hln]
  have hlv := h.lv
  rw [hla] at hlv
  have s1 := th_set hlv hnl hz (j := 5) (v := .bool true) (y := ({R.L[k] with gone := true}, G.gts[k])) (by omega) (by rw [List.getElem_zip]; rfl)
  have o1 : Off (fun b => b = lb) W (W.setCell ⟨lb, k * 6 + 5, none⟩ (.bool true)) := (Off.refl (fun b => b = lb) W).setCell (p := ⟨lb, k * 6 + 5, none⟩) (.inl rfl) _
  have hkp0 : Kp G.ρ (fun r => r ≠ (1, 0)) W (W.setCell ⟨lb, k * 6 + 5, none⟩ (.bool true)) := kp_of_off h.range o1 fun b r hx hbr hR => by
    rw [hx, hlr] at hbr; exact hR (Option.some.inj hbr).symm
  have hkp : Kp G.ρ (fun r => r ≠ (1, 0) ∧ thR k r) W (W.setCell ⟨lb, k * 6 + 5, none⟩ (.bool true)) := fun b r hbr hR => hkp0 b r hbr hR.1
  have nk := h.num.one _ (List.getElem_mem h1)
  have hBW : B ≤ W.heap.size := by omega
  have r1 := h.anew h1 h2 (t := {R.L[k] with gone := true}) (g := G.gts[k]) (ρ' := G.ρ) (by rw [hla]; exact s1) (by
    have := hT.kept hkp0 (fun a ha _ => by simp; omega) (Ex.refl _)
    exact ⟨this.V, this.rv, this.K, this.rk, this.U, this.ru⟩) hkp o1.size (Ex.refl _) (fun b r hbr => ⟨(h.range b r hbr).1, Nat.lt_of_lt_of_le (h.range b r hbr).2 o1.size⟩) (RNum.set h.num (t := {R.L[k] with gone := true}) ⟨nk.kind, nk.V, nk.keys, nk.under, nk.frame⟩ k)
  have eg : G.gts.set k G.gts[k] = G.gts := List.set_getElem_self h2
  rw [eg] at r1
  refine ⟨r1, o1.below hBW (fun b hb => by rw [hb]; exact hll.1), ⟨o1.mono (fun b _ hb => ⟨(1, 0), by rw [hb]; exact hlr⟩), fun b r hr => .inl ⟨r, hr⟩⟩, ?_⟩
  have h3 : W.ownsRow B 63 6 (.slice (some ⟨lb, 0, none⟩) G.ln G.lc) G.ln ((R.L.zip G.gts).flatMap thV) := by
    have := hlv; unfold OwnsTh at this; rw [← hnl] at this; exact this
  exact World.ownsRow.frozenAt h3 _
end
def RLPost (W : World) (B cap : Nat) (R : RM) (G : GR) (e : Ending) (w' : World) : Prop := e = .returned (.bool (leaveR R).2) ∧ RefAt w' B cap (leaveR R).1 G ∧ Below B W w' ∧ Sep W w' G.ρ G.ρ
/-- Where Leave stands. -/
structure RLv (W : World) (B cap : Nat) (R : RM) (G : GR) (i : Nat) (u : World) : Prop where
  mem : RefAt u B cap {R with L := goneTo R.frames i R.L} G
  bel : Below B W u
  sep : Sep W u G.ρ G.ρ
set_option maxRecDepth 100000 in
set_option maxHeartbeats 1000000 in
theorem refleave_any {W : World} {B cap : Nat} {R : RM} {G : GR} (h : RefAt W B cap R G) (hcap : cap ≤ 1099511627776) :
    Calls Try.prog 15 #[.pointer (some ⟨G.p, 0, none⟩)] W (RLPost W B cap R G) := by
  have c1 := h.cell 1
  simp only [List.getElem?_toArray, List.getElem?_cons_succ, List.getElem?_cons_zero] at c1
  by_cases h0 : R.frames = 1
  · have HR : RowKit.Hid (RLPost W B cap R G (.returned (.bool false)) W) := Lib.hid (by unfold RLPost leaveR; rw [if_pos h0]; exact ⟨rfl, h, Below.refl _ _, Sep.since (Below.refl _ _)⟩)
    have hb : (R.frames == 1) = true := by simp [h0]
    clear h h0
    go_enter Try.func15, Try.ntmps15
    go_wp2_with fail
    go_ret
    exact HR.out
  · have hb : (R.frames == 1) = false := by simpa using h0
    have hll := h.num.len
    have hfr := h.num.frames
    have hws : wrap64 (R.frames - 1) = R.frames - 1 := by unfold wrap64; omega
    have HS0 : RowKit.Hid (RLv W B cap R G 0 W) := Lib.hid ⟨by rw [goneTo_zero]; exact h, Below.refl _ _, Sep.since (Below.refl _ _)⟩
    -- a round
    have HND : RowKit.Hid (∀ u i, RLv W B cap R G i u → i < R.L.length → ∃ lb, G.la = some ⟨lb, 0, none⟩ ∧ (∀ q, (u.drewN q).cell? ⟨G.p, 0, none⟩ = some (.slice (some ⟨lb, 0, none⟩) R.L.length G.lc)) ∧ (∀ q, (u.drewN q).cell? ⟨G.p, 1, none⟩ = some (.int .i64 R.frames)) ∧ (∀ q, (u.drewN q).cell? ⟨lb, i * 6 + 4, none⟩ = some (.int .i64 (R.L[i]?.map (·.frame) |>.getD 0))) ∧ (∀ q, (u.drewN q).cell? ⟨lb, i * 6 + 5, none⟩ = some (.bool (R.L[i]?.map (·.gone) |>.getD false))) ∧ (∀ q, (u.drewN q).frozen? ⟨lb, i * 6 + 5, none⟩ = false) ∧
        (((R.L[i]?.map (·.frame) |>.getD 0) = R.frames → ∀ q, RLv W B cap R G (i + 1) ((u.drewN q).setCell ⟨lb, i * 6 + 5, none⟩ (.bool true))) ∧ (¬ ((R.L[i]?.map (·.frame) |>.getD 0) = R.frames) → ∀ q, RLv W B cap R G (i + 1) (u.drewN q)))) := Lib.hid fun u i hu hi => by
      have hm := hu.mem
      have hl : i < (goneTo R.frames i R.L).length := by rw [goneTo_len]; exact hi
      have hi2 : i < G.gts.length := by rw [h.glen]; exact hi
      obtain ⟨lb, e, hlb, _, _, t0, t1, t2, t3, t4, t5⟩ := hm.thing hl hi2
      have hat := goneTo_at R.frames i R.L hi hl
      have d0 := hm.cell 0
      have d1 := hm.cell 1
      simp only [List.getElem?_toArray, List.getElem?_cons_succ, List.getElem?_cons_zero] at d0 d1
      have hmd : ∀ q, RefAt (u.drewN q) B cap {R with L := goneTo R.frames i R.L} G := fun q => hm.since (below_drewN q (Below.refl _ _))
      simp only [hat] at t4 t5
      rw [h.ln, e] at d0
      have hgo : ∀ q, _ := fun q => (hmd q).goes hl hi2 e
      refine ⟨lb, e, fun q => d0, fun q => d1, fun q => by rw [List.getElem?_eq_getElem hi]; exact t4, fun q => by rw [List.getElem?_eq_getElem hi]; exact t5, fun q => (hgo q).2.2.2, fun hf q => ?_, fun hf q => ?_⟩
      · rw [List.getElem?_eq_getElem hi] at hf
        have hf' : R.L[i].frame = R.frames := hf
        obtain ⟨g1, g2, g3, _⟩ := hgo q
        have e2 : (goneTo R.frames i R.L).set i {(goneTo R.frames i R.L)[i] with gone := true} = goneTo R.frames (i + 1) R.L := by
          rw [hat, ← goneTo_next R.frames i R.L hi]
          congr 1
          unfold goneT; rw [if_pos hf']
        have g1' : RefAt ((u.drewN q).setCell ⟨lb, i * 6 + 5, none⟩ (.bool true)) B cap {R with L := (goneTo R.frames i R.L).set i {(goneTo R.frames i R.L)[i] with gone := true}} G := g1
        rw [e2] at g1'
        have b0 : Below B u (u.drewN q) := below_drewN q (Below.refl _ _)
        exact ⟨g1', hu.bel.trans (b0.trans g2), hu.sep.trans ((Sep.since (below_drewN q (Below.refl _ _))).trans g3)⟩
      · rw [List.getElem?_eq_getElem hi] at hf
        have hf' : ¬ R.L[i].frame = R.frames := hf
        have e2 : goneTo R.frames (i + 1) R.L = goneTo R.frames i R.L := by
          rw [← goneTo_next R.frames i R.L hi]
          have : goneT R.frames R.L[i] = (goneTo R.frames i R.L)[i] := by rw [hat]; unfold goneT; rw [if_neg hf']
          rw [this]; exact List.set_getElem_self hl
        refine ⟨by rw [e2]; exact hmd q, hu.bel.trans (below_drewN q (Below.refl _ _)), hu.sep.trans (Sep.since (below_drewN q (Below.refl _ _)))⟩
    have HEND : RowKit.Hid (∀ u, RLv W B cap R G R.L.length u → u.cell? ⟨G.p, 0, none⟩ = some (.slice G.la R.L.length G.lc) ∧ u.cell? ⟨G.p, 1, none⟩ = some (.int .i64 R.frames) ∧ u.frozen? ⟨G.p, 1, none⟩ = false ∧ RLPost W B cap R G (.returned (.bool true)) (u.setCell ⟨G.p, 1, none⟩ (.int .i64 (R.frames - 1)))) := Lib.hid fun u hu => by
      have hm := hu.mem
      have d1 := hm.cell 1
      have d0 := hm.cell 0
      simp only [List.getElem?_toArray, List.getElem?_cons_succ, List.getElem?_cons_zero] at d1 d0
      rw [h.ln] at d0
      rw [goneTo_all] at hm
      refine ⟨d0, d1, hm.free 1, by unfold leaveR; rw [if_neg h0], ?_, hu.bel.trans ((Below.refl B u).setCell (p := ⟨G.p, 1, none⟩) hm.plt.1 _), hu.sep.trans ⟨(Off.refl _ u).setCell (p := ⟨G.p, 1, none⟩) (.inl ⟨_, hm.rm⟩) _, fun b r hr => .inl ⟨r, hr⟩⟩⟩
      unfold leaveR
      rw [if_neg h0]
      have n := hm.num
      exact hm.head (a := R.frames - 1) (b := R.limit) (c := R.used) (d := R.makes) (hm.kpSet 1 _) (by simp [World.setCell]) (by rw [heap_setCell_same u G.p 1 _ _ _ hm.blk]; rfl) ⟨⟨by show 1 ≤ R.frames - 1; omega, by show R.frames - 1 ≤ (cap : Int) + 1; omega⟩, n.limit, n.used, n.makes, n.len, n.one⟩
    obtain ⟨N, hN⟩ : ∃ N, R.L.length = N := ⟨_, rfl⟩
    rw [hN] at HND HEND hll
    have cz := h.cell 0
    simp only [List.getElem?_toArray, List.getElem?_cons_succ, List.getElem?_cons_zero] at cz
    clear h h0 hfr hN cz
    go_enter Try.func15, Try.ntmps15
    go_wp2_with fail
    go_loopw [3] (fun v3 wr => ∃ i : Nat, i ≤ N ∧ v3 = .int .i64 (i : Int) ∧ RowKit.Hid (RLv W B cap R G i wr)) (fun v3 _ => N - (intOf v3).toNat)
    case atStart => exact ⟨0, Nat.zero_le _, rfl, HS0⟩
    case round =>
      obtain ⟨i, hi, rfl, HI⟩ := hrel
      clear HS0 c1 hb
      obtain ⟨wo, hwo⟩ : ∃ u, u = wr := ⟨_, rfl⟩
      rw [← hwo] at HI ⊢
      clear hwo
      have HW : RowKit.Hid (wrap64 ((i : Int) + 1) = (i : Int) + 1) := Lib.hid (by unfold wrap64; omega)
      by_cases hlt : i < N
      · obtain ⟨lb, -, d0, d1, t4, t5, tf, hy, hn⟩ := HND.out wo i HI.out hlt
        have k0 : wo.cell? ⟨G.p, 0, none⟩ = some (.slice (some ⟨lb, 0, none⟩) N G.lc) := d0 0
        have k1 : wo.cell? ⟨G.p, 1, none⟩ = some (.int .i64 R.frames) := d1 0
        have k4 := t4 0
        have k5 := t5 0
        have kf := tf 0
        have hin : (i : Int) < (N : Int) := by omega
        have hi0 : (0 : Int) ≤ (i : Int) := by omega
        obtain ⟨f, hf⟩ : ∃ f, (R.L[i]?.map (·.frame) |>.getD 0) = f := ⟨_, rfl⟩
        obtain ⟨gb, hgb⟩ : ∃ gb, (R.L[i]?.map (·.gone) |>.getD false) = gb := ⟨_, rfl⟩
        rw [hf] at k4 hy hn
        rw [hgb] at k5
        have e4 : wo.cell? ⟨lb, i * 6 + 4, none⟩ = some (.int .i64 f) := k4
        have e5 : wo.cell? ⟨lb, i * 6 + 5, none⟩ = some (.bool gb) := k5
        have ef : wo.frozen? ⟨lb, i * 6 + 5, none⟩ = false := kf
        clear d0 d1 t4 t5 tf hf hgb k4 k5 kf HEND HND HI
        by_cases hff : f = R.frames
        · have HY := Lib.hid (hy hff)
          have hbb : (R.frames == R.frames) = true := by simp
          subst hff
          clear hy hn
          go_upto_region 6 with fail
          go_quiet (fail)
          go_wp2_with fail
          go_roundw
          case rel => exact ⟨i + 1, hlt, by go_num, Lib.hid (HY.out _)⟩
          case measure => simp [intOf, HW.out]; omega
        · have HY := Lib.hid (hn hff)
          have hbb : (f == R.frames) = false := by simpa using hff
          clear hy hn hff
          go_upto_region 6 with fail
          go_quiet (fail)
          go_wp2_with fail
          go_roundw
          case rel => exact ⟨i + 1, hlt, by go_num, Lib.hid (HY.out _)⟩
          case measure => simp [intOf, HW.out]; omega
      · obtain rfl : i = N := by omega
        obtain ⟨k0, k1, kf, hp⟩ := HEND.out wo HI.out
        have HP := Lib.hid hp
        clear hp HEND HND HI
        go_wp2_with fail
        go_ret
        exact HP.out
end Go.Proofs.Ytgnfinojnmkkkaa

/- Layer 10: both memories side by side. -/
namespace Go.Proofs.Ytgnfinojnmkkkaa
open Go.RowKit (wrap64 intOf Below)
set_option linter.unusedVariables false
set_option linter.unusedSimpArgs false

structure PAct where
  kind : Int
  r : Int
  i : Int
  n : Int
  v : VV
  st : Bool
def I64 (x : Int) : Prop := -9223372036854775808 ≤ x ∧ x ≤ 9223372036854775807
structure PAct.Ok (a : PAct) : Prop where
  kind : I64 a.kind
  r : I64 a.r
  i : I64 a.i
  n : I64 a.n
def actL (a : PAct) : List Value := [.int .i64 a.kind, .int .i64 a.r, .int .i64 a.i, .int .i64 a.n, .int .i64 a.v.1, .string a.v.2.1, .int .i64 a.v.2.2, .bool a.st]
/-- Both memories, of which no part is the other one's, and a box that is neither's. -/
structure PB (W : World) (B cap p d : Nat) (M : PM) (G : GM) (R : RM) (G2 : GR) (k : Nat) (a : PAct) : Prop where
  mem : MemAt W B cap M G
  fm : FmAt M G
  ref : RefAt W B cap R G2
  p : G.p = p
  d : G2.p = d
  ap : ∀ b, dom G.ρ b → ¬ dom G2.ρ b
  box : W.heap[k]? = some (.cells (actL a).toArray 26 (0, 0))
  nm : ¬ dom G.ρ k
  nr : ¬ dom G2.ρ k
section
variable {W w' : World} {B cap cap' p d k : Nat} {M M' : PM} {G G' : GM} {R R' : RM} {G2 G2' : GR} {a : PAct}
theorem dom_ltM (h : MemAt W B cap M G) {b : Nat} (hb : dom G.ρ b) : b < W.heap.size := by obtain ⟨r, hr⟩ := hb; exact (h.range b r hr).2
theorem dom_ltR (h : RefAt W B cap R G2) {b : Nat} (hb : dom G2.ρ b) : b < W.heap.size := by obtain ⟨r, hr⟩ := hb; exact (h.range b r hr).2
theorem PB.cells (h : PB W B cap p d M G R G2 k a) : W.cell? ⟨k, 0, none⟩ = some (.int .i64 a.kind) ∧ W.cell? ⟨k, 1, none⟩ = some (.int .i64 a.r) ∧ W.cell? ⟨k, 2, none⟩ = some (.int .i64 a.i) ∧ W.cell? ⟨k, 3, none⟩ = some (.int .i64 a.n) ∧ W.cell? ⟨k, 4, none⟩ = some (.int .i64 a.v.1) ∧ W.cell? ⟨k, 5, none⟩ = some (.string a.v.2.1) ∧ W.cell? ⟨k, 6, none⟩ = some (.int .i64 a.v.2.2) ∧ W.cell? ⟨k, 7, none⟩ = some (.bool a.st) := by
  simp only [World.cell?, h.box]
  exact ⟨rfl, rfl, rfl, rfl, rfl, rfl, rfl, rfl⟩
theorem PB.lt (h : PB W B cap p d M G R G2 k a) : B ≤ W.heap.size ∧ k < W.heap.size := ⟨by have := h.mem.plt; omega, (Array.getElem?_eq_some_iff.1 h.box).1⟩
theorem PB.since (h : PB W B cap p d M G R G2 k a) (hb : Below W.heap.size W w') : PB w' B cap p d M G R G2 k a :=
  ⟨h.mem.since hb, h.fm, h.ref.since hb, h.p, h.d, h.ap, (hb.block k h.lt.2).trans h.box, h.nm, h.nr⟩
theorem PB.mono (h : PB W B cap p d M G R G2 k a) (hc : cap ≤ cap') : PB W B cap' p d M G R G2 k a := ⟨h.mem.mono hc, h.fm, h.ref.mono hc, h.p, h.d, h.ap, h.box, h.nm, h.nr⟩
/-- A call of the one. -/
theorem PB.m (h : PB W B cap p d M G R G2 k a) (hm : MemAt w' B cap' M' G') (hp : G'.p = G.p) (hf : FmAt M' G') (hs : Sep W w' G.ρ G'.ρ) (hc : cap ≤ cap') : PB w' B cap' p d M' G' R G2 k a :=
  ⟨hm, hf, (h.ref.beside hs.off h.ap).mono hc, hp.trans h.p, h.d, fun b hb hd => (hb.elim fun r hr => hs.new b r hr).elim (fun h' => h.ap b h' hd) (fun h' => by have := dom_ltR h.ref hd; omega), (hs.free h.lt.2 h.nm).1.trans h.box, (hs.free h.lt.2 h.nm).2, h.nr⟩
/-- A call of the other one. -/
theorem PB.r (h : PB W B cap p d M G R G2 k a) (hm : RefAt w' B cap' R' G2') (hp : G2'.p = G2.p) (hs : Sep W w' G2.ρ G2'.ρ) (hc : cap ≤ cap') : PB w' B cap' p d M G R' G2' k a :=
  ⟨(h.mem.beside hs.off (fun b hb hd => h.ap b hd hb)).mono hc, h.fm, hm, h.p, hp.trans h.d, fun b hb hd => (hd.elim fun r hr => hs.new b r hr).elim (fun h' => h.ap b hb h') (fun h' => by have := dom_ltM h.mem hb; omega), (hs.free h.lt.2 h.nr).1.trans h.box, h.nm, (hs.free h.lt.2 h.nr).2⟩
end
/-- The blocks of both. -/
def dm (G : GM) (G2 : GR) (b : Nat) : Prop := dom G.ρ b ∨ dom G2.ρ b
/-- Only blocks of both, and new ones, have turned; and only these are theirs then. -/
structure Stp (W w' : World) (B : Nat) (D D' : Nat → Prop) : Prop where
  bel : Below B W w'
  off : Off D W w'
  new : ∀ b, D' b → D b ∨ W.heap.size ≤ b
theorem Stp.trans {W u w' : World} {B : Nat} {D D1 D2 : Nat → Prop} (h : Stp W u B D D1) (k : Stp u w' B D1 D2) : Stp W w' B D D2 :=
  ⟨h.bel.trans k.bel, h.off.trans_new k.off h.new, fun b hb => (k.new b hb).elim (h.new b) (fun h' => .inr (Nat.le_trans h.off.size h'))⟩
theorem Stp.since {W w' : World} {B : Nat} {D : Nat → Prop} (hB : B ≤ W.heap.size) (h : Below W.heap.size W w') : Stp W w' B D D := ⟨h.mono hB, Off.since h, fun b hb => .inl hb⟩
theorem Stp.m {W w' : World} {B : Nat} {G G' : GM} {G2 : GR} (h : Below B W w') (hs : Sep W w' G.ρ G'.ρ) : Stp W w' B (dm G G2) (dm G' G2) :=
  ⟨h, hs.off.mono (fun b _ hb => .inl hb), fun b hb => hb.elim (fun ⟨r, hr⟩ => (hs.new b r hr).imp .inl id) (fun h' => .inl (.inr h'))⟩
theorem Stp.r {W w' : World} {B : Nat} {G : GM} {G2 G2' : GR} (h : Below B W w') (hs : Sep W w' G2.ρ G2'.ρ) : Stp W w' B (dm G G2) (dm G G2') :=
  ⟨h, hs.off.mono (fun b _ hb => .inr hb), fun b hb => hb.elim (fun h' => .inl (.inl h')) (fun ⟨r, hr⟩ => (hs.new b r hr).imp .inr id)⟩
section
variable {W : World} {B cap p d k : Nat} {M : PM} {G : GM} {R : RM} {G2 : GR} {a : PAct}
theorem PB.enter (h : PB W B cap p d M G R G2 k a) (hcap : cap ≤ 1099511627776) : Calls Try.prog 12 #[.pointer (some ⟨p, 0, none⟩)] W fun e w' => e = .returned (.int .i64 (enterM M).2) ∧ ∃ G', PB w' B (cap + 1) p d (enterM M).1 G' R G2 k a ∧ Stp W w' B (dm G G2) (dm G' G2) := by
  have hc := enter_any h.mem hcap
  rw [h.p] at hc
  exact hc.mono fun e w' ⟨he, G', h1, h2, h3, h4, h5⟩ => ⟨he, G', h.m h1 h2 (h4 h.fm) h5 (Nat.le_succ _), .m h3 h5⟩
theorem PB.leave (h : PB W B cap p d M G R G2 k a) (hcap : cap ≤ 1099511627776) : Calls Try.prog 14 #[.pointer (some ⟨p, 0, none⟩)] W fun e w' => e = .returned (.bool (leaveM M).2) ∧ ∃ G', PB w' B (cap + 1) p d (leaveM M).1 G' R G2 k a ∧ Stp W w' B (dm G G2) (dm G' G2) := by
  have hc := leave_any hcap h.mem h.fm
  rw [h.p] at hc
  exact hc.mono fun e w' ⟨he, G', h1, h2, h3, h4, h5⟩ => ⟨he, G', h.m (h1.mono (Nat.le_succ _)) h2 h4 h5 (Nat.le_succ _), .m h3 h5⟩
theorem PB.object (h : PB W B cap p d M G R G2 k a) (hcap : cap ≤ 1099511627776) {g n c : Nat} {l : List VV} (hv : ValsAt W g l) (hn : l.length = n) (hl : l.length ≤ 1048576) (st : Bool) : Calls Try.prog 16 #[.pointer (some ⟨p, 0, none⟩), .slice (some ⟨g, 0, none⟩) n c, .bool st] W fun e w' => e = .returned (.tuple #[.int .i64 (objectM M l st).2.1, .int .i64 (objectM M l st).2.2]) ∧ ∃ G', PB w' B (cap + 1) p d (objectM M l st).1 G' R G2 k a ∧ Stp W w' B (dm G G2) (dm G' G2) := by
  have hc := mobject_any (c := c) h.mem hcap h.fm st hv hn hl
  rw [h.p] at hc
  exact hc.mono fun e w' ⟨he, G', h1, h2, h3, h4, h5⟩ => ⟨he, G', h.m h1 h2 (h4 h.fm) h5 (Nat.le_succ _), .m h3 h5⟩
theorem PB.slice (h : PB W B cap p d M G R G2 k a) (hcap : cap ≤ 1099511627776) (n : Int) (st : Bool) : Calls Try.prog 18 #[.pointer (some ⟨p, 0, none⟩), .int .i64 n, .bool st] W fun e w' => e = .returned (.tuple #[.int .i64 (sliceM M n st).2.1, .int .i64 (sliceM M n st).2.2]) ∧ ∃ G', PB w' B (cap + 1) p d (sliceM M n st).1 G' R G2 k a ∧ Stp W w' B (dm G G2) (dm G' G2) := by
  have hc := slice_any h.mem hcap n st (layOk_any hcap M) h.fm
  rw [h.p] at hc
  exact hc.mono fun e w' ⟨he, G', h1, h2, h3, h4, h5⟩ => ⟨he, G', h.m h1 h2 (h4 h.fm) h5 (Nat.le_succ _), .m h3 h5⟩
theorem PB.table (h : PB W B cap p d M G R G2 k a) (hcap : cap ≤ 1099511627776) (st : Bool) : Calls Try.prog 20 #[.pointer (some ⟨p, 0, none⟩), .bool st] W fun e w' => e = .returned (.tuple #[.int .i64 (tableM M st).2.1, .int .i64 (tableM M st).2.2]) ∧ ∃ G', PB w' B (cap + 1) p d (tableM M st).1 G' R G2 k a ∧ Stp W w' B (dm G G2) (dm G' G2) := by
  have hc := mtable_any h.mem hcap st (layOk_any hcap M) h.fm
  rw [h.p] at hc
  exact hc.mono fun e w' ⟨he, G', h1, h2, h3, h4, h5⟩ => ⟨he, G', h.m h1 h2 (h4 h.fm) h5 (Nat.le_succ _), .m h3 h5⟩
theorem PB.set (h : PB W B cap p d M G R G2 k a) (hcap : cap ≤ 1099511627776) (r j : Int) (v : VV) (hr : I64 r) : Calls Try.prog 34 #[.pointer (some ⟨p, 0, none⟩), .int .i64 r, .int .i64 j, .agg #[.int .i64 v.1, .string v.2.1, .int .i64 v.2.2]] W fun e w' => e = .returned (.int .i64 (setM M r j v).2) ∧ ∃ G', PB w' B (cap + 1) p d (setM M r j v).1 G' R G2 k a ∧ Stp W w' B (dm G G2) (dm G' G2) := by
  have hc := mset_any h.mem hcap r j v hr
  rw [h.p] at hc
  exact hc.mono fun e w' ⟨he, G', h1, h2, h3, h4, h5⟩ => ⟨he, G', h.m h1 h2 (h5 h.fm) h4 (Nat.le_succ _), .m h3 h4⟩
theorem PB.put (h : PB W B cap p d M G R G2 k a) (hcap : cap ≤ 1099511627776) (r x n : Int) (hr : I64 r) (hx : I64 x) (hn : I64 n) : Calls Try.prog 27 #[.pointer (some ⟨p, 0, none⟩), .int .i64 r, .int .i64 x, .int .i64 n] W fun e w' => e = .returned (.int .i64 (putM M r x n).2) ∧ ∃ G', PB w' B (cap + 1) p d (putM M r x n).1 G' R G2 k a ∧ Stp W w' B (dm G G2) (dm G' G2) := by
  have hc := put_any h.mem hcap r x n hr hx hn
  rw [h.p] at hc
  exact hc.mono fun e w' ⟨he, G', h1, h2, h3, h4, h5⟩ => ⟨he, G', h.m h1 h2 (h5 h.fm) h4 (Nat.le_succ _), .m h3 h4⟩
theorem PB.get (h : PB W B cap p d M G R G2 k a) (hcap : cap ≤ 1099511627776) (r j : Int) (hr : I64 r) : Calls Try.prog 24 #[.pointer (some ⟨p, 0, none⟩), .int .i64 r, .int .i64 j] W fun e w' => e = .returned (.tuple #[vvV (getM M r j).1, .int .i64 (getM M r j).2]) ∧ PB w' B cap p d M G R G2 k a ∧ Below W.heap.size W w' := by
  have hc := get_any h.mem hcap r j hr
  rw [h.p] at hc
  exact hc.mono fun e w' ⟨he, hb⟩ => ⟨he, h.since hb, hb⟩
theorem PB.size (h : PB W B cap p d M G R G2 k a) (hcap : cap ≤ 1099511627776) (r : Int) (hr : I64 r) : Calls Try.prog 23 #[.pointer (some ⟨p, 0, none⟩), .int .i64 r] W fun e w' => e = .returned (.tuple #[.int .i64 (sizeM M r).1, .int .i64 (sizeM M r).2]) ∧ PB w' B cap p d M G R G2 k a ∧ Below W.heap.size W w' := by
  have hc := size_any h.mem hcap r hr
  rw [h.p] at hc
  exact hc.mono fun e w' ⟨he, hb⟩ => ⟨he, h.since hb, hb⟩
theorem PB.look (h : PB W B cap p d M G R G2 k a) (hcap : cap ≤ 1099511627776) (r j : Int) (hr : I64 r) (hj : I64 j) : Calls Try.prog 26 #[.pointer (some ⟨p, 0, none⟩), .int .i64 r, .int .i64 j] W fun e w' => e = .returned (.tuple #[.int .i64 (lookM M r j).1, .int .i64 (lookM M r j).2]) ∧ PB w' B cap p d M G R G2 k a ∧ Below W.heap.size W w' := by
  have hc := look_any h.mem hcap r j hr hj
  rw [h.p] at hc
  exact hc.mono fun e w' ⟨he, hb⟩ => ⟨he, h.since hb, hb⟩
theorem PB.key (h : PB W B cap p d M G R G2 k a) (hcap : cap ≤ 1099511627776) (r j : Int) (hr : I64 r) (hj : I64 j) : Calls Try.prog 25 #[.pointer (some ⟨p, 0, none⟩), .int .i64 r, .int .i64 j] W fun e w' => e = .returned (.tuple #[.int .i64 (keyM M r j).1, .int .i64 (keyM M r j).2]) ∧ PB w' B cap p d M G R G2 k a ∧ Below W.heap.size W w' := by
  have hc := key_any h.mem hcap r j hr hj
  rw [h.p] at hc
  exact hc.mono fun e w' ⟨he, hb⟩ => ⟨he, h.since hb, hb⟩
theorem PB.renter (h : PB W B cap p d M G R G2 k a) (hcap : cap ≤ 1099511627776) : Calls Try.prog 13 #[.pointer (some ⟨d, 0, none⟩)] W fun e w' => e = .returned (.int .i64 (enterR R).2) ∧ ∃ G2', PB w' B (cap + 1) p d M G (enterR R).1 G2' k a ∧ Stp W w' B (dm G G2) (dm G G2') := by
  have hc := refenter_any h.ref hcap
  rw [h.d] at hc
  exact hc.mono fun e w' ⟨he, G', h1, h2, h3, h4⟩ => ⟨he, G', h.r h1 (h2.trans h.d.symm) h4 (Nat.le_succ _), .r h3 h4⟩
theorem PB.rleave (h : PB W B cap p d M G R G2 k a) (hcap : cap ≤ 1099511627776) : Calls Try.prog 15 #[.pointer (some ⟨d, 0, none⟩)] W fun e w' => e = .returned (.bool (leaveR R).2) ∧ ∃ G2', PB w' B (cap + 1) p d M G (leaveR R).1 G2' k a ∧ Stp W w' B (dm G G2) (dm G G2') := by
  have hc := refleave_any h.ref hcap
  rw [h.d] at hc
  exact hc.mono fun e w' ⟨he, h1, h3, h4⟩ => ⟨he, G2, h.r (h1.mono (Nat.le_succ _)) rfl h4 (Nat.le_succ _), .r h3 h4⟩
theorem PB.robject (h : PB W B cap p d M G R G2 k a) (hcap : cap ≤ 1099511627776) {g n c : Nat} {l : List VV} (hv : ValsAt W g l) (hn : l.length = n) (hl : l.length ≤ 1048576) (st : Bool) : Calls Try.prog 17 #[.pointer (some ⟨d, 0, none⟩), .slice (some ⟨g, 0, none⟩) n c, .bool st] W fun e w' => e = .returned (.tuple #[.int .i64 (makeR R (rowT l) st).2.1, .int .i64 (makeR R (rowT l) st).2.2]) ∧ ∃ G2', PB w' B (cap + 1) p d M G (makeR R (rowT l) st).1 G2' k a ∧ Stp W w' B (dm G G2) (dm G G2') := by
  have hc := refobject_any (c := c) h.ref hcap st hv hn hl
  rw [h.d] at hc
  exact hc.mono fun e w' ⟨he, G', h1, h2, h3, h4⟩ => ⟨he, G', h.r h1 h2 h4 (Nat.le_succ _), .r h3 h4⟩
theorem PB.rslice (h : PB W B cap p d M G R G2 k a) (hcap : cap ≤ 1099511627776) (n : Int) (st : Bool) : Calls Try.prog 19 #[.pointer (some ⟨d, 0, none⟩), .int .i64 n, .bool st] W fun e w' => e = .returned (.tuple #[.int .i64 (sliceR R n st).2.1, .int .i64 (sliceR R n st).2.2]) ∧ ∃ G2', PB w' B (cap + 1) p d M G (sliceR R n st).1 G2' k a ∧ Stp W w' B (dm G G2) (dm G G2') := by
  have hc := refslice_any h.ref hcap st n
  rw [h.d] at hc
  exact hc.mono fun e w' ⟨he, G', h1, h2, h3, h4⟩ => ⟨he, G', h.r h1 h2 h4 (Nat.le_succ _), .r h3 h4⟩
theorem PB.rtable (h : PB W B cap p d M G R G2 k a) (hcap : cap ≤ 1099511627776) (st : Bool) : Calls Try.prog 21 #[.pointer (some ⟨d, 0, none⟩), .bool st] W fun e w' => e = .returned (.tuple #[.int .i64 (makeR R tabT st).2.1, .int .i64 (makeR R tabT st).2.2]) ∧ ∃ G2', PB w' B (cap + 1) p d M G (makeR R tabT st).1 G2' k a ∧ Stp W w' B (dm G G2) (dm G G2') := by
  have hc := reftable_any h.ref hcap st
  rw [h.d] at hc
  exact hc.mono fun e w' ⟨he, G', h1, h2, h3, h4⟩ => ⟨he, G', h.r h1 h2 h4 (Nat.le_succ _), .r h3 h4⟩
theorem PB.rset (h : PB W B cap p d M G R G2 k a) (hcap : cap ≤ 1099511627776) (r j : Int) (v : VV) (hr : I64 r) : Calls Try.prog 35 #[.pointer (some ⟨d, 0, none⟩), .int .i64 r, .int .i64 j, .agg #[.int .i64 v.1, .string v.2.1, .int .i64 v.2.2]] W fun e w' => e = .returned (.int .i64 (setR R r j v).2) ∧ ∃ G2', PB w' B (cap + 1) p d M G (setR R r j v).1 G2' k a ∧ Stp W w' B (dm G G2) (dm G G2') := by
  have hc := refset_any h.ref hcap r j v hr
  rw [h.d] at hc
  exact hc.mono fun e w' ⟨he, G', h1, h2, h3, h4⟩ => ⟨he, G', h.r h1 h2 h4 (Nat.le_succ _), .r h3 h4⟩
theorem PB.rput (h : PB W B cap p d M G R G2 k a) (hcap : cap ≤ 1099511627776) (r x n : Int) (hr : I64 r) : Calls Try.prog 37 #[.pointer (some ⟨d, 0, none⟩), .int .i64 r, .int .i64 x, .int .i64 n] W fun e w' => e = .returned (.int .i64 (putR R r x n).2) ∧ ∃ G2', PB w' B (cap + 1) p d M G (putR R r x n).1 G2' k a ∧ Stp W w' B (dm G G2) (dm G G2') := by
  have hc := refput_any h.ref hcap r x n hr
  rw [h.d] at hc
  exact hc.mono fun e w' ⟨he, G', h1, h2, h3, h4⟩ => ⟨he, G', h.r h1 h2 h4 (Nat.le_succ _), .r h3 h4⟩
theorem PB.rget (h : PB W B cap p d M G R G2 k a) (hcap : cap ≤ 1099511627776) (r j : Int) (hr : I64 r) : Calls Try.prog 33 #[.pointer (some ⟨d, 0, none⟩), .int .i64 r, .int .i64 j] W fun e w' => e = .returned (.tuple #[vvV (getR R r j).1, .int .i64 (getR R r j).2]) ∧ PB w' B cap p d M G R G2 k a ∧ Below W.heap.size W w' := by
  have hc := refget_any h.ref hcap r j hr
  rw [h.d] at hc
  exact hc.mono fun e w' ⟨he, hb⟩ => ⟨he, h.since hb, hb⟩
theorem PB.rsize (h : PB W B cap p d M G R G2 k a) (hcap : cap ≤ 1099511627776) (r : Int) (hr : I64 r) : Calls Try.prog 36 #[.pointer (some ⟨d, 0, none⟩), .int .i64 r] W fun e w' => e = .returned (.tuple #[.int .i64 (sizeR R r).1, .int .i64 (sizeR R r).2]) ∧ PB w' B cap p d M G R G2 k a ∧ Below W.heap.size W w' := by
  have hc := refsize_any h.ref hcap r hr
  rw [h.d] at hc
  exact hc.mono fun e w' ⟨he, hb⟩ => ⟨he, h.since hb, hb⟩
theorem PB.rlook (h : PB W B cap p d M G R G2 k a) (hcap : cap ≤ 1099511627776) (r j : Int) (hr : I64 r) : Calls Try.prog 38 #[.pointer (some ⟨d, 0, none⟩), .int .i64 r, .int .i64 j] W fun e w' => e = .returned (.tuple #[.int .i64 (lookR R r j).1, .int .i64 (lookR R r j).2]) ∧ PB w' B cap p d M G R G2 k a ∧ Below W.heap.size W w' := by
  have hc := reflook_any h.ref hcap r j hr
  rw [h.d] at hc
  exact hc.mono fun e w' ⟨he, hb⟩ => ⟨he, h.since hb, hb⟩
theorem PB.rkey (h : PB W B cap p d M G R G2 k a) (hcap : cap ≤ 1099511627776) (r j : Int) (hr : I64 r) : Calls Try.prog 39 #[.pointer (some ⟨d, 0, none⟩), .int .i64 r, .int .i64 j] W fun e w' => e = .returned (.tuple #[.int .i64 (keyR R r j).1, .int .i64 (keyR R r j).2]) ∧ PB w' B cap p d M G R G2 k a ∧ Below W.heap.size W w' := by
  have hc := refkey_any h.ref hcap r j hr
  rw [h.d] at hc
  exact hc.mono fun e w' ⟨he, hb⟩ => ⟨he, h.since hb, hb⟩
end
end Go.Proofs.Ytgnfinojnmkkkaa
