/- Layer 5: the document's reader (D): an end (mk_dc.py). -/
import Derived.Test.YtdmlogpaenbblaaDoorQCodeDb
import Derived.Test.YtdmlogpaenbblaaDoorQCodeQe

namespace Go.Proofs.YtdmlogpaenbblaaDoor
open Go.RowKit (wrap64 intOf Below)
set_option linter.unusedVariables false
set_option linter.unusedSimpArgs false
attribute [local go_sem ↓] Go.wp_at_zero Go.wp_at_succ

/-- A reader at work on a struct in block E that comes back by block R. -/
structure ES (w : World) (d : Nat) (a : Option Addr) (n c : Nat) (L : List UInt8) (T R E : Nat) (CR CE : Array Value) (u : World) (p : Nat) (y : Int) : Prop where
  ds : DSt d a n c L u p y
  off : Off (fun k => k = d) w u
  r : u.heap[R]? = some (.cells CR T (0, 0))
  e : u.heap[E]? = some (.cells CE T (0, 0))
  hd : d < w.heap.size
  hR : w.heap.size ≤ R
  hE : w.heap.size ≤ E
  ne : R ≠ E
section
variable {w : World} {d : Nat} {a : Option Addr} {n c : Nat} {L : List UInt8} {T R E : Nat} {CR CE : Array Value} {u u' : World} {p p' : Nat} {y y' : Int}
theorem ES.read (h : ES w d a n c L T R E CR CE u p y) (hd : DSt d a n c L u' p' y') (ho : Off (fun k => k = d) u u') : ES w d a n c L T R E CR CE u' p' y' :=
  ⟨hd, h.off.trans ho, (ho.block R (Array.getElem?_eq_some_iff.1 h.r).1 (fun he => by have := h.hd; have := h.hR; omega)).trans h.r, (ho.block E (Array.getElem?_eq_some_iff.1 h.e).1 (fun he => by have := h.hd; have := h.hE; omega)).trans h.e, h.hd, h.hR, h.hE, h.ne⟩
theorem ES.set (h : ES w d a n c L T R E CR CE u p y) (j : Nat) (v : Value) : ES w d a n c L T R E CR (CE.setIfInBounds j v) (u.setCell ⟨E, j, none⟩ v) p y :=
  ⟨h.ds.stays (X := fun k => k = E) (Off.setCell (p := ⟨E, j, none⟩) (Off.refl (fun k => k = E) u) (.inl rfl) v) (fun k hk => by have := h.hd; have := h.hE; omega), h.off.trans_new (Y := fun k => k = E) (Off.setCell (p := ⟨E, j, none⟩) (Off.refl (fun k => k = E) u) (.inl rfl) v) (fun k hk => .inr (by have := h.hE; omega)), (Below.heap_setCell _ _ _ _ h.ne).trans h.r, heap_setCell_same u E j _ _ v h.e, h.hd, h.hR, h.hE, h.ne⟩
theorem ES.ec (h : ES w d a n c L T R E CR CE u p y) (j : Nat) : u.cell? ⟨E, j, none⟩ = CE[j]? := by simp [World.cell?, h.e]
theorem ES.ef (h : ES w d a n c L T R E CR CE u p y) (j : Nat) : u.frozen? ⟨E, j, none⟩ = false := by simp [World.frozen?, h.e]
theorem ES.rc (h : ES w d a n c L T R E CR CE u p y) (j : Nat) : u.cell? ⟨R, j, none⟩ = CR[j]? := by simp [World.cell?, h.r]
theorem ES.rf (h : ES w d a n c L T R E CR CE u p y) (j : Nat) : u.frozen? ⟨R, j, none⟩ = false := by simp [World.frozen?, h.r]
theorem ES.rlt (h : ES w d a n c L T R E CR CE u p y) : R < u.heap.size := (Array.getElem?_eq_some_iff.1 h.r).1
theorem ES.elt (h : ES w d a n c L T R E CR CE u p y) : E < u.heap.size := (Array.getElem?_eq_some_iff.1 h.e).1
/-- It comes back. -/
theorem ES.back {X : Nat → Prop} (h : ES w d a n c L T R E CR CE u p y) (ho : Off X u u') (hX : ∀ k, X k → k = R) : DSt d a n c L u' p y ∧ Off (fun k => k = d) w u' :=
  ⟨h.ds.stays ho (fun k hk => by have := hX k hk; have := h.hd; have := h.hR; omega), h.off.trans_new ho (fun k hk => .inr (by have := hX k hk; have := h.hR; omega))⟩
/-- Numbers that a reader's call made, behind what turns other blocks. -/
theorem NumsO.across {X : Nat → Prop} {u u' : World} {B B' : Nat} {v : Value} {Z : List Int} (h : NumsO u (From B') v Z) (ho : Off X u u') (hB : B ≤ B') (hX : ∀ k, X k → k < B') : NumsO u' (From B) v Z :=
  h.holds (fun b hlt hs => ⟨ho.block b hlt (fun hk => by have := hX b hk; have : B' ≤ b := hs; omega), Nat.le_trans hB hs⟩)
end
theorem InR.one : InR 1 := ⟨by decide, by decide⟩
def EndOV (w : World) (S : Nat → Prop) (v : Value) (x : EndD) : Prop := ∃ k t A l va vn vc ma mn mc, v = .agg #[.int .i64 k, .int .i64 A, .int .i64 t, .int .i64 l, .slice va vn vc, .slice ma mn mc] ∧ EndO w S [.int .i64 k, .int .i64 A, .int .i64 t, .int .i64 l, .slice va vn vc, .slice ma mn mc] x
def kEnd (k : Int) (r : List UInt8) : PR EndD :=
  if k = 0 then (rdTarget r).bind fun p r' => .ok ⟨k, 0, p.1, 0, p.2, []⟩ r'
  else if k = 1 then (rdNum r).bind fun a r1 => (rdTarget r1).bind fun p r2 => (rdTarget r2).bind fun q r3 => .ok ⟨k, a, p.1, q.1, p.2, q.2⟩ r3
  else (rdNum r).bind fun a r1 => .ok ⟨k, a, 0, 0, [], []⟩ r1
theorem Ran.target {L : List UInt8} {p p1 p2 : Nat} {y y1 y2 : Int} {t : Int} {Z : List Int} (h1 : Ran rdNum L p y p1 y1 t) (h2 : Ran (rdNums 8) L p1 y1 p2 y2 Z) : Ran rdTarget L p y p2 y2 (t, Z) :=
  Ran.bind (f := rdNum) (g := fun t r => (rdNums 8 r).bind fun Z r' => .ok (t, Z) r') h1 (Ran.bind (f := rdNums 8) (g := fun Z r' => .ok (t, Z) r') h2 (Ran.pure _))
theorem Ran.end_ {L : List UInt8} {p p1 p2 : Nat} {y y1 y2 : Int} {k : Int} {x : EndD} (h1 : Ran (rdBelow 4) L p y p1 y1 k) (h2 : Ran (kEnd k) L p1 y1 p2 y2 x) : Ran rdEnd L p y p2 y2 x := Ran.bind (f := rdBelow 4) (g := kEnd) h1 h2
theorem Ran.end0 {L : List UInt8} {p p1 : Nat} {y y1 : Int} {t : Int} {Z : List Int} (h : Ran rdTarget L p y p1 y1 (t, Z)) : Ran (kEnd 0) L p y p1 y1 ⟨0, 0, t, 0, Z, []⟩ :=
  (Ran.bind (f := rdTarget) (g := fun p r' => PR.ok (EndD.mk 0 0 p.1 0 p.2 []) r') h (Ran.pure _)).of (fun l => by unfold kEnd; rw [if_pos rfl])
theorem Ran.end1 {L : List UInt8} {p p1 p2 p3 : Nat} {y y1 y2 y3 : Int} {A t l : Int} {Z Y : List Int} (h : Ran rdNum L p y p1 y1 A) (h1 : Ran rdTarget L p1 y1 p2 y2 (t, Z)) (h2 : Ran rdTarget L p2 y2 p3 y3 (l, Y)) : Ran (kEnd 1) L p y p3 y3 ⟨1, A, t, l, Z, Y⟩ :=
  (Ran.bind (f := rdNum) (g := fun a r1 => (rdTarget r1).bind fun p r2 => (rdTarget r2).bind fun q r3 => PR.ok (EndD.mk 1 a p.1 q.1 p.2 q.2) r3) h (Ran.bind (f := rdTarget) (g := fun p r2 => (rdTarget r2).bind fun q r3 => PR.ok (EndD.mk 1 A p.1 q.1 p.2 q.2) r3) h1 (Ran.bind (f := rdTarget) (g := fun q r3 => PR.ok (EndD.mk 1 A t q.1 Z q.2) r3) h2 (Ran.pure _)))).of (fun l => by unfold kEnd; rw [if_neg (by decide), if_pos rfl])
theorem Ran.end2 {L : List UInt8} {p p1 : Nat} {y y1 : Int} {k A : Int} (hk : k = 2 ∨ k = 3) (h : Ran rdNum L p y p1 y1 A) : Ran (kEnd k) L p y p1 y1 ⟨k, A, 0, 0, [], []⟩ :=
  (Ran.bind (f := rdNum) (g := fun a r1 => PR.ok (EndD.mk k a 0 0 [] []) r1) h (Ran.pure _)).of (fun l => by unfold kEnd; rw [if_neg (by omega), if_neg (by omega)])
set_option maxRecDepth 100000 in
set_option maxHeartbeats 8000000 in
theorem d_end (d : Nat) (a : Option Addr) (n c : Nat) (L : List UInt8) (p : Nat) (y : Int) (w : World) (h : DSt d a n c L w p y) :
    Calls Tryd.prog 86 #[.pointer (some ⟨d, 0, none⟩)] w (DPost d a n c L p y rdEnd EndOV w) := by
  have hba : Below w.heap.size w (w.alloc (.cells #[.int .i64 0, .int .i64 0, .int .i64 0, .int .i64 0, .slice none 0 0, .slice none 0 0] 47)) := (Below.refl _ _).alloc (Nat.le_refl _) _
  have CN := Lib.hid (d_form d a n c L p y 4 _ rfl (by decide) (by decide) _ (h.since hba))
  have HD0 : RowKit.Hid (d < w.heap.size) := Lib.hid h.lt
  have HRB : RowKit.Hid ((w.alloc (.cells #[.int .i64 0, .int .i64 0, .int .i64 0, .int .i64 0, .slice none 0 0, .slice none 0 0] 47)).heap[w.heap.size]? = some (.cells #[.int .i64 0, .int .i64 0, .int .i64 0, .int .i64 0, .slice none 0 0, .slice none 0 0] 47 (0, 0))) := Lib.hid (heap_alloc_new w _)
  have HBA := Lib.hid hba
  clear h hba
  go_enter Tryd.func86, Tryd.ntmps86
  go_wp2_with fail
  refine CN.out.mono ?_
  rintro e w1 ⟨_, k, p1, y1, rfl, ⟨rfl, hk0, hk4⟩, hd, ho, hr⟩
  have HR := Lib.hid hr
  have HZ0 : RowKit.Hid (w.heap.size < w1.heap.size) := Lib.hid (by have := ho.size; simp at this; omega)
  have HE0 : RowKit.Hid (∀ C, ES w d a n c L 47 w.heap.size w1.heap.size #[.int .i64 0, .int .i64 0, .int .i64 0, .int .i64 0, .slice none 0 0, .slice none 0 0] C (w1.alloc (.cells C 47)) p1 y1) := Lib.hid fun C =>
    ⟨hd.since ((Below.refl _ _).alloc (Nat.le_refl _) _), ((Off.since HBA.out).trans ho).trans (Off.since ((Below.refl _ _).alloc (Nat.le_refl _) _)), (heap_alloc_old _ _ HZ0.out).trans ((ho.block w.heap.size (by simp) (fun he => by have := HD0.out; omega)).trans HRB.out), heap_alloc_new w1 _, HD0.out, Nat.le_refl _, Nat.le_of_lt HZ0.out, by have := HZ0.out; omega⟩
  clear hd ho hr CN HRB HBA
  by_cases h0 : k = 0
  · subst h0
    have HE := HE0.out #[.int .i64 0, .int .i64 0, .int .i64 0, .int .i64 0, .slice none 0 0, .slice none 0 0]
    have HH0 := Lib.hid HE
    clear HE HE0
    go_upto_region 2 with fail
    generalize hW0 : w1.alloc (.cells #[.int .i64 0, .int .i64 0, .int .i64 0, .int .i64 0, .slice none 0 0, .slice none 0 0] 47) = W0 at HH0 ⊢
    clear hW0
    have g0 := HH0.out.ec 0
    go_wp2_with fail
    refine (d_num d a n c L p1 y1 _ HH0.out.ds).mono ?_
    rintro e w2 ⟨_, m1, q1, z1, rfl, ⟨rfl, hm1⟩, hd1, ho1, hr1⟩
    have HM1 := Lib.hid hm1
    have HI1 := Lib.hid (HH0.out.read hd1 ho1)
    have HR1 := Lib.hid hr1
    have HO1 := Lib.hid ho1
    have f1 := HI1.out.ef 2
    have x1 := HI1.out.ec 2
    have x10 := HI1.out.ec 0
    have HH : ES w d a n c L 47 w.heap.size w1.heap.size #[.int .i64 0, .int .i64 0, .int .i64 0, .int .i64 0, .slice none 0 0, .slice none 0 0] #[.int .i64 0, .int .i64 0, .int .i64 m1, .int .i64 0, .slice none 0 0, .slice none 0 0] (w2.setCell ⟨w1.heap.size, 2, none⟩ (.int .i64 m1)) q1 z1 := HI1.out.set 2 (.int .i64 m1)
    have HH1 := Lib.hid HH
    clear HH hm1 hd1 ho1 hr1 g0
    go_upto_region 6 with fail
    have HQ : Off (fun k => k = w1.heap.size) w2 (w2.setCell ⟨w1.heap.size, 2, none⟩ (.int .i64 m1)) := Off.setCell (p := ⟨w1.heap.size, 2, none⟩) (Off.refl (fun k => k = w1.heap.size) w2) (.inl rfl) (.int .i64 m1)
    have HQ1 := Lib.hid HQ
    clear HQ
    generalize hW1 : w2.setCell ⟨w1.heap.size, 2, none⟩ (.int .i64 m1) = W1 at HH1 HQ1 ⊢
    clear hW1 f1 x1 x10
    have g0 := HH1.out.ec 0
    go_wp2_with fail
    refine (d_list d a n c L q1 z1 8 _ rfl (by decide) _ HH1.out.ds).mono ?_
    rintro e w3 ⟨_, m2, q2, z2, rfl, ⟨⟨va2, vn2, vc2, rfl⟩, hm2⟩, hd2, ho2, hr2⟩
    have HM2 := Lib.hid hm2
    have HB2 : RowKit.Hid (w1.heap.size < W1.heap.size) := Lib.hid (HH1.out.elt)
    have HI2 := Lib.hid (HH1.out.read hd2 ho2)
    have HR2 := Lib.hid hr2
    have HO2 := Lib.hid ho2
    have f2 := HI2.out.ef 4
    have x2 := HI2.out.ec 4
    have x20 := HI2.out.ec 0
    have HH : ES w d a n c L 47 w.heap.size w1.heap.size #[.int .i64 0, .int .i64 0, .int .i64 0, .int .i64 0, .slice none 0 0, .slice none 0 0] #[.int .i64 0, .int .i64 0, .int .i64 m1, .int .i64 0, .slice va2 vn2 vc2, .slice none 0 0] (w3.setCell ⟨w1.heap.size, 4, none⟩ (.slice va2 vn2 vc2)) q2 z2 := HI2.out.set 4 (.slice va2 vn2 vc2)
    have HH2 := Lib.hid HH
    clear HH hm2 hd2 ho2 hr2 g0
    go_upto_region 7 with fail
    have HQ : Off (fun k => k = w1.heap.size) w3 (w3.setCell ⟨w1.heap.size, 4, none⟩ (.slice va2 vn2 vc2)) := Off.setCell (p := ⟨w1.heap.size, 4, none⟩) (Off.refl (fun k => k = w1.heap.size) w3) (.inl rfl) (.slice va2 vn2 vc2)
    have HQ2 := Lib.hid HQ
    clear HQ
    generalize hW2 : w3.setCell ⟨w1.heap.size, 4, none⟩ (.slice va2 vn2 vc2) = W2 at HH2 HQ2 ⊢
    clear hW2 f2 x2 x20
    have g0 := HH2.out.ec 0
    have hr := HH2.out.rc
    have hs := HH2.out.ec
    have hfr := HH2.out.rf
    clear g0
    go_wp2_with fail
    have HST := ((((((Off.refl (fun k => k = d ∨ k = w1.heap.size ∨ k = w.heap.size) W2).setCell (p := ⟨w.heap.size, 0, none⟩) (.inl (.inr (.inr rfl))) (.int .i64 0)).setCell (p := ⟨w.heap.size, 1, none⟩) (.inl (.inr (.inr rfl))) (.int .i64 0)).setCell (p := ⟨w.heap.size, 2, none⟩) (.inl (.inr (.inr rfl))) (.int .i64 m1)).setCell (p := ⟨w.heap.size, 3, none⟩) (.inl (.inr (.inr rfl))) (.int .i64 0)).setCell (p := ⟨w.heap.size, 4, none⟩) (.inl (.inr (.inr rfl))) (.slice va2 vn2 vc2)).setCell (p := ⟨w.heap.size, 5, none⟩) (.inl (.inr (.inr rfl))) (.slice none 0 0)
    have hbk := HH2.out.back (X := fun k => k = w.heap.size) (((((((Off.refl (fun k => k = w.heap.size) W2).setCell (p := ⟨w.heap.size, 0, none⟩) (.inl rfl) (.int .i64 0)).setCell (p := ⟨w.heap.size, 1, none⟩) (.inl rfl) (.int .i64 0)).setCell (p := ⟨w.heap.size, 2, none⟩) (.inl rfl) (.int .i64 m1)).setCell (p := ⟨w.heap.size, 3, none⟩) (.inl rfl) (.int .i64 0)).setCell (p := ⟨w.heap.size, 4, none⟩) (.inl rfl) (.slice va2 vn2 vc2)).setCell (p := ⟨w.heap.size, 5, none⟩) (.inl rfl) (.slice none 0 0)) (fun k h => h)
    refine bodyPost_ret (v := .agg #[.int .i64 0, .int .i64 0, .int .i64 m1, .int .i64 0, .slice va2 vn2 vc2, .slice none 0 0]) (by simp [results, Tryd.results86, go_sem, hr, hs]) rfl ⟨_, _, _, _, rfl, ⟨_, _, _, _, _, _, _, _, _, _, rfl, ⟨_, _, rfl, InR.zero, InR.zero, HM1.out, InR.zero, (HM2.out.across ((Off.mono HQ2.out (Y := fun k => k = d ∨ k = w1.heap.size ∨ k = w.heap.size) (fun i _ h => .inr (.inl h))).trans HST) (Nat.le_of_lt (Nat.lt_trans HZ0.out HB2.out)) (fun i h => by have := HB2.out; have := HZ0.out; have := HD0.out; rcases h with h | h | h <;> omega)), NumsO.none _ _⟩⟩, hbk.1, hbk.2, Ran.end_ HR.out (Ran.end0 (HR1.out.target HR2.out))⟩
  by_cases h1 : k = 1
  · subst h1
    have HE := HE0.out #[.int .i64 1, .int .i64 0, .int .i64 0, .int .i64 0, .slice none 0 0, .slice none 0 0]
    have HH0 := Lib.hid HE
    clear HE HE0
    go_upto_region 2 with fail
    generalize hW0 : w1.alloc (.cells #[.int .i64 1, .int .i64 0, .int .i64 0, .int .i64 0, .slice none 0 0, .slice none 0 0] 47) = W0 at HH0 ⊢
    clear hW0
    have g0 := HH0.out.ec 0
    go_wp2_with fail
    refine (d_num d a n c L p1 y1 _ HH0.out.ds).mono ?_
    rintro e w2 ⟨_, m1, q1, z1, rfl, ⟨rfl, hm1⟩, hd1, ho1, hr1⟩
    have HM1 := Lib.hid hm1
    have HI1 := Lib.hid (HH0.out.read hd1 ho1)
    have HR1 := Lib.hid hr1
    have HO1 := Lib.hid ho1
    have f1 := HI1.out.ef 1
    have x1 := HI1.out.ec 1
    have x10 := HI1.out.ec 0
    have HH : ES w d a n c L 47 w.heap.size w1.heap.size #[.int .i64 0, .int .i64 0, .int .i64 0, .int .i64 0, .slice none 0 0, .slice none 0 0] #[.int .i64 1, .int .i64 m1, .int .i64 0, .int .i64 0, .slice none 0 0, .slice none 0 0] (w2.setCell ⟨w1.heap.size, 1, none⟩ (.int .i64 m1)) q1 z1 := HI1.out.set 1 (.int .i64 m1)
    have HH1 := Lib.hid HH
    clear HH hm1 hd1 ho1 hr1 g0
    go_upto_region 4 with fail
    have HQ : Off (fun k => k = w1.heap.size) w2 (w2.setCell ⟨w1.heap.size, 1, none⟩ (.int .i64 m1)) := Off.setCell (p := ⟨w1.heap.size, 1, none⟩) (Off.refl (fun k => k = w1.heap.size) w2) (.inl rfl) (.int .i64 m1)
    have HQ1 := Lib.hid HQ
    clear HQ
    generalize hW1 : w2.setCell ⟨w1.heap.size, 1, none⟩ (.int .i64 m1) = W1 at HH1 HQ1 ⊢
    clear hW1 f1 x1 x10
    have g0 := HH1.out.ec 0
    go_wp2_with fail
    refine (d_num d a n c L q1 z1 _ HH1.out.ds).mono ?_
    rintro e w3 ⟨_, m2, q2, z2, rfl, ⟨rfl, hm2⟩, hd2, ho2, hr2⟩
    have HM2 := Lib.hid hm2
    have HI2 := Lib.hid (HH1.out.read hd2 ho2)
    have HR2 := Lib.hid hr2
    have HO2 := Lib.hid ho2
    have f2 := HI2.out.ef 2
    have x2 := HI2.out.ec 2
    have x20 := HI2.out.ec 0
    have HH : ES w d a n c L 47 w.heap.size w1.heap.size #[.int .i64 0, .int .i64 0, .int .i64 0, .int .i64 0, .slice none 0 0, .slice none 0 0] #[.int .i64 1, .int .i64 m1, .int .i64 m2, .int .i64 0, .slice none 0 0, .slice none 0 0] (w3.setCell ⟨w1.heap.size, 2, none⟩ (.int .i64 m2)) q2 z2 := HI2.out.set 2 (.int .i64 m2)
    have HH2 := Lib.hid HH
    clear HH hm2 hd2 ho2 hr2 g0
    go_upto_region 6 with fail
    have HQ : Off (fun k => k = w1.heap.size) w3 (w3.setCell ⟨w1.heap.size, 2, none⟩ (.int .i64 m2)) := Off.setCell (p := ⟨w1.heap.size, 2, none⟩) (Off.refl (fun k => k = w1.heap.size) w3) (.inl rfl) (.int .i64 m2)
    have HQ2 := Lib.hid HQ
    clear HQ
    generalize hW2 : w3.setCell ⟨w1.heap.size, 2, none⟩ (.int .i64 m2) = W2 at HH2 HQ2 ⊢
    clear hW2 f2 x2 x20
    have g0 := HH2.out.ec 0
    go_wp2_with fail
    refine (d_list d a n c L q2 z2 8 _ rfl (by decide) _ HH2.out.ds).mono ?_
    rintro e w4 ⟨_, m3, q3, z3, rfl, ⟨⟨va3, vn3, vc3, rfl⟩, hm3⟩, hd3, ho3, hr3⟩
    have HM3 := Lib.hid hm3
    have HB3 : RowKit.Hid (w1.heap.size < W2.heap.size) := Lib.hid (HH2.out.elt)
    have HI3 := Lib.hid (HH2.out.read hd3 ho3)
    have HR3 := Lib.hid hr3
    have HO3 := Lib.hid ho3
    have f3 := HI3.out.ef 4
    have x3 := HI3.out.ec 4
    have x30 := HI3.out.ec 0
    have HH : ES w d a n c L 47 w.heap.size w1.heap.size #[.int .i64 0, .int .i64 0, .int .i64 0, .int .i64 0, .slice none 0 0, .slice none 0 0] #[.int .i64 1, .int .i64 m1, .int .i64 m2, .int .i64 0, .slice va3 vn3 vc3, .slice none 0 0] (w4.setCell ⟨w1.heap.size, 4, none⟩ (.slice va3 vn3 vc3)) q3 z3 := HI3.out.set 4 (.slice va3 vn3 vc3)
    have HH3 := Lib.hid HH
    clear HH hm3 hd3 ho3 hr3 g0
    go_upto_region 7 with fail
    have HQ : Off (fun k => k = w1.heap.size) w4 (w4.setCell ⟨w1.heap.size, 4, none⟩ (.slice va3 vn3 vc3)) := Off.setCell (p := ⟨w1.heap.size, 4, none⟩) (Off.refl (fun k => k = w1.heap.size) w4) (.inl rfl) (.slice va3 vn3 vc3)
    have HQ3 := Lib.hid HQ
    clear HQ
    generalize hW3 : w4.setCell ⟨w1.heap.size, 4, none⟩ (.slice va3 vn3 vc3) = W3 at HH3 HQ3 ⊢
    clear hW3 f3 x3 x30
    have g0 := HH3.out.ec 0
    go_wp2_with fail
    refine (d_num d a n c L q3 z3 _ HH3.out.ds).mono ?_
    rintro e w5 ⟨_, m4, q4, z4, rfl, ⟨rfl, hm4⟩, hd4, ho4, hr4⟩
    have HM4 := Lib.hid hm4
    have HI4 := Lib.hid (HH3.out.read hd4 ho4)
    have HR4 := Lib.hid hr4
    have HO4 := Lib.hid ho4
    have f4 := HI4.out.ef 3
    have x4 := HI4.out.ec 3
    have x40 := HI4.out.ec 0
    have HH : ES w d a n c L 47 w.heap.size w1.heap.size #[.int .i64 0, .int .i64 0, .int .i64 0, .int .i64 0, .slice none 0 0, .slice none 0 0] #[.int .i64 1, .int .i64 m1, .int .i64 m2, .int .i64 m4, .slice va3 vn3 vc3, .slice none 0 0] (w5.setCell ⟨w1.heap.size, 3, none⟩ (.int .i64 m4)) q4 z4 := HI4.out.set 3 (.int .i64 m4)
    have HH4 := Lib.hid HH
    clear HH hm4 hd4 ho4 hr4 g0
    go_upto_region 9 with fail
    have HQ : Off (fun k => k = w1.heap.size) w5 (w5.setCell ⟨w1.heap.size, 3, none⟩ (.int .i64 m4)) := Off.setCell (p := ⟨w1.heap.size, 3, none⟩) (Off.refl (fun k => k = w1.heap.size) w5) (.inl rfl) (.int .i64 m4)
    have HQ4 := Lib.hid HQ
    clear HQ
    generalize hW4 : w5.setCell ⟨w1.heap.size, 3, none⟩ (.int .i64 m4) = W4 at HH4 HQ4 ⊢
    clear hW4 f4 x4 x40
    have g0 := HH4.out.ec 0
    go_wp2_with fail
    refine (d_list d a n c L q4 z4 8 _ rfl (by decide) _ HH4.out.ds).mono ?_
    rintro e w6 ⟨_, m5, q5, z5, rfl, ⟨⟨va5, vn5, vc5, rfl⟩, hm5⟩, hd5, ho5, hr5⟩
    have HM5 := Lib.hid hm5
    have HB5 : RowKit.Hid (w1.heap.size < W4.heap.size) := Lib.hid (HH4.out.elt)
    have HI5 := Lib.hid (HH4.out.read hd5 ho5)
    have HR5 := Lib.hid hr5
    have HO5 := Lib.hid ho5
    have f5 := HI5.out.ef 5
    have x5 := HI5.out.ec 5
    have x50 := HI5.out.ec 0
    have HH : ES w d a n c L 47 w.heap.size w1.heap.size #[.int .i64 0, .int .i64 0, .int .i64 0, .int .i64 0, .slice none 0 0, .slice none 0 0] #[.int .i64 1, .int .i64 m1, .int .i64 m2, .int .i64 m4, .slice va3 vn3 vc3, .slice va5 vn5 vc5] (w6.setCell ⟨w1.heap.size, 5, none⟩ (.slice va5 vn5 vc5)) q5 z5 := HI5.out.set 5 (.slice va5 vn5 vc5)
    have HH5 := Lib.hid HH
    clear HH hm5 hd5 ho5 hr5 g0
    go_upto_region 10 with fail
    have HQ : Off (fun k => k = w1.heap.size) w6 (w6.setCell ⟨w1.heap.size, 5, none⟩ (.slice va5 vn5 vc5)) := Off.setCell (p := ⟨w1.heap.size, 5, none⟩) (Off.refl (fun k => k = w1.heap.size) w6) (.inl rfl) (.slice va5 vn5 vc5)
    have HQ5 := Lib.hid HQ
    clear HQ
    generalize hW5 : w6.setCell ⟨w1.heap.size, 5, none⟩ (.slice va5 vn5 vc5) = W5 at HH5 HQ5 ⊢
    clear hW5 f5 x5 x50
    have g0 := HH5.out.ec 0
    have hr := HH5.out.rc
    have hs := HH5.out.ec
    have hfr := HH5.out.rf
    clear g0
    go_wp2_with fail
    have HST := ((((((Off.refl (fun k => k = d ∨ k = w1.heap.size ∨ k = w.heap.size) W5).setCell (p := ⟨w.heap.size, 0, none⟩) (.inl (.inr (.inr rfl))) (.int .i64 1)).setCell (p := ⟨w.heap.size, 1, none⟩) (.inl (.inr (.inr rfl))) (.int .i64 m1)).setCell (p := ⟨w.heap.size, 2, none⟩) (.inl (.inr (.inr rfl))) (.int .i64 m2)).setCell (p := ⟨w.heap.size, 3, none⟩) (.inl (.inr (.inr rfl))) (.int .i64 m4)).setCell (p := ⟨w.heap.size, 4, none⟩) (.inl (.inr (.inr rfl))) (.slice va3 vn3 vc3)).setCell (p := ⟨w.heap.size, 5, none⟩) (.inl (.inr (.inr rfl))) (.slice va5 vn5 vc5)
    have hbk := HH5.out.back (X := fun k => k = w.heap.size) (((((((Off.refl (fun k => k = w.heap.size) W5).setCell (p := ⟨w.heap.size, 0, none⟩) (.inl rfl) (.int .i64 1)).setCell (p := ⟨w.heap.size, 1, none⟩) (.inl rfl) (.int .i64 m1)).setCell (p := ⟨w.heap.size, 2, none⟩) (.inl rfl) (.int .i64 m2)).setCell (p := ⟨w.heap.size, 3, none⟩) (.inl rfl) (.int .i64 m4)).setCell (p := ⟨w.heap.size, 4, none⟩) (.inl rfl) (.slice va3 vn3 vc3)).setCell (p := ⟨w.heap.size, 5, none⟩) (.inl rfl) (.slice va5 vn5 vc5)) (fun k h => h)
    refine bodyPost_ret (v := .agg #[.int .i64 1, .int .i64 m1, .int .i64 m2, .int .i64 m4, .slice va3 vn3 vc3, .slice va5 vn5 vc5]) (by simp [results, Tryd.results86, go_sem, hr, hs]) rfl ⟨_, _, _, _, rfl, ⟨_, _, _, _, _, _, _, _, _, _, rfl, ⟨_, _, rfl, InR.one, HM1.out, HM2.out, HM4.out, (HM3.out.across ((((((Off.mono HQ3.out (Y := fun k => k = d ∨ k = w1.heap.size ∨ k = w.heap.size) (fun i _ h => .inr (.inl h))).trans (Off.mono HO4.out (Y := fun k => k = d ∨ k = w1.heap.size ∨ k = w.heap.size) (fun i _ h => .inl h))).trans (Off.mono HQ4.out (Y := fun k => k = d ∨ k = w1.heap.size ∨ k = w.heap.size) (fun i _ h => .inr (.inl h)))).trans (Off.mono HO5.out (Y := fun k => k = d ∨ k = w1.heap.size ∨ k = w.heap.size) (fun i _ h => .inl h))).trans (Off.mono HQ5.out (Y := fun k => k = d ∨ k = w1.heap.size ∨ k = w.heap.size) (fun i _ h => .inr (.inl h)))).trans HST) (Nat.le_of_lt (Nat.lt_trans HZ0.out HB3.out)) (fun i h => by have := HB3.out; have := HZ0.out; have := HD0.out; rcases h with h | h | h <;> omega)), (HM5.out.across ((Off.mono HQ5.out (Y := fun k => k = d ∨ k = w1.heap.size ∨ k = w.heap.size) (fun i _ h => .inr (.inl h))).trans HST) (Nat.le_of_lt (Nat.lt_trans HZ0.out HB5.out)) (fun i h => by have := HB5.out; have := HZ0.out; have := HD0.out; rcases h with h | h | h <;> omega))⟩⟩, hbk.1, hbk.2, Ran.end_ HR.out (Ran.end1 HR1.out (HR2.out.target HR3.out) (HR4.out.target HR5.out))⟩
  have HK23 : RowKit.Hid (k = 2 ∨ k = 3) := Lib.hid (by omega)
  have HK : RowKit.Hid (InR k) := Lib.hid ⟨by omega, by omega⟩
  have HE := HE0.out #[.int .i64 k, .int .i64 0, .int .i64 0, .int .i64 0, .slice none 0 0, .slice none 0 0]
  have HH0 := Lib.hid HE
  clear HE HE0
  have hkn : (k != 0) = true := by rw [bne_iff_ne]; omega
  have hkl : ¬ k < 2 := by omega
  have hkd : decide (k < 2) = false := decide_eq_false hkl
  have hk1 : (k == 1) = false := by rw [beq_eq_false_iff_ne]; omega
  go_upto_region 2 with fail
  generalize hW0 : w1.alloc (.cells #[.int .i64 k, .int .i64 0, .int .i64 0, .int .i64 0, .slice none 0 0, .slice none 0 0] 47) = W0 at HH0 ⊢
  clear hW0
  have g0 := HH0.out.ec 0
  go_wp2_with fail
  refine (d_num d a n c L p1 y1 _ HH0.out.ds).mono ?_
  rintro e w2 ⟨_, m1, q1, z1, rfl, ⟨rfl, hm1⟩, hd1, ho1, hr1⟩
  have HM1 := Lib.hid hm1
  have HI1 := Lib.hid (HH0.out.read hd1 ho1)
  have HR1 := Lib.hid hr1
  have HO1 := Lib.hid ho1
  have f1 := HI1.out.ef 1
  have x1 := HI1.out.ec 1
  have x10 := HI1.out.ec 0
  have HH : ES w d a n c L 47 w.heap.size w1.heap.size #[.int .i64 0, .int .i64 0, .int .i64 0, .int .i64 0, .slice none 0 0, .slice none 0 0] #[.int .i64 k, .int .i64 m1, .int .i64 0, .int .i64 0, .slice none 0 0, .slice none 0 0] (w2.setCell ⟨w1.heap.size, 1, none⟩ (.int .i64 m1)) q1 z1 := HI1.out.set 1 (.int .i64 m1)
  have HH1 := Lib.hid HH
  clear HH hm1 hd1 ho1 hr1 g0
  go_upto_region 4 with fail
  have HQ : Off (fun k => k = w1.heap.size) w2 (w2.setCell ⟨w1.heap.size, 1, none⟩ (.int .i64 m1)) := Off.setCell (p := ⟨w1.heap.size, 1, none⟩) (Off.refl (fun k => k = w1.heap.size) w2) (.inl rfl) (.int .i64 m1)
  have HQ1 := Lib.hid HQ
  clear HQ
  generalize hW1 : w2.setCell ⟨w1.heap.size, 1, none⟩ (.int .i64 m1) = W1 at HH1 HQ1 ⊢
  clear hW1 f1 x1 x10
  have g0 := HH1.out.ec 0
  have hr := HH1.out.rc
  have hs := HH1.out.ec
  have hfr := HH1.out.rf
  clear g0
  go_wp2_with fail
  have HST := ((((((Off.refl (fun k => k = d ∨ k = w1.heap.size ∨ k = w.heap.size) W1).setCell (p := ⟨w.heap.size, 0, none⟩) (.inl (.inr (.inr rfl))) (.int .i64 k)).setCell (p := ⟨w.heap.size, 1, none⟩) (.inl (.inr (.inr rfl))) (.int .i64 m1)).setCell (p := ⟨w.heap.size, 2, none⟩) (.inl (.inr (.inr rfl))) (.int .i64 0)).setCell (p := ⟨w.heap.size, 3, none⟩) (.inl (.inr (.inr rfl))) (.int .i64 0)).setCell (p := ⟨w.heap.size, 4, none⟩) (.inl (.inr (.inr rfl))) (.slice none 0 0)).setCell (p := ⟨w.heap.size, 5, none⟩) (.inl (.inr (.inr rfl))) (.slice none 0 0)
  have hbk := HH1.out.back (X := fun k => k = w.heap.size) (((((((Off.refl (fun k => k = w.heap.size) W1).setCell (p := ⟨w.heap.size, 0, none⟩) (.inl rfl) (.int .i64 k)).setCell (p := ⟨w.heap.size, 1, none⟩) (.inl rfl) (.int .i64 m1)).setCell (p := ⟨w.heap.size, 2, none⟩) (.inl rfl) (.int .i64 0)).setCell (p := ⟨w.heap.size, 3, none⟩) (.inl rfl) (.int .i64 0)).setCell (p := ⟨w.heap.size, 4, none⟩) (.inl rfl) (.slice none 0 0)).setCell (p := ⟨w.heap.size, 5, none⟩) (.inl rfl) (.slice none 0 0)) (fun k h => h)
  refine bodyPost_ret (v := .agg #[.int .i64 k, .int .i64 m1, .int .i64 0, .int .i64 0, .slice none 0 0, .slice none 0 0]) (by simp [results, Tryd.results86, go_sem, hr, hs]) rfl ⟨_, _, _, _, rfl, ⟨_, _, _, _, _, _, _, _, _, _, rfl, ⟨_, _, rfl, HK.out, HM1.out, InR.zero, InR.zero, NumsO.none _ _, NumsO.none _ _⟩⟩, hbk.1, hbk.2, Ran.end_ HR.out (Ran.end2 HK23.out HR1.out)⟩
end Go.Proofs.YtdmlogpaenbblaaDoor
