/- Layer 5: the document's reader (D): a function (mk_dg.py). -/
import Derived.Test.YtdmlogpaenbblaaDoorQCodeCd
import Derived.Test.YtdmlogpaenbblaaDoorQCodeDd

namespace Go.Proofs.YtdmlogpaenbblaaDoor
open Go.RowKit (wrap64 intOf Below)
set_option linter.unusedVariables false
set_option linter.unusedSimpArgs false
attribute [local go_sem ↓] Go.wp_at_zero Go.wp_at_succ

/-- A reader at work on a struct in block X. -/
structure BS (w : World) (d : Nat) (a : Option Addr) (n c : Nat) (L : List UInt8) (T X : Nat) (C : Array Value) (u : World) (p : Nat) (y : Int) : Prop where
  ds : DSt d a n c L u p y
  off : Off (fun k => k = d) w u
  e : u.heap[X]? = some (.cells C T (0, 0))
  hd : d < w.heap.size
  hE : w.heap.size ≤ X
section
variable {w : World} {d : Nat} {a : Option Addr} {n c : Nat} {L : List UInt8} {T X : Nat} {C : Array Value} {u u' : World} {p p' : Nat} {y y' : Int}
theorem BS.read (h : BS w d a n c L T X C u p y) (hd : DSt d a n c L u' p' y') (ho : Off (fun k => k = d) u u') : BS w d a n c L T X C u' p' y' :=
  ⟨hd, h.off.trans ho, (ho.block X (Array.getElem?_eq_some_iff.1 h.e).1 (fun he => by have := h.hd; have := h.hE; omega)).trans h.e, h.hd, h.hE⟩
theorem BS.set (h : BS w d a n c L T X C u p y) (j : Nat) (v : Value) : BS w d a n c L T X (C.setIfInBounds j v) (u.setCell ⟨X, j, none⟩ v) p y :=
  ⟨h.ds.stays (X := fun k => k = X) (Off.setCell (p := ⟨X, j, none⟩) (Off.refl (fun k => k = X) u) (.inl rfl) v) (fun k hk => by have := h.hd; have := h.hE; omega), h.off.trans_new (Y := fun k => k = X) (Off.setCell (p := ⟨X, j, none⟩) (Off.refl (fun k => k = X) u) (.inl rfl) v) (fun k hk => .inr (by have := h.hE; omega)), heap_setCell_same u X j _ _ v h.e, h.hd, h.hE⟩
theorem BS.news {B : Nat} (h : BS w d a n c L T X C u p y) (hb : Below B u u') (hX : X < B) : BS w d a n c L T X C u' p y :=
  ⟨h.ds.news hb (by have := h.hd; have := h.hE; omega), h.off.trans_new (Y := fun k => B ≤ k) (Off.of_below hb (fun i hi _ => hi)) (fun i hi => .inr (by have := h.hE; omega)), (hb.block X hX).trans h.e, h.hd, h.hE⟩
theorem BS.ec (h : BS w d a n c L T X C u p y) (j : Nat) : u.cell? ⟨X, j, none⟩ = C[j]? := by simp [World.cell?, h.e]
theorem BS.ef (h : BS w d a n c L T X C u p y) (j : Nat) : u.frozen? ⟨X, j, none⟩ = false := by simp [World.frozen?, h.e]
theorem BS.elt (h : BS w d a n c L T X C u p y) : X < u.heap.size := (Array.getElem?_eq_some_iff.1 h.e).1
theorem ES.news {R E : Nat} {CR CE : Array Value} {B : Nat} (h : ES w d a n c L T R E CR CE u p y) (hb : Below B u u') (hR : R < B) (hE : E < B) : ES w d a n c L T R E CR CE u' p y :=
  ⟨h.ds.news hb (by have := h.hd; have := h.hR; omega), h.off.trans_new (Y := fun k => B ≤ k) (Off.of_below hb (fun i hi _ => hi)) (fun i hi => .inr (by have := h.hR; omega)), (hb.block R hR).trans h.r, (hb.block E hE).trans h.e, h.hd, h.hR, h.hE, h.ne⟩
/-- What was of the call's own, behind a reader's calls that leave all of it but d. -/
theorem RowO.kept {α : Type} {T k : Nat} {Q : World → (Nat → Prop) → List Value → α → Prop} (hQ : Holds Q) {B d : Nat} {v : Value} {xs : List α} (h : RowO T k Q u (From B) v xs) (ho : Off (fun k => k = d) u u') (hd : d < B) : RowO T k Q u' (From B) v xs :=
  h.holds hQ (fun b hlt hs => ⟨ho.block b hlt (fun he => by have : B ≤ b := hs; omega), hs⟩)
theorem RowO.stored {α : Type} {T k : Nat} {Q : World → (Nat → Prop) → List Value → α → Prop} (hQ : Holds Q) {B X : Nat} {v : Value} {xs : List α} (h : RowO T k Q u (From B) v xs) (j : Nat) (z : Value) (hX : X < B) : RowO T k Q (u.setCell ⟨X, j, Option.none⟩ z) (From B) v xs :=
  h.holds hQ (fun b hlt hs => ⟨Below.heap_setCell _ _ _ _ (fun he => by have : B ≤ b := hs; simp only at he; omega), hs⟩)
end
section
variable {L : List UInt8} {p p1 p2 p3 : Nat} {y y1 y2 y3 : Int}
theorem Ran.listOf {α : Type} {f : List UInt8 → PR α} {most k : Nat} {xs : List α} (h1 : Ran (rdCount most) L p y p1 y1 k) (h2 : Ran (rdTimes f k) L p1 y1 p2 y2 xs) : Ran (rdList most f) L p y p2 y2 xs :=
  Ran.bind (f := rdCount most) (g := fun n r => rdTimes f n r) h1 h2
theorem Ran.block {ps : List Int} {os : List OpD} {e : EndD} (h1 : Ran (rdNums 8) L p y p1 y1 ps) (h2 : Ran (rdList 700 rdOp) L p1 y1 p2 y2 os) (h3 : Ran rdEnd L p2 y2 p3 y3 e) : Ran rdBlock L p y p3 y3 ⟨ps, os, e⟩ :=
  Ran.bind (f := rdNums 8) (g := fun ps r => (rdList 700 rdOp r).bind fun os r' => (rdEnd r').bind fun e r2 => PR.ok (BlockD.mk ps os e) r2) h1 (Ran.bind (f := rdList 700 rdOp) (g := fun os r' => (rdEnd r').bind fun e r2 => PR.ok (BlockD.mk ps os e) r2) h2 (Ran.bind (f := rdEnd) (g := fun e r2 => PR.ok (BlockD.mk ps os e) r2) h3 (Ran.pure _)))
theorem Ran.func {t : Int} {bs : List BlockD} (h1 : Ran rdNum L p y p1 y1 t) (h2 : Ran (rdList 40 rdBlock) L p1 y1 p2 y2 bs) : Ran rdFunc L p y p2 y2 ⟨t, bs⟩ :=
  Ran.bind (f := rdNum) (g := fun t r => (rdList 40 rdBlock r).bind fun bs r' => PR.ok (FuncD.mk t bs) r') h1 (Ran.bind (f := rdList 40 rdBlock) (g := fun bs r' => PR.ok (FuncD.mk t bs) r') h2 (Ran.pure _))
end
def FuncOV (w : World) (S : Nat → Prop) (v : Value) (x : FuncD) : Prop := ∃ r ba bn bc, v = .agg #[.int .i64 r, .slice ba bn bc] ∧ FuncO w S [.int .i64 r, .slice ba bn bc] x

set_option maxRecDepth 100000 in
set_option maxHeartbeats 16000000 in
theorem d_fun (d : Nat) (a : Option Addr) (n c : Nat) (L : List UInt8) (p : Nat) (y : Int) (w : World) (h : DSt d a n c L w p y) :
    Calls Tryd.prog 47 #[.pointer (some ⟨d, 0, none⟩)] w (DPost d a n c L p y rdFunc FuncOV w) := by
  have hba : Below w.heap.size w (w.alloc (.cells #[.int .i64 0, .slice none 0 0] 44)) := (Below.refl _ _).alloc (Nat.le_refl _) _
  have CN := Lib.hid (d_num d a n c L p y _ (h.since hba))
  have HD0 : RowKit.Hid (d < w.heap.size) := Lib.hid h.lt
  have HRB : RowKit.Hid ((w.alloc (.cells #[.int .i64 0, .slice none 0 0] 44)).heap[w.heap.size]? = some (.cells #[.int .i64 0, .slice none 0 0] 44 (0, 0))) := Lib.hid (heap_alloc_new w _)
  have HBA := Lib.hid hba
  clear h hba
  go_enter Tryd.func47, Tryd.ntmps47
  go_wp2_with fail
  refine CN.out.mono ?_
  rintro e w1 ⟨_, ret, p0, y0, rfl, ⟨rfl, hret⟩, hd, ho, hr⟩
  have HR := Lib.hid hr
  have HRET := Lib.hid hret
  have HZ0 : RowKit.Hid (w.heap.size < w1.heap.size) := Lib.hid (by have := ho.size; simp at this; omega)
  obtain ⟨F, hF⟩ : ∃ F, F = w1.heap.size := ⟨_, rfl⟩
  have HES : RowKit.Hid (ES w d a n c L 44 w.heap.size F #[.int .i64 0, .slice none 0 0] #[.int .i64 ret, .slice none 0 0] (w1.alloc (.cells #[.int .i64 ret, .slice none 0 0] 44)) p0 y0) := Lib.hid
    ⟨hd.since ((Below.refl _ _).alloc (Nat.le_refl _) _), ((Off.since HBA.out).trans ho).trans (Off.since ((Below.refl _ _).alloc (Nat.le_refl _) _)), (heap_alloc_old _ _ HZ0.out).trans ((ho.block w.heap.size (by simp) (fun he => by have := HD0.out; omega)).trans HRB.out), hF ▸ heap_alloc_new w1 _, HD0.out, Nat.le_refl _, by rw [hF]; exact Nat.le_of_lt HZ0.out, by have := HZ0.out; omega⟩
  have HZF : RowKit.Hid (w.heap.size < F) := Lib.hid (by rw [hF]; exact HZ0.out)
  clear hd ho hr hret CN HRB HBA
  go_upto_region 2 with fail
  rw [← hF]
  generalize hW0 : w1.alloc (.cells #[.int .i64 ret, .slice none 0 0] 44) = W0 at HES ⊢
  clear hW0 hF HZ0
  go_wp2_with fail
  refine (d_count d a n c L p0 y0 40 _ rfl (by decide) W0 HES.out.ds).mono ?_
  rintro e w2 ⟨_, k, q0, z0, rfl, ⟨rfl, hk⟩, hd, ho, hr⟩
  have HRC := Lib.hid hr
  have HE2 := Lib.hid (HES.out.read hd ho)
  clear hd ho hr HES
  go_wp2_with fail
  go_loopw [5] (fun iv wr => ∃ (i : Nat) (ba : Option Addr) (bn bc : Nat) (bs : List BlockD) (p1 : Nat) (y1 : Int), i ≤ k ∧ iv = .int .i64 (i : Int) ∧ wr.cell? ⟨d, 2, none⟩ = some (.int .i64 y1) ∧ RowKit.Hid (ES w d a n c L 44 w.heap.size F #[.int .i64 0, .slice none 0 0] #[.int .i64 ret, .slice ba bn bc] wr p1 y1 ∧ RowO 50 8 BlockO wr (From (F + 1)) (.slice ba bn bc) bs ∧ bs.length = i ∧ Ran (rdTimes rdBlock i) L q0 z0 p1 y1 bs)) (fun iv _ => k - (intOf iv).toNat)
  case atStart => exact ⟨0, none, 0, 0, [], q0, z0, Nat.zero_le _, rfl, HE2.out.ds.c2, Lib.hid ⟨HE2.out, RowO.none _ _, rfl, Ran.times0⟩⟩
  case round =>
    obtain ⟨i, ba, bn, bc, bs, p1, y1, hi, rfl, hc2, HI⟩ := hrel
    by_cases hgo : i < k ∧ y1 = 0
    rotate_left
    · have HN : RowKit.Hid (i = k ∨ y1 ≠ 0) := Lib.hid (by by_cases h : y1 = 0; left; omega; exact .inr h)
      have HII := Lib.hid hi
      have hr := HI.out.1.rc
      have hs := HI.out.1.ec
      have hfr := HI.out.1.rf
      have HBK := Lib.hid (HI.out.1.back (X := fun k => k = w.heap.size) (((Off.refl (fun k => k = w.heap.size) wr).setCell (p := ⟨w.heap.size, 0, none⟩) (.inl rfl) (.int .i64 ret)).setCell (p := ⟨w.heap.size, 1, none⟩) (.inl rfl) (.slice ba bn bc)) (fun k h => h))
      have HNU : RowKit.Hid (RowO 50 8 BlockO ((wr.setCell ⟨w.heap.size, 0, none⟩ (.int .i64 ret)).setCell ⟨w.heap.size, 1, none⟩ (.slice ba bn bc)) (From w.heap.size) (.slice ba bn bc) bs) := Lib.hid (((HI.out.2.1.stored BlockO.holds 0 (.int .i64 ret) (X := w.heap.size) (by have := HZF.out; omega)).stored BlockO.holds 1 (.slice ba bn bc) (X := w.heap.size) (by have := HZF.out; omega)).wider BlockO.holds (fun b _ hb => Nat.le_trans (by have := HZF.out; omega) hb))
      by_cases hlt : i < k
      · have h1 : (y1 == 0) = false := by rw [beq_eq_false_iff_ne]; exact fun h => hgo ⟨hlt, h⟩
        clear hgo
        go_wp2_with fail
        exact bodyPost_ret (v := .agg #[.int .i64 ret, .slice ba bn bc]) (by simp [results, Tryd.results47, go_sem, hr, hs]) rfl ⟨_, ⟨ret, bs⟩, p1, y1, rfl, ⟨ret, ba, bn, bc, rfl, ⟨_, rfl, HRET.out, HNU.out⟩⟩, HBK.out.1, HBK.out.2, HR.out.func (HRC.out.listOf (HI.out.2.2.2.enough HII.out (by first | exact HN.out | exact HN.out.imp (fun _ => rfl) id)))⟩
      · have hlt' : decide ((i : Int) < (k : Int)) = false := decide_eq_false (by omega)
        obtain rfl : i = k := by omega
        clear hgo
        go_wp2_with fail
        exact bodyPost_ret (v := .agg #[.int .i64 ret, .slice ba bn bc]) (by simp [results, Tryd.results47, go_sem, hr, hs]) rfl ⟨_, ⟨ret, bs⟩, p1, y1, rfl, ⟨ret, ba, bn, bc, rfl, ⟨_, rfl, HRET.out, HNU.out⟩⟩, HBK.out.1, HBK.out.2, HR.out.func (HRC.out.listOf (HI.out.2.2.2.enough HII.out (by first | exact HN.out | exact HN.out.imp (fun _ => rfl) id)))⟩
    obtain ⟨hlt, rfl⟩ := hgo
    obtain ⟨wo, rfl⟩ : ∃ v, v = wr := ⟨_, rfl⟩
    have HLT := Lib.hid hlt
    have HKK := Lib.hid hk
    go_wp2_with fail
    refine (d_list d a n c L p1 0 8 _ rfl (by decide) wo HI.out.1.ds).mono ?_
    rintro e w3 ⟨_, ps, p2, y2, rfl, ⟨⟨pa, pn, pc, rfl⟩, hps⟩, hd3, ho3, hr3⟩
    have HPS := Lib.hid hps
    have HRP := Lib.hid hr3
    have HO3 := Lib.hid ho3
    obtain ⟨X, hX⟩ : ∃ X, X = w3.heap.size := ⟨_, rfl⟩
    have HBS : RowKit.Hid (BS w3 d a n c L 50 X #[.slice pa pn pc, .slice none 0 0, .int .i64 0, .int .i64 0, .int .i64 0, .int .i64 0, .slice none 0 0, .slice none 0 0] (w3.alloc (.cells #[.slice pa pn pc, .slice none 0 0, .int .i64 0, .int .i64 0, .int .i64 0, .int .i64 0, .slice none 0 0, .slice none 0 0] 50)) p2 y2) := Lib.hid
      ⟨hd3.since ((Below.refl _ _).alloc (Nat.le_refl _) _), Off.since ((Below.refl _ _).alloc (Nat.le_refl _) _), hX ▸ heap_alloc_new w3 _, hd3.lt, by rw [hX]; exact Nat.le_refl _⟩
    have HX : RowKit.Hid (X = w3.heap.size) := Lib.hid hX
    clear hps hd3 ho3 hr3
    go_upto_region 7 with fail
    rw [← hX]
    generalize hW3 : w3.alloc (.cells #[.slice pa pn pc, .slice none 0 0, .int .i64 0, .int .i64 0, .int .i64 0, .int .i64 0, .slice none 0 0, .slice none 0 0] 50) = W3 at HBS ⊢
    clear hW3 hX
    go_wp2_with fail
    refine (d_count d a n c L p2 y2 700 _ rfl (by decide) W3 HBS.out.ds).mono ?_
    rintro e w4 ⟨_, k2, q3, z3, rfl, ⟨rfl, hk2⟩, hd4, ho4, hr4⟩
    have HRQ := Lib.hid hr4
    have HB4 := Lib.hid (HBS.out.read hd4 ho4)
    have HK2 := Lib.hid hk2
    clear hd4 ho4 hr4 HBS hc2
    go_wp2_with fail
    go_loopw [8] (fun jv wk => ∃ (j : Nat) (oa : Option Addr) (on oc : Nat) (os : List OpD) (p4 : Nat) (y4 : Int), j ≤ k2 ∧ jv = .int .i64 (j : Int) ∧ wk.cell? ⟨d, 2, none⟩ = some (.int .i64 y4) ∧ RowKit.Hid (BS w3 d a n c L 50 X #[.slice pa pn pc, .slice oa on oc, .int .i64 0, .int .i64 0, .int .i64 0, .int .i64 0, .slice none 0 0, .slice none 0 0] wk p4 y4 ∧ RowO 56 8 OpO wk (From (X + 1)) (.slice oa on oc) os ∧ os.length = j ∧ Ran (rdTimes rdOp j) L q3 z3 p4 y4 os)) (fun jv _ => k2 - (intOf jv).toNat)
    case atStart => exact ⟨0, none, 0, 0, [], q3, z3, Nat.zero_le _, rfl, HB4.out.ds.c2, Lib.hid ⟨HB4.out, RowO.none _ _, rfl, Ran.times0⟩⟩
    case round =>
      obtain ⟨j, oa, on, oc, os, p4, y4, hj, rfl, hc4, HJ⟩ := hrel
      by_cases hgo : j < k2 ∧ y4 = 0
      · obtain ⟨hlj, rfl⟩ := hgo
        go_wp2_with fail
        refine (d_op d a n c L p4 0 wr HJ.out.1.ds).mono ?_
        rintro e w5 ⟨_, x, p5, y5, rfl, ⟨la, ln, lc, rfl, hx⟩, hd5, ho5, hr5⟩
        have HR5 := Lib.hid (HJ.out.2.2.2.snoc hr5)
        have HB5 := Lib.hid (HJ.out.1.read hd5 ho5)
        have HX5 := Lib.hid hx
        have HW5 : RowKit.Hid (RowO 56 8 OpO w5 (From (X + 1)) (.slice oa on oc) os) := Lib.hid (HJ.out.2.1.kept OpO.holds ho5 (by have := HJ.out.1.hd; have := HJ.out.1.hE; omega))
        have HZ5 : RowKit.Hid (wr.heap.size ≤ w5.heap.size) := Lib.hid ho5.size
        have hbl : Below w5.heap.size w5 (w5.alloc (.cells #[.int .i64 x.K, .int .i64 x.A, .int .i64 x.B, .int .i64 x.C, .int .i64 x.N, .string x.S, .slice la ln lc, .bool x.T] 56)) := (Below.refl _ _).alloc (Nat.le_refl _) _
        have HB6 := Lib.hid (HB5.out.news hbl HB5.out.elt)
        have HX6 := Lib.hid (OpO.holds _ _ _ (From wr.heap.size) _ _ (fun b hb hs => ⟨hbl.block b hb, hs⟩) hx)
        have HW6 := Lib.hid (HW5.out.holds OpO.holds (S' := From (X + 1)) (fun b hb hs => ⟨hbl.block b hb, hs⟩))
        have HBX : RowKit.Hid ((w5.alloc (.cells #[.int .i64 x.K, .int .i64 x.A, .int .i64 x.B, .int .i64 x.C, .int .i64 x.N, .string x.S, .slice la ln lc, .bool x.T] 56)).heap[w5.heap.size]? = some (.cells #[.int .i64 x.K, .int .i64 x.A, .int .i64 x.B, .int .i64 x.C, .int .i64 x.N, .string x.S, .slice la ln lc, .bool x.T] 56 (0, 0))) := Lib.hid (heap_alloc_new w5 _)
        have HFR : RowKit.Hid (∀ b, (Value.slice oa on oc).ownBlock = some b → b < wr.heap.size) := Lib.hid fun b hb => (HJ.out.2.1.own hb).2
        have HXW : RowKit.Hid (X + 1 ≤ wr.heap.size) := Lib.hid HJ.out.1.elt
        have HZ6 : RowKit.Hid (X + 1 ≤ (w5.alloc (.cells #[.int .i64 x.K, .int .i64 x.A, .int .i64 x.B, .int .i64 x.C, .int .i64 x.N, .string x.S, .slice la ln lc, .bool x.T] 56)).heap.size) := Lib.hid (by have := HXW.out; have := HZ5.out; simp; omega)
        obtain ⟨O, hO⟩ : ∃ O, O = w5.heap.size := ⟨_, rfl⟩
        have HOL : RowKit.Hid (os.length ≤ 100000) := Lib.hid (by have := HJ.out.2.2.1; have := HK2.out; omega)
        clear hx hd5 ho5 hr5 hbl hc4
        go_upto_region 12 with fail
        rw [← hO] at HBX ⊢
        generalize hW5 : w5.alloc (.cells #[.int .i64 x.K, .int .i64 x.A, .int .i64 x.B, .int .i64 x.C, .int .i64 x.N, .string x.S, .slice la ln lc, .bool x.T] 56) = W5 at HB6 HX6 HW6 HBX HZ6 ⊢
        clear hW5 hO
        have hbx : ∀ j, W5.cell? ⟨O, j, none⟩ = (#[.int .i64 x.K, .int .i64 x.A, .int .i64 x.B, .int .i64 x.C, .int .i64 x.N, .string x.S, .slice la ln lc, .bool x.T] : Array Value)[j]? := fun j => by simp [World.cell?, HBX.out]
        have x1 := HB6.out.ec 1
        go_wp2_with (at_builtin; refine wpList_append_elem W5 rfl _ _ 48 rfl 56 Tryd.underlying48 _ 8 88 info_op rfl (by decide) (by decide) OpO.holds (X + 1) (.slice oa on oc) os rfl HW6.out HZ6.out _ 1 W5.heap.size rfl rfl rfl (by intro u hu; simp at hu; rcases hu with rfl | rfl | rfl | rfl | rfl | rfl | rfl | rfl <;> rfl) x wr.heap.size HX6.out HXW.out HFR.out HOL.out ?_; intro va2 vn2 vc2 w6 hrow6 hb6; have HB7 := Lib.hid (HB6.out.news hb6 (Nat.lt_succ_self X)); have HW7 := Lib.hid hrow6; have y1 := HB7.out.ec 1; have f1 := HB7.out.ef 1; clear hrow6 hb6)
        go_roundw
        case rel => exact ⟨j + 1, va2, vn2, vc2, os ++ [x], p5, y5, by omega, by go_num, (HB7.out.set 1 (.slice va2 vn2 vc2)).ds.c2, Lib.hid ⟨HB7.out.set 1 (.slice va2 vn2 vc2), HW7.out.stored OpO.holds 1 _ (Nat.lt_succ_self X), by rw [List.length_append, HJ.out.2.2.1]; rfl, HR5.out⟩⟩
        case measure => simp [intOf]; omega
      have HNJ : RowKit.Hid (j = k2 ∨ y4 ≠ 0) := Lib.hid (by by_cases h : y4 = 0; left; omega; exact .inr h)
      have HJJ := Lib.hid hj
      by_cases hlj : j < k2
      · have hy4 : (y4 == 0) = false := by rw [beq_eq_false_iff_ne]; exact fun h => hgo ⟨hlj, h⟩
        clear hgo
        go_wp2_with fail
        refine (d_end d a n c L p4 y4 wr HJ.out.1.ds).mono ?_
        rintro e w7 ⟨_, ex, p7, y7, rfl, ⟨ek, et, eA, el, va, vn, vc, ma, mn, mc, rfl, hex⟩, hd7, ho7, hr7⟩
        have HR7 : RowKit.Hid (Ran rdBlock L p1 0 p7 y7 ⟨ps, os, ex⟩) := Lib.hid (HRP.out.block (HRQ.out.listOf (HJ.out.2.2.2.enough HJJ.out (by first | exact HNJ.out | exact HNJ.out.imp (fun _ => rfl) id))) hr7)
        have HB7 := Lib.hid (HJ.out.1.read hd7 ho7)
        have hb8 := ((((((HB7.out.set 2 (.int .i64 ek)).set 3 (.int .i64 eA)).set 4 (.int .i64 et)).set 5 (.int .i64 el)).set 6 (.slice va vn vc)).set 7 (.slice ma mn mc))
        have HOW : RowKit.Hid (Off (fun k => k = X) w7 ((((((w7.setCell ⟨X, 2, none⟩ (.int .i64 ek)).setCell ⟨X, 3, none⟩ (.int .i64 eA)).setCell ⟨X, 4, none⟩ (.int .i64 et)).setCell ⟨X, 5, none⟩ (.int .i64 el)).setCell ⟨X, 6, none⟩ (.slice va vn vc)).setCell ⟨X, 7, none⟩ (.slice ma mn mc))) := Lib.hid (((((((Off.refl (fun k => k = X) w7).setCell (p := ⟨X, 2, none⟩) (.inl rfl) (.int .i64 ek)).setCell (p := ⟨X, 3, none⟩) (.inl rfl) (.int .i64 eA)).setCell (p := ⟨X, 4, none⟩) (.inl rfl) (.int .i64 et)).setCell (p := ⟨X, 5, none⟩) (.inl rfl) (.int .i64 el)).setCell (p := ⟨X, 6, none⟩) (.inl rfl) (.slice va vn vc)).setCell (p := ⟨X, 7, none⟩) (.inl rfl) (.slice ma mn mc))
        have HXW : RowKit.Hid (X + 1 ≤ wr.heap.size) := Lib.hid HJ.out.1.elt
        have HX3 := Lib.hid HJ.out.1.hE
        have HOP : RowKit.Hid (RowO 56 8 OpO ((((((w7.setCell ⟨X, 2, none⟩ (.int .i64 ek)).setCell ⟨X, 3, none⟩ (.int .i64 eA)).setCell ⟨X, 4, none⟩ (.int .i64 et)).setCell ⟨X, 5, none⟩ (.int .i64 el)).setCell ⟨X, 6, none⟩ (.slice va vn vc)).setCell ⟨X, 7, none⟩ (.slice ma mn mc)) (From (X + 1)) (.slice oa on oc) os) := Lib.hid ((HJ.out.2.1.kept OpO.holds ho7 (by have := HJ.out.1.hd; have := HX3.out; omega)).holds OpO.holds (S' := From (X + 1)) (fun b hb hs => ⟨HOW.out.block b hb (fun he => by have : X + 1 ≤ b := hs; omega), hs⟩))
        have HEN : RowKit.Hid (EndO ((((((w7.setCell ⟨X, 2, none⟩ (.int .i64 ek)).setCell ⟨X, 3, none⟩ (.int .i64 eA)).setCell ⟨X, 4, none⟩ (.int .i64 et)).setCell ⟨X, 5, none⟩ (.int .i64 el)).setCell ⟨X, 6, none⟩ (.slice va vn vc)).setCell ⟨X, 7, none⟩ (.slice ma mn mc)) (From wr.heap.size) [.int .i64 ek, .int .i64 eA, .int .i64 et, .int .i64 el, .slice va vn vc, .slice ma mn mc] ex) := Lib.hid (EndO.holds _ _ _ _ _ _ (fun b hb hs => ⟨HOW.out.block b hb (fun he => by have : wr.heap.size ≤ b := hs; have := HXW.out; omega), hs⟩) hex)
        have HB8 : RowKit.Hid (BS w3 d a n c L 50 X #[.slice pa pn pc, .slice oa on oc, .int .i64 ek, .int .i64 eA, .int .i64 et, .int .i64 el, .slice va vn vc, .slice ma mn mc] ((((((w7.setCell ⟨X, 2, none⟩ (.int .i64 ek)).setCell ⟨X, 3, none⟩ (.int .i64 eA)).setCell ⟨X, 4, none⟩ (.int .i64 et)).setCell ⟨X, 5, none⟩ (.int .i64 el)).setCell ⟨X, 6, none⟩ (.slice va vn vc)).setCell ⟨X, 7, none⟩ (.slice ma mn mc)) p7 y7) := Lib.hid hb8
        have z2 := HB7.out.ec 2
        have z3' := HB7.out.ec 3
        have z4 := HB7.out.ec 4
        have z5 := HB7.out.ec 5
        have z6 := HB7.out.ec 6
        have z7 := HB7.out.ec 7
        have g2 := HB7.out.ef 2
        have g3 := HB7.out.ef 3
        have g4 := HB7.out.ef 4
        have g5 := HB7.out.ef 5
        have g6 := HB7.out.ef 6
        have g7 := HB7.out.ef 7
        clear hex hd7 ho7 hr7 hb8 hc4 HOW
        go_upto_region 14 with fail
        generalize hW8 : ((((((w7.setCell ⟨X, 2, none⟩ (.int .i64 ek)).setCell ⟨X, 3, none⟩ (.int .i64 eA)).setCell ⟨X, 4, none⟩ (.int .i64 et)).setCell ⟨X, 5, none⟩ (.int .i64 el)).setCell ⟨X, 6, none⟩ (.slice va vn vc)).setCell ⟨X, 7, none⟩ (.slice ma mn mc)) = W8 at HOP HEN HB8 ⊢
        clear hW8 z2 z3' z4 z5 z6 z7 g2 g3 g4 g5 g6 g7
        have HE8 := Lib.hid (HI.out.1.read HB8.out.ds (HO3.out.trans HB8.out.off))
        have HDF : RowKit.Hid (d < F) := Lib.hid (by have := HD0.out; have := HZF.out; omega)
        have HWB : RowKit.Hid (RowO 50 8 BlockO W8 (From (F + 1)) (.slice ba bn bc) bs) := Lib.hid (HI.out.2.1.kept BlockO.holds (HO3.out.trans HB8.out.off) (by have := HDF.out; omega))
        have HWO : RowKit.Hid (F + 1 ≤ wo.heap.size) := Lib.hid HI.out.1.elt
        have HZ8 : RowKit.Hid (F + 1 ≤ W8.heap.size) := Lib.hid (Nat.le_trans HWO.out (HO3.out.trans HB8.out.off).size)
        have HFR : RowKit.Hid (∀ b, (Value.slice ba bn bc).ownBlock = some b → b < wo.heap.size) := Lib.hid fun b hb => (HI.out.2.1.own hb).2
        have HW3 : RowKit.Hid (wo.heap.size ≤ X) := Lib.hid (Nat.le_trans HO3.out.size HX3.out)
        have HBK : RowKit.Hid (BlockO W8 (From wo.heap.size) [.slice pa pn pc, .slice oa on oc, .int .i64 ek, .int .i64 eA, .int .i64 et, .int .i64 el, .slice va vn vc, .slice ma mn mc] ⟨ps, os, ex⟩) := Lib.hid ⟨_, _, _, rfl, HPS.out.holds (fun b hb hs => ⟨HB8.out.off.block b hb (fun he => by have : wo.heap.size ≤ b := hs; have := HWO.out; have := HDF.out; omega), hs⟩), HOP.out.wider OpO.holds (fun b _ hs => by have : X + 1 ≤ b := hs; have := HW3.out; show wo.heap.size ≤ b; omega), EndO.holds _ _ _ _ _ _ (fun b _ hs => ⟨rfl, by have : wr.heap.size ≤ b := hs; have := HXW.out; have := HW3.out; show wo.heap.size ≤ b; omega⟩) HEN.out⟩
        have HBL : RowKit.Hid (bs.length ≤ 100000) := Lib.hid (by have := HI.out.2.2.1; have := HKK.out; have := HLT.out; omega)
        have hx8 := HB8.out.ec
        have hf8 := HE8.out.ec 1
        go_wp2_with (at_builtin; refine wpList_append_elem W8 rfl _ _ 42 rfl 50 Tryd.underlying42 _ 8 128 info_block rfl (by decide) (by decide) BlockO.holds (F + 1) (.slice ba bn bc) bs rfl HWB.out HZ8.out _ 1 W8.heap.size rfl rfl rfl (by intro u hu; simp at hu; rcases hu with rfl | rfl | rfl | rfl | rfl | rfl | rfl | rfl <;> rfl) ⟨ps, os, ex⟩ wo.heap.size HBK.out HWO.out HFR.out HBL.out ?_; intro va2 vn2 vc2 w9 hrow9 hb9; have HE9 := Lib.hid (HE8.out.news hb9 (by have := HZF.out; omega) (Nat.lt_succ_self F)); have HW9 := Lib.hid hrow9; have u1 := HE9.out.ec 1; have f1 := HE9.out.ef 1; clear hrow9 hb9)
        go_roundw
        case rel => exact ⟨i + 1, va2, vn2, vc2, bs ++ [⟨ps, os, ex⟩], p7, y7, by omega, by go_num, (HE9.out.set 1 (.slice va2 vn2 vc2)).ds.c2, Lib.hid ⟨HE9.out.set 1 (.slice va2 vn2 vc2), HW9.out.stored BlockO.holds 1 _ (Nat.lt_succ_self F), by rw [List.length_append, HI.out.2.2.1]; rfl, HI.out.2.2.2.snoc HR7.out⟩⟩
        case measure => simp [intOf]; omega
      · have hlj' : decide ((j : Int) < (k2 : Int)) = false := decide_eq_false (by omega)
        obtain rfl : j = k2 := by omega
        clear hgo
        go_wp2_with fail
        refine (d_end d a n c L p4 y4 wr HJ.out.1.ds).mono ?_
        rintro e w7 ⟨_, ex, p7, y7, rfl, ⟨ek, et, eA, el, va, vn, vc, ma, mn, mc, rfl, hex⟩, hd7, ho7, hr7⟩
        have HR7 : RowKit.Hid (Ran rdBlock L p1 0 p7 y7 ⟨ps, os, ex⟩) := Lib.hid (HRP.out.block (HRQ.out.listOf (HJ.out.2.2.2.enough HJJ.out (by first | exact HNJ.out | exact HNJ.out.imp (fun _ => rfl) id))) hr7)
        have HB7 := Lib.hid (HJ.out.1.read hd7 ho7)
        have hb8 := ((((((HB7.out.set 2 (.int .i64 ek)).set 3 (.int .i64 eA)).set 4 (.int .i64 et)).set 5 (.int .i64 el)).set 6 (.slice va vn vc)).set 7 (.slice ma mn mc))
        have HOW : RowKit.Hid (Off (fun k => k = X) w7 ((((((w7.setCell ⟨X, 2, none⟩ (.int .i64 ek)).setCell ⟨X, 3, none⟩ (.int .i64 eA)).setCell ⟨X, 4, none⟩ (.int .i64 et)).setCell ⟨X, 5, none⟩ (.int .i64 el)).setCell ⟨X, 6, none⟩ (.slice va vn vc)).setCell ⟨X, 7, none⟩ (.slice ma mn mc))) := Lib.hid (((((((Off.refl (fun k => k = X) w7).setCell (p := ⟨X, 2, none⟩) (.inl rfl) (.int .i64 ek)).setCell (p := ⟨X, 3, none⟩) (.inl rfl) (.int .i64 eA)).setCell (p := ⟨X, 4, none⟩) (.inl rfl) (.int .i64 et)).setCell (p := ⟨X, 5, none⟩) (.inl rfl) (.int .i64 el)).setCell (p := ⟨X, 6, none⟩) (.inl rfl) (.slice va vn vc)).setCell (p := ⟨X, 7, none⟩) (.inl rfl) (.slice ma mn mc))
        have HXW : RowKit.Hid (X + 1 ≤ wr.heap.size) := Lib.hid HJ.out.1.elt
        have HX3 := Lib.hid HJ.out.1.hE
        have HOP : RowKit.Hid (RowO 56 8 OpO ((((((w7.setCell ⟨X, 2, none⟩ (.int .i64 ek)).setCell ⟨X, 3, none⟩ (.int .i64 eA)).setCell ⟨X, 4, none⟩ (.int .i64 et)).setCell ⟨X, 5, none⟩ (.int .i64 el)).setCell ⟨X, 6, none⟩ (.slice va vn vc)).setCell ⟨X, 7, none⟩ (.slice ma mn mc)) (From (X + 1)) (.slice oa on oc) os) := Lib.hid ((HJ.out.2.1.kept OpO.holds ho7 (by have := HJ.out.1.hd; have := HX3.out; omega)).holds OpO.holds (S' := From (X + 1)) (fun b hb hs => ⟨HOW.out.block b hb (fun he => by have : X + 1 ≤ b := hs; omega), hs⟩))
        have HEN : RowKit.Hid (EndO ((((((w7.setCell ⟨X, 2, none⟩ (.int .i64 ek)).setCell ⟨X, 3, none⟩ (.int .i64 eA)).setCell ⟨X, 4, none⟩ (.int .i64 et)).setCell ⟨X, 5, none⟩ (.int .i64 el)).setCell ⟨X, 6, none⟩ (.slice va vn vc)).setCell ⟨X, 7, none⟩ (.slice ma mn mc)) (From wr.heap.size) [.int .i64 ek, .int .i64 eA, .int .i64 et, .int .i64 el, .slice va vn vc, .slice ma mn mc] ex) := Lib.hid (EndO.holds _ _ _ _ _ _ (fun b hb hs => ⟨HOW.out.block b hb (fun he => by have : wr.heap.size ≤ b := hs; have := HXW.out; omega), hs⟩) hex)
        have HB8 : RowKit.Hid (BS w3 d a n c L 50 X #[.slice pa pn pc, .slice oa on oc, .int .i64 ek, .int .i64 eA, .int .i64 et, .int .i64 el, .slice va vn vc, .slice ma mn mc] ((((((w7.setCell ⟨X, 2, none⟩ (.int .i64 ek)).setCell ⟨X, 3, none⟩ (.int .i64 eA)).setCell ⟨X, 4, none⟩ (.int .i64 et)).setCell ⟨X, 5, none⟩ (.int .i64 el)).setCell ⟨X, 6, none⟩ (.slice va vn vc)).setCell ⟨X, 7, none⟩ (.slice ma mn mc)) p7 y7) := Lib.hid hb8
        have z2 := HB7.out.ec 2
        have z3' := HB7.out.ec 3
        have z4 := HB7.out.ec 4
        have z5 := HB7.out.ec 5
        have z6 := HB7.out.ec 6
        have z7 := HB7.out.ec 7
        have g2 := HB7.out.ef 2
        have g3 := HB7.out.ef 3
        have g4 := HB7.out.ef 4
        have g5 := HB7.out.ef 5
        have g6 := HB7.out.ef 6
        have g7 := HB7.out.ef 7
        clear hex hd7 ho7 hr7 hb8 hc4 HOW
        go_upto_region 14 with fail
        generalize hW8 : ((((((w7.setCell ⟨X, 2, none⟩ (.int .i64 ek)).setCell ⟨X, 3, none⟩ (.int .i64 eA)).setCell ⟨X, 4, none⟩ (.int .i64 et)).setCell ⟨X, 5, none⟩ (.int .i64 el)).setCell ⟨X, 6, none⟩ (.slice va vn vc)).setCell ⟨X, 7, none⟩ (.slice ma mn mc)) = W8 at HOP HEN HB8 ⊢
        clear hW8 z2 z3' z4 z5 z6 z7 g2 g3 g4 g5 g6 g7
        have HE8 := Lib.hid (HI.out.1.read HB8.out.ds (HO3.out.trans HB8.out.off))
        have HDF : RowKit.Hid (d < F) := Lib.hid (by have := HD0.out; have := HZF.out; omega)
        have HWB : RowKit.Hid (RowO 50 8 BlockO W8 (From (F + 1)) (.slice ba bn bc) bs) := Lib.hid (HI.out.2.1.kept BlockO.holds (HO3.out.trans HB8.out.off) (by have := HDF.out; omega))
        have HWO : RowKit.Hid (F + 1 ≤ wo.heap.size) := Lib.hid HI.out.1.elt
        have HZ8 : RowKit.Hid (F + 1 ≤ W8.heap.size) := Lib.hid (Nat.le_trans HWO.out (HO3.out.trans HB8.out.off).size)
        have HFR : RowKit.Hid (∀ b, (Value.slice ba bn bc).ownBlock = some b → b < wo.heap.size) := Lib.hid fun b hb => (HI.out.2.1.own hb).2
        have HW3 : RowKit.Hid (wo.heap.size ≤ X) := Lib.hid (Nat.le_trans HO3.out.size HX3.out)
        have HBK : RowKit.Hid (BlockO W8 (From wo.heap.size) [.slice pa pn pc, .slice oa on oc, .int .i64 ek, .int .i64 eA, .int .i64 et, .int .i64 el, .slice va vn vc, .slice ma mn mc] ⟨ps, os, ex⟩) := Lib.hid ⟨_, _, _, rfl, HPS.out.holds (fun b hb hs => ⟨HB8.out.off.block b hb (fun he => by have : wo.heap.size ≤ b := hs; have := HWO.out; have := HDF.out; omega), hs⟩), HOP.out.wider OpO.holds (fun b _ hs => by have : X + 1 ≤ b := hs; have := HW3.out; show wo.heap.size ≤ b; omega), EndO.holds _ _ _ _ _ _ (fun b _ hs => ⟨rfl, by have : wr.heap.size ≤ b := hs; have := HXW.out; have := HW3.out; show wo.heap.size ≤ b; omega⟩) HEN.out⟩
        have HBL : RowKit.Hid (bs.length ≤ 100000) := Lib.hid (by have := HI.out.2.2.1; have := HKK.out; have := HLT.out; omega)
        have hx8 := HB8.out.ec
        have hf8 := HE8.out.ec 1
        go_wp2_with (at_builtin; refine wpList_append_elem W8 rfl _ _ 42 rfl 50 Tryd.underlying42 _ 8 128 info_block rfl (by decide) (by decide) BlockO.holds (F + 1) (.slice ba bn bc) bs rfl HWB.out HZ8.out _ 1 W8.heap.size rfl rfl rfl (by intro u hu; simp at hu; rcases hu with rfl | rfl | rfl | rfl | rfl | rfl | rfl | rfl <;> rfl) ⟨ps, os, ex⟩ wo.heap.size HBK.out HWO.out HFR.out HBL.out ?_; intro va2 vn2 vc2 w9 hrow9 hb9; have HE9 := Lib.hid (HE8.out.news hb9 (by have := HZF.out; omega) (Nat.lt_succ_self F)); have HW9 := Lib.hid hrow9; have u1 := HE9.out.ec 1; have f1 := HE9.out.ef 1; clear hrow9 hb9)
        go_roundw
        case rel => exact ⟨i + 1, va2, vn2, vc2, bs ++ [⟨ps, os, ex⟩], p7, y7, by omega, by go_num, (HE9.out.set 1 (.slice va2 vn2 vc2)).ds.c2, Lib.hid ⟨HE9.out.set 1 (.slice va2 vn2 vc2), HW9.out.stored BlockO.holds 1 _ (Nat.lt_succ_self F), by rw [List.length_append, HI.out.2.2.1]; rfl, HI.out.2.2.2.snoc HR7.out⟩⟩
        case measure => simp [intOf]; omega
end Go.Proofs.YtdmlogpaenbblaaDoor
