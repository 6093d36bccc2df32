/- Layer 5: the document's Decode (mk_dh.py). -/
import Derived.Test.YtdmlogpaenbblaaDoorQCodeDg
import Derived.Test.YtdmlogpaenbblaaDoorQRowStep
import Derived.Test.YtdmlogpaenbblaaDoorQT12
import Derived.Deep.RegionLaw
import Derived.Deep.DeepCutAuto
namespace Go.Proofs.YtdmlogpaenbblaaDoor
open Go.RowKit (wrap64 intOf Below)
set_option linter.unusedVariables false
set_option linter.unusedSimpArgs false
attribute [local go_sem ↓] Go.wp_at_zero Go.wp_at_succ

section
variable {L : List UInt8} {p p1 p2 p3 : Nat} {y y1 y2 y3 : Int}
theorem Ran.sig {ps : List Int} {t : Int} (h1 : Ran (rdNums 8) L p y p1 y1 ps) (h2 : Ran rdNum L p1 y1 p2 y2 t) : Ran rdSig L p y p2 y2 ⟨ps, t⟩ :=
  Ran.bind (f := rdNums 8) (g := fun ps r => (rdNum r).bind fun t r' => PR.ok (SigD.mk ps t) r') h1 (Ran.bind (f := rdNum) (g := fun t r' => PR.ok (SigD.mk ps t) r') h2 (Ran.pure _))
theorem Ran.cls {fs ms : List Int} (h1 : Ran (rdNums 8) L p y p1 y1 fs) (h2 : Ran (rdNums 4) L p1 y1 p2 y2 ms) : Ran rdClass L p y p2 y2 ⟨fs, ms⟩ :=
  Ran.bind (f := rdNums 8) (g := fun fs r => (rdNums 4 r).bind fun ms r' => PR.ok (ClassD.mk fs ms) r') h1 (Ran.bind (f := rdNums 4) (g := fun ms r' => PR.ok (ClassD.mk fs ms) r') h2 (Ran.pure _))
theorem Ran.prog {ss : List SigD} {cs : List ClassD} {fs : List FuncD} (h1 : Ran (rdList 4 rdSig) L p y p1 y1 ss) (h2 : Ran (rdList 8 rdClass) L p1 y1 p2 y2 cs) (h3 : Ran (rdList 16 rdFunc) L p2 y2 p3 y3 fs) : Ran rdProg L p y p3 y3 ⟨ss, cs, fs⟩ :=
  Ran.bind (f := rdList 4 rdSig) (g := fun ss r => (rdList 8 rdClass r).bind fun cs r' => (rdList 16 rdFunc r').bind fun fs r2 => PR.ok (ProgD.mk ss cs fs) r2) h1 (Ran.bind (f := rdList 8 rdClass) (g := fun cs r' => (rdList 16 rdFunc r').bind fun fs r2 => PR.ok (ProgD.mk ss cs fs) r2) h2 (Ran.bind (f := rdList 16 rdFunc) (g := fun fs r2 => PR.ok (ProgD.mk ss cs fs) r2) h3 (Ran.pure _)))
end
/-- Blocks from lo on, below hi. -/
def Amid (lo hi : Nat) (k : Nat) : Prop := lo ≤ k ∧ k < hi
theorem RowO.amid {α : Type} {T k : Nat} {Q : World → (Nat → Prop) → List Value → α → Prop} (hQ : Holds Q) {u : World} {S : Nat → Prop} {lo : Nat} {v : Value} {xs : List α} (h : RowO T k Q u S v xs) (hS : ∀ b, S b → lo ≤ b) : RowO T k Q u (Amid lo u.heap.size) v xs :=
  h.holds hQ (fun b hb hs => ⟨rfl, hS b hs, hb⟩)
theorem RowO.still {α : Type} {T k : Nat} {Q : World → (Nat → Prop) → List Value → α → Prop} (hQ : Holds Q) {u u' : World} {lo hi : Nat} {v : Value} {xs : List α} (h : RowO T k Q u (Amid lo hi) v xs) (hb : ∀ b, lo ≤ b → b < hi → b < u.heap.size → u'.heap[b]? = u.heap[b]?) : RowO T k Q u' (Amid lo hi) v xs :=
  h.holds hQ (fun b hlt hs => ⟨hb b hs.1 hs.2 hlt, hs⟩)

set_option maxRecDepth 100000 in
set_option maxHeartbeats 16000000 in
theorem ref_decode (a : Option Addr) (n c : Nat) (L : List UInt8) (w : World) (h : BytesAt w a n c L) (hn : n ≤ 140737488355328) :
    Calls Tryd.prog 19 #[.slice a n c] w (DecPost (inBytes L) w) := by
  have hlen : L.length = n := h.1
  by_cases hlong : 65536 < n
  · have HR : RowKit.Hid (inBytes L = .no 2) := Lib.hid (by unfold inBytes; rw [if_pos (by omega)])
    clear h
    go_enter Tryd.func19, Tryd.ntmps19
    go_wp2_with fail
    go_ret2
    exact .inr ⟨2, HR.out, by decide, rfl, Below.refl _ _⟩
  have HIN : RowKit.Hid (inBytes L = (rdProg L).bind fun P r => if r.length = 0 then .ok P [] else .no 4) := Lib.hid (by unfold inBytes; rw [if_neg (by omega)])
  obtain ⟨wd, hwd⟩ : ∃ wd, wd = w.alloc (.cells #[.slice a n c, .int .i64 0, .int .i64 0] 86) := ⟨_, rfl⟩
  obtain ⟨d, hd⟩ : ∃ d, d = w.heap.size := ⟨_, rfl⟩
  have hwz : wd.heap.size = d + 1 := by rw [hwd, hd]; simp
  have hb1 : Below w.heap.size w wd := by rw [hwd]; exact (Below.refl _ _).alloc (Nat.le_refl _) _
  have hblk : wd.heap[d]? = some (.cells #[.slice a n c, .int .i64 0, .int .i64 0] 86 (0, 0)) := by rw [hwd, hd]; exact heap_alloc_new w _
  have hds : DSt d a n c L wd 0 0 := ⟨hblk, h.since hb1, Nat.zero_le _, by omega, fun ad hh h0 => by obtain ⟨g, off, e, hg, _⟩ := h.cells h0; rw [e] at hh; cases hh; rw [hd]; exact hg⟩
  have HB0 : RowKit.Hid (BS wd d a n c L 26 (d + 1) #[.slice none 0 0, .slice none 0 0, .slice none 0 0] (wd.alloc (.cells #[.slice none 0 0, .slice none 0 0, .slice none 0 0] 26)) 0 0) := Lib.hid ⟨hds.since ((Below.refl _ _).alloc (Nat.le_refl _) _), Off.since ((Below.refl _ _).alloc (Nat.le_refl _) _), by rw [← hwz]; exact heap_alloc_new wd _, by omega, by omega⟩
  have HWD := Lib.hid hb1
  have HDD : RowKit.Hid (d = w.heap.size) := Lib.hid hd
  have HWZ := Lib.hid hwz
  have HLEN : RowKit.Hid (L.length = n) := Lib.hid hlen
  have hnn : n ≤ 65536 := by omega
  clear h hb1 hblk hds
  go_enter Tryd.func19, Tryd.ntmps19
  go_upto_region 4 with fail
  rw [← hwd]
  try rw [hwz]
  rw [← hd]
  generalize hW0 : wd.alloc (.cells #[.slice none 0 0, .slice none 0 0, .slice none 0 0] 26) = W0 at HB0 ⊢
  clear hW0 hwd hwz hd hlong
  go_wp2_with fail
  refine (d_count d a n c L 0 0 4 _ rfl (by decide) W0 HB0.out.ds).mono ?_
  rintro e u1 ⟨_, k1, q1, z1, rfl, ⟨rfl, hk1⟩, hd, ho, hr⟩
  have HRC1 := Lib.hid hr
  have HK1 := Lib.hid hk1
  have HBC1 := Lib.hid (HB0.out.read hd ho)
  obtain ⟨B1, hB1⟩ : ∃ B, B = u1.heap.size := ⟨_, rfl⟩
  have HBZ1 : RowKit.Hid (d + 2 ≤ B1 ∧ B1 ≤ u1.heap.size) := Lib.hid ⟨by have := HBC1.out.elt; omega, by omega⟩
  clear hd ho hr hB1
  go_wp2_with fail
  go_loopw [7] (fun iv wr => ∃ (i : Nat) (va : Option Addr) (vn vc : Nat) (xs : List SigD) (p1 : Nat) (y1 : Int), i ≤ k1 ∧ iv = .int .i64 (i : Int) ∧ wr.cell? ⟨d, 2, none⟩ = some (.int .i64 y1) ∧ RowKit.Hid (BS wd d a n c L 26 (d + 1) #[.slice va vn vc, .slice none 0 0, .slice none 0 0] wr p1 y1 ∧ RowO 65 2 SigO wr (From B1) (.slice va vn vc) xs ∧ xs.length = i ∧ Ran (rdTimes rdSig i) L q1 z1 p1 y1 xs ∧ B1 ≤ wr.heap.size)) (fun iv _ => k1 - (intOf iv).toNat)
  case atStart => exact ⟨0, none, 0, 0, [], q1, z1, Nat.zero_le _, rfl, HBC1.out.ds.c2, Lib.hid ⟨HBC1.out, RowO.none _ _, rfl, Ran.times0, HBZ1.out.2⟩⟩
  case round =>
    obtain ⟨i, va, vn, vc, xs, p1, y1, hi, rfl, hc2, HI⟩ := hrel
    by_cases hgo : i < k1 ∧ y1 = 0
    · obtain ⟨hlt, rfl⟩ := hgo
      have HLT := Lib.hid hlt
      go_wp2_with fail
      refine (d_list d a n c L p1 0 8 _ rfl (by decide) wr HI.out.1.ds).mono ?_
      rintro e w3 ⟨_, ps, p2, y2, rfl, ⟨⟨pa, pn, pc, rfl⟩, hps⟩, hd3, ho3, hr3⟩
      have HPS := Lib.hid hps
      have HO3 := Lib.hid ho3
      have HR3 := Lib.hid hr3
      have HB3 := Lib.hid (HI.out.1.read hd3 ho3)
      clear hps hd3 ho3 hr3
      go_wp2_with fail
      refine (d_num d a n c L p2 y2 w3 HB3.out.ds).mono ?_
      rintro e w4 ⟨_, t, p3, y3, rfl, ⟨rfl, ht⟩, hd4, ho4, hr4⟩
      have HT := Lib.hid ht
      have HEL : RowKit.Hid (SigO w4 (From wr.heap.size) [.slice pa pn pc, .int .i64 t] ⟨ps, t⟩) := Lib.hid ⟨_, rfl, HPS.out.holds (fun b hb hs => ⟨ho4.block b hb (fun he => by have : wr.heap.size ≤ b := hs; have := HI.out.1.elt; omega), hs⟩), HT.out⟩
      have HO4 := Lib.hid (HO3.out.trans ho4)
      have HB4 := Lib.hid (HB3.out.read hd4 ho4)
      have HR4 := Lib.hid (HI.out.2.2.2.1.snoc (HR3.out.sig hr4))
      clear hd4 ho4 hr4 ht
      have HWR : RowKit.Hid (RowO 65 2 SigO w4 (From B1) (.slice va vn vc) xs) := Lib.hid (HI.out.2.1.kept SigO.holds HO4.out (by have := HBZ1.out.1; omega))
      have HZ4 : RowKit.Hid (B1 ≤ w4.heap.size) := Lib.hid (Nat.le_trans HI.out.2.2.2.2 HO4.out.size)
      have HZW : RowKit.Hid (B1 ≤ wr.heap.size) := Lib.hid (HI.out.2.2.2.2)
      have HFR : RowKit.Hid (∀ b, (Value.slice va vn vc).ownBlock = some b → b < wr.heap.size) := Lib.hid fun b hb => (HI.out.2.1.own hb).2
      have HXL : RowKit.Hid (xs.length ≤ 100000) := Lib.hid (by have := HI.out.2.2.1; have := HK1.out; have := HLT.out; omega)
      have x1 := HB4.out.ec 0
      clear hc2
      go_wp2_with (at_builtin; refine wpList_append_elem w4 rfl _ _ 22 rfl 65 Tryd.underlying22 _ 2 32 info_sig rfl (by decide) (by decide) SigO.holds B1 (.slice va vn vc) xs rfl HWR.out HZ4.out _ 1 w4.heap.size rfl rfl rfl (by intro u hu; simp at hu; rcases hu with rfl | rfl <;> rfl) ⟨ps, t⟩ wr.heap.size HEL.out HZW.out HFR.out HXL.out ?_; intro va2 vn2 vc2 w6 hrow6 hb6; have HB7 := Lib.hid (HB4.out.news hb6 (by have := HBZ1.out.1; omega)); have HW7 := Lib.hid hrow6; have HBL6 := Lib.hid hb6; have y1 := HB7.out.ec 0; have f1 := HB7.out.ef 0; clear hrow6 hb6)
      go_roundw
      case rel => exact ⟨i + 1, va2, vn2, vc2, xs ++ [⟨ps, t⟩], p3, y3, by omega, by go_num, (HB7.out.set 0 (.slice va2 vn2 vc2)).ds.c2, Lib.hid ⟨HB7.out.set 0 (.slice va2 vn2 vc2), HW7.out.stored SigO.holds 0 _ (by have := HBZ1.out.1; omega), by rw [List.length_append, HI.out.2.2.1]; rfl, HR4.out, by simpa [World.setCell] using Nat.le_trans HZ4.out HBL6.out.size⟩⟩
      case measure => simp [intOf]; omega
    have HN1 : RowKit.Hid (i = k1 ∨ y1 ≠ 0) := Lib.hid (by by_cases h : y1 = 0; left; omega; exact .inr h)
    obtain ⟨kk, hkk⟩ : ∃ kk, kk = k1 := ⟨_, rfl⟩
    have HII : RowKit.Hid (i ≤ k1) := Lib.hid hi
    have HRL1 : RowKit.Hid (Ran (rdList 4 rdSig) L 0 0 p1 y1 xs) := Lib.hid (HRC1.out.listOf (HI.out.2.2.2.1.enough HII.out HN1.out))
    clear hkk
    go_upto_region 6 with fail
    go_cut [34] (fun tc wc => tc = .bool false ∧ wc = wr)
    case first =>
      by_cases hlt : i < k1
      · have h1 : (y1 == 0) = false := by rw [beq_eq_false_iff_ne]; exact fun h => hgo ⟨hlt, h⟩
        clear hgo
        go_wp2_with fail
        go_meet
        exact ⟨rfl, rfl⟩
      · have hlt' : decide ((i : Int) < (k1 : Int)) = false := decide_eq_false (by omega)
        clear hgo
        go_wp2_with fail
        go_meet
        exact ⟨rfl, rfl⟩
    case rest =>
      obtain ⟨rfl, rfl⟩ := hcut
      clear hgo hc2
      obtain ⟨x1, rfl⟩ : ∃ v, v = wc := ⟨_, rfl⟩
      obtain ⟨sa, rfl⟩ : ∃ v, v = va := ⟨_, rfl⟩
      obtain ⟨sn, rfl⟩ : ∃ v, v = vn := ⟨_, rfl⟩
      obtain ⟨sc, rfl⟩ : ∃ v, v = vc := ⟨_, rfl⟩
      obtain ⟨ss, rfl⟩ : ∃ v, v = xs := ⟨_, rfl⟩
      obtain ⟨pp1, rfl⟩ : ∃ v, v = p1 := ⟨_, rfl⟩
      obtain ⟨yy1, rfl⟩ : ∃ v, v = y1 := ⟨_, rfl⟩
      have HBD1 := Lib.hid HI.out.1
      have HPs := Lib.hid HI.out.2.1
      have HPSs : RowKit.Hid (∀ b, From B1 b → d + 2 ≤ b) := Lib.hid fun b hb => by have := HBZ1.out.1; have hb : B1 ≤ b := hb; omega
      clear HI hi HII HN1
      go_wp2_with fail
      refine (d_count d a n c L pp1 yy1 8 _ rfl (by decide) x1 HBD1.out.ds).mono ?_
      rintro e u2 ⟨_, k2, q2, z2, rfl, ⟨rfl, hk2⟩, hd, ho, hr⟩
      have HRC2 := Lib.hid hr
      have HK2 := Lib.hid hk2
      have HBC2 := Lib.hid (HBD1.out.read hd ho)
      obtain ⟨B2, hB2⟩ : ∃ B, B = u2.heap.size := ⟨_, rfl⟩
      have HBZ2 : RowKit.Hid (d + 2 ≤ B2 ∧ B2 ≤ u2.heap.size) := Lib.hid ⟨by have := HBC2.out.elt; omega, by omega⟩
      have HPs2 : RowKit.Hid (RowO 65 2 SigO u2 (Amid (d + 2) B2) (.slice sa sn sc) ss) := Lib.hid (by rw [hB2]; exact (HPs.out.holds SigO.holds (S' := Amid (d + 2) x1.heap.size) (fun b hb hs => ⟨ho.block b hb (fun he => by have := HPSs.out b hs; omega), HPSs.out b hs, hb⟩)).holds SigO.holds (fun b hb hs => ⟨rfl, hs.1, hb⟩))
      clear hd ho hr hB2
      go_wp2_with fail
      go_loopw [10] (fun iv wr => ∃ (i : Nat) (va : Option Addr) (vn vc : Nat) (xs : List ClassD) (p1 : Nat) (y1 : Int), i ≤ k2 ∧ iv = .int .i64 (i : Int) ∧ wr.cell? ⟨d, 2, none⟩ = some (.int .i64 y1) ∧ RowKit.Hid (BS wd d a n c L 26 (d + 1) #[.slice sa sn sc, .slice va vn vc, .slice none 0 0] wr p1 y1 ∧ RowO 67 2 ClassO wr (From B2) (.slice va vn vc) xs ∧ xs.length = i ∧ Ran (rdTimes rdClass i) L q2 z2 p1 y1 xs ∧ B2 ≤ wr.heap.size ∧ RowO 65 2 SigO wr (Amid (d + 2) B2) (.slice sa sn sc) ss)) (fun iv _ => k2 - (intOf iv).toNat)
      case atStart => exact ⟨0, none, 0, 0, [], q2, z2, Nat.zero_le _, rfl, HBC2.out.ds.c2, Lib.hid ⟨HBC2.out, RowO.none _ _, rfl, Ran.times0, HBZ2.out.2, HPs2.out⟩⟩
      case round =>
        obtain ⟨i, va, vn, vc, xs, p1, y1, hi, rfl, hc2, HI⟩ := hrel
        by_cases hgo : i < k2 ∧ y1 = 0
        · obtain ⟨hlt, rfl⟩ := hgo
          have HLT := Lib.hid hlt
          go_wp2_with fail
          refine (d_list d a n c L p1 0 8 _ rfl (by decide) wr HI.out.1.ds).mono ?_
          rintro e w3 ⟨_, ps, p2, y2, rfl, ⟨⟨pa, pn, pc, rfl⟩, hps⟩, hd3, ho3, hr3⟩
          have HPS := Lib.hid hps
          have HO3 := Lib.hid ho3
          have HR3 := Lib.hid hr3
          have HB3 := Lib.hid (HI.out.1.read hd3 ho3)
          clear hps hd3 ho3 hr3
          go_wp2_with fail
          refine (d_list d a n c L p2 y2 4 _ rfl (by decide) w3 HB3.out.ds).mono ?_
          rintro e w4 ⟨_, ms, p3, y3, rfl, ⟨⟨ma, mn, mc, rfl⟩, hms⟩, hd4, ho4, hr4⟩
          have HEL : RowKit.Hid (ClassO w4 (From wr.heap.size) [.slice pa pn pc, .slice ma mn mc] ⟨ps, ms⟩) := Lib.hid ⟨_, _, rfl, HPS.out.holds (fun b hb hs => ⟨ho4.block b hb (fun he => by have : wr.heap.size ≤ b := hs; have := HI.out.1.elt; omega), hs⟩), hms.wider (fun b _ hs => Nat.le_trans HO3.out.size hs)⟩
          have HO4 := Lib.hid (HO3.out.trans ho4)
          have HB4 := Lib.hid (HB3.out.read hd4 ho4)
          have HR4 := Lib.hid (HI.out.2.2.2.1.snoc (HR3.out.cls hr4))
          clear hd4 ho4 hr4 hms
          have HWR : RowKit.Hid (RowO 67 2 ClassO w4 (From B2) (.slice va vn vc) xs) := Lib.hid (HI.out.2.1.kept ClassO.holds HO4.out (by have := HBZ2.out.1; omega))
          have HQs : RowKit.Hid (RowO 65 2 SigO w4 (Amid (d + 2) B2) (.slice sa sn sc) ss) := Lib.hid (HI.out.2.2.2.2.2.still SigO.holds (fun b h1 h2 h3 => HO4.out.block b h3 (by omega)))
          have HZ4 : RowKit.Hid (B2 ≤ w4.heap.size) := Lib.hid (Nat.le_trans HI.out.2.2.2.2.1 HO4.out.size)
          have HZW : RowKit.Hid (B2 ≤ wr.heap.size) := Lib.hid (HI.out.2.2.2.2.1)
          have HFR : RowKit.Hid (∀ b, (Value.slice va vn vc).ownBlock = some b → b < wr.heap.size) := Lib.hid fun b hb => (HI.out.2.1.own hb).2
          have HXL : RowKit.Hid (xs.length ≤ 100000) := Lib.hid (by have := HI.out.2.2.1; have := HK2.out; have := HLT.out; omega)
          have x1 := HB4.out.ec 1
          clear hc2
          go_wp2_with (at_builtin; refine wpList_append_elem w4 rfl _ _ 23 rfl 67 Tryd.underlying23 _ 2 48 info_cls rfl (by decide) (by decide) ClassO.holds B2 (.slice va vn vc) xs rfl HWR.out HZ4.out _ 1 w4.heap.size rfl rfl rfl (by intro u hu; simp at hu; rcases hu with rfl | rfl <;> rfl) ⟨ps, ms⟩ wr.heap.size HEL.out HZW.out HFR.out HXL.out ?_; intro va2 vn2 vc2 w6 hrow6 hb6; have HB7 := Lib.hid (HB4.out.news hb6 (by have := HBZ2.out.1; omega)); have HW7 := Lib.hid hrow6; have HBL6 := Lib.hid hb6; have y1 := HB7.out.ec 1; have f1 := HB7.out.ef 1; clear hrow6 hb6)
          go_roundw
          case rel => exact ⟨i + 1, va2, vn2, vc2, xs ++ [⟨ps, ms⟩], p3, y3, by omega, by go_num, (HB7.out.set 1 (.slice va2 vn2 vc2)).ds.c2, Lib.hid ⟨HB7.out.set 1 (.slice va2 vn2 vc2), HW7.out.stored ClassO.holds 1 _ (by have := HBZ2.out.1; omega), by rw [List.length_append, HI.out.2.2.1]; rfl, HR4.out, by simpa [World.setCell] using Nat.le_trans HZ4.out HBL6.out.size, HQs.out.still SigO.holds (fun b h1 h2 h3 => (Below.heap_setCell _ _ _ _ (by simp only; omega)).trans (HBL6.out.block b h2))⟩⟩
          case measure => simp [intOf]; omega
        have HN2 : RowKit.Hid (i = k2 ∨ y1 ≠ 0) := Lib.hid (by by_cases h : y1 = 0; left; omega; exact .inr h)
        obtain ⟨kk, hkk⟩ : ∃ kk, kk = k2 := ⟨_, rfl⟩
        have HII : RowKit.Hid (i ≤ k2) := Lib.hid hi
        have HRL2 : RowKit.Hid (Ran (rdList 8 rdClass) L pp1 yy1 p1 y1 xs) := Lib.hid (HRC2.out.listOf (HI.out.2.2.2.1.enough HII.out HN2.out))
        clear hkk
        go_upto_region 13 with fail
        go_cut [64] (fun tc wc => tc = .bool false ∧ wc = wr)
        case first =>
          by_cases hlt : i < k2
          · have h1 : (y1 == 0) = false := by rw [beq_eq_false_iff_ne]; exact fun h => hgo ⟨hlt, h⟩
            clear hgo
            go_wp2_with fail
            go_meet
            exact ⟨rfl, rfl⟩
          · have hlt' : decide ((i : Int) < (k2 : Int)) = false := decide_eq_false (by omega)
            clear hgo
            go_wp2_with fail
            go_meet
            exact ⟨rfl, rfl⟩
        case rest =>
          obtain ⟨rfl, rfl⟩ := hcut
          clear hgo hc2
          obtain ⟨x2, rfl⟩ : ∃ v, v = wc := ⟨_, rfl⟩
          obtain ⟨ca, rfl⟩ : ∃ v, v = va := ⟨_, rfl⟩
          obtain ⟨cn, rfl⟩ : ∃ v, v = vn := ⟨_, rfl⟩
          obtain ⟨cc, rfl⟩ : ∃ v, v = vc := ⟨_, rfl⟩
          obtain ⟨cs, rfl⟩ : ∃ v, v = xs := ⟨_, rfl⟩
          obtain ⟨pp2, rfl⟩ : ∃ v, v = p1 := ⟨_, rfl⟩
          obtain ⟨yy2, rfl⟩ : ∃ v, v = y1 := ⟨_, rfl⟩
          have HBD2 := Lib.hid HI.out.1
          replace HPs := Lib.hid (HI.out.2.2.2.2.2)
          replace HPSs : RowKit.Hid (∀ b, Amid (d + 2) B2 b → d + 2 ≤ b) := Lib.hid fun b hb => hb.1
          have HPc := Lib.hid HI.out.2.1
          have HPSc : RowKit.Hid (∀ b, From B2 b → d + 2 ≤ b) := Lib.hid fun b hb => by have := HBZ2.out.1; have hb : B2 ≤ b := hb; omega
          clear HI hi HII HN2
          go_wp2_with fail
          refine (d_count d a n c L pp2 yy2 16 _ rfl (by decide) x2 HBD2.out.ds).mono ?_
          rintro e u3 ⟨_, k3, q3, z3, rfl, ⟨rfl, hk3⟩, hd, ho, hr⟩
          have HRC3 := Lib.hid hr
          have HK3 := Lib.hid hk3
          have HBC3 := Lib.hid (HBD2.out.read hd ho)
          obtain ⟨B3, hB3⟩ : ∃ B, B = u3.heap.size := ⟨_, rfl⟩
          have HBZ3 : RowKit.Hid (d + 2 ≤ B3 ∧ B3 ≤ u3.heap.size) := Lib.hid ⟨by have := HBC3.out.elt; omega, by omega⟩
          have HPs3 : RowKit.Hid (RowO 65 2 SigO u3 (Amid (d + 2) B3) (.slice sa sn sc) ss) := Lib.hid (by rw [hB3]; exact (HPs.out.holds SigO.holds (S' := Amid (d + 2) x2.heap.size) (fun b hb hs => ⟨ho.block b hb (fun he => by have := HPSs.out b hs; omega), HPSs.out b hs, hb⟩)).holds SigO.holds (fun b hb hs => ⟨rfl, hs.1, hb⟩))
          have HPc3 : RowKit.Hid (RowO 67 2 ClassO u3 (Amid (d + 2) B3) (.slice ca cn cc) cs) := Lib.hid (by rw [hB3]; exact (HPc.out.holds ClassO.holds (S' := Amid (d + 2) x2.heap.size) (fun b hb hs => ⟨ho.block b hb (fun he => by have := HPSc.out b hs; omega), HPSc.out b hs, hb⟩)).holds ClassO.holds (fun b hb hs => ⟨rfl, hs.1, hb⟩))
          clear hd ho hr hB3
          go_wp2_with fail
          go_loopw [13] (fun iv wr => ∃ (i : Nat) (va : Option Addr) (vn vc : Nat) (xs : List FuncD) (p1 : Nat) (y1 : Int), i ≤ k3 ∧ iv = .int .i64 (i : Int) ∧ wr.cell? ⟨d, 2, none⟩ = some (.int .i64 y1) ∧ RowKit.Hid (BS wd d a n c L 26 (d + 1) #[.slice sa sn sc, .slice ca cn cc, .slice va vn vc] wr p1 y1 ∧ RowO 44 2 FuncO wr (From B3) (.slice va vn vc) xs ∧ xs.length = i ∧ Ran (rdTimes rdFunc i) L q3 z3 p1 y1 xs ∧ B3 ≤ wr.heap.size ∧ RowO 65 2 SigO wr (Amid (d + 2) B3) (.slice sa sn sc) ss ∧ RowO 67 2 ClassO wr (Amid (d + 2) B3) (.slice ca cn cc) cs)) (fun iv _ => k3 - (intOf iv).toNat)
          case atStart => exact ⟨0, none, 0, 0, [], q3, z3, Nat.zero_le _, rfl, HBC3.out.ds.c2, Lib.hid ⟨HBC3.out, RowO.none _ _, rfl, Ran.times0, HBZ3.out.2, HPs3.out, HPc3.out⟩⟩
          case round =>
            obtain ⟨i, va, vn, vc, xs, p1, y1, hi, rfl, hc2, HI⟩ := hrel
            by_cases hgo : i < k3 ∧ y1 = 0
            · obtain ⟨hlt, rfl⟩ := hgo
              have HLT := Lib.hid hlt
              go_wp2_with fail
              refine (d_fun d a n c L p1 0 wr HI.out.1.ds).mono ?_
              rintro e w3 ⟨_, fx, p3, y3, rfl, ⟨fr, ba, bn, bc, rfl, hfx⟩, hd3, ho3, hr3⟩
              have hbl : Below w3.heap.size w3 (w3.alloc (.cells #[.int .i64 fr, .slice ba bn bc] 44)) := (Below.refl _ _).alloc (Nat.le_refl _) _
              have HEL := Lib.hid (FuncO.holds _ _ _ (From wr.heap.size) _ _ (fun b hb hs => ⟨hbl.block b hb, hs⟩) hfx)
              have HO4 := Lib.hid (ho3.trans (Off.since hbl))
              have HB4 := Lib.hid ((HI.out.1.read hd3 ho3).news hbl (HI.out.1.read hd3 ho3).elt)
              have HR4 := Lib.hid (HI.out.2.2.2.1.snoc hr3)
              have HBX : RowKit.Hid ((w3.alloc (.cells #[.int .i64 fr, .slice ba bn bc] 44)).heap[w3.heap.size]? = some (.cells #[.int .i64 fr, .slice ba bn bc] 44 (0, 0))) := Lib.hid (heap_alloc_new w3 _)
              obtain ⟨O, hO⟩ : ∃ O, O = w3.heap.size := ⟨_, rfl⟩
              clear hfx hd3 ho3 hr3 hbl
              go_upto_region 23 with fail
              rw [← hO] at HBX ⊢
              generalize hW5 : w3.alloc (.cells #[.int .i64 fr, .slice ba bn bc] 44) = w4 at HEL HO4 HB4 HBX ⊢
              clear hW5 hO
              have hbx : ∀ j, w4.cell? ⟨O, j, none⟩ = (#[.int .i64 fr, .slice ba bn bc] : Array Value)[j]? := fun j => by simp [World.cell?, HBX.out]
              have HWR : RowKit.Hid (RowO 44 2 FuncO w4 (From B3) (.slice va vn vc) xs) := Lib.hid (HI.out.2.1.kept FuncO.holds HO4.out (by have := HBZ3.out.1; omega))
              have HQs : RowKit.Hid (RowO 65 2 SigO w4 (Amid (d + 2) B3) (.slice sa sn sc) ss) := Lib.hid (HI.out.2.2.2.2.2.1.still SigO.holds (fun b h1 h2 h3 => HO4.out.block b h3 (by omega)))
              have HQc : RowKit.Hid (RowO 67 2 ClassO w4 (Amid (d + 2) B3) (.slice ca cn cc) cs) := Lib.hid (HI.out.2.2.2.2.2.2.still ClassO.holds (fun b h1 h2 h3 => HO4.out.block b h3 (by omega)))
              have HZ4 : RowKit.Hid (B3 ≤ w4.heap.size) := Lib.hid (Nat.le_trans HI.out.2.2.2.2.1 HO4.out.size)
              have HZW : RowKit.Hid (B3 ≤ wr.heap.size) := Lib.hid (HI.out.2.2.2.2.1)
              have HFR : RowKit.Hid (∀ b, (Value.slice va vn vc).ownBlock = some b → b < wr.heap.size) := Lib.hid fun b hb => (HI.out.2.1.own hb).2
              have HXL : RowKit.Hid (xs.length ≤ 100000) := Lib.hid (by have := HI.out.2.2.1; have := HK3.out; have := HLT.out; omega)
              have x1 := HB4.out.ec 2
              clear hc2
              have hfz := HB4.out.ef 2
              have hdl : d + 1 < w4.heap.size := HB4.out.elt
              go_wp2_with fail
              go_region_law (refine step_append_elem w4.drew rfl _ _ 24 rfl 44 Tryd.underlying24 _ 2 32 info_func rfl (by decide) (by decide) FuncO.holds B3 (.slice va vn vc) xs rfl HWR.out HZ4.out _ 1 w4.heap.size rfl rfl rfl (by intro u hu; simp at hu; rcases hu with rfl | rfl <;> rfl) fx wr.heap.size HEL.out HZW.out HFR.out HXL.out ?_; intro va2 vn2 vc2 w6 hrow6 hb6; replace hb6 : Below B3 w4 w6 := (Below.refl _ _).drew.trans hb6; have HB7 := Lib.hid (HB4.out.news hb6 (by have := HBZ3.out.1; omega)); have HW7 := Lib.hid hrow6; have HBL6 := Lib.hid hb6; have y1 := HB7.out.ec 2; have f1 := HB7.out.ef 2; clear hrow6 hb6)
              all_goals
                go_wp2_with fail
                go_roundw
                case rel => exact ⟨i + 1, va2, vn2, vc2, xs ++ [fx], p3, y3, by omega, by go_num, (HB7.out.set 2 (.slice va2 vn2 vc2)).ds.c2, Lib.hid ⟨HB7.out.set 2 (.slice va2 vn2 vc2), HW7.out.stored FuncO.holds 2 _ (by have := HBZ3.out.1; omega), by rw [List.length_append, HI.out.2.2.1]; rfl, HR4.out, by simpa [World.setCell] using Nat.le_trans HZ4.out HBL6.out.size, HQs.out.still SigO.holds (fun b h1 h2 h3 => (Below.heap_setCell _ _ _ _ (by simp only; omega)).trans (HBL6.out.block b h2)), HQc.out.still ClassO.holds (fun b h1 h2 h3 => (Below.heap_setCell _ _ _ _ (by simp only; omega)).trans (HBL6.out.block b h2))⟩⟩
                case measure => simp [intOf]; omega
            have HN3 : RowKit.Hid (i = k3 ∨ y1 ≠ 0) := Lib.hid (by by_cases h : y1 = 0; left; omega; exact .inr h)
            obtain ⟨kk, hkk⟩ : ∃ kk, kk = k3 := ⟨_, rfl⟩
            have HII : RowKit.Hid (i ≤ k3) := Lib.hid hi
            have HRL3 : RowKit.Hid (Ran (rdList 16 rdFunc) L pp2 yy2 p1 y1 xs) := Lib.hid (HRC3.out.listOf (HI.out.2.2.2.1.enough HII.out HN3.out))
            clear hkk
            go_upto_region 20 with fail
            go_cut [94] (fun tc wc => tc = .bool false ∧ wc = wr)
            case first =>
              by_cases hlt : i < k3
              · have h1 : (y1 == 0) = false := by rw [beq_eq_false_iff_ne]; exact fun h => hgo ⟨hlt, h⟩
                clear hgo
                go_wp2_with fail
                go_meet
                exact ⟨rfl, rfl⟩
              · have hlt' : decide ((i : Int) < (k3 : Int)) = false := decide_eq_false (by omega)
                clear hgo
                go_wp2_with fail
                go_meet
                exact ⟨rfl, rfl⟩
            case rest =>
              obtain ⟨rfl, rfl⟩ := hcut
              clear hgo hc2
              obtain ⟨x3, rfl⟩ : ∃ v, v = wc := ⟨_, rfl⟩
              obtain ⟨fa, rfl⟩ : ∃ v, v = va := ⟨_, rfl⟩
              obtain ⟨fn, rfl⟩ : ∃ v, v = vn := ⟨_, rfl⟩
              obtain ⟨fc, rfl⟩ : ∃ v, v = vc := ⟨_, rfl⟩
              obtain ⟨fs, rfl⟩ : ∃ v, v = xs := ⟨_, rfl⟩
              obtain ⟨pp3, rfl⟩ : ∃ v, v = p1 := ⟨_, rfl⟩
              obtain ⟨yy3, rfl⟩ : ∃ v, v = y1 := ⟨_, rfl⟩
              have HBD3 := Lib.hid HI.out.1
              replace HPs := Lib.hid (HI.out.2.2.2.2.2.1)
              replace HPSs : RowKit.Hid (∀ b, Amid (d + 2) B3 b → d + 2 ≤ b) := Lib.hid fun b hb => hb.1
              replace HPc := Lib.hid (HI.out.2.2.2.2.2.2)
              replace HPSc : RowKit.Hid (∀ b, Amid (d + 2) B3 b → d + 2 ≤ b) := Lib.hid fun b hb => hb.1
              have HPf := Lib.hid HI.out.2.1
              have HPSf : RowKit.Hid (∀ b, From B3 b → d + 2 ≤ b) := Lib.hid fun b hb => by have := HBZ3.out.1; have hb : B3 ≤ b := hb; omega
              clear HI hi HII HN3
              have HRP : RowKit.Hid (Ran rdProg L 0 0 pp3 yy3 ⟨ss, cs, fs⟩) := Lib.hid (HRL1.out.prog HRL2.out HRL3.out)
              have g1 := HBD3.out.ds.c1
              have g2 := HBD3.out.ds.c2
              have hf2 := HBD3.out.ds.free 2
              have hle := HBD3.out.ds.le
              have HBE : RowKit.Hid (Below w.heap.size w x3) := Lib.hid (HWD.out.trans (HBD3.out.off.below (by have := HWZ.out; have := HDD.out; omega) (fun i h => by have := HDD.out; omega)))
              by_cases h0 : yy3 = 0
              rotate_left
              · have hyb : (yy3 == 0) = false := by rw [beq_eq_false_iff_ne]; exact h0
                have hyn : (yy3 != 0) = true := by rw [bne_iff_ne]; exact h0
                have HP : RowKit.Hid (inBytes L = .no yy3) := Lib.hid (by rw [HIN.out]; have h := (HRP.out.2 rfl).2 h0; rw [List.drop_zero] at h; rw [h]; rfl)
                have HNE := Lib.hid h0
                clear h0
                go_wp2_with fail
                go_quiet (fail)
                go_wp2_with fail
                go_ret2
                exact .inr ⟨yy3, HP.out, HNE.out, rfl, below_drewN _ HBE.out⟩
              subst h0
              have HOK : RowKit.Hid (rdProg L = .ok ⟨ss, cs, fs⟩ (L.drop pp3)) := Lib.hid (by have h := (HRP.out.2 rfl).1 rfl; rw [List.drop_zero] at h; exact h)
              by_cases hend : pp3 < n
              · have HP : RowKit.Hid (inBytes L = .no 4) := Lib.hid (by rw [HIN.out, HOK.out]; simp only [PR.bind]; rw [if_neg (by rw [List.length_drop, HLEN.out]; omega)])
                have HBN := Lib.hid (HBE.out.setCell (p := ⟨d, 2, none⟩) (by have := HDD.out; simp only; omega) (.int .i64 4))
                go_wp2_with fail
                go_quiet (fail)
                go_wp2_with fail
                go_ret2
                exact .inr ⟨4, HP.out, by decide, rfl, below_drewN _ HBN.out⟩
              have HP : RowKit.Hid (inBytes L = .ok ⟨ss, cs, fs⟩ []) := Lib.hid (by rw [HIN.out, HOK.out]; simp only [PR.bind]; rw [if_pos (by rw [List.length_drop, HLEN.out]; omega)])
              have hdn : decide ((pp3 : Int) < (n : Int)) = false := decide_eq_false (by omega)
              have HWI : RowKit.Hid (WinAt x3 (d + 1) 0 [.slice sa sn sc, .slice ca cn cc, .slice fa fn fc]) := Lib.hid ⟨_, _, HBD3.out.e, fun j hj => by match j, hj with | 0, _ => rfl | 1, _ => rfl | 2, _ => rfl⟩
              have HPO : RowKit.Hid (ProgO x3 (From w.heap.size) [.slice sa sn sc, .slice ca cn cc, .slice fa fn fc] ⟨ss, cs, fs⟩) := Lib.hid ⟨_, _, _, rfl, HPs.out.wider SigO.holds (fun b _ hs => by have := HPSs.out b hs; have := HDD.out; show w.heap.size ≤ b; omega), HPc.out.wider ClassO.holds (fun b _ hs => by have := HPSc.out b hs; have := HDD.out; show w.heap.size ≤ b; omega), HPf.out.wider FuncO.holds (fun b _ hs => by have := HPSf.out b hs; have := HDD.out; show w.heap.size ≤ b; omega)⟩
              have HDW : RowKit.Hid (w.heap.size ≤ d + 1) := Lib.hid (by have := HDD.out; omega)
              have hnl : ¬ ((pp3 : Int) < (n : Int)) := by omega
              clear hend
              go_wp2_with fail
              go_ret2
              exact .inl ⟨⟨ss, cs, fs⟩, d + 1, _, _, _, HP.out, rfl, HDW.out, HWI.out, HPO.out, HBE.out⟩
end Go.Proofs.YtdmlogpaenbblaaDoor
