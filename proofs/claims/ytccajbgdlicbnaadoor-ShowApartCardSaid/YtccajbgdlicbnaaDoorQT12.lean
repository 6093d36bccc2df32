/- Layer 6, P6.4: which programs the statement ShowApart looks at: up, types and kinds, walked. -/
import Derived.Test.YtccajbgdlicbnaaDoorQCodeSs
import Derived.Test.YtccajbgdlicbnaaDoorQCodeVe
import Derived.Test.YtccajbgdlicbnaaDoorQT10
import Derived.Test.YtccajbgdlicbnaaDoorQT8
import Derived.Deep.QuietTactic
import Derived.BigQuiet
namespace Go.Proofs.YtccajbgdlicbnaaDoor
open Go.RowKit (wrap64 intOf Below)
set_option linter.unusedVariables false
set_option linter.unusedSimpArgs false

/-- It says yes only where R holds. -/
def YesPost (R : Prop) (w : World) (e : Ending) (w' : World) : Prop := ∃ b : Bool, e = .returned (.bool b) ∧ (b = true → R) ∧ Below w.heap.size w w'
def AllUp (Z : List Int) : Prop := ∀ z ∈ Z, From1 z
def upB (Z : List Int) : Bool := Z.all fun z => decide (-1 ≤ z)
theorem upB_yes {Z : List Int} (h : upB Z = true) : AllUp Z := fun z hz => by
  have := List.all_eq_true.1 h z hz
  unfold From1
  simpa using this
theorem upB_no {Z : List Int} {i : Nat} (h : i < Z.length) (hz : Z[i] < -1) : upB Z = false := by
  cases hu : upB Z with
  | false => rfl
  | true => have := upB_yes hu Z[i] (List.getElem_mem h); unfold From1 at this; omega
theorem upB_all {Z : List Int} (h : AllUp Z) : upB Z = true := List.all_eq_true.2 fun z hz => by have := h z hz; unfold From1 at this; simpa using this

set_option maxRecDepth 100000 in
theorem up_any (a : Option Addr) (n c : Nat) (Z : List Int) (w : World) (hat : NumsAt w a n Z) (hn : n ≤ 140737488355328) :
    Calls Tryd.prog 49 #[.slice a n c] w fun e w' => e = .returned (.bool (upB Z)) ∧ w = w' := by
  have HL := Lib.hid hat.1
  have HA := Lib.hid hat
  clear hat
  go_enter Tryd.func49, Tryd.ntmps49
  go_wp2_with fail
  go_loop [3] (fun iv => ∃ i : Nat, i ≤ n ∧ RowKit.Hid (AllUp (Z.take i)) ∧ iv = .int .i64 (i : Int)) (fun iv => n - (intOf iv).toNat)
  case atStart => exact ⟨0, Nat.zero_le _, Lib.hid (fun z hz => by simp at hz), rfl⟩
  case round =>
    obtain ⟨i, hi, HU, rfl⟩ := hrel
    by_cases hlt : i < n
    · have hi1 : i < Z.length := by rw [HL.out]; exact hlt
      obtain ⟨g, off, rfl, hg, hc⟩ := HA.out.2 (by omega)
      have hcell := hc i (by omega)
      obtain ⟨z, hz⟩ : ∃ z, z = Z[i] := ⟨_, rfl⟩
      rw [← hz] at hcell
      unfold numV at hcell
      have HZ := Lib.hid hz
      clear hc hz
      by_cases hlo : z < -1
      · have HN : RowKit.Hid (upB Z = false) := Lib.hid (upB_no hi1 (by rw [← HZ.out]; exact hlo))
        go_wp2_with fail
        go_ret
        exact ⟨by rw [HN.out]; rfl, rfl⟩
      · have hlo' : -1 ≤ z := by omega
        go_wp2_with fail
        go_round
        case rel => exact ⟨i + 1, by omega, Lib.hid (all_take hi1 HU.out (by rw [← HZ.out]; exact hlo')), by go_num⟩
        case measure => simp [intOf]; omega
    · obtain rfl : i = n := by omega
      have HN : RowKit.Hid (upB Z = true) := Lib.hid (upB_all (by have := HU.out; rwa [List.take_of_length_le (by rw [HL.out]; exact Nat.le_refl _)] at this))
      go_wp2_with fail
      go_ret
      exact ⟨by rw [HN.out]; rfl, rfl⟩

def UpSig (y : SigD) : Prop := AllUp y.params ∧ From1 y.ret
def UpCls (y : ClassD) : Prop := AllUp y.fields
set_option maxRecDepth 100000 in
set_option maxHeartbeats 4000000 in
theorem types_up (g off : Nat) (sa : Option Addr) (sn sc : Nat) (ca : Option Addr) (cn cc : Nat) (P : ProgD) (w : World) (hg : g < w.heap.size)
    (hc0 : w.cell? ⟨g, off, none⟩ = some (.slice sa sn sc)) (hc1 : w.cell? ⟨g, off + 1, none⟩ = some (.slice ca cn cc))
    (hS : RowV SigQ 2 w (.slice sa sn sc) P.sigs) (hC : RowV ClassQ 2 w (.slice ca cn cc) P.classes) :
    Calls Tryd.prog 27 #[.pointer (some ⟨g, off, none⟩)] w (YesPost ((∀ y ∈ P.sigs, UpSig y) ∧ ∀ y ∈ P.classes, UpCls y) w) := by
  obtain ⟨hsl, hsm⟩ := rowV_len' hS
  obtain ⟨hcl, hcm⟩ := rowV_len' hC
  have HS := Lib.hid hS
  have HC := Lib.hid hC
  have HSL := Lib.hid hsl
  have HCL := Lib.hid hcl
  clear hS hC hsl hcl
  go_enter Tryd.func27, Tryd.ntmps27
  go_wp2_with fail
  go_loopw [3] (fun iv wr => ∃ i : Nat, i ≤ sn ∧ RowKit.Hid (∀ y ∈ P.sigs.take i, UpSig y) ∧ iv = .int .i64 (i : Int) ∧ ∃ q, wr = w.drewN q) (fun iv _ => sn - (intOf iv).toNat)
  case atStart => exact ⟨0, Nat.zero_le _, Lib.hid (fun z hz => by simp at hz), rfl, 0, rfl⟩
  case round =>
    obtain ⟨i, hi, HU, rfl, q, rfl⟩ := hrel
    by_cases hlt : i < sn
    · have hi1 : i < P.sigs.length := by rw [HSL.out]; exact hlt
      obtain ⟨g1, o1, rfl, hg1, hcs1⟩ := rowV_at HS.out (by omega)
      obtain ⟨cs1, hc21, hcell1, hq1⟩ := hcs1 i hi1
      obtain ⟨y, hy⟩ : ∃ y, y = P.sigs[i] := ⟨_, rfl⟩
      rw [← hy] at hq1
      obtain ⟨v1, rfl, ⟨pa, pn, pc, rfl, hpat, _, hpm, hpr⟩, hret⟩ := hq1
      have hd0 := hcell1 0 (by simp)
      have hd1 := hcell1 1 (by simp)
      simp only [Nat.add_zero, List.getElem_cons_zero, List.getElem_cons_succ] at hd0 hd1
      have HY := Lib.hid hy
      have HPA : RowKit.Hid (∀ q, Calls Tryd.prog 49 #[.slice pa pn pc] (w.drewN q) fun e w' => e = .returned (.bool (upB y.params)) ∧ w.drewN q = w') := Lib.hid fun q => up_any pa pn pc y.params _ (hpat.since (below_drewN _ (Below.refl _ _))) (by omega)
      clear hcell1 hcs1 hpat hpr hy hc21
      by_cases hlo : y.ret < -1
      · have hdt : decide (y.ret < -1) = true := by simpa using hlo
        go_wp2_with fail
        go_ret
        exact ⟨_, rfl, fun h => absurd h (by decide), below_drewN _ (Below.refl _ _)⟩
      · have hlo' : -1 ≤ y.ret := by omega
        have hdf : decide (y.ret < -1) = false := by simpa using hlo'
        obtain ⟨b, hub⟩ : ∃ b, b = upB y.params := ⟨_, rfl⟩
        rw [← hub] at HPA
        have HUB := Lib.hid hub
        clear hub
        cases b
        · go_wp2_with (go_at_call 49; refine (HPA.out _).mono ?_; rintro e w' ⟨rfl, rfl⟩)
          go_ret
          exact ⟨_, rfl, fun h => absurd h (by decide), below_drewN _ (Below.refl _ _)⟩
        · go_wp2_with (go_at_call 49; refine (HPA.out _).mono ?_; rintro e w' ⟨rfl, rfl⟩)
          go_roundw
          case rel => exact ⟨i + 1, by omega, Lib.hid (all_take hi1 HU.out (by rw [← HY.out]; exact ⟨upB_yes HUB.out.symm, hlo'⟩)), by go_num, _, rfl⟩
          case measure => simp [intOf]; omega
    · obtain rfl : i = sn := by omega
      have HU2 : RowKit.Hid (∀ y ∈ P.sigs, UpSig y) := Lib.hid (by have := HU.out; rwa [List.take_of_length_le (by rw [HSL.out]; exact Nat.le_refl _)] at this)
      clear HU
      go_wp2_with fail
      go_loopw [4] (fun iv wr => ∃ i : Nat, i ≤ cn ∧ RowKit.Hid (∀ y ∈ P.classes.take i, UpCls y) ∧ iv = .int .i64 (i : Int) ∧ ∃ q, wr = w.drewN q) (fun iv _ => cn - (intOf iv).toNat)
      case atStart => exact ⟨0, Nat.zero_le _, Lib.hid (fun z hz => by simp at hz), rfl, _, rfl⟩
      case round =>
        obtain ⟨j, hj, HU, rfl, q2, rfl⟩ := hrel
        by_cases hlt2 : j < cn
        · have hi1 : j < P.classes.length := by rw [HCL.out]; exact hlt2
          obtain ⟨g1, o1, rfl, hg1, hcs1⟩ := rowV_at HC.out (by omega)
          obtain ⟨cs1, hc21, hcell1, hq1⟩ := hcs1 j hi1
          obtain ⟨y, hy⟩ : ∃ y, y = P.classes[j] := ⟨_, rfl⟩
          rw [← hy] at hq1
          obtain ⟨v1, v2, rfl, ⟨pa, pn, pc, rfl, hpat, _, hpm, hpr⟩, _⟩ := hq1
          have hd0 := hcell1 0 (by simp)
          simp only [Nat.add_zero, List.getElem_cons_zero, List.getElem_cons_succ] at hd0
          have HY := Lib.hid hy
          have HPA : RowKit.Hid (∀ q, Calls Tryd.prog 49 #[.slice pa pn pc] (w.drewN q) fun e w' => e = .returned (.bool (upB y.fields)) ∧ w.drewN q = w') := Lib.hid fun q => up_any pa pn pc y.fields _ (hpat.since (below_drewN _ (Below.refl _ _))) (by omega)
          clear hcell1 hcs1 hpat hpr hy hc21
          obtain ⟨b, hub⟩ : ∃ b, b = upB y.fields := ⟨_, rfl⟩
          rw [← hub] at HPA
          have HUB := Lib.hid hub
          clear hub
          cases b
          · go_wp2_with (go_at_call 49; refine (HPA.out _).mono ?_; rintro e w' ⟨rfl, rfl⟩)
            go_ret
            exact ⟨_, rfl, fun h => absurd h (by decide), below_drewN _ (Below.refl _ _)⟩
          · go_wp2_with (go_at_call 49; refine (HPA.out _).mono ?_; rintro e w' ⟨rfl, rfl⟩)
            go_roundw
            case rel => exact ⟨j + 1, by omega, Lib.hid (all_take hi1 HU.out (by rw [← HY.out]; exact upB_yes HUB.out.symm)), by go_num, _, rfl⟩
            case measure => simp [intOf]; omega
        · obtain rfl : j = cn := by omega
          go_wp2_with fail
          go_ret
          exact ⟨_, rfl, fun _ => ⟨HU2.out, by have := HU.out; rwa [List.take_of_length_le (by rw [HCL.out]; exact Nat.le_refl _)] at this⟩, below_drewN _ (Below.refl _ _)⟩

/-! ## kinds -/
def SignB (o : OpD) : Prop := o.K = 3 → 0 ≤ o.N ∧ o.N ≤ 13
def UpBlock (b : BlockD) : Prop := AllUp b.params ∧ ∀ o ∈ b.ops, SignB o
def UpFunc (f : FuncD) : Prop := From1 f.ret ∧ ∀ b ∈ f.blocks, UpBlock b
theorem enc_some {P : ProgD} {w w' : World} {e : Ending} (h : EncPost (outBytes (encProg P)) w e w') : ∃ v y, e = .returned (.tuple #[v, .int .i64 y]) ∧ (y = 0 → ∃ l, encProg P = .ok l) ∧ Below w.heap.size w w' := by
  rcases h with ⟨l, va, vn, vc, ho, rfl, _, hb⟩ | ⟨er, ho, rfl, hb⟩
  · refine ⟨_, _, rfl, fun _ => ?_, hb⟩
    rcases out_or (encProg P) with ⟨m, hm⟩ | ⟨er, hm⟩
    · exact ⟨m, hm⟩
    · rw [hm] at ho; cases ho
  · exact ⟨_, _, rfl, fun h0 => absurd h0 (out_nz P _ ho), hb⟩
theorem all_ok {α : Type} {f : α → Out} : ∀ {xs : List α} {l : List UInt8}, encAll f xs = .ok l → ∀ x ∈ xs, ∃ m, f x = .ok m
  | [], _, _, x, hx => by cases hx
  | y :: xs, l, h, x, hx => by
    simp only [encAll] at h
    obtain ⟨a, b, h1, h2, _⟩ := ok_and h
    rcases List.mem_cons.1 hx with rfl | hx
    · exact ⟨_, h1⟩
    · exact all_ok h2 x hx
theorem list_ok {α : Type} {f : α → Out} {most : Nat} {xs : List α} {l : List UInt8} (h : encList most f xs = .ok l) : ∀ x ∈ xs, ∃ m, f x = .ok m := by
  unfold encList at h
  obtain ⟨a, b, h1, h2, _⟩ := ok_and h
  exact all_ok h2
theorem below_ok {n b : Int} {l : List UInt8} (h : outBelow n b = .ok l) : 0 ≤ n ∧ n < b := by
  unfold outBelow at h
  obtain ⟨a, c, h1, h2, _⟩ := ok_and h
  have := (ok_chk h2).1
  unfold inB at this
  simpa using this
theorem ok_prog {P : ProgD} {l : List UInt8} (he : encProg P = .ok l) (hs : ∀ y ∈ P.sigs, UpSig y) (hc : ∀ y ∈ P.classes, UpCls y) (hf : ∀ f ∈ P.funcs, UpFunc f) : OkProg P := by
  unfold encProg at he
  obtain ⟨a, b, h1, h2, _⟩ := ok_and he
  obtain ⟨c, d, h3, h4, _⟩ := ok_and h2
  refine ⟨fun s hx => ⟨(hs s hx).1, (hs s hx).2⟩, fun s hx => hc s hx, fun f hx => ⟨(hf f hx).1, fun bl hb => ?_⟩⟩
  obtain ⟨m, hm⟩ := list_ok h4 f hx
  unfold encFunc at hm
  obtain ⟨e, g, h5, h6, _⟩ := ok_and hm
  obtain ⟨m2, hm2⟩ := list_ok h6 bl hb
  unfold encBlock at hm2
  obtain ⟨e2, g2, h7, h8, _⟩ := ok_and hm2
  obtain ⟨e3, g3, h9, h10, _⟩ := ok_and h8
  have hu := (hf f hx).2 bl hb
  refine ⟨hu.1, fun o ho => ?_, ?_⟩
  · obtain ⟨m4, hm4⟩ := list_ok h9 o ho
    unfold encOp at hm4
    obtain ⟨e5, g5, h11, h12, _⟩ := ok_and hm4
    have := below_ok h11
    exact ⟨this.1, this.2, hu.2 o ho⟩
  · unfold encEnd at h10
    obtain ⟨e5, g5, h11, h12, _⟩ := ok_and h10
    have := below_ok h11
    exact ⟨this.1, this.2⟩
theorem upfunc_of {f : FuncD} (h1 : From1 f.ret) (h2 : ∀ b ∈ f.blocks, UpBlock b) : UpFunc f := ⟨h1, h2⟩
set_option maxRecDepth 100000 in
set_option maxHeartbeats 16000000 in
theorem kinds_any (g off : Nat) (sa : Option Addr) (sn sc : Nat) (ca : Option Addr) (cn cc : Nat) (fa : Option Addr) (fn fc : Nat) (P : ProgD) (w : World) (hg : g < w.heap.size)
    (hc0 : w.cell? ⟨g, off, none⟩ = some (.slice sa sn sc)) (hc1 : w.cell? ⟨g, off + 1, none⟩ = some (.slice ca cn cc)) (hc2 : w.cell? ⟨g, off + 2, none⟩ = some (.slice fa fn fc))
    (hP : ProgQ w [.slice sa sn sc, .slice ca cn cc, .slice fa fn fc] P) :
    Calls Tryd.prog 11 #[.pointer (some ⟨g, off, none⟩)] w (YesPost (OkProg P) w) := by
  have CE := Lib.hid (ref_encode g off sa sn sc ca cn cc fa fn fc P w hg hc0 hc1 hc2 hP)
  obtain ⟨_, _, _, he, hS, hC, hF⟩ := hP
  simp only [List.cons.injEq, and_true] at he
  obtain ⟨rfl, rfl, rfl⟩ := he
  obtain ⟨hfl, hfm⟩ := rowV_len' hF
  have HF := Lib.hid hF
  have HFL := Lib.hid hfl
  have CT : RowKit.Hid (∀ u, Below w.heap.size w u → Calls Tryd.prog 27 #[.pointer (some ⟨g, off, none⟩)] u (YesPost ((∀ y ∈ P.sigs, UpSig y) ∧ ∀ y ∈ P.classes, UpCls y) u)) := Lib.hid fun u hb =>
    types_up g off sa sn sc ca cn cc P u (Nat.lt_of_lt_of_le hg hb.size) ((hb.cell (p := ⟨g, off, none⟩) hg).trans hc0) ((hb.cell (p := ⟨g, off + 1, none⟩) hg).trans hc1) (hS.since SigQ.lasts hb) (hC.since ClassQ.lasts hb)
  clear hS hC hF hfl hc0 hc1
  go_enter Tryd.func11, Tryd.ntmps11
  go_wp2_with fail
  refine CE.out.mono ?_
  intro e w1 he
  obtain ⟨v1, y1, rfl, hy1, hb1⟩ := enc_some he
  have HY1 := Lib.hid hy1
  have HB1 := Lib.hid hb1
  clear he hy1 hb1
  go_wp2_with fail
  go_loopw [5] (fun iv wr => ∃ i : Nat, i ≤ fn ∧ iv = .int .i64 (i : Int) ∧ RowKit.Hid ((∀ f ∈ P.funcs.take i, UpFunc f) ∧ Below w.heap.size w wr)) (fun iv _ => fn - (intOf iv).toNat)
  case atStart => exact ⟨0, Nat.zero_le _, rfl, Lib.hid ⟨fun z hz => by simp at hz, HB1.out⟩⟩
  case round =>
    obtain ⟨i, hi, rfl, HI⟩ := hrel
    have hb2 := (HI.out.2.cell (p := ⟨g, off + 2, none⟩) hg).trans hc2
    by_cases hlt : i < fn
    · obtain ⟨g1, o1, rfl, hg1, hcs1⟩ := rowV_at (HF.out.since FuncQ.lasts HI.out.2) (by omega)
      have hi1 : i < P.funcs.length := by rw [HFL.out]; exact hlt
      obtain ⟨cs1, hc21, hcell1, hq1⟩ := hcs1 i hi1
      obtain ⟨X, hX⟩ : ∃ X, X = P.funcs[i] := ⟨_, rfl⟩
      rw [← hX] at hq1
      obtain ⟨v2, rfl, _, hrow⟩ := hq1
      obtain ⟨ba, bn, bc, rfl, hbl, _⟩ := id hrow
      have hbm := (rowV_len' hrow).2
      have hd0 := hcell1 0 (by simp)
      have hd1 := hcell1 1 (by simp)
      simp only [Nat.add_zero, List.getElem_cons_zero, List.getElem_cons_succ] at hd0 hd1
      have HR := Lib.hid hrow
      have HX := Lib.hid hX
      have HBL := Lib.hid hbl
      clear hcell1 hcs1 hrow hX hbl hc21
      by_cases hret : X.ret < -1
      · go_wp2_with fail
        go_ret
        exact ⟨_, rfl, fun h => absurd h (by decide), HI.out.2⟩
      · have hret' : -1 ≤ X.ret := by omega
        go_wp2_with fail
        obtain ⟨w3, rfl⟩ : ∃ u, u = wr := ⟨wr, rfl⟩
        go_loopw [6] (fun kv wk => ∃ k : Nat, k ≤ bn ∧ kv = .int .i64 (k : Int) ∧ RowKit.Hid ((∀ b ∈ X.blocks.take k, UpBlock b) ∧ Below w3.heap.size w3 wk)) (fun kv _ => bn - (intOf kv).toNat)
        case atStart => exact ⟨0, Nat.zero_le _, rfl, Lib.hid ⟨fun z hz => by simp at hz, Below.refl _ _⟩⟩
        case round =>
          obtain ⟨k, hk, rfl, HK⟩ := hrel
          have hw0 : g < w3.heap.size := Nat.lt_of_lt_of_le hg HI.out.2.size
          have hf2 := (HK.out.2.cell (p := ⟨g, off + 2, none⟩) hw0).trans hb2
          have hfd := (HK.out.2.cell (p := ⟨g1, o1 + i * 2 + 1, none⟩) hg1).trans hd1
          by_cases hlk : k < bn
          · obtain ⟨g2, o2, rfl, hg2, hcs2⟩ := rowV_at (HR.out.since BlockQ.lasts HK.out.2) (by omega)
            have hk1 : k < X.blocks.length := by rw [HBL.out]; exact hlk
            obtain ⟨cs2, hc82, hcell2, hbq2⟩ := hcs2 k hk1
            obtain ⟨Y, hY⟩ : ∃ Y, Y = X.blocks[k] := ⟨_, rfl⟩
            rw [← hY] at hbq2
            obtain ⟨pa, pn, pc, oa, on, oc, la, ln, lc, ma, mn, mc, rfl, hon⟩ := hbq2.form
            have hpm := hbq2.params.2
            have hom := (rowV_len' hbq2.ops).2
            have hd10 := hcell2 0 (by simp)
            have hd11 := hcell2 1 (by simp)
            have hd12 := hcell2 2 (by simp)
            have hd13 := hcell2 3 (by simp)
            have hd14 := hcell2 4 (by simp)
            have hd15 := hcell2 5 (by simp)
            have hd16 := hcell2 6 (by simp)
            have hd17 := hcell2 7 (by simp)
            simp only [Nat.add_zero, List.getElem_cons_zero, List.getElem_cons_succ] at hd10 hd11 hd12 hd13 hd14 hd15 hd16 hd17
            have HPY := Lib.hid hbq2.params.1
            have HOY := Lib.hid hbq2.ops
            have HYL := Lib.hid hon
            have HY := Lib.hid hY
            clear hcell2 hcs2 hbq2 hY hon hc82
            go_wp2_with fail
            have hal : Below wr.heap.size wr (wr.alloc (.cells #[.slice pa pn pc, .slice oa on oc, .int .i64 Y.fin.K, .int .i64 Y.fin.A, .int .i64 Y.fin.To, .int .i64 Y.fin.Else, .slice la ln lc, .slice ma mn mc] 48)) := (Below.refl _ _).alloc (Nat.le_refl _) _
            have hblk := heap_alloc_new wr (.cells #[.slice pa pn pc, .slice oa on oc, .int .i64 Y.fin.K, .int .i64 Y.fin.A, .int .i64 Y.fin.To, .int .i64 Y.fin.Else, .slice la ln lc, .slice ma mn mc] 48)
            obtain ⟨w4, rfl⟩ : ∃ u, u = wr := ⟨wr, rfl⟩
            generalize (w4.alloc (.cells #[.slice pa pn pc, .slice oa on oc, .int .i64 Y.fin.K, .int .i64 Y.fin.A, .int .i64 Y.fin.To, .int .i64 Y.fin.Else, .slice la ln lc, .slice ma mn mc] 48)) = wy at hal hblk ⊢
            have hby0 : wy.cell? ⟨w4.heap.size, 0, none⟩ = some (.slice pa pn pc) := by simp [World.cell?, hblk]
            have hby1 : wy.cell? ⟨w4.heap.size, 1, none⟩ = some (.slice oa on oc) := by simp [World.cell?, hblk]
            have hby : w4.heap.size < wy.heap.size := (Array.getElem?_eq_some_iff.1 hblk).1
            have HBY := Lib.hid hal
            have HPZ := Lib.hid (HPY.out.since HBY.out)
            have HPL := Lib.hid HPY.out.1
            clear hal hblk hd10 hd11 hd12 hd13 hd14 hd15 hd16 hd17
            go_loopw [8] (fun jv wj => ∃ j : Nat, j ≤ pn ∧ jv = .int .i64 (j : Int) ∧ RowKit.Hid (AllUp (Y.params.take j)) ∧ ∃ q, wj = wy.drewN q) (fun jv _ => pn - (intOf jv).toNat)
            case atStart => exact ⟨0, Nat.zero_le _, rfl, Lib.hid (fun z hz => by simp at hz), 0, rfl⟩
            case round =>
              obtain ⟨j, hj, rfl, HJ, q, rfl⟩ := hrel
              by_cases hlj : j < pn
              · have hj1 : j < Y.params.length := by rw [HPL.out]; exact hlj
                obtain ⟨g3, o3, rfl, hg3, hc3⟩ := HPZ.out.2 (by omega)
                have hcell := hc3 j (by omega)
                obtain ⟨z, hz⟩ : ∃ z, z = Y.params[j] := ⟨_, rfl⟩
                rw [← hz] at hcell
                unfold numV at hcell
                have HZ := Lib.hid hz
                clear hc3 hz
                by_cases hlo : z < -1
                · go_wp2_with fail
                  go_ret
                  exact ⟨_, rfl, fun h => absurd h (by decide), below_drewN _ (keepB HI.out.2 (keepB HK.out.2 HBY.out))⟩
                · have hlo' : -1 ≤ z := by omega
                  go_wp2_with fail
                  go_roundw
                  case rel => exact ⟨j + 1, by omega, by go_num, Lib.hid (all_take hj1 HJ.out (by rw [← HZ.out]; exact hlo')), _, rfl⟩
                  case measure => simp [intOf]; omega
              · obtain rfl : j = pn := by omega
                have HPU : RowKit.Hid (AllUp Y.params) := Lib.hid (by have := HJ.out; rwa [List.take_of_length_le (by rw [HPL.out]; exact Nat.le_refl _)] at this)
                clear HJ
                go_wp2_with fail
                go_loopw [9] (fun jv wj => ∃ m : Nat, m ≤ on ∧ jv = .int .i64 (m : Int) ∧ RowKit.Hid (∀ o ∈ Y.ops.take m, SignB o) ∧ ∃ q, wj = wy.drewN q) (fun jv _ => on - (intOf jv).toNat)
                case atStart => exact ⟨0, Nat.zero_le _, rfl, Lib.hid (fun z hz => by simp at hz), _, rfl⟩
                case round =>
                  obtain ⟨m, hm, rfl, HM, q2, rfl⟩ := hrel
                  by_cases hlm : m < on
                  · obtain ⟨g3, o3, rfl, hg3, hcs3⟩ := rowV_at (HOY.out.since OpQ.lasts HBY.out) (by omega)
                    have hj9 : m < Y.ops.length := by rw [HYL.out]; exact hlm
                    obtain ⟨cs3, hc83, hcell3, hoq3⟩ := hcs3 m hj9
                    obtain ⟨O, hO⟩ : ∃ O, O = Y.ops[m] := ⟨_, rfl⟩
                    rw [← hO] at hoq3
                    obtain ⟨l3, rfl, _⟩ := hoq3
                    have hm0 := hcell3 0 (by simp)
                    have hm4 := hcell3 4 (by simp)
                    simp only [Nat.add_zero, List.getElem_cons_zero, List.getElem_cons_succ] at hm0 hm4
                    have HO := Lib.hid hO
                    clear hcell3 hcs3 hO hc83
                    obtain ⟨OK, hOK⟩ : ∃ z, z = O.K := ⟨_, rfl⟩
                    obtain ⟨ON, hON⟩ : ∃ z, z = O.N := ⟨_, rfl⟩
                    rw [← hOK] at hm0
                    rw [← hON] at hm4
                    have HOK := Lib.hid hOK
                    have HON := Lib.hid hON
                    clear hOK hON
                    by_cases h3 : OK = 3
                    · have h3t : (OK == 3) = true := by rw [h3]; rfl
                      have H3 := Lib.hid h3
                      clear h3
                      by_cases hn0 : ON < 0
                      · have hn0t : decide (ON < 0) = true := by simpa using hn0
                        go_wp2_with fail
                        go_ret
                        exact ⟨_, rfl, fun h => absurd h (by decide), below_drewN _ (keepB HI.out.2 (keepB HK.out.2 HBY.out))⟩
                      · have hn0f : decide (ON < 0) = false := by simpa using hn0
                        by_cases hn1 : 13 < ON
                        · have hn1t : decide (13 < ON) = true := by simpa using hn1
                          go_wp2_with fail
                          go_ret
                          exact ⟨_, rfl, fun h => absurd h (by decide), below_drewN _ (keepB HI.out.2 (keepB HK.out.2 HBY.out))⟩
                        · have hn1f : decide (13 < ON) = false := by simpa using hn1
                          go_wp2_with fail
                          go_roundw
                          case rel => exact ⟨m + 1, by omega, by go_num, Lib.hid (all_take hj9 HM.out (by rw [← HO.out]; exact fun _ => by rw [← HON.out]; omega)), _, rfl⟩
                          case measure => simp [intOf]; omega
                    · have h3f : (OK == 3) = false := by simpa using h3
                      have H3 := Lib.hid h3
                      clear h3
                      go_wp2_with fail
                      go_roundw
                      case rel => exact ⟨m + 1, by omega, by go_num, Lib.hid (all_take hj9 HM.out (by rw [← HO.out]; exact fun h => absurd (HOK.out.trans h) H3.out)), _, rfl⟩
                      case measure => simp [intOf]; omega
                  · obtain rfl : m = on := by omega
                    go_wp2_with fail
                    go_roundw
                    case rel => exact ⟨k + 1, by omega, by go_num, Lib.hid ⟨all_take hk1 HK.out.1 (by rw [← HY.out]; exact ⟨HPU.out, by have := HM.out; rwa [List.take_of_length_le (by rw [HYL.out]; exact Nat.le_refl _)] at this⟩), below_drewN _ (keepB HK.out.2 HBY.out)⟩⟩
                    case measure => simp [intOf]; omega
          · obtain rfl : k = bn := by omega
            go_wp2_with fail
            go_roundw
            case rel => exact ⟨i + 1, by omega, by go_num, Lib.hid ⟨all_take hi1 HI.out.1 (by rw [← HX.out]; exact upfunc_of hret' (by have := HK.out.1; rwa [List.take_of_length_le (by rw [HBL.out]; exact Nat.le_refl _)] at this)), keepB HI.out.2 HK.out.2⟩⟩
            case measure => simp [intOf]; omega
    · obtain rfl : i = fn := by omega
      have HFU : RowKit.Hid (∀ f ∈ P.funcs, UpFunc f) := Lib.hid (by have := HI.out.1; rwa [List.take_of_length_le (by rw [HFL.out]; exact Nat.le_refl _)] at this)
      by_cases hy : y1 = 0
      · have hyt : (y1 == 0) = true := by rw [hy]; rfl
        have HOK := Lib.hid (HY1.out hy)
        clear hy
        go_wp2_with (go_at_call 27; refine (CT.out _ HI.out.2).mono ?_; rintro e w5 ⟨b5, rfl, hy5, hb5⟩)
        go_ret
        exact ⟨_, rfl, fun h => by obtain ⟨l, hl⟩ := HOK.out; have h5 := hy5 h; exact ok_prog hl h5.1 h5.2 HFU.out, keepB HI.out.2 hb5⟩
      · have hyf : (y1 == 0) = false := by simpa using hy
        clear hy
        go_wp2_with fail
        go_ret
        exact ⟨_, rfl, fun h => absurd h (by decide), HI.out.2⟩
end Go.Proofs.YtccajbgdlicbnaaDoor

/- Layer 6, P6.4: the statement ShowApart, walked: two programs have one text just if they are the same. -/
namespace Go.Proofs.YtccajbgdlicbnaaDoor
open Go.RowKit (wrap64 intOf Below)
set_option linter.unusedVariables false
set_option linter.unusedSimpArgs false

theorem CapsF.since2 {W u : World} {v : Value} {xs : List FuncD} (hr : RowV FuncQ 2 W v xs) (h : CapsF W v) (hb : Below W.heap.size W u) : CapsF u v := by
  intro g oo n c e i hi ba bn bc hcell
  obtain ⟨a, n', c', rfl, hl, _, _, hrow⟩ := hr
  cases e
  obtain ⟨g', off', e', hg, _⟩ := hrow (by omega)
  cases e'
  exact h g oo n c rfl i hi ba bn bc ((hb.cell (p := ⟨g, oo + i * 2 + 1, none⟩) hg).symm.trans hcell)
theorem ap_eq {a b : ByteArray} (h : a = b) : (a.toList == b.toList) = true := by rw [h]; simp
theorem ap_ne {a b : ByteArray} (h : a ≠ b) : (a.toList == b.toList) = false := by
  have := str_diff h
  simpa using this
/-- A program in a box of the call's own. -/
structure Boxed3 (w W : World) (X : Nat) (s c f : Value) (P : ProgD) : Prop where
  lt : X < W.heap.size
  bel : Below w.heap.size w W
  at_ : ∀ u, Below W.heap.size W u → ∀ j, u.cell? ⟨X, j, none⟩ = (#[s, c, f] : Array Value)[j]?
  q : ∀ u, Below W.heap.size W u → ProgQ u [s, c, f] P
  caps : ∀ u, Below W.heap.size W u → CapsF u f
theorem boxed3 {w W : World} {X : Nat} {s c f : Value} {P : ProgD} {T : TypeId} (hbx : W.heap[X]? = some (.cells #[s, c, f] T (0, 0))) (hb : Below w.heap.size w W) (hP : ProgQ w [s, c, f] P) (hcap : CapsF w f) : Boxed3 w W X s c f P := by
  have hlt : X < W.heap.size := (Array.getElem?_eq_some_iff.1 hbx).1
  have hF : RowV FuncQ 2 w f P.funcs := by
    obtain ⟨_, _, _, he, _, _, hf⟩ := hP
    simp only [List.cons.injEq, and_true] at he
    obtain ⟨rfl, rfl, rfl⟩ := he
    exact hf
  refine ⟨hlt, hb, fun u hu j => ?_, fun u hu => ProgQ.lasts _ _ _ _ (keepS hb hu) hP, fun u hu => CapsF.since2 hF hcap (keepS hb hu)⟩
  have : u.heap[X]? = _ := (hu.block X hlt).trans hbx
  simp [World.cell?, this]
section
variable {w W : World} {X : Nat} {sa ca fa : Option Addr} {sn sc cn cc fn fc : Nat} {P : ProgD}
theorem Boxed3.small (h : Boxed3 w W X (.slice sa sn sc) (.slice ca cn cc) (.slice fa fn fc) P) (u : World) (hu : Below W.heap.size W u) :
    Calls Tryd.prog 5 #[.pointer (some ⟨X, 0, none⟩), .int .i64 1500] u (SmallPost15 P u) :=
  ref_small15 X 0 sa sn sc ca cn cc fa fn fc P u (Nat.lt_of_lt_of_le h.lt hu.size) (h.at_ u hu 0) (h.at_ u hu 1) (h.at_ u hu 2) (h.q u hu)
theorem Boxed3.kinds (h : Boxed3 w W X (.slice sa sn sc) (.slice ca cn cc) (.slice fa fn fc) P) (u : World) (hu : Below W.heap.size W u) :
    Calls Tryd.prog 11 #[.pointer (some ⟨X, 0, none⟩)] u (YesPost (OkProg P) u) :=
  kinds_any X 0 sa sn sc ca cn cc fa fn fc P u (Nat.lt_of_lt_of_le h.lt hu.size) (h.at_ u hu 0) (h.at_ u hu 1) (h.at_ u hu 2) (h.q u hu)
theorem boxed3_prog (h : Boxed3 w W X (.slice sa sn sc) (.slice ca cn cc) (.slice fa fn fc) P) (hfit : FitProg P) (hT : Tabs w) (hN : TN w) (u : World) (hu : Below W.heap.size W u) :
    Calls Tryd.prog 7 #[.pointer (some ⟨X, 0, none⟩)] u fun e u' => e = .returned (.string (mk (progText P))) ∧ Below u.heap.size u u' :=
  prog_any X 0 _ _ _ P u (Nat.lt_of_lt_of_le h.lt hu.size) (h.at_ u hu 0) (h.at_ u hu 1) (h.at_ u hu 2) (h.q u hu) (h.caps u hu) hfit (hT.since (keepS h.bel hu)) (StrTab.since hN (keepS h.bel hu))
end
theorem iff_same {p q : Prop} {b : Bool} (h : b = true ↔ p) (hp : p) : b = true := h.2 hp
theorem iff_not {p : Prop} {b : Bool} (h : b = true ↔ p) (hp : ¬ p) : b = false := by
  cases b with
  | false => rfl
  | true => exact absurd (h.1 rfl) hp

set_option maxRecDepth 100000 in
set_option maxHeartbeats 8000000 in
theorem showapart_walk (sa : Option Addr) (sn sc : Nat) (ca : Option Addr) (cn cc : Nat) (fa : Option Addr) (fn fc : Nat) (P : ProgD) (sb : Option Addr) (tn tc : Nat) (cb : Option Addr) (dn dc : Nat) (fb : Option Addr) (gn gc : Nat) (Q : ProgD) (w : World) (hT : Tabs w ∧ TN w)
    (hP : ProgQ w [.slice sa sn sc, .slice ca cn cc, .slice fa fn fc] P) (hcapP : CapsF w (.slice fa fn fc)) (hQ : ProgQ w [.slice sb tn tc, .slice cb dn dc, .slice fb gn gc] Q) (hcapQ : CapsF w (.slice fb gn gc)) :
    Calls Tryd.prog 4 #[.agg #[.slice sa sn sc, .slice ca cn cc, .slice fa fn fc], .agg #[.slice sb tn tc, .slice cb dn dc, .slice fb gn gc]] w fun e w' => e = .returned (.bool true) ∧ Below w.heap.size w w' := by
  obtain ⟨X, hX⟩ : ∃ X, X = w.heap.size := ⟨_, rfl⟩
  obtain ⟨V, hV⟩ : ∃ V, V = w.alloc (.cells #[.slice sa sn sc, .slice ca cn cc, .slice fa fn fc] 26) := ⟨_, rfl⟩
  have hzV : V.heap.size = X + 1 := by rw [hV, hX]; simp
  obtain ⟨W, hW⟩ : ∃ W, W = V.alloc (.cells #[.slice sb tn tc, .slice cb dn dc, .slice fb gn gc] 26) := ⟨_, rfl⟩
  have hbV : Below w.heap.size w V := by rw [hV]; exact (Below.refl _ _).alloc (Nat.le_refl _) _
  have hbVW : Below V.heap.size V W := by rw [hW]; exact (Below.refl _ _).alloc (Nat.le_refl _) _
  have hb1 : W.heap[X]? = some (.cells #[.slice sa sn sc, .slice ca cn cc, .slice fa fn fc] 26 (0, 0)) := by
    rw [hbVW.block X (by omega), hV, hX]; exact heap_alloc_new w _
  have hb2 : W.heap[X + 1]? = some (.cells #[.slice sb tn tc, .slice cb dn dc, .slice fb gn gc] 26 (0, 0)) := by rw [hW, ← hzV]; exact heap_alloc_new V _
  have B1 := Lib.hid (boxed3 hb1 (keepS hbV hbVW) hP hcapP)
  have B2 := Lib.hid (boxed3 hb2 (keepS hbV hbVW) hQ hcapQ)
  have HB0 := Lib.hid (keepS hbV hbVW)
  have HT := Lib.hid hT.1
  have HN := Lib.hid hT.2
  have HIP := Lib.hid (in_prog hP)
  have HIQ := Lib.hid (in_prog hQ)
  have CS : RowKit.Hid (∀ u, Below W.heap.size W u → Calls Tryd.prog 12 #[.pointer (some ⟨X, 0, none⟩), .pointer (some ⟨X + 1, 0, none⟩)] u (TruthPost (plainProg P = plainProg Q) u)) := Lib.hid fun u hu =>
    ref_same X 0 (X + 1) 0 sa ca fa sb cb fb sn sc cn cc fn fc tn tc dn dc gn gc P Q u (Nat.lt_of_lt_of_le B1.out.lt hu.size) (Nat.lt_of_lt_of_le B2.out.lt hu.size) (B1.out.at_ u hu 0) (B1.out.at_ u hu 1) (B1.out.at_ u hu 2) (B2.out.at_ u hu 0) (B2.out.at_ u hu 1) (B2.out.at_ u hu 2) (B1.out.q u hu) (B2.out.q u hu)
  have HLV : RowKit.Hid (∀ u, Below W.heap.size W u → Calls Tryd.prog 6 #[] u fun e u' => e = .returned (.bool true) ∧ Below u.heap.size u u') := Lib.hid fun u hu => lives6 u (HT.out.since (keepS HB0.out hu))
  clear hb1 hb2 hbV hbVW hP hQ hcapP hcapQ hT
  go_enter Tryd.func4, Tryd.ntmps4
  go_upto_region 2 with fail
  rw [← hX, ← hV]
  try rw [hzV]
  rw [← hW]
  clear hW hV hX hzV
  go_wp2_with fail
  refine (B1.out.small W (Below.refl _ _)).mono ?_
  rintro e w1 ⟨b1, rfl, hs1, hb1⟩
  have HB1 := Lib.hid hb1
  clear hb1
  cases b1
  · clear hs1
    go_wp2_with fail
    refine (HLV.out w1 HB1.out).mono ?_
    rintro e w2 ⟨rfl, hb2⟩
    have HB2 := Lib.hid (keepS HB0.out (keepS HB1.out hb2))
    clear hb2
    go_wp2_with fail
    go_ret
    exact ⟨rfl, HB2.out⟩
  · have HS1 := Lib.hid (hs1 rfl)
    clear hs1
    go_wp2_with fail
    refine (B2.out.small w1 HB1.out).mono ?_
    rintro e w2 ⟨b2, rfl, hs2, hb2⟩
    have HB2 := Lib.hid (keepS HB1.out hb2)
    clear hb2
    cases b2
    · clear hs2
      go_wp2_with fail
      refine (HLV.out w2 HB2.out).mono ?_
      rintro e w3 ⟨rfl, hb3⟩
      have HB3 := Lib.hid (keepS HB0.out (keepS HB2.out hb3))
      clear hb3
      go_wp2_with fail
      go_ret
      exact ⟨rfl, HB3.out⟩
    · have HS2 := Lib.hid (hs2 rfl)
      clear hs2
      go_wp2_with fail
      refine (B1.out.kinds w2 HB2.out).mono ?_
      rintro e w3 ⟨b3, rfl, hk1, hb3⟩
      have HB3 := Lib.hid (keepS HB2.out hb3)
      clear hb3
      cases b3
      · clear hk1
        go_wp2_with fail
        refine (HLV.out w3 HB3.out).mono ?_
        rintro e w4 ⟨rfl, hb4⟩
        have HB4 := Lib.hid (keepS HB0.out (keepS HB3.out hb4))
        clear hb4
        go_wp2_with fail
        go_ret
        exact ⟨rfl, HB4.out⟩
      · have HK1 := Lib.hid (hk1 rfl)
        clear hk1
        go_wp2_with fail
        refine (B2.out.kinds w3 HB3.out).mono ?_
        rintro e w4 ⟨b4, rfl, hk2, hb4⟩
        have HB4 := Lib.hid (keepS HB3.out hb4)
        clear hb4
        cases b4
        · clear hk2
          go_wp2_with fail
          refine (HLV.out w4 HB4.out).mono ?_
          rintro e w5 ⟨rfl, hb5⟩
          have HB5 := Lib.hid (keepS HB0.out (keepS HB4.out hb5))
          clear hb5
          go_wp2_with fail
          go_ret
          exact ⟨rfl, HB5.out⟩
        · have HK2 := Lib.hid (hk2 rfl)
          clear hk2
          have CP := Lib.hid (boxed3_prog B1.out (fit_prog HIP.out HS1.out) HT.out HN.out)
          have CQ := Lib.hid (boxed3_prog B2.out (fit_prog HIQ.out HS2.out) HT.out HN.out)
          have HIF := Lib.hid (text_same HK1.out HK2.out)
          obtain ⟨t1, ht1⟩ : ∃ t, t = mk (progText P) := ⟨_, rfl⟩
          obtain ⟨t2, ht2⟩ : ∃ t, t = mk (progText Q) := ⟨_, rfl⟩
          rw [← ht1] at CP
          rw [← ht2] at CQ
          by_cases htx : progText P = progText Q
          · have htt : t2 = t1 := by rw [ht1, ht2, htx]
            rw [htt] at CQ
            have HPL := Lib.hid (HIF.out.1 htx)
            clear htt ht1 ht2 htx
            go_wp2_with fail
            refine (CP.out w4 HB4.out).mono ?_
            rintro e w5 ⟨rfl, hb5⟩
            have HB5 := Lib.hid (keepS HB4.out hb5)
            clear hb5
            go_wp2_with fail
            refine (CQ.out w5 HB5.out).mono ?_
            rintro e w6 ⟨rfl, hb6⟩
            have HB6 := Lib.hid (keepS HB5.out hb6)
            clear hb6
            go_wp2_with fail
            refine (CS.out w6 HB6.out).mono ?_
            rintro e w7 ⟨b7, rfl, hi7, hb7⟩
            have HB7 := Lib.hid (keepS HB6.out hb7)
            obtain rfl : b7 = true := iff_same (q := True) hi7 HPL.out
            clear hb7 hi7
            go_wp2_with fail
            refine (HLV.out w7 HB7.out).mono ?_
            rintro e w8 ⟨rfl, hb8⟩
            have HB8 := Lib.hid (keepS HB0.out (keepS HB7.out hb8))
            clear hb8
            go_wp2_with fail
            go_ret
            exact ⟨rfl, HB8.out⟩
          · have htt : t1 ≠ t2 := by rw [ht1, ht2]; exact fun h => htx (mk_inj h)
            have hne := ap_ne htt
            have HPL := Lib.hid (fun h => htx (HIF.out.2 h))
            clear htt ht1 ht2 htx
            go_wp2_with fail
            refine (CP.out w4 HB4.out).mono ?_
            rintro e w5 ⟨rfl, hb5⟩
            have HB5 := Lib.hid (keepS HB4.out hb5)
            clear hb5
            go_wp2_with fail
            refine (CQ.out w5 HB5.out).mono ?_
            rintro e w6 ⟨rfl, hb6⟩
            have HB6 := Lib.hid (keepS HB5.out hb6)
            clear hb6
            go_wp2_with fail
            refine (CS.out w6 HB6.out).mono ?_
            rintro e w7 ⟨b7, rfl, hi7, hb7⟩
            have HB7 := Lib.hid (keepS HB6.out hb7)
            obtain rfl : b7 = false := iff_not hi7 HPL.out
            clear hb7 hi7
            go_wp2_with fail
            refine (HLV.out w7 HB7.out).mono ?_
            rintro e w8 ⟨rfl, hb8⟩
            have HB8 := Lib.hid (keepS HB0.out (keepS HB7.out hb8))
            clear hb8
            go_wp2_with fail
            go_ret
            exact ⟨rfl, HB8.out⟩
end Go.Proofs.YtccajbgdlicbnaaDoor
