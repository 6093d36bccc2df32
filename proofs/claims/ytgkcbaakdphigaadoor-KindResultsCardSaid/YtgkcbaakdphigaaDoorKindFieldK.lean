/- Layer 4, P4.3: package kind's field and call, walked: what they read of a program. -/
import Derived.Test.YtgkcbaakdphigaaDoorKindAre
import Derived.Test.YtgkcbaakdphigaaDoorDeepAt
import Derived.Deep.RegionHeld3
namespace Go.Proofs.YtgkcbaakdphigaaDoor
open Go.RowKit (wrap64 intOf Below)
set_option linter.unusedVariables false

/-- A program at block g. -/
structure ProgAt (W : World) (g : Nat) (sa : Option Addr) (sn sc : Nat) (ca : Option Addr) (cn cc : Nat) (fa : Option Addr) (fn fc : Nat) (P : ProgD) : Prop where
  c0 : W.cell? ⟨g, 0, none⟩ = some (.slice sa sn sc)
  c1 : W.cell? ⟨g, 1, none⟩ = some (.slice ca cn cc)
  c2 : W.cell? ⟨g, 2, none⟩ = some (.slice fa fn fc)
  s : RowV SigQ 2 W (.slice sa sn sc) P.sigs
  c : RowV ClassQ 2 W (.slice ca cn cc) P.classes
  f : RowV FuncQ 2 W (.slice fa fn fc) P.funcs
theorem ProgAt.since {W W' : World} {g : Nat} {sa : Option Addr} {sn sc : Nat} {ca : Option Addr} {cn cc : Nat} {fa : Option Addr} {fn fc : Nat} {P : ProgD} (h : ProgAt W g sa sn sc ca cn cc fa fn fc P) (hb : Below W.heap.size W W') : ProgAt W' g sa sn sc ca cn cc fa fn fc P :=
  ⟨(hb.cell (p := ⟨g, 0, none⟩) (World.block_lt_of_cell? _ _ h.c0)).trans h.c0, (hb.cell (p := ⟨g, 1, none⟩) (World.block_lt_of_cell? _ _ h.c1)).trans h.c1, (hb.cell (p := ⟨g, 2, none⟩) (World.block_lt_of_cell? _ _ h.c2)).trans h.c2, h.s.since SigQ.lasts hb, h.c.since ClassQ.lasts hb, h.f.since FuncQ.lasts hb⟩
/-- The row's length and bound. -/
theorem RowV.len {α : Type} {Q : World → List Value → α → Prop} {k : Nat} {W : World} {a : Option Addr} {n c : Nat} {xs : List α} (h : RowV Q k W (.slice a n c) xs) : xs.length = n ∧ n ≤ 140737488351232 := by
  obtain ⟨a', n', c', e, hl, _, hm, _⟩ := h
  cases e
  exact ⟨hl, hm⟩
/-- An element of a row. -/
theorem RowV.elem {α : Type} {Q : World → List Value → α → Prop} {k : Nat} {W : World} {a : Option Addr} {n c : Nat} {xs : List α} (h : RowV Q k W (.slice a n c) xs) {i : Nat} (hi : i < n) :
    ∃ (g off : Nat) (cs : List Value) (hx : i < xs.length), a = some ⟨g, off, none⟩ ∧ cs.length = k ∧ (∀ j (hj : j < cs.length), W.cell? ⟨g, off + i * k + j, none⟩ = some cs[j]) ∧ Q W cs xs[i] := by
  obtain ⟨a', n', c', e, hl, _, hm, hc⟩ := h
  cases e
  obtain ⟨g, off, ea, _, hat⟩ := hc (by omega)
  obtain ⟨cs, h1, h2, h3⟩ := hat i (by omega)
  exact ⟨g, off, cs, by omega, ea, h1, h2, h3⟩

/-- The fields of a class. -/
def fieldsOf (P : ProgD) (k : Nat) : List Int := match P.classes[k]? with | some c => c.fields | none => []
/-- The type of the field n of what t points to. -/
def fieldS (P : ProgD) (t n : Int) : Int × Bool := if 6 ≤ t ∧ t - 6 < P.classes.length then (if 0 ≤ n ∧ n < (fieldsOf P (t - 6).toNat).length then (nth (fieldsOf P (t - 6).toNat) n.toNat, true) else (-1, false)) else (-1, false)
theorem field_any (g : Nat) {sa : Option Addr} {sn sc : Nat} {ca : Option Addr} {cn cc : Nat} {fa : Option Addr} {fn fc : Nat} {P : ProgD} (t n : Int) (w : World) (hP : ProgAt w g sa sn sc ca cn cc fa fn fc P) (ht : -9223372036854775808 ≤ t ∧ t ≤ 9223372036854775807) (hn : -9223372036854775808 ≤ n ∧ n ≤ 9223372036854775807) :
    Calls Tryd.prog 45 #[.pointer (some ⟨g, 0, none⟩), .int .i64 t, .int .i64 n] w fun e w' => e = .returned (.tuple #[.int .i64 (fieldS P t n).1, .bool (fieldS P t n).2]) ∧ w = w' := by
  have hlc := hP.c.len
  have HPT := Lib.hid (pointer_any g ca cn cc t w hP.c1 ht (by omega))
  by_cases h : 6 ≤ t ∧ t - 6 < cn
  · have HB := Lib.hid (show ptrB cn t = true from decide_eq_true h)
    obtain ⟨k, hk⟩ := Int.eq_ofNat_of_zero_le (show 0 ≤ t - 6 by omega)
    have hkn : k < cn := by omega
    obtain ⟨cg, co, cs, hx, rfl, hcl, hcs, f, m, rfl, ⟨a, fnn, fcc, rfl, hat, _, hfb, _⟩, _⟩ := hP.c.elem hkn
    have hc0 : w.cell? ⟨cg, co + k * 2, none⟩ = some (.slice a fnn fcc) := hcs 0 (by simp)
    have hfo : fieldsOf P k = (P.classes[k]).fields := by unfold fieldsOf; rw [List.getElem?_eq_getElem hx]
    obtain ⟨l, hl⟩ : ∃ l, (P.classes[k]).fields = l := ⟨_, rfl⟩
    rw [hl] at hat hfo
    have HNL := Lib.hid hat.1
    by_cases h2 : 0 ≤ n ∧ n < (fnn : Int)
    · obtain ⟨i, rfl⟩ := Int.eq_ofNat_of_zero_le h2.1
      have hi : i < fnn := by omega
      have HE : RowKit.Hid (fieldS P t (i : Int) = (nth l i, true)) := Lib.hid (by
        unfold fieldS
        rw [if_pos (by omega), hk, show ((k : Int)).toNat = k from rfl, hfo, if_pos (by have := hat.1; omega)]
        rfl)
      obtain ⟨fg, fo, rfl, _, hfc⟩ := hat.2 (by omega)
      have hci : w.cell? ⟨fg, fo + i, none⟩ = some (.int .i64 (nth l i)) := by have h3 := hfc i (by have := hat.1; omega); rw [nth_is (by have := hat.1; omega)]; exact h3
      have HI := Lib.hid (show inB (i : Int) (fnn : Int) = true from decide_eq_true h2)
      have ht2 : t = (k : Int) + 6 := by omega
      subst ht2
      have hP1 := hP.c1
      clear hcs hfc hat h2 h hk hl
      go_enter Tryd.func45, Tryd.ntmps45
      go_wp2_with (first | (go_at_call 46; (with_reducible refine (HPT.out).mono ?_); rintro e w' ⟨rfl, rfl⟩; rw [HB.out]) | (go_at_call 36; (with_reducible refine (among_any _ _ _).mono ?_); rintro e w' ⟨rfl, rfl⟩; rw [HI.out]))
      refine bodyPost_ret (v := .tuple #[.int .i64 (nth l i), .bool true]) (by simp [results, Tryd.results45, go_sem]) rfl ⟨by rw [HE.out], rfl⟩
    · have HE : RowKit.Hid (fieldS P t n = (-1, false)) := Lib.hid (by
        unfold fieldS
        rw [if_pos (by omega), hk, show ((k : Int)).toNat = k from rfl, hfo, if_neg (by have := hat.1; omega)])
      have HI := Lib.hid (show inB n (fnn : Int) = false from decide_eq_false h2)
      have ht2 : t = (k : Int) + 6 := by omega
      subst ht2
      have hP1 := hP.c1
      clear hcs hat h2 h hk hl
      go_enter Tryd.func45, Tryd.ntmps45
      go_wp2_with (first | (go_at_call 46; (with_reducible refine (HPT.out).mono ?_); rintro e w' ⟨rfl, rfl⟩; rw [HB.out]) | (go_at_call 36; (with_reducible refine (among_any _ _ _).mono ?_); rintro e w' ⟨rfl, rfl⟩; rw [HI.out]))
      refine bodyPost_ret (v := .tuple #[.int .i64 (-1), .bool false]) (by simp [results, Tryd.results45, go_sem]) rfl ⟨by rw [HE.out], rfl⟩
  · have HB := Lib.hid (show ptrB cn t = false from decide_eq_false h)
    have HE : RowKit.Hid (fieldS P t n = (-1, false)) := Lib.hid (by
      unfold fieldS
      rw [if_neg (by omega)])
    clear h hP
    go_enter Tryd.func45, Tryd.ntmps45
    go_wp2_with (go_at_call 46; (with_reducible refine (HPT.out).mono ?_); rintro e w' ⟨rfl, rfl⟩; rw [HB.out])
    refine bodyPost_ret (v := .tuple #[.int .i64 (-1), .bool false]) (by simp [results, Tryd.results45, go_sem]) rfl ⟨by rw [HE.out], rfl⟩

/-- The first block's parameters. -/
def paramsOf (F : FuncD) : List Int := match F.blocks with | b :: _ => b.params | [] => []
/-- What a call of a function comes to. -/
def callS (F : FuncD) (ts L : List Int) : Int × Bool := if F.blocks.length = 0 then (-1, false) else (F.ret, matchB ts L (paramsOf F))
set_option maxRecDepth 100000 in
theorem call_any (ba : Option Addr) (bn bc : Nat) (F : FuncD) (K A B C N : Int) (S : ByteArray) (la : Option Addr) (ln lc : Nat) (T : Bool) (L : List Int) (ta : Option Addr) (tn tc : Nat) (ts : List Int) (w : World)
    (hF : RowV BlockQ 8 w (.slice ba bn bc) F.blocks) (hat : NumsAt w la ln L) (hln : ln ≤ 17592186044000) (ht : NumsAt w ta tn ts) (htn : tn ≤ 140737488355328) (ham : Among L tn) :
    Calls Tryd.prog 47 #[.agg #[.int .i64 F.ret, .slice ba bn bc], .agg #[.int .i64 K, .int .i64 A, .int .i64 B, .int .i64 C, .int .i64 N, .string S, .slice la ln lc, .bool T], .slice ta tn tc] w
      fun e w' => e = .returned (.tuple #[.int .i64 (callS F ts L).1, .bool (callS F ts L).2]) ∧ Below w.heap.size w w' := by
  have hl := hF.len
  by_cases h0 : bn = 0
  · subst h0
    have HE : RowKit.Hid (callS F ts L = (-1, false)) := Lib.hid (by unfold callS; rw [if_pos hl.1])
    clear hF hat ht ham
    go_enter Tryd.func47, Tryd.ntmps47
    go_wp2_with fail
    refine bodyPost_ret (v := .tuple #[.int .i64 (-1), .bool false]) (by simp [results, Tryd.results47, go_sem]) rfl ⟨by rw [HE.out], ((Below.refl _ w).alloc (Nat.le_refl _) _).alloc (by simp) _⟩
  · obtain ⟨bg, bo, cs, hx, rfl, hcl, hcs, p, o, es, rfl, ⟨pa, pn, pc, rfl, hpat, _, hpb, _⟩, _⟩ := hF.elem (i := 0) (by omega)
    have hc0 : w.cell? ⟨bg, bo, none⟩ = some (.slice pa pn pc) := by have := hcs 0 (by simp); rw [Nat.zero_mul] at this; exact this
    have HE : RowKit.Hid (callS F ts L = (F.ret, matchB ts L F.blocks[0].params)) := Lib.hid (by
      unfold callS paramsOf
      rw [if_neg (by omega)]
      clear hcs hpat
      revert hx
      cases F.blocks with
      | nil => intro hx; exact absurd hx (by simp)
      | cons b r => intros; rfl)
    obtain ⟨ps, hps⟩ : ∃ ps, F.blocks[0].params = ps := ⟨_, rfl⟩
    rw [hps] at hpat HE
    have HB2 : RowKit.Hid (∀ C0 C1 t0 t1, Below w.heap.size w ((w.alloc (.cells C0 t0)).alloc (.cells C1 t1)).drew) := Lib.hid (fun _ _ _ _ => (((Below.refl w.heap.size w).alloc (Nat.le_refl _) _).alloc (by simp) _).drew)
    have HM := Lib.hid (fun u hu => match_any ta tn tc ts la ln lc L pa pn pc ps u (ht.since hu) (hat.since hu) (hpat.since hu) ham (by omega) (by omega) htn)
    have hcu : ∀ u, Below w.heap.size w u → u.cell? ⟨bg, bo, none⟩ = some (.slice pa pn pc) := fun u hu => (hu.cell (p := ⟨bg, bo, none⟩) (World.block_lt_of_cell? _ _ hc0)).trans hc0
    have hne : ¬ bn = 0 := h0
    have hb0 : 0 < bn := by omega
    clear hcs hpat hF hat ht ham h0 hps hc0
    go_enter Tryd.func47, Tryd.ntmps47
    go_wp2_with fail
    obtain ⟨W0, hW0⟩ : ∃ W0, W0 = ((w.alloc (.cells #[.int .i64 F.ret, .slice (some ⟨bg, bo, none⟩) bn bc] 69)).alloc (.cells #[.int .i64 K, .int .i64 A, .int .i64 B, .int .i64 C, .int .i64 N, .string S, .slice la ln lc, .bool T] 24)) := ⟨_, rfl⟩
    have HALL : RowKit.Hid (∀ u, Below (w.heap.size + 2) W0 u → u.cell? ⟨w.heap.size, 0, none⟩ = some (.int .i64 F.ret) ∧ u.cell? ⟨w.heap.size, 1, none⟩ = some (.slice (some ⟨bg, bo, none⟩) bn bc) ∧ u.cell? ⟨w.heap.size + 1, 6, none⟩ = some (.slice la ln lc) ∧ u.cell? ⟨bg, bo, none⟩ = some (.slice pa pn pc)) := Lib.hid (fun u hu => by
      have hw : Below w.heap.size w u := (by rw [hW0]; exact ((Below.refl w.heap.size w).alloc (Nat.le_refl _) _).alloc (by simp) _ : Below w.heap.size w W0).trans (hu.mono (by omega))
      have h2 := hcu u hw
      rw [hW0] at hu
      obtain ⟨a0, a1, _, _⟩ := cell_laid2 hu
      exact ⟨a0 0, a0 1, a1 6, h2⟩)
    have HW : RowKit.Hid (∀ u, Below (w.heap.size + 2) W0 u → Below w.heap.size w u) := Lib.hid (fun u hu => (by rw [hW0]; exact ((Below.refl w.heap.size w).alloc (Nat.le_refl _) _).alloc (by simp) _ : Below w.heap.size w W0).trans (hu.mono (by omega)))
    have HZ : RowKit.Hid (w.heap.size + 2 ≤ W0.heap.size) := Lib.hid (by rw [hW0]; simp)
    have H0 : RowKit.Hid (Below (w.heap.size + 2) W0 W0.drew) := Lib.hid (Below.refl _ _).drew
    rw [← hW0]
    clear hW0 hcu
    go_region_held3 (fun u => u.cell? ⟨w.heap.size, 0, none⟩ = some (.int .i64 F.ret) ∧ u.cell? ⟨w.heap.size, 1, none⟩ = some (.slice (some ⟨bg, bo, none⟩) bn bc) ∧ u.cell? ⟨w.heap.size + 1, 6, none⟩ = some (.slice la ln lc) ∧ u.cell? ⟨bg, bo, none⟩ = some (.slice pa pn pc))
      (exact HALL.out _ (RowKit.Hid.out (by assumption)))
      (first | (go_at_call 44; (with_reducible refine (HM.out _ (HW.out _ (RowKit.Hid.out (by assumption)))).mono ?_); rintro e w' ⟨rfl, hb⟩; have HB := Lib.hid (keepN (RowKit.Hid.out (by assumption : RowKit.Hid (Below (w.heap.size + 2) W0 _))) HZ.out hb); clear hb))
    all_goals go_wp2_with fail
    all_goals exact bodyPost_ret (v := .tuple #[.int .i64 F.ret, .bool (matchB ts L ps)]) (by simp [results, Tryd.results47, go_sem]) rfl ⟨by rw [HE.out], HW.out _ (RowKit.Hid.out (by assumption))⟩
end Go.Proofs.YtgkcbaakdphigaaDoor
