/- Layer 5: the document's reader (D): a step (mk_dd.py). -/
import Derived.Test.YtdmlogpaenbblaaDoorQCodeDc
import Derived.Test.YtdmlogpaenbblaaDoorQCodeRj

namespace Go.Proofs.YtdmlogpaenbblaaDoor
open Go.RowKit (wrap64 intOf Below)
set_option linter.unusedVariables false
set_option linter.unusedSimpArgs false
attribute [local go_sem ↓] Go.wp_at_zero Go.wp_at_succ

theorem rdText_yes {L : List UInt8} {m k : Nat} (hg : Counts L 64 m k) (hm : m ≤ L.length - k) : rdText L = .ok (mk ((L.drop k).take m)) (L.drop (k + m)) := by
  unfold rdText
  rw [rdCount_yes hg]
  simp only [PR.bind]
  rw [if_pos (by rw [List.length_drop]; omega), List.drop_drop]
theorem rdText_no {L : List UInt8} {er : Int} (hf : NoText L 64 er) : rdText L = .no er := by
  unfold rdText
  rcases hf with hf | ⟨m, k, hg, hlt, rfl⟩
  · rw [rdCount_no hf]; rfl
  · rw [rdCount_yes hg]
    simp only [PR.bind]
    rw [if_neg (by rw [List.length_drop]; omega)]
def OpOV (w : World) (S : Nat → Prop) (v : Value) (x : OpD) : Prop := ∃ la ln lc, v = .agg #[.int .i64 x.K, .int .i64 x.A, .int .i64 x.B, .int .i64 x.C, .int .i64 x.N, .string x.S, .slice la ln lc, .bool x.T] ∧ OpO w S [.int .i64 x.K, .int .i64 x.A, .int .i64 x.B, .int .i64 x.C, .int .i64 x.N, .string x.S, .slice la ln lc, .bool x.T] x
/-- What is known of a step but for its list. -/
def OpR1 (x : OpD) : Prop := InR x.K ∧ InR x.A ∧ InR x.B ∧ InR x.C ∧ InR x.N ∧ x.S.size ≤ 140737488351232
section
variable {L : List UInt8} {p p1 p2 : Nat} {y y1 y2 : Int}
theorem Ran.fields0 (o : OpD) : Ran (rdFields o []) L p y p y o := Ran.pure o
theorem Ran.field {fs : List UInt8} {o x z : OpD} {j : Nat} (hj : j < fs.length) (h1 : Ran (rdFields o (fs.take j)) L p y p1 y1 x) (h2 : Ran (rdField x fs[j]) L p1 y1 p2 y2 z) : Ran (rdFields o (fs.take (j + 1))) L p y p2 y2 z :=
  (h1.bind (g := fun x r => rdField x fs[j] r) h2).of (fun l => by
    rw [List.take_succ_eq_append_getElem hj, rdFields_append]
    congr 1
    funext x r
    simp only [rdFields]
    cases rdField x fs[j] r <;> rfl)
theorem rdFields_stays {fs : List UInt8} {o : OpD} {j : Nat} {l : List UInt8} {e : Int} (h : rdFields o (fs.take j) l = .no e) : rdFields o fs l = .no e := by
  conv => lhs; rw [← List.take_append_drop j fs]
  rw [rdFields_append, h]
  rfl
theorem Ran.fieldsAll {fs : List UInt8} {o x : OpD} {j : Nat} (h : Ran (rdFields o (fs.take j)) L p y p1 y1 x) (hn : fs.length ≤ j ∨ y1 ≠ 0) : Ran (rdFields o fs) L p y p1 y1 x := by
  rcases hn with hn | hn
  · rwa [List.take_of_length_le hn] at h
  · exact ⟨h.1, fun hy => ⟨fun h0 => absurd h0 hn, fun _ => rdFields_stays ((h.2 hy).2 hn)⟩⟩
theorem Ran.op {k : Int} {x : OpD} (h1 : Ran (rdBelow 26) L p y p1 y1 k) (h2 : Ran (rdFields (opZero k) (fieldsL k)) L p1 y1 p2 y2 x) : Ran rdOp L p y p2 y2 x := Ran.bind (f := rdBelow 26) (g := fun k r => rdFields (opZero k) (fieldsL k) r) h1 h2
theorem Ran.fN {x : OpD} {m : Int} (h : Ran (rdNum) L p y p1 y1 m) : Ran (rdField x 78) L p y p1 y1 { x with N := m } :=
  (Ran.bind (f := rdNum) (g := fun m r => PR.ok { x with N := m } r) h (Ran.pure _)).of (fun l => by unfold rdField; simp)
theorem Ran.fA {x : OpD} {m : Int} (h : Ran (rdNum) L p y p1 y1 m) : Ran (rdField x 65) L p y p1 y1 { x with A := m } :=
  (Ran.bind (f := rdNum) (g := fun m r => PR.ok { x with A := m } r) h (Ran.pure _)).of (fun l => by unfold rdField; simp)
theorem Ran.fB {x : OpD} {m : Int} (h : Ran (rdNum) L p y p1 y1 m) : Ran (rdField x 66) L p y p1 y1 { x with B := m } :=
  (Ran.bind (f := rdNum) (g := fun m r => PR.ok { x with B := m } r) h (Ran.pure _)).of (fun l => by unfold rdField; simp)
theorem Ran.fC {x : OpD} {m : Int} (h : Ran (rdNum) L p y p1 y1 m) : Ran (rdField x 67) L p y p1 y1 { x with C := m } :=
  (Ran.bind (f := rdNum) (g := fun m r => PR.ok { x with C := m } r) h (Ran.pure _)).of (fun l => by unfold rdField; simp)
theorem Ran.fL {x : OpD} {Z : List Int} (h : Ran (rdNums 8) L p y p1 y1 Z) : Ran (rdField x 76) L p y p1 y1 { x with L := Z } :=
  (Ran.bind (f := rdNums 8) (g := fun Z r => PR.ok { x with L := Z } r) h (Ran.pure _)).of (fun l => by unfold rdField; simp)
theorem Ran.fS {x : OpD} {t : ByteArray} (h : Ran (rdText) L p y p1 y1 t) : Ran (rdField x 83) L p y p1 y1 { x with S := t } :=
  (Ran.bind (f := rdText) (g := fun t r => PR.ok { x with S := t } r) h (Ran.pure _)).of (fun l => by unfold rdField; simp)
theorem Ran.fK {x : OpD} {b : Bool} (h : Ran (rdTruth) L p y p1 y1 b) : Ran (rdField x 75) L p y p1 y1 { x with T := b } :=
  (Ran.bind (f := rdTruth) (g := fun b r => PR.ok { x with T := b } r) h (Ran.pure _)).of (fun l => by unfold rdField; simp)
theorem Ran.truth {k : Int} (h : Ran (rdBelow 2) L p y p1 y1 k) : Ran rdTruth L p y p1 y1 (k == 1) := Ran.bind (f := rdBelow 2) (g := fun n r => PR.ok (n == 1) r) h (Ran.pure _)
end
section
variable {w : World} {d : Nat} {a : Option Addr} {n c : Nat} {L : List UInt8} {T R E : Nat} {CR CE : Array Value} {u : World} {p : Nat} {y : Int}
theorem ES.move (h : ES w d a n c L T R E CR CE u p y) (q : Nat) (hq : q ≤ n) : ES w d a n c L T R E CR CE (u.setCell ⟨d, 1, none⟩ (.int .i64 (q : Int))) q y :=
  h.read (h.ds.move q hq) (Off.setCell (p := ⟨d, 1, none⟩) (Off.refl (fun k => k = d) u) (.inl rfl) _)
theorem ES.note (h : ES w d a n c L T R E CR CE u p y) (z : Int) : ES w d a n c L T R E CR CE (u.setCell ⟨d, 2, none⟩ (.int .i64 z)) p z :=
  h.read (h.ds.note z) (Off.setCell (p := ⟨d, 2, none⟩) (Off.refl (fun k => k = d) u) (.inl rfl) _)
theorem ES.drewN (h : ES w d a n c L T R E CR CE u p y) (q : Nat) : ES w d a n c L T R E CR CE (u.drewN q) p y := h.read (h.ds.drewN q) ((Off.refl _ _).drewN q)
theorem ES.drew (h : ES w d a n c L T R E CR CE u p y) : ES w d a n c L T R E CR CE u.drew p y := h.drewN 1
end
/-- Where the loop stands: the step so far. -/
structure OSt (w : World) (d : Nat) (a : Option Addr) (n c : Nat) (L : List UInt8) (E : Nat) (fs : List UInt8) (k0 : Int) (p0 : Nat) (y0 : Int) (j : Nat) (x : OpD) (la : Option Addr) (ln lc : Nat) (u : World) (p1 : Nat) (y1 : Int) : Prop where
  es : ES w d a n c L 56 w.heap.size E #[.int .i64 0, .int .i64 0, .int .i64 0, .int .i64 0, .int .i64 0, .string ⟨#[]⟩, .slice none 0 0, .bool false] #[.int .i64 x.K, .int .i64 x.A, .int .i64 x.B, .int .i64 x.C, .int .i64 x.N, .string x.S, .slice la ln lc, .bool x.T] u p1 y1
  nums : NumsO u (From (E + 1)) (.slice la ln lc) x.L
  rng : OpR1 x
  ran : Ran (rdFields (opZero k0) (fs.take j)) L p0 y0 p1 y1 x
set_option maxRecDepth 100000 in
set_option maxHeartbeats 16000000 in
theorem d_op (d : Nat) (a : Option Addr) (n c : Nat) (L : List UInt8) (p : Nat) (y : Int) (w : World) (h : DSt d a n c L w p y) :
    Calls Tryd.prog 85 #[.pointer (some ⟨d, 0, none⟩)] w (DPost d a n c L p y rdOp OpOV w) := by
  have hba : Below w.heap.size w (w.alloc (.cells #[.int .i64 0, .int .i64 0, .int .i64 0, .int .i64 0, .int .i64 0, .string ⟨#[]⟩, .slice none 0 0, .bool false] 56)) := (Below.refl _ _).alloc (Nat.le_refl _) _
  have CN := Lib.hid (d_form d a n c L p y 26 _ rfl (by decide) (by decide) _ (h.since hba))
  have HD0 : RowKit.Hid (d < w.heap.size) := Lib.hid h.lt
  have HRB : RowKit.Hid ((w.alloc (.cells #[.int .i64 0, .int .i64 0, .int .i64 0, .int .i64 0, .int .i64 0, .string ⟨#[]⟩, .slice none 0 0, .bool false] 56)).heap[w.heap.size]? = some (.cells #[.int .i64 0, .int .i64 0, .int .i64 0, .int .i64 0, .int .i64 0, .string ⟨#[]⟩, .slice none 0 0, .bool false] 56 (0, 0))) := Lib.hid (heap_alloc_new w _)
  have HBA := Lib.hid hba
  clear h hba
  go_enter Tryd.func85, Tryd.ntmps85
  go_wp2_with fail
  refine CN.out.mono ?_
  rintro e w1 ⟨_, k, p0, y0, rfl, ⟨rfl, hk0, hk4⟩, hd, ho, hr⟩
  have HR := Lib.hid hr
  have HZ0 : RowKit.Hid (w.heap.size < w1.heap.size) := Lib.hid (by have := ho.size; simp at this; omega)
  obtain ⟨E, hE⟩ : ∃ E, E = w1.heap.size := ⟨_, rfl⟩
  have HS0 : RowKit.Hid (OSt w d a n c L E (fieldsL k) k p0 y0 0 (opZero k) none 0 0 (w1.alloc (.cells #[.int .i64 k, .int .i64 0, .int .i64 0, .int .i64 0, .int .i64 0, .string ⟨#[]⟩, .slice none 0 0, .bool false] 56)) p0 y0) := Lib.hid
    ⟨⟨hd.since ((Below.refl _ _).alloc (Nat.le_refl _) _), ((Off.since HBA.out).trans ho).trans (Off.since ((Below.refl _ _).alloc (Nat.le_refl _) _)), (heap_alloc_old _ _ HZ0.out).trans ((ho.block w.heap.size (by simp) (fun he => by have := HD0.out; omega)).trans HRB.out), hE ▸ heap_alloc_new w1 _, HD0.out, Nat.le_refl _, by rw [hE]; exact Nat.le_of_lt HZ0.out, by have := HZ0.out; omega⟩, NumsO.none _ _, ⟨⟨by simp only [opZero]; omega, by simp only [opZero]; omega⟩, InR.zero, InR.zero, InR.zero, InR.zero, by simp [opZero, ByteArray.size]⟩, Ran.fields0 _⟩
  have HZE : RowKit.Hid (w.heap.size < E) := Lib.hid (by rw [hE]; exact HZ0.out)
  have CF := Lib.hid (fun u => fields_any k u)
  have HFL : RowKit.Hid ((mk (fieldsL k)).size = (fieldsL k).length) := Lib.hid (mk_size _)
  have hfl3 : (mk (fieldsL k)).size ≤ 3 := by rw [HFL.out]; exact fields_le k
  obtain ⟨s, hs⟩ : ∃ s, s = mk (fieldsL k) := ⟨_, rfl⟩
  have HFA : RowKit.Hid (∀ j (h : j < s.size) (h' : j < (fieldsL k).length), s[j] = (fieldsL k)[j]) := Lib.hid (by subst hs; exact fun j h h' => fstr_at h' h)
  rw [← hs] at HFL CF hfl3
  clear hd ho hr CN HRB HBA hs
  go_upto_region 2 with fail
  rw [← hE]
  generalize hW0 : w1.alloc (.cells #[.int .i64 k, .int .i64 0, .int .i64 0, .int .i64 0, .int .i64 0, .string ⟨#[]⟩, .slice none 0 0, .bool false] 56) = W0 at HS0 ⊢
  clear hW0 hE
  have g0 : W0.cell? ⟨E, 0, none⟩ = some (.int .i64 k) := HS0.out.es.ec 0
  go_wp2_with fail
  refine (CF.out _).mono ?_
  rintro e w2 ⟨rfl, rfl⟩
  clear g0 hk0 hk4
  go_wp2_with fail
  go_loopw [5] (fun iv wr => ∃ (j : Nat) (x : OpD) (la : Option Addr) (ln lc : Nat) (p1 : Nat) (y1 : Int), j ≤ s.size ∧ iv = .int .i64 (j : Int) ∧ wr.cell? ⟨d, 2, none⟩ = some (.int .i64 y1) ∧ RowKit.Hid (OSt w d a n c L E (fieldsL k) k p0 y0 j x la ln lc wr p1 y1)) (fun iv _ => s.size - (intOf iv).toNat)
  case atStart => exact ⟨0, _, _, _, _, _, _, Nat.zero_le _, rfl, HS0.out.es.ds.c2, HS0⟩
  case round =>
    obtain ⟨j, x, la, ln, lc, p1, y1, hj, rfl, hc2, HS⟩ := hrel
    by_cases hgo : j < s.size ∧ y1 = 0
    rotate_left
    · have HN : RowKit.Hid ((fieldsL k).length ≤ j ∨ y1 ≠ 0) := Lib.hid (by by_cases h : y1 = 0; left; have := HFL.out; omega; exact .inr h)
      have hr := HS.out.es.rc
      have hs := HS.out.es.ec
      have hfr := HS.out.es.rf
      have HBK := Lib.hid (HS.out.es.back (X := fun k => k = w.heap.size) (((((((((Off.refl (fun k => k = w.heap.size) wr).setCell (p := ⟨w.heap.size, 0, none⟩) (.inl rfl) (.int .i64 x.K)).setCell (p := ⟨w.heap.size, 1, none⟩) (.inl rfl) (.int .i64 x.A)).setCell (p := ⟨w.heap.size, 2, none⟩) (.inl rfl) (.int .i64 x.B)).setCell (p := ⟨w.heap.size, 3, none⟩) (.inl rfl) (.int .i64 x.C)).setCell (p := ⟨w.heap.size, 4, none⟩) (.inl rfl) (.int .i64 x.N)).setCell (p := ⟨w.heap.size, 5, none⟩) (.inl rfl) (.string x.S)).setCell (p := ⟨w.heap.size, 6, none⟩) (.inl rfl) (.slice la ln lc)).setCell (p := ⟨w.heap.size, 7, none⟩) (.inl rfl) (.bool x.T)) (fun k h => h))
      have HNU := Lib.hid (HS.out.nums.across (B := w.heap.size) (X := fun k => k = w.heap.size) (((((((((Off.refl (fun k => k = w.heap.size) wr).setCell (p := ⟨w.heap.size, 0, none⟩) (.inl rfl) (.int .i64 x.K)).setCell (p := ⟨w.heap.size, 1, none⟩) (.inl rfl) (.int .i64 x.A)).setCell (p := ⟨w.heap.size, 2, none⟩) (.inl rfl) (.int .i64 x.B)).setCell (p := ⟨w.heap.size, 3, none⟩) (.inl rfl) (.int .i64 x.C)).setCell (p := ⟨w.heap.size, 4, none⟩) (.inl rfl) (.int .i64 x.N)).setCell (p := ⟨w.heap.size, 5, none⟩) (.inl rfl) (.string x.S)).setCell (p := ⟨w.heap.size, 6, none⟩) (.inl rfl) (.slice la ln lc)).setCell (p := ⟨w.heap.size, 7, none⟩) (.inl rfl) (.bool x.T)) (by have := HZE.out; omega) (fun i h => by have := HZE.out; omega))
      by_cases hlt : j < s.size
      · have h1 : (y1 == 0) = false := by rw [beq_eq_false_iff_ne]; exact fun h => hgo ⟨hlt, h⟩
        clear hgo
        go_wp2_with fail
        exact bodyPost_ret (v := .agg #[.int .i64 x.K, .int .i64 x.A, .int .i64 x.B, .int .i64 x.C, .int .i64 x.N, .string x.S, .slice la ln lc, .bool x.T]) (by simp [results, Tryd.results85, go_sem, hr, hs]) rfl ⟨_, x, p1, y1, rfl, ⟨la, ln, lc, rfl, ⟨_, rfl, HS.out.rng.1, HS.out.rng.2.1, HS.out.rng.2.2.1, HS.out.rng.2.2.2.1, HS.out.rng.2.2.2.2.1, HS.out.rng.2.2.2.2.2, HNU.out⟩⟩, HBK.out.1, HBK.out.2, HR.out.op (HS.out.ran.fieldsAll HN.out)⟩
      · obtain rfl : j = s.size := by omega
        clear hgo
        go_wp2_with fail
        exact bodyPost_ret (v := .agg #[.int .i64 x.K, .int .i64 x.A, .int .i64 x.B, .int .i64 x.C, .int .i64 x.N, .string x.S, .slice la ln lc, .bool x.T]) (by simp [results, Tryd.results85, go_sem, hr, hs]) rfl ⟨_, x, p1, y1, rfl, ⟨la, ln, lc, rfl, ⟨_, rfl, HS.out.rng.1, HS.out.rng.2.1, HS.out.rng.2.2.1, HS.out.rng.2.2.2.1, HS.out.rng.2.2.2.2.1, HS.out.rng.2.2.2.2.2, HNU.out⟩⟩, HBK.out.1, HBK.out.2, HR.out.op (HS.out.ran.fieldsAll HN.out)⟩
    obtain ⟨hlt, rfl⟩ := hgo
    have hlt' : j < (fieldsL k).length := by rw [← HFL.out]; exact hlt
    have HFJ : RowKit.Hid (s[j] = (fieldsL k)[j]) := Lib.hid (HFA.out j hlt hlt')
    have HLT := Lib.hid hlt'
    have hlet := letters k _ (List.getElem_mem hlt')
    have HD2 := Lib.hid HS.out.es.ds
    have HRN := Lib.hid HS.out.rng
    rcases hlet with hl | hl | hl | hl | hl | hl | hl
    · have hf : s[j] = 78 := by rw [HFJ.out, hl]
      have tN : ((s[j].toNat : Int) == 78) = true := by rw [hf]; rfl
      have HGF : RowKit.Hid ((fieldsL k)[j] = 78) := Lib.hid hl
      clear hf hl HFJ
      go_wp2_with fail
      refine (d_num d a n c L p1 0 wr HD2.out).mono ?_
      rintro e w3 ⟨_, m, p2, y2, rfl, ⟨rfl, hm⟩, hd3, ho3, hr3⟩
      have HM := Lib.hid hm
      have HE3 := HS.out.es.read hd3 ho3
      have HO3 := Lib.hid ho3
      have f3 := HE3.ef 4
      have x3 := HE3.ec 4
      have HST := Lib.hid (HE3.set 4 (.int .i64 m))
      have HRA : RowKit.Hid (Ran (rdFields (opZero k) ((fieldsL k).take (j + 1))) L p0 y0 p2 y2 { x with N := m }) := Lib.hid (HS.out.ran.field HLT.out (by have e : (fieldsL k)[j]'HLT.out = 78 := HGF.out; rw [e]; exact hr3.fN))
      have HOE : RowKit.Hid (Off (fun k => k = E) w3 (w3.setCell ⟨E, 4, none⟩ (.int .i64 m))) := Lib.hid (Off.setCell (p := ⟨E, 4, none⟩) (Off.refl (fun k => k = E) w3) (.inl rfl) (.int .i64 m))
      have HNU : RowKit.Hid (NumsO (w3.setCell ⟨E, 4, none⟩ (.int .i64 m)) (From (E + 1)) (.slice la ln lc) x.L) := Lib.hid ((HS.out.nums.across (B := E + 1) HO3.out (Nat.le_refl _) (fun i h => by have := HS.out.es.hd; have := HZE.out; omega)).across HOE.out (Nat.le_refl _) (fun i h => by omega))
      clear HE3 hm hd3 ho3 hr3
      go_wp2_with fail
      go_roundw
      case rel => exact ⟨j + 1, { x with N := m }, la, ln, lc, p2, y2, by omega, by go_num, HST.out.ds.c2, Lib.hid ⟨HST.out, HNU.out, ⟨HRN.out.1, HRN.out.2.1, HRN.out.2.2.1, HRN.out.2.2.2.1, HM.out, HRN.out.2.2.2.2.2⟩, HRA.out⟩⟩
      case measure => simp [intOf]; omega
    · have hf : s[j] = 83 := by rw [HFJ.out, hl]
      have tN : ((s[j].toNat : Int) == 78) = false := by rw [hf]; rfl
      have tA : ((s[j].toNat : Int) == 65) = false := by rw [hf]; rfl
      have tB : ((s[j].toNat : Int) == 66) = false := by rw [hf]; rfl
      have tC : ((s[j].toNat : Int) == 67) = false := by rw [hf]; rfl
      have tL : ((s[j].toNat : Int) == 76) = false := by rw [hf]; rfl
      have tS : ((s[j].toNat : Int) == 83) = true := by rw [hf]; rfl
      have HGF : RowKit.Hid ((fieldsL k)[j] = 83) := Lib.hid hl
      clear hf hl HFJ
      have hat := HD2.out.by_.drop p1 HD2.out.le
      have hp := HD2.out.le
      have htop := HD2.out.top
      have hc0 := HD2.out.c0
      have hc1 := HD2.out.c1
      have hsl := slice_from a n c p1 HD2.out.le
      obtain ⟨a', ha'⟩ : ∃ a', fromA a c p1 = a' := ⟨_, rfl⟩
      obtain ⟨n', hn'⟩ : ∃ n', n - p1 = n' := ⟨_, rfl⟩
      obtain ⟨c', hc'⟩ : ∃ c', c - p1 = c' := ⟨_, rfl⟩
      rw [ha', hn', hc'] at hsl hat
      have hn3 : n' ≤ 140737488355328 := by omega
      have HLD : RowKit.Hid ((L.drop p1).length = n') := Lib.hid hat.1
      have HDE : RowKit.Hid (d < E) := Lib.hid (by have := HD0.out; have := HZE.out; omega)
      have hde : d ≠ E := by have := HDE.out; omega
      have hed : E ≠ d := by have := HDE.out; omega
      rcases text_or (L.drop p1) 64 with ⟨m, q, hg, hm⟩ | ⟨er, hg⟩
      · obtain ⟨t, ht⟩ : ∃ t, t = mk (((L.drop p1).drop q).take m) := ⟨_, rfl⟩
        obtain ⟨r, hr⟩ : ∃ r, r = q + m := ⟨_, rfl⟩
        have hqm : ((q : Int) + (m : Int)) = (r : Int) := by omega
        have hlr : p1 + r ≤ n := by have h1 := hg.in.2.1; have h2 := HLD.out; omega
        have HTS : RowKit.Hid (t.size ≤ 140737488351232) := Lib.hid (by rw [ht, mk_size, List.length_take]; have := hg.2; omega)
        have HRT : RowKit.Hid (rdText (L.drop p1) = .ok t (L.drop (p1 + r))) := Lib.hid (by rw [rdText_yes hg hm, ht, hr]; simp only [List.drop_drop])
        have CT : RowKit.Hid (∀ qq, Calls Tryd.prog 118 #[.slice a' n' c', .int .i64 64] (wr.drewN qq) fun e w' => e = .returned (.tuple #[.string t, .int .i64 (r : Int), .int .i64 0]) ∧ w' = wr.drewN qq) := Lib.hid fun qq => (ref_text_yes a' n' c' _ 64 _ (hat.drewN qq) hn3 m q hg (by rw [HLD.out] at hm; exact hm)).mono (by rintro e w' ⟨rfl, rfl⟩; rw [← ht, hqm]; exact ⟨rfl, rfl⟩)
        clear hat hg hm ht hr hqm
        go_upto_region 19 with fail
        go_quiet (((go_at_call 118; exact Calls.quiet_of ((CT.out _).mono fun e w' ⟨h1, h2⟩ => ⟨h1, 0, h2⟩))))
        go_upto_region 20 with fail
        have HE2 : RowKit.Hid (ES w d a n c L 56 w.heap.size E #[.int .i64 0, .int .i64 0, .int .i64 0, .int .i64 0, .int .i64 0, .string ⟨#[]⟩, .slice none 0 0, .bool false] #[.int .i64 x.K, .int .i64 x.A, .int .i64 x.B, .int .i64 x.C, .int .i64 x.N, .string x.S, .slice la ln lc, .bool x.T] (wr.drewN nq) p1 0) := Lib.hid (HS.out.es.drewN nq)
        have HN2 : RowKit.Hid (NumsO (wr.drewN nq) (From (E + 1)) (.slice la ln lc) x.L) := Lib.hid (HS.out.nums.across (B := E + 1) (X := fun _ => False) ((Off.refl _ _).drewN nq) (Nat.le_refl _) (fun i h => h.elim))
        generalize hW2 : wr.drewN nq = W2 at HE2 HN2 ⊢
        clear hW2 CT hsl hc0 hc1
        have x1 := HE2.out.ds.c1
        have x2 := HE2.out.ds.c2
        have x5 := HE2.out.ec 5
        have f1 := HE2.out.ds.free 1
        have f2 := HE2.out.ds.free 2
        have f5 := HE2.out.ef 5
        have HRA : RowKit.Hid (Ran (rdFields (opZero k) ((fieldsL k).take (j + 1))) L p0 y0 (p1 + r) 0 { x with S := t }) := Lib.hid (HS.out.ran.field HLT.out (by have e : (fieldsL k)[j]'HLT.out = 83 := HGF.out; rw [e]; exact Ran.fS (Ran.fine rfl HRT.out)))
        have HREL : RowKit.Hid (∀ u, ES w d a n c L 56 w.heap.size E #[.int .i64 0, .int .i64 0, .int .i64 0, .int .i64 0, .int .i64 0, .string ⟨#[]⟩, .slice none 0 0, .bool false] #[.int .i64 x.K, .int .i64 x.A, .int .i64 x.B, .int .i64 x.C, .int .i64 x.N, .string t, .slice la ln lc, .bool x.T] u (p1 + r) 0 → NumsO u (From (E + 1)) (.slice la ln lc) x.L → u.cell? ⟨d, 2, none⟩ = some (.int .i64 (0)) ∧ RowKit.Hid (OSt w d a n c L E (fieldsL k) k p0 y0 (j + 1) { x with S := t } la ln lc u (p1 + r) 0)) := Lib.hid fun u h1 h2 => ⟨h1.ds.c2, Lib.hid ⟨h1, h2, ⟨HRN.out.1, HRN.out.2.1, HRN.out.2.2.1, HRN.out.2.2.2.1, HRN.out.2.2.2.2.1, HTS.out⟩, HRA.out⟩⟩
        go_region
        all_goals
          go_wp2_with fail
          go_roundw
          case rel =>
            first
              | (have hh := HREL.out _ (((HE2.out.drew.set 5 (.string t)).move (p1 + r) hlr).note (0)) (HN2.out.across ((((Off.refl (fun k => k = d ∨ k = E) W2).drew.setCell (.inl (by simp)) _).setCell (.inl (by simp)) _).setCell (.inl (by simp)) _) (Nat.le_refl _) (fun i h => by have := HDE.out; rcases h with h | h <;> omega)); exact ⟨j + 1, { x with S := t }, la, ln, lc, (p1 + r), 0, by omega, by go_num, hh.1, hh.2⟩)
              | (have hh := HREL.out _ (((HE2.out.drew.set 5 (.string t)).note (0)).move (p1 + r) hlr) (HN2.out.across ((((Off.refl (fun k => k = d ∨ k = E) W2).drew.setCell (.inl (by simp)) _).setCell (.inl (by simp)) _).setCell (.inl (by simp)) _) (Nat.le_refl _) (fun i h => by have := HDE.out; rcases h with h | h <;> omega)); exact ⟨j + 1, { x with S := t }, la, ln, lc, (p1 + r), 0, by omega, by go_num, hh.1, hh.2⟩)
              | (have hh := HREL.out _ (((HE2.out.drew.move (p1 + r) hlr).set 5 (.string t)).note (0)) (HN2.out.across ((((Off.refl (fun k => k = d ∨ k = E) W2).drew.setCell (.inl (by simp)) _).setCell (.inl (by simp)) _).setCell (.inl (by simp)) _) (Nat.le_refl _) (fun i h => by have := HDE.out; rcases h with h | h <;> omega)); exact ⟨j + 1, { x with S := t }, la, ln, lc, (p1 + r), 0, by omega, by go_num, hh.1, hh.2⟩)
              | (have hh := HREL.out _ (((HE2.out.drew.move (p1 + r) hlr).note (0)).set 5 (.string t)) (HN2.out.across ((((Off.refl (fun k => k = d ∨ k = E) W2).drew.setCell (.inl (by simp)) _).setCell (.inl (by simp)) _).setCell (.inl (by simp)) _) (Nat.le_refl _) (fun i h => by have := HDE.out; rcases h with h | h <;> omega)); exact ⟨j + 1, { x with S := t }, la, ln, lc, (p1 + r), 0, by omega, by go_num, hh.1, hh.2⟩)
              | (have hh := HREL.out _ (((HE2.out.drew.note (0)).set 5 (.string t)).move (p1 + r) hlr) (HN2.out.across ((((Off.refl (fun k => k = d ∨ k = E) W2).drew.setCell (.inl (by simp)) _).setCell (.inl (by simp)) _).setCell (.inl (by simp)) _) (Nat.le_refl _) (fun i h => by have := HDE.out; rcases h with h | h <;> omega)); exact ⟨j + 1, { x with S := t }, la, ln, lc, (p1 + r), 0, by omega, by go_num, hh.1, hh.2⟩)
              | (have hh := HREL.out _ (((HE2.out.drew.note (0)).move (p1 + r) hlr).set 5 (.string t)) (HN2.out.across ((((Off.refl (fun k => k = d ∨ k = E) W2).drew.setCell (.inl (by simp)) _).setCell (.inl (by simp)) _).setCell (.inl (by simp)) _) (Nat.le_refl _) (fun i h => by have := HDE.out; rcases h with h | h <;> omega)); exact ⟨j + 1, { x with S := t }, la, ln, lc, (p1 + r), 0, by omega, by go_num, hh.1, hh.2⟩)
          case measure => simp [intOf]; omega
      · have HTS : RowKit.Hid ((⟨#[]⟩ : ByteArray).size ≤ 140737488351232) := Lib.hid (by simp [ByteArray.size])
        have HRT : RowKit.Hid (rdText (L.drop p1) = .no er) := Lib.hid (rdText_no hg)
        have HER : RowKit.Hid (er ≠ 0) := Lib.hid (by rcases hg.err with rfl | rfl | rfl <;> decide)
        have CT : RowKit.Hid (∀ qq, Calls Tryd.prog 118 #[.slice a' n' c', .int .i64 64] (wr.drewN qq) fun e w' => e = .returned (.tuple #[.string ⟨#[]⟩, .int .i64 0, .int .i64 er]) ∧ w' = wr.drewN qq) := Lib.hid fun qq => (ref_text_no a' n' c' _ 64 _ (hat.drewN qq) hn3 er hg).mono (by rintro e w' ⟨rfl, rfl⟩; exact ⟨rfl, rfl⟩)
        clear hat hg
        go_upto_region 19 with fail
        go_quiet (((go_at_call 118; exact Calls.quiet_of ((CT.out _).mono fun e w' ⟨h1, h2⟩ => ⟨h1, 0, h2⟩))))
        go_upto_region 20 with fail
        have HE2 : RowKit.Hid (ES w d a n c L 56 w.heap.size E #[.int .i64 0, .int .i64 0, .int .i64 0, .int .i64 0, .int .i64 0, .string ⟨#[]⟩, .slice none 0 0, .bool false] #[.int .i64 x.K, .int .i64 x.A, .int .i64 x.B, .int .i64 x.C, .int .i64 x.N, .string x.S, .slice la ln lc, .bool x.T] (wr.drewN nq) p1 0) := Lib.hid (HS.out.es.drewN nq)
        have HN2 : RowKit.Hid (NumsO (wr.drewN nq) (From (E + 1)) (.slice la ln lc) x.L) := Lib.hid (HS.out.nums.across (B := E + 1) (X := fun _ => False) ((Off.refl _ _).drewN nq) (Nat.le_refl _) (fun i h => h.elim))
        generalize hW2 : wr.drewN nq = W2 at HE2 HN2 ⊢
        clear hW2 CT hsl hc0 hc1
        have x1 := HE2.out.ds.c1
        have x2 := HE2.out.ds.c2
        have x5 := HE2.out.ec 5
        have f1 := HE2.out.ds.free 1
        have f2 := HE2.out.ds.free 2
        have f5 := HE2.out.ef 5
        have HRA : RowKit.Hid (Ran (rdFields (opZero k) ((fieldsL k).take (j + 1))) L p0 y0 p1 er { x with S := (⟨#[]⟩ : ByteArray) }) := Lib.hid (HS.out.ran.field HLT.out (by have e : (fieldsL k)[j]'HLT.out = 83 := HGF.out; rw [e]; exact Ran.fS (Ran.fell _ rfl HER.out HRT.out)))
        have HREL : RowKit.Hid (∀ u, ES w d a n c L 56 w.heap.size E #[.int .i64 0, .int .i64 0, .int .i64 0, .int .i64 0, .int .i64 0, .string ⟨#[]⟩, .slice none 0 0, .bool false] #[.int .i64 x.K, .int .i64 x.A, .int .i64 x.B, .int .i64 x.C, .int .i64 x.N, .string (⟨#[]⟩ : ByteArray), .slice la ln lc, .bool x.T] u p1 er → NumsO u (From (E + 1)) (.slice la ln lc) x.L → u.cell? ⟨d, 2, none⟩ = some (.int .i64 (er)) ∧ RowKit.Hid (OSt w d a n c L E (fieldsL k) k p0 y0 (j + 1) { x with S := (⟨#[]⟩ : ByteArray) } la ln lc u p1 er)) := Lib.hid fun u h1 h2 => ⟨h1.ds.c2, Lib.hid ⟨h1, h2, ⟨HRN.out.1, HRN.out.2.1, HRN.out.2.2.1, HRN.out.2.2.2.1, HRN.out.2.2.2.2.1, HTS.out⟩, HRA.out⟩⟩
        go_region
        all_goals
          go_wp2_with fail
          go_roundw
          case rel =>
            first
              | (have hh := HREL.out _ (((HE2.out.drew.set 5 (.string (⟨#[]⟩ : ByteArray))).move p1 hp).note (er)) (HN2.out.across ((((Off.refl (fun k => k = d ∨ k = E) W2).drew.setCell (.inl (by simp)) _).setCell (.inl (by simp)) _).setCell (.inl (by simp)) _) (Nat.le_refl _) (fun i h => by have := HDE.out; rcases h with h | h <;> omega)); exact ⟨j + 1, { x with S := (⟨#[]⟩ : ByteArray) }, la, ln, lc, p1, er, by omega, by go_num, hh.1, hh.2⟩)
              | (have hh := HREL.out _ (((HE2.out.drew.set 5 (.string (⟨#[]⟩ : ByteArray))).note (er)).move p1 hp) (HN2.out.across ((((Off.refl (fun k => k = d ∨ k = E) W2).drew.setCell (.inl (by simp)) _).setCell (.inl (by simp)) _).setCell (.inl (by simp)) _) (Nat.le_refl _) (fun i h => by have := HDE.out; rcases h with h | h <;> omega)); exact ⟨j + 1, { x with S := (⟨#[]⟩ : ByteArray) }, la, ln, lc, p1, er, by omega, by go_num, hh.1, hh.2⟩)
              | (have hh := HREL.out _ (((HE2.out.drew.move p1 hp).set 5 (.string (⟨#[]⟩ : ByteArray))).note (er)) (HN2.out.across ((((Off.refl (fun k => k = d ∨ k = E) W2).drew.setCell (.inl (by simp)) _).setCell (.inl (by simp)) _).setCell (.inl (by simp)) _) (Nat.le_refl _) (fun i h => by have := HDE.out; rcases h with h | h <;> omega)); exact ⟨j + 1, { x with S := (⟨#[]⟩ : ByteArray) }, la, ln, lc, p1, er, by omega, by go_num, hh.1, hh.2⟩)
              | (have hh := HREL.out _ (((HE2.out.drew.move p1 hp).note (er)).set 5 (.string (⟨#[]⟩ : ByteArray))) (HN2.out.across ((((Off.refl (fun k => k = d ∨ k = E) W2).drew.setCell (.inl (by simp)) _).setCell (.inl (by simp)) _).setCell (.inl (by simp)) _) (Nat.le_refl _) (fun i h => by have := HDE.out; rcases h with h | h <;> omega)); exact ⟨j + 1, { x with S := (⟨#[]⟩ : ByteArray) }, la, ln, lc, p1, er, by omega, by go_num, hh.1, hh.2⟩)
              | (have hh := HREL.out _ (((HE2.out.drew.note (er)).set 5 (.string (⟨#[]⟩ : ByteArray))).move p1 hp) (HN2.out.across ((((Off.refl (fun k => k = d ∨ k = E) W2).drew.setCell (.inl (by simp)) _).setCell (.inl (by simp)) _).setCell (.inl (by simp)) _) (Nat.le_refl _) (fun i h => by have := HDE.out; rcases h with h | h <;> omega)); exact ⟨j + 1, { x with S := (⟨#[]⟩ : ByteArray) }, la, ln, lc, p1, er, by omega, by go_num, hh.1, hh.2⟩)
              | (have hh := HREL.out _ (((HE2.out.drew.note (er)).move p1 hp).set 5 (.string (⟨#[]⟩ : ByteArray))) (HN2.out.across ((((Off.refl (fun k => k = d ∨ k = E) W2).drew.setCell (.inl (by simp)) _).setCell (.inl (by simp)) _).setCell (.inl (by simp)) _) (Nat.le_refl _) (fun i h => by have := HDE.out; rcases h with h | h <;> omega)); exact ⟨j + 1, { x with S := (⟨#[]⟩ : ByteArray) }, la, ln, lc, p1, er, by omega, by go_num, hh.1, hh.2⟩)
          case measure => simp [intOf]; omega
    · have hf : s[j] = 65 := by rw [HFJ.out, hl]
      have tN : ((s[j].toNat : Int) == 78) = false := by rw [hf]; rfl
      have tA : ((s[j].toNat : Int) == 65) = true := by rw [hf]; rfl
      have HGF : RowKit.Hid ((fieldsL k)[j] = 65) := Lib.hid hl
      clear hf hl HFJ
      go_wp2_with fail
      refine (d_num d a n c L p1 0 wr HD2.out).mono ?_
      rintro e w3 ⟨_, m, p2, y2, rfl, ⟨rfl, hm⟩, hd3, ho3, hr3⟩
      have HM := Lib.hid hm
      have HE3 := HS.out.es.read hd3 ho3
      have HO3 := Lib.hid ho3
      have f3 := HE3.ef 1
      have x3 := HE3.ec 1
      have HST := Lib.hid (HE3.set 1 (.int .i64 m))
      have HRA : RowKit.Hid (Ran (rdFields (opZero k) ((fieldsL k).take (j + 1))) L p0 y0 p2 y2 { x with A := m }) := Lib.hid (HS.out.ran.field HLT.out (by have e : (fieldsL k)[j]'HLT.out = 65 := HGF.out; rw [e]; exact hr3.fA))
      have HOE : RowKit.Hid (Off (fun k => k = E) w3 (w3.setCell ⟨E, 1, none⟩ (.int .i64 m))) := Lib.hid (Off.setCell (p := ⟨E, 1, none⟩) (Off.refl (fun k => k = E) w3) (.inl rfl) (.int .i64 m))
      have HNU : RowKit.Hid (NumsO (w3.setCell ⟨E, 1, none⟩ (.int .i64 m)) (From (E + 1)) (.slice la ln lc) x.L) := Lib.hid ((HS.out.nums.across (B := E + 1) HO3.out (Nat.le_refl _) (fun i h => by have := HS.out.es.hd; have := HZE.out; omega)).across HOE.out (Nat.le_refl _) (fun i h => by omega))
      clear HE3 hm hd3 ho3 hr3
      go_wp2_with fail
      go_roundw
      case rel => exact ⟨j + 1, { x with A := m }, la, ln, lc, p2, y2, by omega, by go_num, HST.out.ds.c2, Lib.hid ⟨HST.out, HNU.out, ⟨HRN.out.1, HM.out, HRN.out.2.2.1, HRN.out.2.2.2.1, HRN.out.2.2.2.2.1, HRN.out.2.2.2.2.2⟩, HRA.out⟩⟩
      case measure => simp [intOf]; omega
    · have hf : s[j] = 66 := by rw [HFJ.out, hl]
      have tN : ((s[j].toNat : Int) == 78) = false := by rw [hf]; rfl
      have tA : ((s[j].toNat : Int) == 65) = false := by rw [hf]; rfl
      have tB : ((s[j].toNat : Int) == 66) = true := by rw [hf]; rfl
      have HGF : RowKit.Hid ((fieldsL k)[j] = 66) := Lib.hid hl
      clear hf hl HFJ
      go_wp2_with fail
      refine (d_num d a n c L p1 0 wr HD2.out).mono ?_
      rintro e w3 ⟨_, m, p2, y2, rfl, ⟨rfl, hm⟩, hd3, ho3, hr3⟩
      have HM := Lib.hid hm
      have HE3 := HS.out.es.read hd3 ho3
      have HO3 := Lib.hid ho3
      have f3 := HE3.ef 2
      have x3 := HE3.ec 2
      have HST := Lib.hid (HE3.set 2 (.int .i64 m))
      have HRA : RowKit.Hid (Ran (rdFields (opZero k) ((fieldsL k).take (j + 1))) L p0 y0 p2 y2 { x with B := m }) := Lib.hid (HS.out.ran.field HLT.out (by have e : (fieldsL k)[j]'HLT.out = 66 := HGF.out; rw [e]; exact hr3.fB))
      have HOE : RowKit.Hid (Off (fun k => k = E) w3 (w3.setCell ⟨E, 2, none⟩ (.int .i64 m))) := Lib.hid (Off.setCell (p := ⟨E, 2, none⟩) (Off.refl (fun k => k = E) w3) (.inl rfl) (.int .i64 m))
      have HNU : RowKit.Hid (NumsO (w3.setCell ⟨E, 2, none⟩ (.int .i64 m)) (From (E + 1)) (.slice la ln lc) x.L) := Lib.hid ((HS.out.nums.across (B := E + 1) HO3.out (Nat.le_refl _) (fun i h => by have := HS.out.es.hd; have := HZE.out; omega)).across HOE.out (Nat.le_refl _) (fun i h => by omega))
      clear HE3 hm hd3 ho3 hr3
      go_wp2_with fail
      go_roundw
      case rel => exact ⟨j + 1, { x with B := m }, la, ln, lc, p2, y2, by omega, by go_num, HST.out.ds.c2, Lib.hid ⟨HST.out, HNU.out, ⟨HRN.out.1, HRN.out.2.1, HM.out, HRN.out.2.2.2.1, HRN.out.2.2.2.2.1, HRN.out.2.2.2.2.2⟩, HRA.out⟩⟩
      case measure => simp [intOf]; omega
    · have hf : s[j] = 67 := by rw [HFJ.out, hl]
      have tN : ((s[j].toNat : Int) == 78) = false := by rw [hf]; rfl
      have tA : ((s[j].toNat : Int) == 65) = false := by rw [hf]; rfl
      have tB : ((s[j].toNat : Int) == 66) = false := by rw [hf]; rfl
      have tC : ((s[j].toNat : Int) == 67) = true := by rw [hf]; rfl
      have HGF : RowKit.Hid ((fieldsL k)[j] = 67) := Lib.hid hl
      clear hf hl HFJ
      go_wp2_with fail
      refine (d_num d a n c L p1 0 wr HD2.out).mono ?_
      rintro e w3 ⟨_, m, p2, y2, rfl, ⟨rfl, hm⟩, hd3, ho3, hr3⟩
      have HM := Lib.hid hm
      have HE3 := HS.out.es.read hd3 ho3
      have HO3 := Lib.hid ho3
      have f3 := HE3.ef 3
      have x3 := HE3.ec 3
      have HST := Lib.hid (HE3.set 3 (.int .i64 m))
      have HRA : RowKit.Hid (Ran (rdFields (opZero k) ((fieldsL k).take (j + 1))) L p0 y0 p2 y2 { x with C := m }) := Lib.hid (HS.out.ran.field HLT.out (by have e : (fieldsL k)[j]'HLT.out = 67 := HGF.out; rw [e]; exact hr3.fC))
      have HOE : RowKit.Hid (Off (fun k => k = E) w3 (w3.setCell ⟨E, 3, none⟩ (.int .i64 m))) := Lib.hid (Off.setCell (p := ⟨E, 3, none⟩) (Off.refl (fun k => k = E) w3) (.inl rfl) (.int .i64 m))
      have HNU : RowKit.Hid (NumsO (w3.setCell ⟨E, 3, none⟩ (.int .i64 m)) (From (E + 1)) (.slice la ln lc) x.L) := Lib.hid ((HS.out.nums.across (B := E + 1) HO3.out (Nat.le_refl _) (fun i h => by have := HS.out.es.hd; have := HZE.out; omega)).across HOE.out (Nat.le_refl _) (fun i h => by omega))
      clear HE3 hm hd3 ho3 hr3
      go_wp2_with fail
      go_roundw
      case rel => exact ⟨j + 1, { x with C := m }, la, ln, lc, p2, y2, by omega, by go_num, HST.out.ds.c2, Lib.hid ⟨HST.out, HNU.out, ⟨HRN.out.1, HRN.out.2.1, HRN.out.2.2.1, HM.out, HRN.out.2.2.2.2.1, HRN.out.2.2.2.2.2⟩, HRA.out⟩⟩
      case measure => simp [intOf]; omega
    · have hf : s[j] = 76 := by rw [HFJ.out, hl]
      have tN : ((s[j].toNat : Int) == 78) = false := by rw [hf]; rfl
      have tA : ((s[j].toNat : Int) == 65) = false := by rw [hf]; rfl
      have tB : ((s[j].toNat : Int) == 66) = false := by rw [hf]; rfl
      have tC : ((s[j].toNat : Int) == 67) = false := by rw [hf]; rfl
      have tL : ((s[j].toNat : Int) == 76) = true := by rw [hf]; rfl
      have HGF : RowKit.Hid ((fieldsL k)[j] = 76) := Lib.hid hl
      clear hf hl HFJ
      go_wp2_with fail
      refine (d_list d a n c L p1 0 8 _ rfl (by decide) wr HD2.out).mono ?_
      rintro e w3 ⟨_, m, p2, y2, rfl, ⟨⟨va, vn, vc, rfl⟩, hm⟩, hd3, ho3, hr3⟩
      have HM := Lib.hid hm
      have HE3 := HS.out.es.read hd3 ho3
      have HO3 := Lib.hid ho3
      have f3 := HE3.ef 6
      have x3 := HE3.ec 6
      have HST := Lib.hid (HE3.set 6 (.slice va vn vc))
      have HRA : RowKit.Hid (Ran (rdFields (opZero k) ((fieldsL k).take (j + 1))) L p0 y0 p2 y2 { x with L := m }) := Lib.hid (HS.out.ran.field HLT.out (by have e : (fieldsL k)[j]'HLT.out = 76 := HGF.out; rw [e]; exact hr3.fL))
      have HOE : RowKit.Hid (Off (fun k => k = E) w3 (w3.setCell ⟨E, 6, none⟩ (.slice va vn vc))) := Lib.hid (Off.setCell (p := ⟨E, 6, none⟩) (Off.refl (fun k => k = E) w3) (.inl rfl) (.slice va vn vc))
      have HNU : RowKit.Hid (NumsO (w3.setCell ⟨E, 6, none⟩ (.slice va vn vc)) (From (E + 1)) (.slice va vn vc) m) := Lib.hid (hm.across HOE.out HS.out.es.elt (fun i h => by have := HS.out.es.elt; omega))
      clear HE3 hm hd3 ho3 hr3
      go_wp2_with fail
      go_roundw
      case rel => exact ⟨j + 1, { x with L := m }, va, vn, vc, p2, y2, by omega, by go_num, HST.out.ds.c2, Lib.hid ⟨HST.out, HNU.out, HRN.out, HRA.out⟩⟩
      case measure => simp [intOf]; omega
    · have hf : s[j] = 75 := by rw [HFJ.out, hl]
      have tN : ((s[j].toNat : Int) == 78) = false := by rw [hf]; rfl
      have tA : ((s[j].toNat : Int) == 65) = false := by rw [hf]; rfl
      have tB : ((s[j].toNat : Int) == 66) = false := by rw [hf]; rfl
      have tC : ((s[j].toNat : Int) == 67) = false := by rw [hf]; rfl
      have tL : ((s[j].toNat : Int) == 76) = false := by rw [hf]; rfl
      have tS : ((s[j].toNat : Int) == 83) = false := by rw [hf]; rfl
      have HGF : RowKit.Hid ((fieldsL k)[j] = 75) := Lib.hid hl
      clear hf hl HFJ
      go_wp2_with fail
      refine (d_form d a n c L p1 0 2 _ rfl (by decide) (by decide) wr HD2.out).mono ?_
      rintro e w3 ⟨_, m, p2, y2, rfl, ⟨rfl, hm⟩, hd3, ho3, hr3⟩
      have HM := Lib.hid hm
      have HE3 := HS.out.es.read hd3 ho3
      have HO3 := Lib.hid ho3
      have f3 := HE3.ef 7
      have x3 := HE3.ec 7
      have HST := Lib.hid (HE3.set 7 (.bool (m == 1)))
      have HRA : RowKit.Hid (Ran (rdFields (opZero k) ((fieldsL k).take (j + 1))) L p0 y0 p2 y2 { x with T := (m == 1) }) := Lib.hid (HS.out.ran.field HLT.out (by have e : (fieldsL k)[j]'HLT.out = 75 := HGF.out; rw [e]; exact hr3.truth.fK))
      have HOE : RowKit.Hid (Off (fun k => k = E) w3 (w3.setCell ⟨E, 7, none⟩ (.bool (m == 1)))) := Lib.hid (Off.setCell (p := ⟨E, 7, none⟩) (Off.refl (fun k => k = E) w3) (.inl rfl) (.bool (m == 1)))
      have HNU : RowKit.Hid (NumsO (w3.setCell ⟨E, 7, none⟩ (.bool (m == 1))) (From (E + 1)) (.slice la ln lc) x.L) := Lib.hid ((HS.out.nums.across (B := E + 1) HO3.out (Nat.le_refl _) (fun i h => by have := HS.out.es.hd; have := HZE.out; omega)).across HOE.out (Nat.le_refl _) (fun i h => by omega))
      clear HE3 hm hd3 ho3 hr3
      go_wp2_with fail
      go_roundw
      case rel => exact ⟨j + 1, { x with T := (m == 1) }, la, ln, lc, p2, y2, by omega, by go_num, HST.out.ds.c2, Lib.hid ⟨HST.out, HNU.out, HRN.out, HRA.out⟩⟩
      case measure => simp [intOf]; omega
end Go.Proofs.YtdmlogpaenbblaaDoor
