/- Layer 5: the reader (code.reader): what is left to read, and what its two calls make of it. -/
import Derived.Test.YtfnkmigcklmghaaDoorQCodeWr
import Derived.Test.YtfnkmigcklmghaaDoorQKindPlainL
import Derived.Test.YtfnkmigcklmghaaDoorQT0
import Derived.Test.YtfnkmigcklmghaaDoorQT1
import Derived.Test.YtfnkmigcklmghaaDoorQT2
import Derived.Deep.DeepCutAuto
import Derived.Lib.OthersKept
namespace Go.Proofs.YtfnkmigcklmghaaDoor
open Go.RowKit (wrap64 intOf Below)
set_option linter.unusedVariables false
set_option linter.unusedSimpArgs false
attribute [local go_sem ↓] Go.wp_at_zero Go.wp_at_succ

/-- The reader in block r has L left, which lies below block B. -/
def RdAt (w : World) (r B : Nat) (L : List UInt8) : Prop :=
  ∃ a n c, w.heap[r]? = some (.cells #[.slice a n c] 99 (0, 0)) ∧ BytesAt w a n c L ∧ (∀ ad, a = some ad → ad.block < B) ∧ B ≤ r ∧ n ≤ 140737488355328
/-- What a reader may turn. -/
def RX (r : Nat) : Nat → Prop := fun k => k = r
theorem RdAt.lt {w : World} {r B : Nat} {L : List UInt8} (h : RdAt w r B L) : B ≤ r ∧ r < w.heap.size := by
  obtain ⟨a, n, c, h1, _, _, h4, _⟩ := h
  exact ⟨h4, (Array.getElem?_eq_some_iff.1 h1).1⟩
theorem RdAt.stays {w w' : World} {r B : Nat} {L : List UInt8} {X : Nat → Prop} (h : RdAt w r B L) (ho : Off X w w') (hx : ∀ k, X k → B ≤ k ∧ k ≠ r) : RdAt w' r B L := by
  have hl := h.lt
  obtain ⟨a, n, c, h1, h2, h3, h4, h5⟩ := h
  refine ⟨a, n, c, (ho.block r hl.2 (fun hX => (hx r hX).2 rfl)).trans h1, ?_, h3, h4, h5⟩
  obtain ⟨b1, b2, b3, b4, b5, b6⟩ := h2
  refine ⟨b1, b2, b3, b4, fun hn => ?_, fun ad ha j hj => ?_⟩
  · obtain ⟨g, off, e, hg⟩ := b5 hn
    exact ⟨g, off, e, Nat.lt_of_lt_of_le hg ho.size⟩
  · obtain ⟨g, off, e, hg⟩ := b5 (by omega)
    rw [ho.cell (p := ad.add j) (by rw [addr_block]; rw [e] at ha; cases ha; exact hg) (fun hX => by rw [addr_block] at hX; have := (hx _ hX).1; have := h3 ad ha; omega)]
    exact b6 ad ha j hj
theorem RdAt.since {w w' : World} {r B : Nat} {L : List UInt8} (h : RdAt w r B L) (hb : Below w.heap.size w w') : RdAt w' r B L :=
  h.stays (X := fun _ => False) (Off.since hb) (fun k hk => hk.elim)

theorem shown_any (r B : Nat) (a : Option Addr) (n c most : Nat) (L : List UInt8) (w : World) (hr : w.heap[r]? = some (.cells #[.slice a n c] 99 (0, 0))) (hat : BytesAt w a n c L) (hm : most ≤ 1000) (mi : Int) (hmi : mi = (most : Int)) (hn : n ≤ 140737488355328) :
    Calls Tryd.prog 156 #[.pointer (some ⟨r, 0, none⟩), .int .i64 mi] w fun e w' => e = .returned (.slice a (min most n) c) ∧ ∃ q, w' = w.drewN q := by
  subst hmi
  have hc : w.cell? ⟨r, 0, none⟩ = some (.slice a n c) := by simp [World.cell?, hr]
  have hcc := hat.2.1
  by_cases hle : most ≤ n
  · have hmin : min (most : Int) (n : Int) = (most : Int) := by omega
    have hmn : min most n = most := by omega
    have hst := slice_to a n c most (by omega)
    rw [hmn]
    clear hat hr hmn
    go_enter Tryd.func156, Tryd.ntmps156
    go_wp2_with fail
    go_quiet (fail)
    go_wp2_with fail
    go_ret
    exact ⟨rfl, nq, rfl⟩
  · have hmin : min (most : Int) (n : Int) = (n : Int) := by omega
    have hmn : min most n = n := by omega
    have hst := slice_to a n c n (by omega)
    rw [hmn]
    clear hat hr hmn
    go_enter Tryd.func156, Tryd.ntmps156
    go_wp2_with fail
    go_quiet (fail)
    go_wp2_with fail
    go_ret
    exact ⟨rfl, nq, rfl⟩

theorem goes_on (r B : Nat) (a : Option Addr) (n c k : Nat) (L : List UInt8) (w : World) (hr : w.heap[r]? = some (.cells #[.slice a n c] 99 (0, 0))) (hat : BytesAt w a n c L) (hbl : ∀ ad, a = some ad → ad.block < B) (hB : B ≤ r) (hn : n ≤ 140737488355328) (hk : k ≤ n) (z : Int) (hz : z = (k : Int)) :
    Calls Tryd.prog 158 #[.pointer (some ⟨r, 0, none⟩), .int .i64 z, .int .i64 0] w fun e w' => e = .returned (.tuple #[]) ∧ RdAt w' r B (L.drop k) ∧ Off (RX r) w w' := by
  subst hz
  have hc : w.cell? ⟨r, 0, none⟩ = some (.slice a n c) := by simp [World.cell?, hr]
  have hf : w.frozen? ⟨r, 0, none⟩ = false := by simp [World.frozen?, hr]
  have hst := slice_from a n c k hk
  have hcc := hat.2.1
  have hoff : Off (RX r) w (w.setCell ⟨r, 0, none⟩ (.slice (fromA a c k) (n - k) (c - k))) := (Off.refl (RX r) _).setCell (p := ⟨r, 0, none⟩) (.inl (Eq.refl r)) _
  have HR : RowKit.Hid (RdAt (w.setCell ⟨r, 0, none⟩ (.slice (fromA a c k) (n - k) (c - k))) r B (L.drop k) ∧ Off (RX r) w (w.setCell ⟨r, 0, none⟩ (.slice (fromA a c k) (n - k) (c - k)))) := Lib.hid (by
    refine ⟨⟨fromA a c k, n - k, c - k, ?_, ?_, fun ad ha => ?_, hB, by omega⟩, hoff⟩
    · simp only [World.setCell, Array.getElem?_modify, if_pos, hr]
      simp
    · have h1 := hat.drop k hk
      obtain ⟨b1, b2, b3, b4, b5, b6⟩ := h1
      refine ⟨b1, b2, b3, b4, fun h0 => ?_, fun ad ha j hj => ?_⟩
      · obtain ⟨g, off, e, hg⟩ := b5 h0
        exact ⟨g, off, e, Nat.lt_of_lt_of_le hg hoff.size⟩
      · obtain ⟨g, off, e, hg⟩ := b5 (by omega)
        have hg' : g < w.heap.size := hg
        rw [e] at ha
        cases ha
        have hgB : g < B := by
          obtain ⟨g0, o0, e0, _⟩ := hat.2.2.2.2.1 (by omega)
          have h3 := hbl _ e0
          rw [e0] at e
          unfold fromA at e
          split at e
          · cases e; exact h3
          · simp only [Option.map_some, Option.some.injEq] at e
            rw [addr_plain] at e
            cases e
            exact h3
        rw [hoff.cell (p := Addr.add ⟨g, off, none⟩ j) (by rw [addr_block]; exact hg') (fun hX => by rw [addr_block] at hX; have hX : g = r := hX; omega)]
        exact b6 _ (by rw [e]) j hj
    · unfold fromA at ha
      split at ha
      · exact hbl _ ha
      · cases a with
        | none => cases ha
        | some x =>
          simp only [Option.map_some, Option.some.injEq] at ha
          rw [← ha, addr_block]
          exact hbl x rfl)
  clear hat hbl hr hoff
  go_enter Tryd.func158, Tryd.ntmps158
  go_wp2_with fail
  go_end0
  exact ⟨rfl, HR.out⟩
theorem gives_up (r : Nat) (z er : Int) (w : World) (her : er = 2 ∨ er = 3 ∨ er = 4) :
    Calls Tryd.prog 158 #[.pointer (some ⟨r, 0, none⟩), .int .i64 z, .int .i64 er] w fun e w' => e = .panicked [{ v := .iface 31 (.int .i64 er), recovered := false }] ∧ w = w' := by
  have hne : (er != 0) = true := by rw [bne_iff_ne]; omega
  clear her
  go_enter Tryd.func158, Tryd.ntmps158
  go_wp2_with fail
  exact ⟨rfl, rfl, rfl⟩

/-- What a call of the walk does with a reader. -/
def RdPost {α : Type} (r B : Nat) (p : PR α) (val : α → Value) (w : World) (e : Ending) (w' : World) : Prop :=
  (∃ x rest, p = .ok x rest ∧ e = .returned (val x) ∧ RdAt w' r B rest ∧ Off (RX r) w w') ∨ (∃ er, p = .no er ∧ e = .panicked [{ v := .iface 31 (.int .i64 er), recovered := false }] ∧ Off (RX r) w w')
def intV (z : Int) : Value := .int .i64 z
theorem take_min {L : List UInt8} {n k : Nat} (h : L.length = n) : L.take (min k n) = L.take k := by
  by_cases hk : k ≤ n
  · rw [Nat.min_eq_left hk]
  · rw [Nat.min_eq_right (by omega), List.take_of_length_le (by omega), List.take_of_length_le (by omega)]
set_option maxRecDepth 100000 in
theorem rd_number (r B : Nat) (L : List UInt8) (n0 : Int) (w : World) (h : RdAt w r B L) :
    Calls Tryd.prog 154 #[.pointer (some ⟨r, 0, none⟩), .int .i64 n0] w (RdPost r B (rdNum L) intV w) := by
  have HH := Lib.hid h
  obtain ⟨a, n, c, h1, h2, h3, h4, h5⟩ := h
  have hlen := h2.1
  obtain ⟨sn, hsn⟩ : ∃ sn, sn = min 10 n := ⟨_, rfl⟩
  have hsl : sn ≤ n := by omega
  have hs10 : sn ≤ 10 := by omega
  have HL := Lib.hid hlen
  have H1 := Lib.hid h1
  have H2 := Lib.hid h2
  have H3 := Lib.hid h3
  have HSN := Lib.hid hsn
  have HTK : RowKit.Hid (∀ q, BytesAt (w.drewN q) a sn c (L.take 10)) := Lib.hid fun q => by
    have := (h2.take sn hsl).drewN q
    rwa [hsn, take_min hlen, ← hsn] at this
  clear h1 h2 h3 hlen hsn
  go_enter Tryd.func154, Tryd.ntmps154
  go_wp2_with fail
  refine (shown_any r B a n c 10 L w H1.out H2.out (by omega) _ (by omega) h5).mono ?_
  rintro e w1 ⟨rfl, q, rfl⟩
  rw [← HSN.out]
  rcases gives_or_fails L with ⟨m, k, hg⟩ | ⟨er, hf⟩
  · have hg10 := hg.ten
    have hk := hg10.put
    have htl : (L.take 10).length = sn := (HTK.out q).1
    have HG := Lib.hid hg
    have HG10 := Lib.hid hg10
    have hks : k ≤ sn := by omega
    have HRD := Lib.hid (rdNum_yes hg)
    clear hg hg10 hk
    go_wp2_with fail
    refine (take_yes a sn c (L.take 10) _ (HTK.out q) (by omega) m k HG10.out).mono ?_
    rintro e w2 ⟨va, vn, vc, rfl, hown, hb⟩
    have hvn : vn = sn - k := by have := hown.len; rw [List.length_drop, htl] at this; omega
    have hb' : Below w.heap.size w w2 := (Below.refl w.heap.size w).trans ⟨hb.os, hb.tape, hb.output, hb.size, hb.block⟩
    have hw2 := HH.out.since hb'
    have HB := Lib.hid hb'
    have hblk : w2.heap[r]? = some (.cells #[.slice a n c] 99 (0, 0)) := (hb'.block r (Array.getElem?_eq_some_iff.1 H1.out).1).trans H1.out
    have HBK := Lib.hid hblk
    have HAT := Lib.hid (H2.out.since hb')
    have HVN := Lib.hid hvn
    have hvle : vn ≤ sn := by omega
    clear hown hb hb' hblk hw2 htl hvn
    go_wp2_with fail
    refine (goes_on r B a n c k L w2 HBK.out HAT.out H3.out h4 h5 (by omega) _ (by rw [HVN.out]; omega)).mono ?_
    rintro e w3 ⟨rfl, hr3, ho3⟩
    have HR3 := Lib.hid hr3
    have HO3 := Lib.hid ((Off.since HB.out).trans ho3)
    clear hr3 ho3
    go_wp2_with fail
    go_ret
    exact .inl ⟨m, _, HRD.out, rfl, HR3.out, HO3.out⟩
  · have HF := Lib.hid hf.ten
    have HRD := Lib.hid (rdNum_no hf)
    have her : er = 2 ∨ er = 3 ∨ er = 4 := .inr hf.2
    clear hf
    go_wp2_with fail
    refine (take_no a sn c (L.take 10) _ (HTK.out q) (by omega) er HF.out).mono ?_
    rintro e w2 ⟨rfl, rfl⟩
    go_wp2_with fail
    refine (gives_up r _ er _ her).mono ?_
    rintro e w3 ⟨rfl, rfl⟩
    go_wp2_with fail
    exact ⟨rfl, .inr ⟨er, HRD.out, rfl, (Off.refl _ _).drewN q⟩⟩

def rdText (L : List UInt8) : PR ByteArray := (rdCount 64 L).bind fun m r => if m ≤ r.length then .ok (mk (r.take m)) (r.drop m) else .no 3
theorem rdCount_yes {L : List UInt8} {most m k : Nat} (h : Counts L (most : Int) m k) : rdCount most L = .ok m (L.drop k) := by
  unfold rdCount
  rw [rdNum_yes h.1]
  simp only [PR.bind]
  rw [if_neg (by omega), if_neg (by have := h.2; omega)]
  simp
theorem rdCount_no {L : List UInt8} {most : Nat} {er : Int} (h : NoCount L (most : Int) er) : rdCount most L = .no er := by
  unfold rdCount
  rcases h with hf | ⟨m, k, hg, h⟩
  · rw [rdNum_no hf]; rfl
  · rw [rdNum_yes hg]
    simp only [PR.bind]
    rcases h with ⟨h1, rfl⟩ | ⟨h1, h2, rfl⟩
    · rw [if_pos h1]
    · rw [if_neg (by omega), if_pos h2]
theorem takeL_more (L : List UInt8) (n : Nat) (h : 10 ≤ n) : takeL (L.take n) 0 0 = takeL L 0 0 := take_ten L 0 0 n (by omega) (by omega)
def strV (s : ByteArray) : Value := .string s
set_option maxRecDepth 100000 in
set_option maxHeartbeats 1000000 in
theorem rd_text (r B : Nat) (L : List UInt8) (s0 : ByteArray) (w : World) (h : RdAt w r B L) :
    Calls Tryd.prog 155 #[.pointer (some ⟨r, 0, none⟩), .string s0] w (RdPost r B (rdText L) strV w) := by
  have HH := Lib.hid h
  obtain ⟨a, n, c, h1, h2, h3, h4, h5⟩ := h
  have hlen := h2.1
  obtain ⟨sn, hsn⟩ : ∃ sn, sn = min 74 n := ⟨_, rfl⟩
  have hsl : sn ≤ n := by omega
  have hs10 : sn ≤ 74 := by omega
  have HL := Lib.hid hlen
  have H1 := Lib.hid h1
  have H2 := Lib.hid h2
  have H3 := Lib.hid h3
  have HSN := Lib.hid hsn
  have HTK : RowKit.Hid (∀ q, BytesAt (w.drewN q) a sn c (L.take 74)) := Lib.hid fun q => by
    have := (h2.take sn hsl).drewN q
    rwa [hsn, take_min hlen, ← hsn] at this
  clear h1 h2 h3 hlen hsn
  go_enter Tryd.func155, Tryd.ntmps155
  go_wp2_with fail
  refine (shown_any r B a n c 74 L w H1.out H2.out (by omega) _ (by omega) h5).mono ?_
  rintro e w1 ⟨rfl, q, rfl⟩
  rw [← HSN.out]
  have hLn := HL.out
  have hsnn := HSN.out
  rcases text_or L (64 : Nat) with ⟨m, k, hg, hm⟩ | ⟨er, hf⟩
  · have hk := hg.1.put
    have hmm := hg.2
    have htl : (L.take 74).length = sn := (HTK.out q).1
    have HG : RowKit.Hid (Counts (L.take 74) 64 m k) := Lib.hid ⟨by have := hg.1; unfold Gives at *; rw [takeL_more _ _ (by omega)]; exact this, hmm⟩
    have hkm : k + m ≤ sn := by omega
    have HKM := Lib.hid hkm
    have hms : m ≤ sn - k := by omega
    have HTXT : RowKit.Hid (((L.take 74).drop k).take m = (L.drop k).take m) := Lib.hid (by rw [List.drop_take, List.take_take, Nat.min_eq_left (by omega)])
    have HRD : RowKit.Hid (rdText L = .ok (mk ((L.drop k).take m)) (L.drop (k + m))) := Lib.hid (by
      unfold rdText
      rw [rdCount_yes hg]
      simp only [PR.bind]
      rw [if_pos (by rw [List.length_drop]; omega), List.drop_drop])
    have HTL := Lib.hid htl
    clear hg hk hmm htl hLn hsnn hm
    go_wp2_with fail
    refine (take_text_yes a sn c (L.take 74) 64 _ (HTK.out q) (by omega) m k HG.out hms).mono ?_
    rintro e w2 ⟨va, vn, vc, rfl, hown, hb⟩
    have hvn : vn = sn - (k + m) := by have := hown.len; rw [List.drop_drop, List.length_drop, HTL.out] at this; omega
    have hb' : Below w.heap.size w w2 := (Below.refl w.heap.size w).trans ⟨hb.os, hb.tape, hb.output, hb.size, hb.block⟩
    have HB := Lib.hid hb'
    have hblk : w2.heap[r]? = some (.cells #[.slice a n c] 99 (0, 0)) := (hb'.block r (Array.getElem?_eq_some_iff.1 H1.out).1).trans H1.out
    have HBK := Lib.hid hblk
    have HAT := Lib.hid (H2.out.since hb')
    have HVN := Lib.hid hvn
    have hvle : vn ≤ sn := by omega
    rw [HTXT.out]
    clear hown hb hb' hblk hvn hms hkm
    go_wp2_with fail
    refine (goes_on r B a n c (k + m) L w2 HBK.out HAT.out H3.out h4 h5 (by have := HKM.out; omega) _ (by have := HKM.out; rw [HVN.out]; omega)).mono ?_
    rintro e w3 ⟨rfl, hr3, ho3⟩
    have HR3 := Lib.hid hr3
    have HO3 := Lib.hid ((Off.since HB.out).trans ho3)
    clear hr3 ho3
    go_wp2_with fail
    go_ret
    exact .inl ⟨_, _, HRD.out, rfl, HR3.out, HO3.out⟩
  · have HF : RowKit.Hid (NoText (L.take 74) 64 er) := Lib.hid (by
      have htl : (L.take 74).length = sn := (HTK.out q).1
      rcases hf with (hf | ⟨m, k, hg, hx⟩) | ⟨m, k, ⟨hg, hx⟩, hlt, hx2⟩
      · exact .inl (.inl ⟨by rw [takeL_more _ _ (by omega)]; exact hf.1, hf.2⟩)
      · exact .inl (.inr ⟨m, k, by unfold Gives at *; rw [takeL_more _ _ (by omega)]; exact hg, hx⟩)
      · have hk := hg.put
        exact .inr ⟨m, k, ⟨by unfold Gives at *; rw [takeL_more _ _ (by omega)]; exact hg, hx⟩, by rw [htl]; omega, hx2⟩)
    have HRD : RowKit.Hid (rdText L = .no er) := Lib.hid (by
      unfold rdText
      rcases hf with hf | ⟨m, k, hg, hlt, rfl⟩
      · rw [rdCount_no hf]; rfl
      · rw [rdCount_yes hg]
        simp only [PR.bind]
        rw [if_neg (by rw [List.length_drop]; omega)])
    have her := hf.err
    clear hf hLn hsnn
    go_wp2_with fail
    refine (take_text_no a sn c (L.take 74) 64 _ (HTK.out q) (by omega) er HF.out).mono ?_
    rintro e w2 ⟨rfl, rfl⟩
    go_wp2_with fail
    refine (gives_up r _ er _ her).mono ?_
    rintro e w3 ⟨rfl, rfl⟩
    go_wp2_with fail
    exact ⟨rfl, .inr ⟨er, HRD.out, rfl, (Off.refl _ _).drewN q⟩⟩
end Go.Proofs.YtfnkmigcklmghaaDoor

/- Layer 4: small laws that all its walks use: nothing of the program is named here. -/
namespace Go.Proofs.YtfnkmigcklmghaaDoor
open Go.RowKit (wrap64 intOf Below)
set_option linter.unusedVariables false

theorem keepN {B : Nat} {w u u' : World} (h1 : Below B w u) (hB : B ≤ w.heap.size) (h2 : Below u.heap.size u u') : Below B w u' := h1.trans (h2.mono (Nat.le_trans hB h1.size))
theorem OwnsI.nilcap {w : World} {B : Nat} {e : TypeId} {a : Option Addr} {n c : Nat} {Z : List Int} (h : OwnsI w B e (.slice a n c) Z) : a = none → c = 0 := by
  intro ha
  subst ha
  rcases h.2 with ⟨he, _⟩ | ⟨g, cap, cur, he, _⟩
  · cases he; rfl
  · cases he

/-- Two blocks that were just laid, and what has grown since. -/
theorem cell_laid2 {w w2 : World} {C0 C1 : Array Value} {t0 t1 : TypeId} (hb : Below (w.heap.size + 2) ((w.alloc (.cells C0 t0)).alloc (.cells C1 t1)) w2) :
    (∀ j, w2.cell? ⟨w.heap.size, j, none⟩ = C0[j]?) ∧ (∀ j, w2.cell? ⟨w.heap.size + 1, j, none⟩ = C1[j]?) ∧ (∀ j, w2.frozen? ⟨w.heap.size, j, none⟩ = false) ∧ (∀ j, w2.frozen? ⟨w.heap.size + 1, j, none⟩ = false) := by
  refine ⟨fun j => ?_, fun j => ?_, fun j => ?_, fun j => ?_⟩
  · rw [hb.cell (p := ⟨w.heap.size, j, none⟩) (by simp), World.cell?_alloc_lt _ _ _ (by simp), World.cell?_alloc_mark]
  · have h1 : w.heap.size + 1 = (w.alloc (.cells C0 t0)).heap.size := by simp
    rw [hb.cell (p := ⟨w.heap.size + 1, j, none⟩) (by simp), h1, World.cell?_alloc_mark]
  · rw [hb.frozen (p := ⟨w.heap.size, j, none⟩) (by simp), RowKit.frozen?_alloc_cells, World.frozen?_alloc_at _ _ _ _ rfl]
  · rw [hb.frozen (p := ⟨w.heap.size + 1, j, none⟩) (by simp), World.frozen?_alloc_at _ _ _ _ (by simp)]

end Go.Proofs.YtfnkmigcklmghaaDoor

/- Layer 4, P4.1: the document's To and All, walked: numbers by other names. -/
namespace Go.Proofs.YtfnkmigcklmghaaDoor
open Go.RowKit (wrap64 intOf Below)
set_option linter.unusedVariables false

/-- A number's name. -/
def toV (M : List Int) (n : Int) : Int := if 0 ≤ n ∧ n < M.length then M.getD n.toNat 0 else n
theorem toV_in {M : List Int} {k : Nat} (h : k < M.length) : toV M (k : Int) = M[k] := by
  unfold toV
  rw [if_pos ⟨by omega, by omega⟩, List.getD_eq_getElem?_getD, Int.toNat_natCast, List.getElem?_eq_getElem h]; rfl
theorem toV_out {M : List Int} {n : Int} (h : n < 0 ∨ (M.length : Int) ≤ n) : toV M n = n := by
  unfold toV
  rw [if_neg (by omega)]
def AllPost (Z : List Int) (w : World) (e : Ending) (w' : World) : Prop := ∃ va vn vc, e = .returned (.slice va vn vc) ∧ OwnsI w' w.heap.size 3 (.slice va vn vc) Z ∧ Below w.heap.size w w'
end Go.Proofs.YtfnkmigcklmghaaDoor

/- Layer 4, P4.1: the document's Renamed, walked: a step of values by other names. -/
namespace Go.Proofs.YtfnkmigcklmghaaDoor
open Go.RowKit (wrap64 intOf Below)
set_option linter.unusedVariables false

/-- Block g holds P, and may be written. -/
def Box (u : World) (g : Nat) (P : Array Value) : Prop := (∀ j, u.cell? ⟨g, j, none⟩ = P[j]?) ∧ (∀ j, u.frozen? ⟨g, j, none⟩ = false)
theorem Box.below {u u' : World} {g B : Nat} {P : Array Value} (h : Box u g P) (hb : Below B u u') (hg : g < B) : Box u' g P :=
  ⟨fun j => by rw [hb.cell (p := ⟨g, j, none⟩) hg]; exact h.1 j, fun j => by rw [hb.frozen (p := ⟨g, j, none⟩) hg]; exact h.2 j⟩
theorem Box.other {u : World} {g g' : Nat} {P : Array Value} (h : Box u g P) (hg : g' ≠ g) (j' : Nat) (v : Value) : Box (u.setCell ⟨g', j', none⟩ v) g P :=
  ⟨fun j => (World.cell?_setCell_other (w := u) (a := ⟨g', j', none⟩) (b := ⟨g, j, none⟩) (v := v) (by intro he; cases he; exact hg rfl)).trans (h.1 j), fun j => by rw [World.frozen?_setCell]; exact h.2 j⟩
theorem Box.set {u : World} {g : Nat} {P P' : Array Value} (h : Box u g P) (j : Nat) (v : Value) (hj : j < P.size) (hP : P' = P.setIfInBounds j v) : Box (u.setCell ⟨g, j, none⟩ v) g P' := by
  subst hP
  refine ⟨fun i => ?_, fun i => by rw [World.frozen?_setCell]; exact h.2 i⟩
  by_cases hij : i = j
  · subst hij
    exact (World.cell?_setCell_same (w := u) (a := ⟨g, i, none⟩) (v := v) (u := P[i]) (by rw [h.1 i]; exact Array.getElem?_eq_getElem hj)).trans (by rw [Array.getElem?_setIfInBounds_self_of_lt hj])
  · exact (World.cell?_setCell_other (w := u) (a := ⟨g, j, none⟩) (b := ⟨g, i, none⟩) (v := v) (by intro he; cases he; exact hij rfl)).trans (by rw [h.1 i, Array.getElem?_setIfInBounds_ne (Ne.symm hij)])
theorem Box.fill {u : World} {g : Nat} {a0 a1 a2 a3 a4 a5 a6 a7 v0 v1 v2 v3 v4 v5 v6 v7 : Value} (h : Box u g #[a0, a1, a2, a3, a4, a5, a6, a7]) :
    Box ((((((((u.setCell ⟨g, 0, none⟩ v0).setCell ⟨g, 1, none⟩ v1).setCell ⟨g, 2, none⟩ v2).setCell ⟨g, 3, none⟩ v3).setCell ⟨g, 4, none⟩ v4).setCell ⟨g, 5, none⟩ v5).setCell ⟨g, 6, none⟩ v6).setCell ⟨g, 7, none⟩ v7) g #[v0, v1, v2, v3, v4, v5, v6, v7] := by
  have h0 := h.set (P' := #[v0, a1, a2, a3, a4, a5, a6, a7]) 0 v0 (by simp) (by simp)
  have h1 := h0.set (P' := #[v0, v1, a2, a3, a4, a5, a6, a7]) 1 v1 (by simp) (by simp)
  have h2 := h1.set (P' := #[v0, v1, v2, a3, a4, a5, a6, a7]) 2 v2 (by simp) (by simp)
  have h3 := h2.set (P' := #[v0, v1, v2, v3, a4, a5, a6, a7]) 3 v3 (by simp) (by simp)
  have h4 := h3.set (P' := #[v0, v1, v2, v3, v4, a5, a6, a7]) 4 v4 (by simp) (by simp)
  have h5 := h4.set (P' := #[v0, v1, v2, v3, v4, v5, a6, a7]) 5 v5 (by simp) (by simp)
  have h6 := h5.set (P' := #[v0, v1, v2, v3, v4, v5, v6, a7]) 6 v6 (by simp) (by simp)
  have h7 := h6.set (P' := #[v0, v1, v2, v3, v4, v5, v6, v7]) 7 v7 (by simp) (by simp)
  exact h7
theorem Box.laid {w w2 : World} {C0 C1 : Array Value} {t0 t1 : TypeId} (hb : Below (w.heap.size + 2) ((w.alloc (.cells C0 t0)).alloc (.cells C1 t1)) w2) : Box w2 w.heap.size C0 ∧ Box w2 (w.heap.size + 1) C1 := by
  obtain ⟨h1, h2, h3, h4⟩ := cell_laid2 hb
  exact ⟨⟨h1, h3⟩, ⟨h2, h4⟩⟩
theorem fill_below {B : Nat} {w u : World} (h : Below B w u) (g : Nat) (hg : B ≤ g) (v0 v1 v2 v3 v4 v5 v6 v7 : Value) :
    Below B w ((((((((u.setCell ⟨g, 0, none⟩ v0).setCell ⟨g, 1, none⟩ v1).setCell ⟨g, 2, none⟩ v2).setCell ⟨g, 3, none⟩ v3).setCell ⟨g, 4, none⟩ v4).setCell ⟨g, 5, none⟩ v5).setCell ⟨g, 6, none⟩ v6).setCell ⟨g, 7, none⟩ v7) :=
  (((((((h.setCell hg _).setCell hg _).setCell hg _).setCell hg _).setCell hg _).setCell hg _).setCell hg _).setCell hg _
theorem fill_own {B : Nat} {e : TypeId} {v : Value} {Z : List Int} {u : World} (h : OwnsI u B e v Z) (g : Nat) (hg : g < B) (v0 v1 v2 v3 v4 v5 v6 v7 : Value) :
    OwnsI ((((((((u.setCell ⟨g, 0, none⟩ v0).setCell ⟨g, 1, none⟩ v1).setCell ⟨g, 2, none⟩ v2).setCell ⟨g, 3, none⟩ v3).setCell ⟨g, 4, none⟩ v4).setCell ⟨g, 5, none⟩ v5).setCell ⟨g, 6, none⟩ v6).setCell ⟨g, 7, none⟩ v7) B e v Z :=
  (((((((h.setCell _ _ hg).setCell _ _ hg).setCell _ _ hg).setCell _ _ hg).setCell _ _ hg).setCell _ _ hg).setCell _ _ hg).setCell _ _ hg
theorem fill_other {u : World} {g g' : Nat} {P : Array Value} (h : Box u g P) (hg : g' ≠ g) (v0 v1 v2 v3 v4 v5 v6 v7 : Value) :
    Box ((((((((u.setCell ⟨g', 0, none⟩ v0).setCell ⟨g', 1, none⟩ v1).setCell ⟨g', 2, none⟩ v2).setCell ⟨g', 3, none⟩ v3).setCell ⟨g', 4, none⟩ v4).setCell ⟨g', 5, none⟩ v5).setCell ⟨g', 6, none⟩ v6).setCell ⟨g', 7, none⟩ v7) g P :=
  (((((((h.other hg _ _).other hg _ _).other hg _ _).other hg _ _).other hg _ _).other hg _ _).other hg _ _).other hg _ _

/-- By other names, where it plays a part. -/
def rnI (M : List Int) (b : Bool) (x : Int) : Int := if b then toV M x else 0
def rnL (M : List Int) (b : Bool) (l : List Int) : List Int := if b then l.map (toV M) else []
/-- What stands in the two blocks on the way. -/
structure RenSt (w : World) (u : World) (P : Array Value) (va : Option Addr) (vn vc : Nat) (Z : List Int) : Prop where
  box : Box u w.heap.size P
  res : Box u (w.heap.size + 1) #[.int .i64 0, .int .i64 0, .int .i64 0, .int .i64 0, .int .i64 0, .string ⟨#[]⟩, .slice none 0 0, .bool false]
  own : OwnsI u (w.heap.size + 2) 3 (.slice va vn vc) Z
  bel : Below w.heap.size w u
  siz : w.heap.size + 2 ≤ u.heap.size

theorem RenSt.put {w u : World} {P P' : Array Value} {va : Option Addr} {vn vc : Nat} {Z : List Int} (h : RenSt w u P va vn vc Z) (j : Nat) (v : Value) (hj : j < P.size) (hP : P' = P.setIfInBounds j v) : RenSt w (u.setCell ⟨w.heap.size, j, none⟩ v) P' va vn vc Z :=
  ⟨h.box.set j v hj hP, h.res.other (by omega) _ _, h.own.setCell _ _ (by simp), h.bel.setCell (Nat.le_refl _) _, by simpa using h.siz⟩
theorem RenSt.step {w u u' : World} {P : Array Value} {va va' : Option Addr} {vn vc vn' vc' : Nat} {Z Z' : List Int} (h : RenSt w u P va vn vc Z) (hb : Below u.heap.size u u') (ho : OwnsI u' u.heap.size 3 (.slice va' vn' vc') Z') : RenSt w u' P va' vn' vc' Z' :=
  ⟨h.box.below hb (by have := h.siz; omega), h.res.below hb (by have := h.siz; omega), ho.mono h.siz, h.bel.trans (hb.mono (by have := h.siz; omega)), Nat.le_trans h.siz hb.size⟩
theorem rn_yes {M : List Int} {b : Bool} {A x : Int} (h : b = true) (hx : pickI b A = x) : rnI M b A = toV M x := by
  subst h; subst hx; rfl
theorem rn_no {M : List Int} {b : Bool} {A x : Int} (h : b = false) (hx : pickI b A = x) : rnI M b A = x := by
  subst h; subst hx; rfl

end Go.Proofs.YtfnkmigcklmghaaDoor

/- A string's iterator, moved on: what stands otherwise. Nothing of the program is named here. -/
namespace Go.Proofs.YtfnkmigcklmghaaDoor
open Go.RowKit (wrap64 intOf Below)
set_option linter.unusedVariables false

/-- All blocks but one stand as they stood. -/
structure SameBut (r : Nat) (u u' : World) : Prop where
  size : u'.heap.size = u.heap.size
  same : ∀ i, i ≠ r → u'.heap[i]? = u.heap[i]?
  bel : ∀ B, B ≤ r → Below B u u'
  cell : ∀ p : Addr, p.block ≠ r → u'.cell? p = u.cell? p
  frozen : ∀ p : Addr, p.block ≠ r → u'.frozen? p = u.frozen? p
theorem iterAt_same (u : World) (r : Nat) (s : ByteArray) (pos : Nat) : SameBut r u (u.iterAt r s pos) := by
  refine ⟨Lib.iterAt_size u r s pos, fun i hi => Lib.iterAt_other u r i s pos hi, fun B hB => Lib.below_iterAt (Below.refl B u) hB s pos, fun p hp => ?_, fun p hp => ?_⟩
  · simp only [World.cell?, Lib.iterAt_other u r p.block s pos hp]
  · simp only [World.frozen?, Lib.iterAt_other u r p.block s pos hp]
theorem Box.same {u u' : World} {r g : Nat} {P : Array Value} (h : Box u g P) (hs : SameBut r u u') (hg : g ≠ r) : Box u' g P :=
  ⟨fun j => by rw [hs.cell ⟨g, j, none⟩ hg]; exact h.1 j, fun j => by rw [hs.frozen ⟨g, j, none⟩ hg]; exact h.2 j⟩
theorem Box.new (w : World) (C : Array Value) (t : TypeId) {n : Nat} (hn : n = w.heap.size) : Box (w.alloc (.cells C t)) n C := by
  subst hn
  exact ⟨fun j => World.cell?_alloc_mark _ _ _ _ _, fun j => World.frozen?_alloc_at _ _ _ _ rfl⟩
theorem Box.alloc {u : World} {g : Nat} {P : Array Value} (h : Box u g P) (hg : g < u.heap.size) (o : Obj) : Box (u.alloc o) g P := h.below ((Below.refl u.heap.size u).alloc (Nat.le_refl _) o) hg
theorem OwnsI.same {u u' : World} {r B : Nat} {e : TypeId} {v : Value} {Z : List Int} (h : OwnsI u B e v Z) (hs : SameBut r u u') (hr : r < B) : OwnsI u' B e v Z := by
  refine ⟨h.1, ?_⟩
  rcases h.2 with hn | ⟨g, cap, cur, rfl, hg, hh, rest⟩
  · exact .inl hn
  · refine .inr ⟨g, cap, cur, rfl, hg, ?_, rest⟩
    rw [hs.same g (by omega)]
    exact hh
theorem NumsAt.same {u u' : World} {r : Nat} {a : Option Addr} {n : Nat} {Z : List Int} (h : NumsAt u a n Z) (hs : SameBut r u u') (hr : ∀ ad, a = some ad → ad.block ≠ r) : NumsAt u' a n Z := by
  refine ⟨h.1, fun hn => ?_⟩
  obtain ⟨g, off, e, hg, hc⟩ := h.2 hn
  refine ⟨g, off, e, by rw [hs.size]; exact hg, fun j hj => ?_⟩
  rw [hs.cell ⟨g, off + j, none⟩ (hr ⟨g, off, none⟩ e)]
  exact hc j hj
end Go.Proofs.YtfnkmigcklmghaaDoor

/- Layer 4, P4.1: package kind's Plain, walked: the letters are gone through one by one, and each field that plays a part is taken over. -/
namespace Go.Proofs.YtfnkmigcklmghaaDoor
open Go.RowKit (wrap64 intOf Below)
set_option linter.unusedVariables false

/-- Whether a field is among the first k. -/
def hasT (K : Int) (k : Nat) (f : UInt8) : Bool := ((fieldsL K).take k).contains f
theorem hasT_zero (K : Int) (f : UInt8) : hasT K 0 f = false := by simp [hasT]
theorem hasT_next {K : Int} {k : Nat} {g : UInt8} (f : UInt8) (hk : k < (fieldsL K).length) (hg : (fieldsL K)[k] = g) : hasT K (k + 1) f = (hasT K k f || f == g) := by
  unfold hasT
  rw [List.take_succ_eq_append_getElem hk, hg, Bool.eq_iff_iff]
  simp
theorem hasT_all {K : Int} {k : Nat} (f : UInt8) (hk : (fieldsL K).length ≤ k) : hasT K k f = hasB K f := by
  unfold hasT hasB
  rw [List.take_of_length_le hk]
theorem letters (K : Int) : ∀ f ∈ fieldsL K, f = 78 ∨ f = 83 ∨ f = 65 ∨ f = 66 ∨ f = 67 ∨ f = 76 ∨ f = 75 := by
  rcases kinds K with h | h
  · rcases h with rfl | rfl | rfl | rfl | rfl | rfl | rfl | rfl | rfl | rfl | rfl | rfl | rfl | rfl | rfl | rfl | rfl | rfl | rfl | rfl | rfl | rfl | rfl | rfl | rfl | rfl
    all_goals decide
  · rw [fields_none h]
    intro f hf
    cases hf
/-- The letters as a text. -/
def fstr (K : Int) : ByteArray := mk (fieldsL K)
/-- The step as far as its first k letters tell it. -/
def plainT (K A B C N : Int) (S : ByteArray) (T : Bool) (k : Nat) (l : Value) : Array Value := #[.int .i64 K, .int .i64 (pickI (hasT K k 65) A), .int .i64 (pickI (hasT K k 66) B), .int .i64 (pickI (hasT K k 67) C), .int .i64 (pickI (hasT K k 78) N), .string (pickS (hasT K k 83) S), l, .bool (hasT K k 75 && T)]
structure PlSt (w : World) (u : World) (K A B C N : Int) (S : ByteArray) (la : Option Addr) (ln lc : Nat) (T : Bool) (L : List Int) (k : Nat) (va : Option Addr) (vn vc : Nat) : Prop where
  inb : Box u w.heap.size #[.int .i64 K, .int .i64 A, .int .i64 B, .int .i64 C, .int .i64 N, .string S, .slice la ln lc, .bool T]
  res : Box u (w.heap.size + 1) #[.int .i64 0, .int .i64 0, .int .i64 0, .int .i64 0, .int .i64 0, .string ⟨#[]⟩, .slice none 0 0, .bool false]
  box : Box u (w.heap.size + 2) (plainT K A B C N S T k (.slice va vn vc))
  it : u.heap[w.heap.size + 3]? = some (.stringIter (fstr K) k)
  own : OwnsI u (w.heap.size + 4) 3 (.slice va vn vc) (pickL (hasT K k 76) L)
  bel : Below w.heap.size w u
  siz : w.heap.size + 4 ≤ u.heap.size
theorem PlSt.at_ {w u : World} {K A B C N : Int} {S : ByteArray} {la : Option Addr} {ln lc : Nat} {T : Bool} {L : List Int} {k : Nat} {va : Option Addr} {vn vc : Nat} (h : PlSt w u K A B C N S la ln lc T L k va vn vc) : True := trivial

/-- The iterator moved on. -/
structure PlMv (w : World) (u : World) (K A B C N : Int) (S : ByteArray) (la : Option Addr) (ln lc : Nat) (T : Bool) (L : List Int) (k : Nat) (va : Option Addr) (vn vc : Nat) : Prop where
  inb : Box u w.heap.size #[.int .i64 K, .int .i64 A, .int .i64 B, .int .i64 C, .int .i64 N, .string S, .slice la ln lc, .bool T]
  res : Box u (w.heap.size + 1) #[.int .i64 0, .int .i64 0, .int .i64 0, .int .i64 0, .int .i64 0, .string ⟨#[]⟩, .slice none 0 0, .bool false]
  box : Box u (w.heap.size + 2) (plainT K A B C N S T k (.slice va vn vc))
  it : u.heap[w.heap.size + 3]? = some (.stringIter (fstr K) (k + 1))
  own : OwnsI u (w.heap.size + 4) 3 (.slice va vn vc) (pickL (hasT K k 76) L)
  bel : Below w.heap.size w u
  siz : w.heap.size + 4 ≤ u.heap.size
theorem PlSt.move {w u : World} {K A B C N : Int} {S : ByteArray} {la : Option Addr} {ln lc : Nat} {T : Bool} {L : List Int} {k : Nat} {va : Option Addr} {vn vc : Nat} (h : PlSt w u K A B C N S la ln lc T L k va vn vc) :
    PlMv w (u.iterAt (w.heap.size + 3) (fstr K) (k + 1)) K A B C N S la ln lc T L k va vn vc :=
  have hs := iterAt_same u (w.heap.size + 3) (fstr K) (k + 1)
  ⟨h.inb.same hs (by omega), h.res.same hs (by omega), h.box.same hs (by omega), Lib.iterAt_heap _ _ _ _ _ h.it, h.own.same hs (by omega), h.bel.trans (hs.bel _ (by omega)), by rw [hs.size]; exact h.siz⟩
theorem heap_setCell_other {u : World} {p : Addr} {v : Value} {i : Nat} (h : i ≠ p.block) : (u.setCell p v).heap[i]? = u.heap[i]? := Below.heap_setCell u p v i h
theorem setCell_size (u : World) (p : Addr) (v : Value) : (u.setCell p v).heap.size = u.heap.size := by
  show (u.heap.modify _ _).size = _
  rw [Array.size_modify]
/-- A field is put. -/
theorem PlMv.put {w u : World} {K A B C N : Int} {S : ByteArray} {la : Option Addr} {ln lc : Nat} {T : Bool} {L : List Int} {k : Nat} {va : Option Addr} {vn vc : Nat} (h : PlMv w u K A B C N S la ln lc T L k va vn vc)
    (j : Nat) (v : Value) (hj : j < 8) (hP : plainT K A B C N S T (k + 1) (.slice va vn vc) = (plainT K A B C N S T k (.slice va vn vc)).setIfInBounds j v) (hL : hasT K (k + 1) 76 = hasT K k 76) :
    PlSt w (u.setCell ⟨w.heap.size + 2, j, none⟩ v) K A B C N S la ln lc T L (k + 1) va vn vc :=
  ⟨h.inb.other (by omega) _ _, h.res.other (by omega) _ _, h.box.set j v hj hP, by rw [heap_setCell_other (by show w.heap.size + 3 ≠ w.heap.size + 2; omega)]; exact h.it, by rw [hL]; exact h.own.setCell _ _ (by show w.heap.size + 2 < w.heap.size + 4; omega), h.bel.setCell (by show w.heap.size ≤ w.heap.size + 2; omega) _, by rw [setCell_size]; exact h.siz⟩
/-- The list is put. -/
theorem PlMv.putL {w u u' : World} {K A B C N : Int} {S : ByteArray} {la : Option Addr} {ln lc : Nat} {T : Bool} {L : List Int} {k : Nat} {va va' : Option Addr} {vn vc vn' vc' : Nat} (h : PlMv w u K A B C N S la ln lc T L k va vn vc)
    (hb : Below (w.heap.size + 4) u u') (ho : OwnsI u' (w.heap.size + 4) 3 (.slice va' vn' vc') L) (hP : plainT K A B C N S T (k + 1) (.slice va' vn' vc') = (plainT K A B C N S T k (.slice va vn vc)).setIfInBounds 6 (.slice va' vn' vc')) (hL : hasT K (k + 1) 76 = true) :
    PlSt w (u'.setCell ⟨w.heap.size + 2, 6, none⟩ (.slice va' vn' vc')) K A B C N S la ln lc T L (k + 1) va' vn' vc' :=
  ⟨(h.inb.below hb (by omega)).other (by omega) _ _, (h.res.below hb (by omega)).other (by omega) _ _, (h.box.below hb (by omega)).set 6 _ (by simp [plainT]) hP, by rw [heap_setCell_other (by show w.heap.size + 3 ≠ w.heap.size + 2; omega), hb.block _ (by omega)]; exact h.it, by rw [hL]; exact ho.setCell _ _ (by show w.heap.size + 2 < w.heap.size + 4; omega), (h.bel.trans (hb.mono (by omega))).setCell (by show w.heap.size ≤ w.heap.size + 2; omega) _, by rw [setCell_size]; exact Nat.le_trans h.siz hb.size⟩

section
variable {K A B C N : Int} {S : ByteArray} {T : Bool} {k : Nat} {l : Value}
theorem plainT_zero (K A B C N : Int) (S : ByteArray) (T : Bool) (l : Value) : plainT K A B C N S T 0 l = #[.int .i64 K, .int .i64 0, .int .i64 0, .int .i64 0, .int .i64 0, .string ⟨#[]⟩, l, .bool false] := by
  simp [plainT, hasT_zero, pickI, pickS]
theorem put_N (hk : k < (fieldsL K).length) (hg : (fieldsL K)[k] = 78) : plainT K A B C N S T (k + 1) l = (plainT K A B C N S T k l).setIfInBounds 4 (.int .i64 N) ∧ hasT K (k + 1) 76 = hasT K k 76 := by
  simp [plainT, hasT_next _ hk hg, pickI]
theorem put_S (hk : k < (fieldsL K).length) (hg : (fieldsL K)[k] = 83) : plainT K A B C N S T (k + 1) l = (plainT K A B C N S T k l).setIfInBounds 5 (.string S) ∧ hasT K (k + 1) 76 = hasT K k 76 := by
  simp [plainT, hasT_next _ hk hg, pickS]
theorem put_A (hk : k < (fieldsL K).length) (hg : (fieldsL K)[k] = 65) : plainT K A B C N S T (k + 1) l = (plainT K A B C N S T k l).setIfInBounds 1 (.int .i64 A) ∧ hasT K (k + 1) 76 = hasT K k 76 := by
  simp [plainT, hasT_next _ hk hg, pickI]
theorem put_B (hk : k < (fieldsL K).length) (hg : (fieldsL K)[k] = 66) : plainT K A B C N S T (k + 1) l = (plainT K A B C N S T k l).setIfInBounds 2 (.int .i64 B) ∧ hasT K (k + 1) 76 = hasT K k 76 := by
  simp [plainT, hasT_next _ hk hg, pickI]
theorem put_C (hk : k < (fieldsL K).length) (hg : (fieldsL K)[k] = 67) : plainT K A B C N S T (k + 1) l = (plainT K A B C N S T k l).setIfInBounds 3 (.int .i64 C) ∧ hasT K (k + 1) 76 = hasT K k 76 := by
  simp [plainT, hasT_next _ hk hg, pickI]
theorem put_K (hk : k < (fieldsL K).length) (hg : (fieldsL K)[k] = 75) : plainT K A B C N S T (k + 1) l = (plainT K A B C N S T k l).setIfInBounds 7 (.bool T) ∧ hasT K (k + 1) 76 = hasT K k 76 := by
  simp [plainT, hasT_next _ hk hg]
theorem put_L {l' : Value} (hk : k < (fieldsL K).length) (hg : (fieldsL K)[k] = 76) : plainT K A B C N S T (k + 1) l' = (plainT K A B C N S T k l).setIfInBounds 6 l' ∧ hasT K (k + 1) 76 = true := by
  simp [plainT, hasT_next _ hk hg]
end
theorem fstr_at {K : Int} {k : Nat} (h : k < (fieldsL K).length) (h' : k < (fstr K).size) : (fstr K)[k] = (fieldsL K)[k] := by
  show (fieldsL K).toArray[k]'(by simpa using h) = _
  rfl
end Go.Proofs.YtfnkmigcklmghaaDoor
