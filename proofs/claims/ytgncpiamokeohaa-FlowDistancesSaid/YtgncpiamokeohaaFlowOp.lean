/- Layer 14: a slice of pairs of numbers that came in. -/
import Derived.Test.YtgncpiamokeohaaFlowMe
import Derived.Test.YtgncpiamokeohaaDeepAt
namespace Go.Proofs.Ytgncpiamokeohaa
open Go.ChangeShapes Go.WideShapes Go.ChangeAt Go.RowKit Go.Joins Go.Deep
set_option linter.unusedVariables false
section
variable {H : Type} {enc : TypeId × Value → H} {P : Program}
def PairQ (W : World) (cs : List Value) (x : Int × Int) : Prop := cs = [.int .i64 x.1, .int .i64 x.2] ∧ InR x.1 ∧ InR x.2
theorem trod_pair {W : World} {b : Nat} {sp : Nat → Bool} {hd : Bool} {t e : TypeId} {fuel : Nat} {cs : List Value} {x : DataW H × List MemPlace} (ht : P.underlying t = some (.array 2 e)) (hct : P.cellsOf t = 2) (hce : P.cellsOf e = 1)
    (h : DataW.trod enc P W b sp hd fuel t cs = some x) :
    ∃ c0 c1 y0 y1 n, cs = [c0, c1] ∧ x = (.agg [y0.1, y1.1], y0.2 ++ y1.2) ∧ DataW.trod enc P W b sp hd n e [c0] = some y0 ∧ DataW.trod enc P W b sp hd n e [c1] = some y1 := by
  cases fuel with
  | zero => simp [DataW.trod] at h
  | succ n =>
    unfold DataW.trod at h
    rw [ht] at h
    have r2 : List.range 2 = [0, 1] := rfl
    simp [r2, hce] at h
    obtain ⟨hl, h⟩ := h
    have hl2 : cs.length = 2 := hl.trans hct
    obtain ⟨c0, c1, rfl⟩ : ∃ c0 c1, cs = [c0, c1] := by
      match cs, hl2 with
      | [c0, c1], _ => exact ⟨c0, c1, rfl⟩
    simp at h
    cases h0 : DataW.trod enc P W b sp hd n e [c0] with
    | none => simp [h0] at h
    | some y0 =>
      cases h1 : DataW.trod enc P W b sp hd n e [c1] with
      | none => simp [h0, h1] at h
      | some y1 =>
        simp [h0, h1] at h
        exact ⟨c0, c1, y0, y1, n, rfl, h.symm, h0, h1⟩
theorem opens_pair {t e : TypeId} (ht : P.underlying t = some (.array 2 e)) (hct : P.cellsOf t = 2) (hce : P.cellsOf e = 1) (he : P.underlying e = some (.int .i64)) : Opens enc P t PairQ := by
  intro W fuel cs y h _ _
  obtain ⟨c0, c1, y0, y1, n, rfl, _, h0, h1⟩ := trod_pair ht hct hce h
  obtain ⟨a, e0, _, w0⟩ := DataW.trod_int he h0
  obtain ⟨b, e1, _, w1⟩ := DataW.trod_int he h1
  simp only [List.cons.injEq, and_true] at e0 e1
  subst e0 e1
  exact ⟨(a, b), rfl, wf_i64_range w0, wf_i64_range w1⟩
/-- The slice of pairs that came in. -/
theorem open_pairs {b0 : Nat} {W : World} {v : Value} {d : DataW H} {p : List MemPlace} {ts t e : TypeId} (hts : P.underlying ts = some (.slice t)) (ht : P.underlying t = some (.array 2 e)) (hct : P.cellsOf t = 2) (hby : 0 < P.bytesOf t) (hce : P.cellsOf e = 1) (he : P.underlying e = some (.int .i64))
    (hv : Value.okWide P W .any b0 ts v) (h : DataW.Trod enc P W 0 (fun _ => true) true ts v d p) (hlt : ∀ x ∈ p, x.block < W.heap.size)
    {us : List TypeId} {ds : List (DataW H)} (hsz : (DataW.weightsEach P us ds).all (· ≤ reachBytes) = true) {j : Nat} (hj : us[j]? = some ts) (hd : ds[j]? = some d) :
    ∃ (a : Option Addr) (n c : Nat) (E : List (Int × Int)), v = .slice a n c ∧ PairsAt W a n E ∧ (a = none → c = 0) ∧ (∀ x ∈ E, InR x.1 ∧ InR x.2) ∧ n ≤ 140737488351232 ∧ n ≤ c ∧ c ≤ 9223372036854775807 := by
  obtain ⟨a0, len, cap, rfl⟩ := okWide_slice hts hv
  obtain ⟨fuel, hf⟩ := h
  obtain ⟨L, v', e1, a, n, c, rfl, hl, hnil, hb, hc⟩ := opens_row (enc := enc) hts hct (by decide) hby (opens_pair ht hct hce he) hf hlt (Fits.of_each hsz hj hd)
  have e2 : Value.slice a0 len cap = .slice a n c := by simpa [Value.cells] using e1
  cases e2
  have hcap : a0 = none ∧ len = 0 ∧ cap = 0 ∨ len ≤ cap ∧ cap ≤ maxLen := by
    rcases open_slice hts hf with ⟨hcs, _⟩ | ⟨a', len', cap', _, _, _, _, hcs, _, h1, h2, _⟩
    · have : Value.slice a0 len cap = .slice none 0 0 := by simpa [Value.cells] using hcs
      cases this
      exact .inl ⟨rfl, rfl, rfl⟩
    · have : Value.slice a0 len cap = .slice (some a') len' cap' := by simpa [Value.cells] using hcs
      cases this
      exact .inr ⟨h1, h2⟩
  have hcap2 : len ≤ cap ∧ cap ≤ 9223372036854775807 := by
    rcases hcap with ⟨_, h1, h2⟩ | ⟨h1, h2⟩
    · omega
    · exact ⟨h1, by unfold maxLen at h2; omega⟩
  refine ⟨_, _, _, L, rfl, ⟨hl, fun hn => ?_⟩, hnil, fun x hx => ?_, hb, hcap2⟩
  · obtain ⟨g, off, e3, hg, hcs⟩ := hc hn
    refine ⟨g, off, e3, hg, fun i hi => ?_⟩
    obtain ⟨cs, hcl, hcc, q⟩ := hcs i hi
    have q1 := q.1
    subst q1
    exact ⟨hcc 0 (by simp), hcc 1 (by simp)⟩
  · obtain ⟨i, hi, rfl⟩ := List.getElem_of_mem hx
    obtain ⟨g, off, _, _, hcs⟩ := hc (by omega)
    obtain ⟨cs, _, _, q⟩ := hcs i hi
    exact q.2
/-- Pairs of bytes, as they are read. -/
def Pairs8At (W : World) (a : Option Addr) (n : Nat) (E : List (Int × Int)) : Prop :=
  E.length = n ∧ (∀ x ∈ E, (0 ≤ x.1 ∧ x.1 ≤ 255) ∧ 0 ≤ x.2 ∧ x.2 ≤ 255) ∧ (0 < n → ∃ g off, a = some ⟨g, off, none⟩ ∧ g < W.heap.size ∧ ∀ i (h : i < E.length), W.cell? ⟨g, off + i * 2, none⟩ = some (.int .u8 E[i].1) ∧ W.cell? ⟨g, off + i * 2 + 1, none⟩ = some (.int .u8 E[i].2))
theorem Pairs8At.since {W W' : World} {a : Option Addr} {n : Nat} {E : List (Int × Int)} (h : Pairs8At W a n E) (hb : Below W.heap.size W W') : Pairs8At W' a n E := by
  refine ⟨h.1, h.2.1, fun h0 => ?_⟩
  obtain ⟨g, off, e, hg, hc⟩ := h.2.2 h0
  exact ⟨g, off, e, Nat.lt_of_lt_of_le hg hb.size, fun i hi => ⟨(hb.cell (p := ⟨g, off + i * 2, none⟩) hg).trans (hc i hi).1, (hb.cell (p := ⟨g, off + i * 2 + 1, none⟩) hg).trans (hc i hi).2⟩⟩
theorem wf_pair8 {n : Int} (h : (Lit.int .u8 n).wf = true) : 0 ≤ n ∧ n ≤ 255 := by
  simp [Lit.wf, IntKind.min, IntKind.max, IntKind.signed, IntKind.bits] at h
  omega
def Pair8Q (W : World) (cs : List Value) (x : Int × Int) : Prop := cs = [.int .u8 x.1, .int .u8 x.2] ∧ (0 ≤ x.1 ∧ x.1 ≤ 255) ∧ 0 ≤ x.2 ∧ x.2 ≤ 255
theorem opens_pair8 {t e : TypeId} (ht : P.underlying t = some (.array 2 e)) (hct : P.cellsOf t = 2) (hce : P.cellsOf e = 1) (he : P.underlying e = some (.int .u8)) : Opens enc P t Pair8Q := by
  intro W fuel cs y h _ _
  obtain ⟨c0, c1, y0, y1, n, rfl, _, h0, h1⟩ := trod_pair ht hct hce h
  obtain ⟨a, e0, _, w0⟩ := DataW.trod_int he h0
  obtain ⟨b, e1, _, w1⟩ := DataW.trod_int he h1
  simp only [List.cons.injEq, and_true] at e0 e1
  subst e0 e1
  exact ⟨(a, b), rfl, wf_pair8 w0, wf_pair8 w1⟩
/-- A slice of pairs of bytes that came in. -/
theorem open_pairs8 {b0 : Nat} {W : World} {v : Value} {d : DataW H} {p : List MemPlace} {ts t e : TypeId} (hts : P.underlying ts = some (.slice t)) (ht : P.underlying t = some (.array 2 e)) (hct : P.cellsOf t = 2) (hby : 0 < P.bytesOf t) (hce : P.cellsOf e = 1) (he : P.underlying e = some (.int .u8))
    (hv : Value.okWide P W .any b0 ts v) (h : DataW.Trod enc P W 0 (fun _ => true) true ts v d p) (hlt : ∀ x ∈ p, x.block < W.heap.size)
    {us : List TypeId} {ds : List (DataW H)} (hsz : (DataW.weightsEach P us ds).all (· ≤ reachBytes) = true) {j : Nat} (hj : us[j]? = some ts) (hd : ds[j]? = some d) :
    ∃ (a : Option Addr) (n c : Nat) (E : List (Int × Int)), v = .slice a n c ∧ Pairs8At W a n E ∧ n ≤ 140737488351232 := by
  obtain ⟨a0, len, cap, rfl⟩ := okWide_slice hts hv
  obtain ⟨fuel, hf⟩ := h
  obtain ⟨L, v', e1, a, n, c, rfl, hl, hnil, hb, hc⟩ := opens_row (enc := enc) hts hct (by decide) hby (opens_pair8 ht hct hce he) hf hlt (Fits.of_each hsz hj hd)
  have e2 : Value.slice a0 len cap = .slice a n c := by simpa [Value.cells] using e1
  cases e2
  refine ⟨_, _, _, L, rfl, ⟨hl, fun x hx => ?_, fun hn => ?_⟩, hb⟩
  · obtain ⟨i, hi, rfl⟩ := List.getElem_of_mem hx
    obtain ⟨g, off, _, _, hcs⟩ := hc (by omega)
    obtain ⟨cs, _, _, q⟩ := hcs i hi
    exact q.2
  · obtain ⟨g, off, e3, hg, hcs⟩ := hc hn
    refine ⟨g, off, e3, hg, fun i hi => ?_⟩
    obtain ⟨cs, hcl, hcc, q⟩ := hcs i hi
    have q1 := q.1
    subst q1
    exact ⟨hcc 0 (by simp), hcc 1 (by simp)⟩
end
end Go.Proofs.Ytgncpiamokeohaa
