/- From a reading to a walk: a slice of bytes, or of numbers of 64 bits, that came in: what it reads as, and how much it is. Nothing of the program is named here. -/
import Derived.Test.YtgncpiamokeohaaBytesIn
import Derived.Test.YtgncpiamokeohaaLift
namespace Go.Proofs.Ytgncpiamokeohaa
open Go.ChangeShapes Go.WideShapes Go.ChangeAt Go.RowKit

section
variable {H : Type} {enc : TypeId × Value → H} {P : Program}

/-- How much a datum is that is a slice of numbers: as many as it has, at the least. -/
def SliceOf (k : IntKind) (n : Nat) (d : DataW H) : Prop := n = 0 ∨ ∃ (zs ys : List Int), d = .slice (lits k zs) (lits k ys) ∧ zs.length = n

theorem wf_u8_range {n : Int} (h : (Lit.int .u8 n).wf = true) : 0 ≤ n ∧ n ≤ 255 := by
  simp [Lit.wf, IntKind.min, IntKind.max, IntKind.signed, IntKind.bits] at h
  omega

/-- A slice of bytes that came in, opened. -/
theorem open_bytes_at {W : World} {v : Value} {d : DataW H} {p : List MemPlace} {t e : TypeId} {ts : List TypeId} {ds : List (DataW H)} {j : Nat} (ht : P.underlying t = some (.slice e)) (he : P.underlying e = some (.int .u8)) (hc : P.cellsOf e = 1) (h8 : P.bytesOf e = 1)
    (hv : Value.okWide P W .any 0 t v) (h : DataW.Trod enc P W 0 (fun _ => true) true t v d p) (hlt : ∀ x ∈ p, x.block < W.heap.size)
    (hsz : (DataW.weightsEach P ts ds).all (· ≤ reachBytes) = true) (hj : ts[j]? = some t) (hd : ds[j]? = some d) :
    ∃ (a : Option Addr) (n c : Nat) (L : List UInt8), v = .slice a n c ∧ BytesAt W a n c L ∧ n ≤ 140737488351232 ∧ SliceOf .u8 n d := by
  obtain ⟨a0, len, cap, rfl⟩ := okWide_slice ht hv
  obtain ⟨fuel, hf⟩ := h
  rcases open_ints ht he hc hf with ⟨hcs, hx⟩ | ⟨a, len', cap', zs, hcs, _, hl, hm, hz, hx, hcell, hwz⟩
  · simp [Value.cells] at hcs
    obtain ⟨rfl, rfl, rfl⟩ := hcs
    exact ⟨none, 0, 0, [], rfl, BytesAt.nil W, Nat.zero_le _, Or.inl rfl⟩
  · simp [Value.cells] at hcs
    obtain ⟨rfl, rfl, rfl⟩ := hcs
    simp only [Prod.mk.injEq] at hx
    obtain ⟨rfl, rfl⟩ := hx
    simp only [if_true] at hz
    have hr := sized_slice hsz hj hd ht
    rw [h8] at hr
    simp only [lits, List.length_map, List.length_take, List.length_drop, reachBytes] at hr
    refine ⟨some a, len, cap, (zs.take len).map fun n => UInt8.ofNat n.toNat, rfl, ⟨by simp; omega, hl, hm, (fun h => by cases h), fun hn => ?_, fun ad ha i hi => ?_⟩, by omega, Or.inr ⟨zs.take len, zs.drop len, rfl, by simp; omega⟩⟩
    · obtain ⟨b, off, spot⟩ := a
      have hs : spot = none := by simpa [Addr.add] using World.cell?_spot (hcell 0 (by omega))
      subst hs
      exact ⟨b, off, rfl, hlt (.cell b (off + 0)) (MemPlace.mem_row.2 ⟨0, by omega, rfl⟩)⟩
    · cases ha
      rw [List.length_map, List.length_take] at hi
      have hb := wf_u8_range (hwz (zs[i]'(by omega)) (List.getElem_mem _))
      rw [hcell i (by omega), List.getD_eq_getElem?_getD, List.getElem?_eq_getElem (by omega)]
      simp only [List.getElem_map, List.getElem_take, Option.getD_some, byteV, UInt8.toNat_ofNat']
      congr 2
      omega

/-- A slice of numbers of 64 bits that came in: how much it is. -/
theorem open_ints_sized {W : World} {v : Value} {d : DataW H} {p : List MemPlace} {t e : TypeId} {ts : List TypeId} {ds : List (DataW H)} {j : Nat} (ht : P.underlying t = some (.slice e)) (he : P.underlying e = some (.int .i64)) (hc : P.cellsOf e = 1) (h8 : P.bytesOf e = 8)
    (hv : Value.okWide P W .any 0 t v) (h : DataW.Trod enc P W 0 (fun _ => true) true t v d p) (hlt : ∀ x ∈ p, x.block < W.heap.size)
    (hsz : (DataW.weightsEach P ts ds).all (· ≤ reachBytes) = true) (hj : ts[j]? = some t) (hd : ds[j]? = some d) :
    ∃ zs : List Int, IntsAt W v zs ∧ (∀ i, -9223372036854775808 ≤ nth zs i ∧ nth zs i ≤ 9223372036854775807) ∧ SliceOf .i64 zs.length d := by
  obtain ⟨zs, hz, hb⟩ := open_ints_at ht he hc h8 hv h hlt hsz hj hd
  refine ⟨zs, hz, hb, ?_⟩
  obtain ⟨a0, len, cap, rfl⟩ := okWide_slice ht hv
  obtain ⟨fuel, hf⟩ := h
  have hlen : zs.length = len := by
    rcases hz with ⟨h1, h2⟩ | ⟨a, c, h1, _⟩
    · cases h1; rw [h2]; rfl
    · cases h1; rfl
  rcases open_ints ht he hc hf with ⟨hcs, hx⟩ | ⟨a, len', cap', ys, hcs, _, hl, hm, hyz, hx, hcell, hwz⟩
  · simp [Value.cells] at hcs
    obtain ⟨rfl, rfl, rfl⟩ := hcs
    exact Or.inl hlen
  · simp [Value.cells] at hcs
    obtain ⟨rfl, rfl, rfl⟩ := hcs
    simp only [Prod.mk.injEq] at hx
    obtain ⟨rfl, rfl⟩ := hx
    simp only [if_true] at hyz
    exact Or.inr ⟨ys.take len, ys.drop len, rfl, by simp; omega⟩
end
end Go.Proofs.Ytgncpiamokeohaa
