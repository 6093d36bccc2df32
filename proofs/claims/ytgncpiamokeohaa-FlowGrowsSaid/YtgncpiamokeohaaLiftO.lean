/- From a reading to a walk: a slice of numbers as a field, and a struct of the eight fields that a step (api.Op) has, that came in by value. Nothing of the program is named here. -/
import Derived.Test.YtgncpiamokeohaaNumsMore
import Derived.Test.YtgncpiamokeohaaLiftB
import Derived.Lib.SmallJoins
namespace Go.Proofs.Ytgncpiamokeohaa
open Go.ChangeShapes Go.WideShapes Go.ChangeAt Go.RowKit Go.Joins Go.Deep
set_option linter.unusedVariables false

section
variable {H : Type} {enc : TypeId × Value → H} {P : Program} {W : World}

/-- The weights of a struct's fields. -/
theorem sized_agg {ts : List TypeId} {ds : List (DataW H)} (hsz : (DataW.weightsEach P ts ds).all (· ≤ reachBytes) = true) {j : Nat} {t : TypeId} {fs : Array Field} {parts : List (DataW H)} (hj : ts[j]? = some t) (hd : ds[j]? = some (.agg parts)) (hs : P.underlying t = some (.struct fs)) :
    (DataW.weightsEach P (fs.toList.map (·.type)) parts).all (· ≤ reachBytes) = true := by
  rw [List.all_eq_true]
  intro n hn
  have := List.all_eq_true.1 hsz n (DataW.weights_mem_each hj hd n (by simp only [DataW.weights, hs]; exact hn))
  exact this

/-- A slice of numbers of 64 bits, as a field. -/
theorem open_nums_field {fuel : Nat} {t e : TypeId} {v : Value} {y : DataW H × List MemPlace} (ht : P.underlying t = some (.slice e)) (he : P.underlying e = some (.int .i64)) (hc : P.cellsOf e = 1) (h8 : P.bytesOf e = 8)
    (h : DataW.trod enc P W 0 (fun _ => true) true fuel t [v] = some y) (hlt : ∀ x ∈ y.2, x.block < W.heap.size) {ts : List TypeId} {ds : List (DataW H)} (hsz : (DataW.weightsEach P ts ds).all (· ≤ reachBytes) = true) {j : Nat} (hj : ts[j]? = some t) (hd : ds[j]? = some y.1) :
    ∃ (a : Option Addr) (n c : Nat) (Z : List Int), v = .slice a n c ∧ NumsAt W a n Z ∧ (a = none → c = 0) ∧ n * 8 ≤ 140737488351232 ∧ (∀ z ∈ Z, -9223372036854775808 ≤ z ∧ z ≤ 9223372036854775807) ∧ SliceOf .i64 n y.1 := by
  rcases open_ints ht he hc h with ⟨hcs, hx⟩ | ⟨a, len, cap, zs, hcs, _, hl, hm, hz, hx, hcell, hwz⟩
  · simp at hcs
    subst hcs
    exact ⟨none, 0, 0, [], rfl, NumsAt.nil W none, fun _ => rfl, by omega, (fun z hz => by cases hz), Or.inl rfl⟩
  · simp at hcs
    subst hcs hx
    simp only [if_true] at hz
    have hr := sized_slice hsz hj hd ht
    rw [h8] at hr
    simp only [lits, List.length_map, List.length_take, List.length_drop, reachBytes] at hr
    refine ⟨some a, len, cap, zs.take len, rfl, ⟨by simp; omega, fun hn => ?_⟩, (fun h => by cases h), by omega, fun z hz' => wf_i64_range (hwz z (List.mem_of_mem_take hz')), Or.inr ⟨zs.take len, zs.drop len, rfl, by simp; omega⟩⟩
    obtain ⟨b, off, spot⟩ := a
    have hs : spot = none := by simpa [Addr.add] using World.cell?_spot (hcell 0 (by omega))
    subst hs
    refine ⟨b, off, rfl, hlt (.cell b (off + 0)) (MemPlace.mem_row.2 ⟨0, by omega, rfl⟩), fun i hi => ?_⟩
    rw [List.length_take] at hi
    have := hcell i (by omega)
    rw [addr_plain, List.getD_eq_getElem?_getD, List.getElem?_eq_getElem (by omega)] at this
    rw [this, List.getElem_take]
    rfl

/-- A struct of eight fields of one cell each, by value. -/
theorem open_agg8 {r : Reach} {b0 base : Nat} {spare : Nat → Bool} {held : Bool} {t : TypeId} {f0 f1 f2 f3 f4 f5 f6 f7 : Field} {v : Value} {d : DataW H} {p : List MemPlace} (hs : P.underlying t = some (.struct #[f0, f1, f2, f3, f4, f5, f6, f7])) (hone : oneCellFields P #[f0, f1, f2, f3, f4, f5, f6, f7] = true) (hC : P.cellsOf t = 8)
    (hv : Value.okWide P W r b0 t v) (h : DataW.Trod enc P W base spare held t v d p) :
    ∃ (v0 v1 v2 v3 v4 v5 v6 v7 : Value) (y0 y1 y2 y3 y4 y5 y6 y7 : DataW H × List MemPlace) (n : Nat), v = .agg #[v0, v1, v2, v3, v4, v5, v6, v7] ∧ d = .agg [y0.1, y1.1, y2.1, y3.1, y4.1, y5.1, y6.1, y7.1] ∧
      p = y0.2 ++ (y1.2 ++ (y2.2 ++ (y3.2 ++ (y4.2 ++ (y5.2 ++ (y6.2 ++ y7.2)))))) ∧
      DataW.trod enc P W base spare held n f0.type [v0] = some y0 ∧ DataW.trod enc P W base spare held n f1.type [v1] = some y1 ∧ DataW.trod enc P W base spare held n f2.type [v2] = some y2 ∧ DataW.trod enc P W base spare held n f3.type [v3] = some y3 ∧
      DataW.trod enc P W base spare held n f4.type [v4] = some y4 ∧ DataW.trod enc P W base spare held n f5.type [v5] = some y5 ∧ DataW.trod enc P W base spare held n f6.type [v6] = some y6 ∧ DataW.trod enc P W base spare held n f7.type [v7] = some y7 := by
  obtain ⟨cs, rfl, hsz⟩ := okWide_struct hs hv
  obtain ⟨l⟩ := cs
  match l, hsz.trans hC with
  | [c0, c1, c2, c3, c4, c5, c6, c7], _ =>
    obtain ⟨fuel, hf⟩ := h
    obtain ⟨xs, n, _, hx, _, hlen, hg⟩ := DataW.trod_struct hs hf
    obtain ⟨o0, k0⟩ := hone_of hone 0 f0 rfl
    obtain ⟨o1, k1⟩ := hone_of hone 1 f1 rfl
    obtain ⟨o2, k2⟩ := hone_of hone 2 f2 rfl
    obtain ⟨o3, k3⟩ := hone_of hone 3 f3 rfl
    obtain ⟨o4, k4⟩ := hone_of hone 4 f4 rfl
    obtain ⟨o5, k5⟩ := hone_of hone 5 f5 rfl
    obtain ⟨o6, k6⟩ := hone_of hone 6 f6 rfl
    obtain ⟨o7, k7⟩ := hone_of hone 7 f7 rfl
    match xs, hlen with
    | [y0, y1, y2, y3, y4, y5, y6, y7], _ =>
      simp only [Prod.mk.injEq] at hx
      exact ⟨c0, c1, c2, c3, c4, c5, c6, c7, y0, y1, y2, y3, y4, y5, y6, y7, n, rfl, by simpa using hx.1, by simpa using hx.2, by simpa [Value.cells, o0, k0] using hg 0 f0 rfl, by simpa [Value.cells, o1, k1] using hg 1 f1 rfl, by simpa [Value.cells, o2, k2] using hg 2 f2 rfl, by simpa [Value.cells, o3, k3] using hg 3 f3 rfl, by simpa [Value.cells, o4, k4] using hg 4 f4 rfl, by simpa [Value.cells, o5, k5] using hg 5 f5 rfl, by simpa [Value.cells, o6, k6] using hg 6 f6 rfl, by simpa [Value.cells, o7, k7] using hg 7 f7 rfl⟩

/-- What a step that came in is: its numbers, its text, its list. -/
structure OpIn (W : World) (v : Value) (K A B C N : Int) (S : ByteArray) (la : Option Addr) (ln lc : Nat) (T : Bool) (L : List Int) : Prop where
  val : v = .agg #[.int .i64 K, .int .i64 A, .int .i64 B, .int .i64 C, .int .i64 N, .string S, .slice la ln lc, .bool T]
  rK : -9223372036854775808 ≤ K ∧ K ≤ 9223372036854775807
  rA : -9223372036854775808 ≤ A ∧ A ≤ 9223372036854775807
  rB : -9223372036854775808 ≤ B ∧ B ≤ 9223372036854775807
  rC : -9223372036854775808 ≤ C ∧ C ≤ 9223372036854775807
  rN : -9223372036854775808 ≤ N ∧ N ≤ 9223372036854775807
  sS : S.size ≤ 140737488351232
  at_ : NumsAt W la ln L
  nil_ : la = none → lc = 0
  len_ : ln * 8 ≤ 140737488351232
  rL : ∀ z ∈ L, -9223372036854775808 ≤ z ∧ z ≤ 9223372036854775807

theorem open_op {b0 : Nat} {t ti tn tS tl tb : TypeId} {f0 f1 f2 f3 f4 f5 f6 f7 : Field} {v : Value} {d : DataW H} {p : List MemPlace} (hs : P.underlying t = some (.struct #[f0, f1, f2, f3, f4, f5, f6, f7])) (hone : oneCellFields P #[f0, f1, f2, f3, f4, f5, f6, f7] = true) (hC : P.cellsOf t = 8)
    (e0 : f0.type = ti) (e1 : f1.type = ti) (e2 : f2.type = ti) (e3 : f3.type = ti) (e4 : f4.type = tn) (e5 : f5.type = tS) (e6 : f6.type = tl) (e7 : f7.type = tb)
    (hti : P.underlying ti = some (.int .i64)) (htn : P.underlying tn = some (.int .i64)) (htS : P.underlying tS = some .string) (htl : P.underlying tl = some (.slice ti)) (htb : P.underlying tb = some .bool) (hc : P.cellsOf ti = 1) (h8 : P.bytesOf ti = 8)
    (hv : Value.okWide P W .any b0 t v) (h : DataW.Trod enc P W 0 (fun _ => true) true t v d p) (hlt : ∀ x ∈ p, x.block < W.heap.size)
    {ts : List TypeId} {ds : List (DataW H)} (hsz : (DataW.weightsEach P ts ds).all (· ≤ reachBytes) = true) {j : Nat} (hj : ts[j]? = some t) (hd : ds[j]? = some d) :
    ∃ K A B C N S la ln lc T L, OpIn W v K A B C N S la ln lc T L := by
  obtain ⟨v0, v1, v2, v3, v4, v5, v6, v7, y0, y1, y2, y3, y4, y5, y6, y7, n, rfl, rfl, rfl, g0, g1, g2, g3, g4, g5, g6, g7⟩ := open_agg8 hs hone hC hv h
  have hw := sized_agg hsz hj hd hs
  simp only [List.map_cons, List.map_nil] at hw
  rw [e0] at g0; rw [e1] at g1; rw [e2] at g2; rw [e3] at g3; rw [e4] at g4; rw [e5] at g5; rw [e6] at g6; rw [e7] at g7
  obtain ⟨K, hk, hk', rK⟩ := DataW.trod_int hti g0
  obtain ⟨A, ha, ha', rA⟩ := DataW.trod_int hti g1
  obtain ⟨B, hb, hb', rB⟩ := DataW.trod_int hti g2
  obtain ⟨C, hcc, hcc', rC⟩ := DataW.trod_int hti g3
  obtain ⟨N, hN, hN', rN⟩ := DataW.trod_int htn g4
  obtain ⟨S, hS, hS', rS⟩ := DataW.trod_string htS g5
  obtain ⟨T, hT, hT'⟩ := DataW.trod_bool htb g7
  obtain ⟨la, ln, lc, L, rfl, h1, h2, h3, h4, h5⟩ := open_nums_field htl hti hc h8 g6 (fun x hx => hlt x (by simp [hx])) hw (j := 6) (by simp [e6]) rfl
  simp only [List.cons.injEq, and_true] at hk ha hb hcc hN hS hT
  subst hk ha hb hcc hN hS hT
  have hs5 := sized_string hw (j := 5) (bytes := S.data.toList) rfl (by rw [hS']; rfl)
  refine ⟨K, A, B, C, N, S, la, ln, lc, T, L, rfl, wf_i64_range rK, wf_i64_range rA, wf_i64_range rB, wf_i64_range rC, wf_i64_range rN, ?_, h1, h2, h3, h4⟩
  rw [list_len] at hs5
  simpa [reachBytes] using hs5
end
end Go.Proofs.Ytgncpiamokeohaa
