/- A program (api.Prog) that came in, read to its depth: what its lists hold, and that they hold it in each later world that keeps what lay. Nothing of the program is named here. -/
import Derived.Test.YtgncpiamokeohaaLiftO
namespace Go.Proofs.Ytgncpiamokeohaa
open Go.ChangeShapes Go.WideShapes Go.ChangeAt Go.RowKit Go.Joins Go.Deep
set_option linter.unusedVariables false

structure OpD where
  (K A B C N : Int) (S : ByteArray) (L : List Int) (T : Bool)
structure EndD where
  (K A To Else : Int) (L M : List Int)
structure BlockD where
  (params : List Int) (ops : List OpD) (fin : EndD)
structure FuncD where
  (ret : Int) (blocks : List BlockD)
structure SigD where
  (params : List Int) (ret : Int)
structure ClassD where
  (fields methods : List Int)
structure ProgD where
  (sigs : List SigD) (classes : List ClassD) (funcs : List FuncD)

def InR (z : Int) : Prop := -9223372036854775808 ≤ z ∧ z ≤ 9223372036854775807
/-- A slice of numbers, as a value. -/
def NumsV (W : World) (v : Value) (Z : List Int) : Prop :=
  ∃ a n c, v = .slice a n c ∧ NumsAt W a n Z ∧ (a = none → c = 0) ∧ n * 8 ≤ 140737488351232 ∧ ∀ z ∈ Z, InR z
/-- A slice of structs of k cells each, as a value. -/
def RowV {α : Type} (Q : World → List Value → α → Prop) (k : Nat) (W : World) (v : Value) (xs : List α) : Prop :=
  ∃ a n c, v = .slice a n c ∧ xs.length = n ∧ (a = none → c = 0) ∧ n ≤ 140737488351232 ∧ (0 < n → ∃ g off, a = some ⟨g, off, none⟩ ∧ g < W.heap.size ∧
    ∀ i (h : i < xs.length), ∃ cs, cs.length = k ∧ (∀ j (hj : j < cs.length), W.cell? ⟨g, off + i * k + j, none⟩ = some cs[j]) ∧ Q W cs xs[i])
def OpQ (W : World) (cs : List Value) (x : OpD) : Prop :=
  ∃ l, cs = [.int .i64 x.K, .int .i64 x.A, .int .i64 x.B, .int .i64 x.C, .int .i64 x.N, .string x.S, l, .bool x.T] ∧ InR x.K ∧ InR x.A ∧ InR x.B ∧ InR x.C ∧ InR x.N ∧ x.S.size ≤ 140737488351232 ∧ NumsV W l x.L
def EndQ (W : World) (cs : List Value) (x : EndD) : Prop :=
  ∃ l m, cs = [.int .i64 x.K, .int .i64 x.A, .int .i64 x.To, .int .i64 x.Else, l, m] ∧ InR x.K ∧ InR x.A ∧ InR x.To ∧ InR x.Else ∧ NumsV W l x.L ∧ NumsV W m x.M
def BlockQ (W : World) (cs : List Value) (x : BlockD) : Prop :=
  ∃ p o es, cs = p :: o :: es ∧ NumsV W p x.params ∧ RowV OpQ 8 W o x.ops ∧ EndQ W es x.fin
def FuncQ (W : World) (cs : List Value) (x : FuncD) : Prop := ∃ b, cs = [.int .i64 x.ret, b] ∧ InR x.ret ∧ RowV BlockQ 8 W b x.blocks
def SigQ (W : World) (cs : List Value) (x : SigD) : Prop := ∃ p, cs = [p, .int .i64 x.ret] ∧ NumsV W p x.params ∧ InR x.ret
def ClassQ (W : World) (cs : List Value) (x : ClassD) : Prop := ∃ f m, cs = [f, m] ∧ NumsV W f x.fields ∧ NumsV W m x.methods
def ProgQ (W : World) (cs : List Value) (x : ProgD) : Prop := ∃ s c f, cs = [s, c, f] ∧ RowV SigQ 2 W s x.sigs ∧ RowV ClassQ 2 W c x.classes ∧ RowV FuncQ 2 W f x.funcs

/-- What holds on wherever what lay is kept. -/
def Lasts {α : Type} (Q : World → List Value → α → Prop) : Prop := ∀ (W W' : World) (cs : List Value) (x : α), Below W.heap.size W W' → Q W cs x → Q W' cs x
theorem NumsV.since {W W' : World} {v : Value} {Z : List Int} (hb : Below W.heap.size W W') (h : NumsV W v Z) : NumsV W' v Z := by
  obtain ⟨a, n, c, e, hat, rest⟩ := h
  exact ⟨a, n, c, e, hat.since hb, rest⟩
theorem RowV.since {α : Type} {Q : World → List Value → α → Prop} (hQ : Lasts Q) {k : Nat} {W W' : World} {v : Value} {xs : List α} (hb : Below W.heap.size W W') (h : RowV Q k W v xs) : RowV Q k W' v xs := by
  obtain ⟨a, n, c, e, hl, hn, hm, hc⟩ := h
  refine ⟨a, n, c, e, hl, hn, hm, fun h0 => ?_⟩
  obtain ⟨g, off, ea, hg, hi⟩ := hc h0
  refine ⟨g, off, ea, Nat.lt_of_lt_of_le hg hb.size, fun i h => ?_⟩
  obtain ⟨cs, hk, hcs, hq⟩ := hi i h
  exact ⟨cs, hk, fun j hj => (hb.cell (p := ⟨g, off + i * k + j, none⟩) hg).trans (hcs j hj), hQ _ _ _ _ hb hq⟩
theorem OpQ.lasts : Lasts OpQ := fun _ _ _ _ hb ⟨l, e, h1, h2, h3, h4, h5, h6, h⟩ => ⟨l, e, h1, h2, h3, h4, h5, h6, h.since hb⟩
theorem EndQ.lasts : Lasts EndQ := fun _ _ _ _ hb ⟨l, m, e, h1, h2, h3, h4, h, h'⟩ => ⟨l, m, e, h1, h2, h3, h4, h.since hb, h'.since hb⟩
theorem BlockQ.lasts : Lasts BlockQ := fun _ _ _ _ hb ⟨p, o, es, e, h1, h2, h3⟩ => ⟨p, o, es, e, h1.since hb, h2.since OpQ.lasts hb, EndQ.lasts _ _ _ _ hb h3⟩
theorem FuncQ.lasts : Lasts FuncQ := fun _ _ _ _ hb ⟨b, e, h1, h2⟩ => ⟨b, e, h1, h2.since BlockQ.lasts hb⟩
theorem SigQ.lasts : Lasts SigQ := fun _ _ _ _ hb ⟨p, e, h1, h2⟩ => ⟨p, e, h1.since hb, h2⟩
theorem ClassQ.lasts : Lasts ClassQ := fun _ _ _ _ hb ⟨f, m, e, h1, h2⟩ => ⟨f, m, e, h1.since hb, h2.since hb⟩
theorem ProgQ.lasts : Lasts ProgQ := fun _ _ _ _ hb ⟨s, c, f, e, h1, h2, h3⟩ => ⟨s, c, f, e, h1.since SigQ.lasts hb, h2.since ClassQ.lasts hb, h3.since FuncQ.lasts hb⟩

section
variable {H : Type} {enc : TypeId × Value → H} {P : Program}
/-- A datum that is as small as each argument is. -/
def Fits (P : Program) (t : TypeId) (d : DataW H) : Prop := (d.weights P t).all (· ≤ reachBytes) = true
theorem Fits.of_each {ts : List TypeId} {ds : List (DataW H)} (h : (DataW.weightsEach P ts ds).all (· ≤ reachBytes) = true) {j : Nat} {t : TypeId} {d : DataW H} (hj : ts[j]? = some t) (hd : ds[j]? = some d) : Fits P t d := by
  unfold Fits
  rw [List.all_eq_true]
  exact fun n hn => List.all_eq_true.1 h n (DataW.weights_mem_each hj hd n hn)
theorem Fits.each {t : TypeId} {d : DataW H} (h : Fits P t d) : (DataW.weightsEach P [t] [d]).all (· ≤ reachBytes) = true := by
  simpa [DataW.weightsEach, Fits] using h
theorem Fits.part {t : TypeId} {fs : Array Field} {parts : List (DataW H)} (hs : P.underlying t = some (.struct fs)) (h : Fits P t (.agg parts)) {j : Nat} {f : Field} {d : DataW H} (hf : fs[j]? = some f) (hd : parts[j]? = some d) : Fits P f.type d := by
  have h1 := sized_agg h.each (j := 0) rfl rfl hs
  exact Fits.of_each h1 (by simp [List.getElem?_map, hf]) hd
theorem weights_mem_all {e : TypeId} {ds : List (DataW H)} {d : DataW H} (hd : d ∈ ds) {n : Nat} (hn : n ∈ d.weights P e) : n ∈ DataW.weightsAll P e ds := by
  induction ds with
  | nil => cases hd
  | cons x r ih =>
    simp only [DataW.weightsAll, List.mem_append]
    rcases List.mem_cons.1 hd with rfl | h
    · exact .inl hn
    · exact .inr (ih h)
theorem Fits.elem {t e : TypeId} {elems spare : List (DataW H)} (ht : P.underlying t = some (.slice e)) (h : Fits P t (.slice elems spare)) {d : DataW H} (hd : d ∈ elems) : Fits P e d := by
  unfold Fits at h ⊢
  rw [List.all_eq_true] at h ⊢
  intro n hn
  refine h n ?_
  simp only [DataW.weights, ht, List.mem_cons, List.mem_append]
  exact .inr (.inl (weights_mem_all hd hn))

/-- Whatever reads as a type's datum is a Q. -/
def Opens {α : Type} (enc : TypeId × Value → H) (P : Program) (t : TypeId) (Q : World → List Value → α → Prop) : Prop :=
  ∀ {W : World} {fuel : Nat} {cs : List Value} {y : DataW H × List MemPlace}, DataW.trod enc P W 0 (fun _ => true) true fuel t cs = some y → (∀ x ∈ y.2, x.block < W.heap.size) → Fits P t y.1 → ∃ x : α, Q W cs x
theorem list_of {α : Type} {R : Nat → α → Prop} : ∀ n : Nat, (∀ i, i < n → ∃ x, R i x) → ∃ xs : List α, xs.length = n ∧ ∀ i (h : i < xs.length), R i xs[i]
  | 0, _ => ⟨[], rfl, fun i h => absurd h (by simp)⟩
  | n + 1, h => by
    obtain ⟨xs, hl, hx⟩ := list_of n (fun i hi => h i (by omega))
    obtain ⟨x, hr⟩ := h n (by omega)
    refine ⟨xs ++ [x], by simp [hl], fun i hi => ?_⟩
    by_cases hi' : i < xs.length
    · rw [List.getElem_append_left hi']; exact hx i hi'
    · have : i = n := by simp [hl] at hi; omega
      subst this
      rw [List.getElem_append_right (by omega)]
      simpa using hr
theorem opens_row {α : Type} {Q : World → List Value → α → Prop} {t e : TypeId} {k : Nat} (ht : P.underlying t = some (.slice e)) (hk : P.cellsOf e = k) (h0 : 0 < k) (hby : 0 < P.bytesOf e) (hQ : Opens enc P e Q) : Opens enc P t (fun W cs xs => ∃ v, cs = [v] ∧ RowV Q k W v xs) := by
  intro W fuel cs y h hlt hfit
  subst hk
  rcases open_slice ht h with ⟨rfl, rfl⟩ | ⟨a, len, cap, m, n, D, Pl, rfl, hb, hl, hm, hmm, rfl, hi⟩
  · exact ⟨[], _, rfl, none, 0, 0, rfl, rfl, fun _ => rfl, by omega, fun h => absurd h (by omega)⟩
  · simp only [if_true] at hmm
    have hw := sized_slice hfit.each (j := 0) rfl rfl ht
    simp only [List.length_map, List.length_range, reachBytes] at hw
    have hlen : len ≤ 140737488351232 := by
      have h1 : len * 1 ≤ (len + (m - len)) * P.bytesOf e := Nat.mul_le_mul (by omega) hby
      omega
    obtain ⟨xs, hxl, hxs⟩ := list_of (R := fun (i : Nat) (x : α) => ∃ cs : List Value, cs.length = P.cellsOf e ∧ (∀ j (hj : j < cs.length), W.cell? ((a.add (i * P.cellsOf e)).add j) = some cs[j]) ∧ Q W cs x) len (fun i hi' => by
      obtain ⟨cs', hc, htr⟩ := hi i (by omega)
      obtain ⟨_, hcl, hcat⟩ := World.cells?_some hc
      have hmem : D i ∈ (List.range len).map D := List.mem_map.2 ⟨i, List.mem_range.2 hi', rfl⟩
      obtain ⟨x, hx⟩ := hQ htr (fun p hp => hlt p (List.mem_append_right _ (List.mem_flatMap.2 ⟨i, List.mem_range.2 (by omega), hp⟩))) (hfit.elem ht hmem)
      exact ⟨x, cs', hcl, fun j hj => by rw [hcat j (by omega), List.getElem?_eq_getElem hj], hx⟩)
    refine ⟨xs, _, rfl, some a, len, cap, rfl, hxl, (fun h => by cases h), hlen, fun hpos => ?_⟩
    obtain ⟨b, off, spot⟩ := a
    have hs : spot = none := by
      obtain ⟨cs0, hcl0, hc0, _⟩ := hxs 0 (by omega)
      have := World.cell?_spot (hc0 0 (by omega))
      simpa [Addr.add] using this
    subst hs
    refine ⟨b, off, rfl, hlt (.cell b (off + 0)) (List.mem_append_left _ (MemPlace.mem_row.2 ⟨0, Nat.mul_pos (by omega) h0, rfl⟩)), fun i h => ?_⟩
    obtain ⟨cs, hcl, hc, hq⟩ := hxs i h
    refine ⟨cs, hcl, fun j hj => ?_, hq⟩
    have := hc j hj
    rw [addr_plain, addr_plain] at this
    exact this
theorem opens_nums {t e : TypeId} (ht : P.underlying t = some (.slice e)) (he : P.underlying e = some (.int .i64)) (hc : P.cellsOf e = 1) (h8 : P.bytesOf e = 8) : Opens enc P t (fun W cs Z => ∃ v, cs = [v] ∧ NumsV W v Z) := by
  intro W fuel cs y h hlt hfit
  have hone : ∃ v, cs = [v] := by
    rcases open_slice ht h with ⟨rfl, _⟩ | ⟨a, len, cap, _, _, _, _, rfl, _⟩ <;> exact ⟨_, rfl⟩
  obtain ⟨v, rfl⟩ := hone
  obtain ⟨a, n, c, Z, e1, h1, h2, h3, h4, _⟩ := open_nums_field ht he hc h8 h hlt hfit.each (j := 0) rfl rfl
  exact ⟨Z, v, rfl, a, n, c, e1, h1, h2, h3, h4⟩
theorem opens_int {t : TypeId} (ht : P.underlying t = some (.int .i64)) : Opens enc P t (fun W cs z => cs = [.int .i64 z] ∧ InR z) := by
  intro W fuel cs y h _ _
  obtain ⟨n, h1, _, h3⟩ := DataW.trod_int ht h
  exact ⟨n, h1, wf_i64_range h3⟩
theorem opens_text {t : TypeId} (ht : P.underlying t = some .string) : Opens enc P t (fun W cs s => cs = [.string s] ∧ s.size ≤ 140737488351232) := by
  intro W fuel cs y h _ hfit
  obtain ⟨s, h1, h2, _⟩ := DataW.trod_string ht h
  have := sized_string hfit.each (j := 0) (bytes := s.data.toList) rfl (by rw [h2]; rfl)
  rw [list_len] at this
  exact ⟨s, h1, by simpa [reachBytes] using this⟩
theorem opens_bool {t : TypeId} (ht : P.underlying t = some .bool) : Opens enc P t (fun W cs b => cs = [.bool b]) := by
  intro W fuel cs y h _ _
  obtain ⟨b, h1, _⟩ := DataW.trod_bool ht h
  exact ⟨b, h1⟩
/-- A part of a struct. -/
theorem opens_part {α : Type} {Q : World → List Value → α → Prop} {t : TypeId} {fs : Array Field} {W : World} {fuel : Nat} {cs : List Value} {y : DataW H × List MemPlace} (hs : P.underlying t = some (.struct fs)) (h : DataW.trod enc P W 0 (fun _ => true) true fuel t cs = some y) (hlt : ∀ x ∈ y.2, x.block < W.heap.size) (hfit : Fits P t y.1)
    (j : Nat) {f : Field} (hf : fs[j]? = some f) {o k : Nat} (ho : f.offset = o) (hk : P.cellsOf f.type = k) {u : TypeId} (hu : f.type = u) (hQ : Opens enc P u Q) : ∃ x, Q W ((cs.drop o).take k) x := by
  subst ho hk hu
  obtain ⟨xs, n, _, rfl, hcl, hxl, hg⟩ := DataW.trod_struct hs h
  have hj : j < xs.length := by rw [hxl]; exact (Array.getElem?_eq_some_iff.1 hf).1
  have hx : xs[j]? = some xs[j] := List.getElem?_eq_getElem hj
  have h1 := (hg j f hf).trans hx
  exact hQ h1 (fun p hp => hlt p (List.mem_flatMap.2 ⟨xs[j], List.getElem_mem _, hp⟩)) (hfit.part hs hf (by rw [List.getElem?_map, hx]; rfl))
theorem struct_len {t : TypeId} {fs : Array Field} {W : World} {fuel : Nat} {cs : List Value} {y : DataW H × List MemPlace} (hs : P.underlying t = some (.struct fs)) (h : DataW.trod enc P W 0 (fun _ => true) true fuel t cs = some y) : cs.length = P.cellsOf t := by
  obtain ⟨xs, n, _, _, hcl, _⟩ := DataW.trod_struct hs h
  exact hcl
end
end Go.Proofs.Ytgncpiamokeohaa
