/- Slices of numbers of 64 bits, more: appended to a row of the call's own from whatever is read; copied to a row that was just written out. Nothing of the program is named here. -/
import Derived.Test.YtgncpiamokeohaaNums
namespace Go.Proofs.Ytgncpiamokeohaa
open Go.RowKit (wrap64 intOf Below)
set_option linter.unusedVariables false

theorem NumsAt.at {w : World} {a : Option Addr} {n : Nat} {Z : List Int} (h : NumsAt w a n Z) (hn : 0 < n) : ∃ ad, a = some ad ∧ ∀ j (h : j < Z.length), w.cell? (ad.add j) = some (numV Z[j]) := by
  obtain ⟨g, off, rfl, _, hc⟩ := h.2 hn
  exact ⟨_, rfl, fun j hj => by rw [addr_plain]; exact hc j hj⟩
theorem OwnsI.read {w : World} {B : Nat} {e : TypeId} {a : Option Addr} {n c : Nat} {Z : List Int} (h : OwnsI w B e (.slice a n c) Z) : NumsAt w a n Z := by
  obtain ⟨a', n', c', he, hat⟩ := h.nums
  cases he
  exact hat
theorem OwnsI.empty (w : World) (e : TypeId) : OwnsI (w.alloc (.cells #[] e)) w.heap.size e (.slice (some ⟨w.heap.size, 0, none⟩) 0 0) [] :=
  OwnsI.made #[] 0 (Nat.le_refl _) (Nat.zero_le _) rfl

theorem OwnsI.laid {w : World} {e : TypeId} {n B : Nat} (hn : n = w.heap.size) (hB : B ≤ n) : OwnsI (w.alloc (.cells #[] e)) B e (.slice (some ⟨n, 0, none⟩) 0 0) [] := by
  subst hn; exact OwnsI.made #[] 0 hB (Nat.zero_le _) rfl
theorem OwnsI.setCell {w : World} {B : Nat} {e : TypeId} {v : Value} {Z : List Int} (h : OwnsI w B e v Z) (p : Addr) (x : Value) (hp : p.block < B) : OwnsI (w.setCell p x) B e v Z := by
  refine ⟨h.1, ?_⟩
  rcases h.2 with hn | ⟨g, cap, cur, rfl, hg, hh, rest⟩
  · exact .inl hn
  · refine .inr ⟨g, cap, cur, rfl, hg, ?_, rest⟩
    rw [Below.heap_setCell _ _ _ _ (by omega)]
    exact hh
/-- 'append(b, x...)': b the call's own, x whatever is read. -/
theorem wpList_append_nums {P : Program} (w : World) {ops : Array Oper} {rest : List Oper} {o : Oper} {a : Act} {Q : Exit → Act → World → Prop} (hgd : o.guard = none) (s x : Operand) (t : TypeId)
    (ho : o.op = .call { callee := .builtin .append, args := #[s, x], argTypes := #[t, t] }) (e : TypeId) (ht : P.underlying t = some (.slice e))
    (hinfo : (P.info? e).map (fun i => (i.zero, i.size, i.bytes)) = some (some (.int .i64 0), 1, 8))
    (B : Nat) (v : Value) (Z : List Int) (hs : a.eval s = v) (hown : OwnsI w B e v Z) (hB : B ≤ w.heap.size)
    (xa : Option Addr) (m c : Nat) (news : List Int) (hx : a.eval x = .slice xa m c) (hnil : xa = none → c = 0) (hat : NumsAt w xa m news)
    (hlen : (Z.length + m) * 8 ≤ 140737488355328)
    (h : ∀ va vn vc w', OwnsI w' B e (.slice va vn vc) (Z ++ news) → Below B w w' → wpList P ops Q rest (a.put o.dst (.slice va vn vc)) w') : wpList P ops Q (o :: rest) a w := by
  obtain ⟨i0, hi, hz0, hz1, hz2⟩ := info_parts hinfo
  have h1 := hat.1
  cases xa with
  | none =>
    have hm : m = 0 := by
      by_cases h0 : 0 < m
      · obtain ⟨g, off, he, _⟩ := hat.2 h0; cases he
      · omega
    have hc : c = 0 := hnil rfl
    subst hm hc
    have h0 : news = [] := List.eq_nil_of_length_eq_zero h1
    subst h0
    refine wpList_append_own_none hgd s x t ho B e i0 1 ht hi v Z.length (Z.map numV) hs hown hx ?_
    obtain ⟨va, vn, vc, rfl, hat⟩ := hown.nums
    exact h va vn vc w (by rw [List.append_nil]; exact hown) (Below.refl _ _)
  | some ad =>
    subst h1
    refine wpList_append_own _ hgd s x t ho B e i0 (.int .i64 0) 1 8 ht hi hz0 hz1 hz2 rfl (by decide) v Z.length (Z.map numV) hs hown ad news.length c (news.map numV) hx (by simp) (fun j u hu => ?_) (fun u hu => by obtain ⟨z, _, rfl⟩ := List.mem_map.1 hu; rfl) (by unfold maxLen; omega) hlen hB ?_
    · rw [List.getElem?_map] at hu
      obtain ⟨z, hz, rfl⟩ := Option.map_eq_some_iff.1 hu
      obtain ⟨hj, rfl⟩ := List.getElem?_eq_some_iff.1 hz
      obtain ⟨ad', he, hcell⟩ := hat.at (by omega)
      cases he
      exact hcell j hj
    · intro v' w' hown' hgrow _
      have hown2 : OwnsI w' B e v' (Z ++ news) := by
        show w'.ownsRow B e 1 v' (Z ++ news).length ((Z ++ news).map numV)
        rw [List.map_append, List.length_append]
        exact hown'
      obtain ⟨va, vn, vc, rfl, hat⟩ := hown2.nums
      exact h va vn vc w' hown2 (Below.grown (Below.refl B w) hgrow hB (fun k hk => (hown.lt k hk).1))

/-- 'append([]int{}, x...)': nothing that was there turns; what comes is new, or the empty row itself. -/
theorem run_copy_read {P : Program} (w : World) (t ty e : TypeId) (ht : P.underlying t = some (.slice e)) (hinfo : (P.info? e).map (fun i => (i.zero, i.size, i.bytes)) = some (some (.int .i64 0), 1, 8))
    (b : Addr) (xa : Option Addr) (m c : Nat) (Z : List Int) (hat : NumsAt w xa m Z) (hlen : m * 8 ≤ 140737488355328) :
    ∃ va vc w', (Builtin.append_ #[t, t] ty #[.slice (some b) 0 0, .slice xa m c]).run P w = .ok (.slice (some va) m vc) w' ∧ NumsAt w' (some va) m Z ∧ Below w.heap.size w w' := by
  obtain ⟨i0, hi, hz0, hz1, hz2⟩ := info_parts hinfo
  by_cases h0 : 0 < m
  · obtain ⟨ad, rfl, hcell⟩ := hat.at h0
    have h1 := hat.1
    subst h1
    have hrun := run_append_grow (P := P) (w := w) t ty e i0 (.int .i64 0) ht hi hz0 b 0 0 [] (by simp) (fun j v hj => by simp at hj) ad Z.length c (Z.map numV) (by rw [hz1]; simp) (fun j y hy => by
      rw [List.getElem?_map] at hy
      obtain ⟨z, hz, rfl⟩ := Option.map_eq_some_iff.1 hy
      obtain ⟨hj, rfl⟩ := List.getElem?_eq_some_iff.1 hz
      exact hcell j hj) (by omega) (by omega) (by rw [hz2]; exact growslice_fits (by omega) (by omega))
    have hnum : NumsAt (w.drew.alloc (.cells (#[] ++ (Z.map numV).toArray ++ Builtin.zeroCells (Value.int .i64 0).cells (grownCap w (0 + Z.length) 0 e - (0 + Z.length))) e)) (some ⟨w.heap.size, 0, none⟩) Z.length Z := by
      refine ⟨rfl, fun hn => ⟨w.heap.size, 0, rfl, by simp, fun j hj => ?_⟩⟩
      have hm := World.cell?_alloc_mark w.drew (#[] ++ (Z.map numV).toArray ++ Builtin.zeroCells (Value.int .i64 0).cells (grownCap w (0 + Z.length) 0 e - (0 + Z.length))) e (0, 0) j
      rw [Nat.zero_add j]
      refine Eq.trans hm ?_
      rw [Array.getElem?_append_left (by simpa using hj)]
      simp [hj]
    have e0 : (0 : Nat) + Z.length = Z.length := Nat.zero_add _
    rw [e0] at hrun hnum
    exact ⟨_, _, _, hrun, hnum, ((Below.refl w.heap.size w).drew).alloc (Nat.le_refl _) _⟩
  · obtain rfl : m = 0 := by omega
    have hZ := List.eq_nil_of_length_eq_zero hat.1
    subst hZ
    refine ⟨b, 0, w, ?_, NumsAt.nil w _, Below.refl _ _⟩
    cases xa <;> simp [Builtin.append_, run_underlying ht, sizeOf, typeInfo, hi, Builtin.lenOf, Builtin.firstCells, storeCells, loadCells, loadCellsFrom]
theorem wpList_copy_read {P : Program} (w : World) {ops : Array Oper} {rest : List Oper} {o : Oper} {a : Act} {Q : Exit → Act → World → Prop} (hgd : o.guard = none) (s x : Operand) (t : TypeId)
    (ho : o.op = .call { callee := .builtin .append, args := #[s, x], argTypes := #[t, t] }) (e : TypeId) (ht : P.underlying t = some (.slice e))
    (hinfo : (P.info? e).map (fun i => (i.zero, i.size, i.bytes)) = some (some (.int .i64 0), 1, 8))
    (b : Addr) (hs : a.eval s = .slice (some b) 0 0) (xa : Option Addr) (m c : Nat) (Z : List Int) (hx : a.eval x = .slice xa m c) (hat : NumsAt w xa m Z) (hlen : m * 8 ≤ 140737488355328)
    (h : ∀ va vc w', NumsAt w' (some va) m Z → Below w.heap.size w w' → wpList P ops Q rest (a.put o.dst (.slice (some va) m vc)) w') : wpList P ops Q (o :: rest) a w := by
  obtain ⟨va, vc, w', hrun, hn, hb⟩ := run_copy_read (P := P) w t o.type e ht hinfo b xa m c Z hat hlen
  refine wpList_plain hgd fun K hK => ?_
  unfold Oper.wp
  simp only [execOp, ho, resolve, invoke, builtin, List.map_toArray, List.map_cons, List.map_nil, hs, hx, Sem.run_bind, Sem.run_pure, Result.andThen_ok, hrun]
  exact hK _ _ (h va vc w' hn hb)
/-- The same as one step of a region that draws its order. -/
theorem step_copy_read {P : Program} {u : World} {ops : Array Oper} {o : Oper} {a : Act} {K : Act → World → Prop} {Q : Exit → Act → World → Prop} {E : Prop} (hgd : Region.wanted o (yielded ops a.tmps) = true) (s x : Operand) (t : TypeId)
    (ho : o.op = .call { callee := .builtin .append, args := #[s, x], argTypes := #[t, t] }) (e : TypeId) (ht : P.underlying t = some (.slice e))
    (hinfo : (P.info? e).map (fun i => (i.zero, i.size, i.bytes)) = some (some (.int .i64 0), 1, 8))
    (b : Addr) (hs : a.eval s = .slice (some b) 0 0) (xa : Option Addr) (m c : Nat) (Z : List Int) (hx : a.eval x = .slice xa m c) (hat : NumsAt u xa m Z) (hlen : m * 8 ≤ 140737488355328)
    (h : ∀ va vc w', NumsAt w' (some va) m Z → Below u.heap.size u w' → K (a.put o.dst (.slice (some va) m vc)) w') :
    if Region.wanted o (yielded ops a.tmps) = true then Oper.wp P o a u K Q else E := by
  rw [if_pos hgd]
  obtain ⟨va, vc, w', hrun, hn, hb⟩ := run_copy_read (P := P) u t o.type e ht hinfo b xa m c Z hat hlen
  have hk := h va vc w' hn hb
  unfold Oper.wp
  simp only [execOp, ho, resolve, invoke, builtin, List.map_toArray, List.map_cons, List.map_nil, hs, hx, Sem.run_bind, Sem.run_pure, Result.andThen_ok, hrun]
  first | exact hk | exact Or.inl hk
theorem below_alloc {w u : World} {o : Obj} (h : Below w.heap.size w u) : Below w.heap.size w (u.alloc o) := h.alloc h.size o
theorem below_drewN {B : Nat} {w u : World} (q : Nat) (h : Below B w u) : Below B w (u.drewN q) := h.trans ⟨rfl, rfl, rfl, Nat.le_refl _, fun _ _ => rfl⟩
end Go.Proofs.Ytgncpiamokeohaa
