/- Slices of numbers of 64 bits that came in (nil or not), and their copies by append to a new empty slice: what a walk needs of them. Nothing of the program is named here. -/
import Derived.WalkKit
import Derived.ProofKit
import Derived.OpenShut
import Derived.Laws.AppendOwnNone
import Derived.SizedLaws
import Derived.Deep.QuietTactic
import Derived.BigQuiet
namespace Go.Proofs.Ytgncpiamokeohaa
open Go.RowKit (wrap64 intOf Below)

theorem addr_block (a : Addr) (j : Nat) : (a.add j).block = a.block := by unfold Addr.add; split <;> rfl
theorem addr_plain (b off j : Nat) : (⟨b, off, none⟩ : Addr).add j = ⟨b, off + j, none⟩ := by
  unfold Addr.add; split
  · rename_i h; subst h; rfl
  · rfl
/-- The number at place k (0 behind the end). -/
def nth (L : List Int) (k : Nat) : Int := L.getD k 0
/-- The cells of a slice of numbers. -/
def CellsAt (w : World) (b off : Nat) (zs : List Int) : Prop := ∀ j, j < zs.length → w.cell? ⟨b, off + j, none⟩ = some (.int .i64 (nth zs j))
/-- A slice of numbers that came in: nil, or a length with its cells. -/
def IntsAt (w : World) (v : Value) (zs : List Int) : Prop :=
  (v = .slice none 0 0 ∧ zs = []) ∨
  ∃ (a : Addr) (c : Nat), v = .slice (some a) zs.length c ∧ zs.length * 8 ≤ 140737488351232 ∧ (∀ j, j < zs.length → a.block < w.heap.size) ∧ ∀ j, j < zs.length → w.cell? (a.add j) = some (.int .i64 (nth zs j))

theorem IntsAt.below {w w' : World} {v : Value} {zs : List Int} {B : Nat} (h : IntsAt w v zs) (hb : Below B w w') (hB : w.heap.size ≤ B) : IntsAt w' v zs := by
  rcases h with h | ⟨a, c, hv, hl, hlt, hc⟩
  · exact Or.inl h
  · refine Or.inr ⟨a, c, hv, hl, fun j hj => Nat.lt_of_lt_of_le (hlt j hj) hb.size, fun j hj => ?_⟩
    rw [hb.cell (p := a.add j) (Nat.lt_of_lt_of_le (by rw [addr_block]; exact hlt j hj) hB)]
    exact hc j hj
theorem IntsAt.len {w : World} {v : Value} {zs : List Int} (h : IntsAt w v zs) : zs.length * 8 ≤ 140737488351232 := by
  rcases h with ⟨_, rfl⟩ | ⟨a, c, _, hl, _⟩
  · exact Nat.zero_le _
  · exact hl
theorem IntsAt.cells {w : World} {v : Value} {zs : List Int} (h : IntsAt w v zs) (hne : 0 < zs.length) :
    ∃ (b off c : Nat), v = .slice (some ⟨b, off, none⟩) zs.length c ∧ b < w.heap.size ∧ CellsAt w b off zs := by
  rcases h with ⟨_, rfl⟩ | ⟨⟨b, off, spot⟩, c, hv, _, hlt, hc⟩
  · exact absurd hne (by simp)
  · have hs : spot = none := by simpa [Addr.add] using World.cell?_spot (hc 0 hne)
    subst hs
    exact ⟨b, off, c, hv, hlt 0 hne, fun j hj => by have := hc j hj; rwa [addr_plain] at this⟩
theorem IntsAt.shape {w : World} {v : Value} {zs : List Int} (h : IntsAt w v zs) : ∃ (a : Option Addr) (c : Nat), v = .slice a zs.length c := by
  rcases h with ⟨rfl, rfl⟩ | ⟨a, c, hv, _⟩
  · exact ⟨none, 0, rfl⟩
  · exact ⟨some a, c, hv⟩

theorem CellsAt.below {w w' : World} {b off : Nat} {zs : List Int} {B : Nat} (h : CellsAt w b off zs) (hb : Below B w w') (hB : b < B) : CellsAt w' b off zs := fun j hj => by
  rw [hb.cell (p := ⟨b, off + j, none⟩) hB]; exact h j hj

/-- 'append([]T{}, xs...)' where xs came in: a new row with its numbers. -/
theorem wpList_copy_ints {P : Program} (w : World) {ops : Array Oper} {rest : List Oper} {o : Oper} {a : Act} {Q : Exit → Act → World → Prop} (hgd : o.guard = none) (s x : Operand) (t : TypeId)
    (ho : o.op = .call { callee := .builtin .append, args := #[s, x], argTypes := #[t, t] }) (e : TypeId) (ht : P.underlying t = some (.slice e))
    (hinfo : (P.info? e).map (fun i => (i.zero, i.size, i.bytes)) = some (some (.int .i64 0), 1, 8))
    (g0 : Nat) (hs : a.eval s = .slice (some ⟨g0, 0, none⟩) 0 0) (hg0 : w.heap[g0]? = some (.cells #[] e (0, 0))) (hlt0 : g0 < w.heap.size)
    (v : Value) (zs : List Int) (hx : a.eval x = v) (hv : IntsAt w v zs)
    (h : ∀ g cap w', g0 ≤ g → g < w'.heap.size → zs.length ≤ cap → cap ≤ maxLen → CellsAt w' g 0 zs → Below g0 w w' → wpList P ops Q rest (a.put o.dst (.slice (some ⟨g, 0, none⟩) zs.length cap)) w') :
    wpList P ops Q (o :: rest) a w := by
  obtain ⟨i0, hi, hz0, hz1, hz2⟩ := info_parts hinfo
  have hown : w.ownsRow g0 e 1 (.slice (some ⟨g0, 0, none⟩) 0 0) 0 [] :=
    ⟨rfl, .inr ⟨g0, 0, #[], rfl, Nat.le_refl _, hg0, Nat.le_refl _, Nat.zero_le _, rfl, rfl⟩⟩
  rcases hv with ⟨rfl, rfl⟩ | ⟨ad, c, rfl, hlen, _, hcell⟩
  · exact wpList_append_own_none hgd s x t ho g0 e i0 1 ht hi _ 0 [] hs hown hx (h g0 0 w (Nat.le_refl _) hlt0 (Nat.le_refl _) (Nat.zero_le _) (fun j hj => by simp at hj) (Below.refl _ _))
  · refine wpList_append_own w hgd s x t ho g0 e i0 (.int .i64 0) 1 8 ht hi hz0 hz1 hz2 rfl (by decide) _ 0 [] hs hown ad zs.length c (zs.map (Value.int .i64)) hx (by simp) (fun j u hu => ?_) (fun u hu => ?_) (by unfold maxLen; omega) (by omega) (by omega) ?_
    · rw [List.getElem?_map] at hu
      obtain ⟨z, hz, rfl⟩ := Option.map_eq_some_iff.1 hu
      have hj : j < zs.length := (List.getElem?_eq_some_iff.1 hz).1
      rw [hcell j hj]
      unfold nth
      rw [List.getD_eq_getElem?_getD, hz]; rfl
    · obtain ⟨z, _, rfl⟩ := List.mem_map.1 hu; rfl
    · intro v' w' hown' hgrow hnil
      have hown2 := hown'
      have hltv := hown'.lt
      obtain ⟨_, hcase⟩ := hown'
      rcases hcase with ⟨rfl, _⟩ | ⟨g, cap, cur, rfl, hg, hheap, hn, hcap, _, _⟩
      · exact absurd (hnil.1 rfl).1 (by simp)
      · simp only [Nat.zero_add] at hn ⊢
        refine h g cap w' hg (hltv g rfl).2 hn hcap (fun j hj => ?_) ?_
        · have := hown2.cells (g := g) rfl j (.int .i64 (nth zs j)) (by
            rw [List.nil_append, List.getElem?_map, List.getElem?_eq_getElem hj]
            unfold nth
            rw [List.getD_eq_getElem?_getD, List.getElem?_eq_getElem hj]; rfl)
          rwa [addr_plain] at this
        · exact Below.grown (Below.refl _ _) hgrow (by omega) (fun k hk => by cases hk; exact Nat.le_refl _)

/-! ### A call that leaves the world alone, inside a region that draws its order -/
theorem quiet_add_left {P : Program} {f : FuncId} {args : Array Value} {w : World} {a n : Nat} {v : Value}
    (h : Calls P f args (w.drewN (a + n)) fun e w' => e = .returned v ∧ w.drewN (a + n) = w') :
    Calls P f args (w.drewN (a + n)) fun e w'' => e = .returned v ∧ ∃ m, w'' = w.drewN (a + m) :=
  h.mono fun _ _ ⟨he, hm⟩ => ⟨he, n, hm.symm⟩
theorem quiet_left {P : Program} {f : FuncId} {args : Array Value} {w : World} {n : Nat} {v : Value}
    (h : Calls P f args (w.drewN n) fun e w' => e = .returned v ∧ w.drewN n = w') : Calls P f args (w.drewN n) fun e w'' => e = .returned v ∧ ∃ m, w'' = w.drewN m :=
  h.mono fun _ _ ⟨he, hm⟩ => ⟨he, n, hm.symm⟩

/-! ### From the readings -/
theorem nth_take (zs : List Int) (n j : Nat) (h : j < n) : nth (zs.take n) j = zs.getD j 0 := by
  unfold nth
  rw [List.getD_eq_getElem?_getD, List.getElem?_take, if_pos h, ← List.getD_eq_getElem?_getD]
theorem wf_i64_range {n : Int} (h : (Lit.int .i64 n).wf = true) : -9223372036854775808 ≤ n ∧ n ≤ 9223372036854775807 := by
  simp only [Lit.wf, IntKind.min, IntKind.max, IntKind.signed, IntKind.bits, Bool.and_eq_true, decide_eq_true_eq, if_true] at h
  omega
end Go.Proofs.Ytgncpiamokeohaa
