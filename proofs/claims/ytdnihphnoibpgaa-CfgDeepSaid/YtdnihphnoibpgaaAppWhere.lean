/- 'append(l, z)' on a row of the call's own, and where its array then lies: where it lay, or in a new block. Nothing of the program is named here. -/
import Derived.Test.YtdnihphnoibpgaaIterBox
namespace Go.Proofs.Ytdnihphnoibpgaa
open Go.RowKit
set_option linter.unusedVariables false
theorem append_where {P : Program} {w w' : World} {B : Nat} {t ty e : TypeId} {i0 : TypeInfo} (ht : P.underlying t = some (.slice e)) (hi : P.info? e = some i0) (hz0 : i0.zero = some (.int .i64 0)) (hz1 : i0.size = 1) (hz2 : i0.bytes = 8)
    {v v' : Value} {Z : List Int} (hown : OwnsI w B e v Z) {g c : Nat} {z : Int} (hnew : w.cell? ⟨g, 0, none⟩ = some (.int .i64 z)) (hlen : (Z.length + 1) * 8 ≤ 140737488355328)
    (hrun : (Builtin.append_ #[t, t] ty #[v, .slice (some ⟨g, 0, none⟩) 1 c]).run P w = .ok v' w') : ∀ i, v'.ownBlock = some i → v.ownBlock = some i ∨ w.heap.size ≤ i := by
  have hnews : ∀ (j : Nat) (u : Value), ([.int .i64 z] : List Value)[j]? = some u → w.cell? ((⟨g, 0, none⟩ : Addr).add j) = some u := by
    intro j u hu
    obtain ⟨hj, rfl⟩ := List.getElem?_eq_some_iff.1 hu
    simp only [List.length_cons, List.length_nil] at hj
    obtain rfl : j = 0 := by omega
    simpa [Addr.add] using hnew
  have h1 : ∀ u ∈ ([.int .i64 z] : List Value), u.oneCell' = true := by intro u hu; simp at hu; subst hu; rfl
  intro i hiv
  have hown0 : w.ownsRow B e 1 v Z.length (Z.map numV) := hown
  rcases hown0.2 with ⟨rfl, h0⟩ | ⟨g0, cap, cur, rfl, hB, hh, hn, hcap, hsz, htk⟩
  · obtain ⟨v2, w2, hr, ho, _⟩ := run_append_own (P := P) w w.heap.size t ty e i0 (.int .i64 0) 1 8 ht hi hz0 hz1 hz2 rfl (by decide) (.slice none 0 0) 0 [] (World.ownsRow_nil _ _ _ 1) ⟨g, 0, none⟩ 1 c [.int .i64 z] rfl hnews h1 (by unfold maxLen; omega) (by omega) (Nat.le_refl _)
    rw [hrun] at hr
    cases hr
    exact .inr (ho.lt i hiv).1
  · by_cases hf : Z.length + 1 ≤ cap
    · obtain ⟨w2, hr, _, _⟩ := run_append_fits (P := P) w B t ty e i0 1 ht hi hz1 g0 Z.length cap (Z.map numV) hown0 ⟨g, 0, none⟩ 1 c [.int .i64 z] rfl hnews h1 hf
      rw [hrun] at hr
      cases hr
      exact .inl hiv
    · have hr := run_append_grow (P := P) (w := w) t ty e i0 (.int .i64 0) ht hi hz0 ⟨g0, 0, none⟩ Z.length cap (Z.map numV) (by rw [hz1]; simp) (fun j u hj => World.ownsRow.cells hown0 rfl j u hj) ⟨g, 0, none⟩ 1 c [.int .i64 z] (by rw [hz1]; rfl) hnews (by omega) (by omega) (by rw [hz2]; exact growslice_fits (by omega) (by omega))
      rw [hrun] at hr
      cases hr
      simp only [Value.ownBlock, Option.some.injEq] at hiv
      exact .inr (by omega)
theorem wpListIn_append_numW {F : Fence} {n : Nat} {P : Program} (w : World) {ops : Array Oper} {rest : List Oper} {o : Oper} {a : Act} {Q : Exit → Act → World → Prop} (hgd : o.guard = none) (s x : Operand) (t : TypeId)
    (ho : o.op = .call { callee := .builtin .append, args := #[s, x], argTypes := #[t, t] }) (e : TypeId) (ht : P.underlying t = some (.slice e))
    (hinfo : (P.info? e).map (fun i => (i.zero, i.size, i.bytes)) = some (some (.int .i64 0), 1, 8))
    (B : Nat) (v : Value) (Z : List Int) (hs : a.eval s = v) (hown : OwnsI w B e v Z) (hB : B ≤ w.heap.size)
    (C : Array Value) (c g : Nat) (z : Int) (hx : a.eval x = .slice (some ⟨g, 0, none⟩) 1 c) (hg : g = w.heap.size) (hC : C = #[.int .i64 z])
    (hlen : (Z.length + 1) * 8 ≤ 140737488355328)
    (h : ∀ va vn vc w', OwnsI w' B e (.slice va vn vc) (Z ++ [z]) → (w.alloc (.cells C e)).grownBy w' v.ownBlock → (∀ i, (Value.slice va vn vc).ownBlock = some i → v.ownBlock = some i ∨ w.heap.size ≤ i) → wpListIn F n P ops Q rest (a.put o.dst (.slice va vn vc)) w') : wpListIn F n P ops Q (o :: rest) a (w.alloc (.cells C e)) := by
  obtain ⟨i0, hi, hz0, hz1, hz2⟩ := info_parts hinfo
  subst hC hg
  have hcell : (w.alloc (.cells #[.int .i64 z] e)).cell? ⟨w.heap.size, 0, none⟩ = some (.int .i64 z) := by rw [World.cell?_alloc_mark]; rfl
  have hown1 : OwnsI (w.alloc (.cells #[.int .i64 z] e)) B e v Z := World.ownsRow.alloc hown _
  refine wpListIn_plain hgd fun K hK' => ?_
  obtain ⟨v', w', hrun, r1, r2, _⟩ := run_append_own (P := P) (w.alloc (.cells #[.int .i64 z] e)) B t o.type e i0 (.int .i64 0) 1 8 ht hi hz0 hz1 hz2 rfl (by decide) v Z.length (Z.map numV) hown1 ⟨w.heap.size, 0, none⟩ 1 c [.int .i64 z] rfl (fun j u hu => by
    obtain ⟨hj, rfl⟩ := List.getElem?_eq_some_iff.1 hu
    simp only [List.length_cons, List.length_nil] at hj
    obtain rfl : j = 0 := by omega
    simp [Addr.add]) (by intro u hu; simp at hu; subst hu; rfl) (by unfold maxLen; omega) hlen (by simp; omega)
  have hwh := append_where ht hi hz0 hz1 hz2 hown1 hcell hlen hrun
  have hown2 : OwnsI w' B e v' (Z ++ [z]) := by
    show w'.ownsRow B e 1 v' (Z ++ [z]).length ((Z ++ [z]).map numV)
    rw [List.map_append, List.length_append]
    exact r1
  obtain ⟨va, vn, vc, rfl, _⟩ := hown2.nums
  unfold Oper.wpIn
  refine ⟨?_, ?_⟩
  · simp [Oper.about, ho, resolve, Target.leads, Sem.run_pure]
  · rw [Oper.semAt_plain F _ _ (by rw [ho]; intro c hc'; cases hc')]
    simp [execOp, ho, resolve, invoke, builtin, hs, hx, hrun, Result.andThen]
    exact hK' _ _ (h va vn vc w' hown2 r2 (fun i hi' => (hwh i hi').imp id (fun h' => by simp at h'; omega)))
end Go.Proofs.Ytdnihphnoibpgaa
