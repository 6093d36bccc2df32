/- Layer 7: the document's walk, which calls itself: which blocks were met, and left. -/
import Derived.Test.YtnnccahpgailiaaQT2

namespace Go.Proofs.Ytnnccahpgailiaa
open Go.RowKit (wrap64 intOf Below)
set_option linter.unusedVariables false
set_option linter.unusedSimpArgs false

/-- 'append(l, z)': a number behind the others; what was turned, and where the array then lies. -/
theorem wpList_append_numW {P : Program} (w : World) {ops : Array Oper} {rest : List Oper} {o : Oper} {a : Act} {Q : Exit → Act → World → Prop} (hgd : o.guard = none) (s x : Operand) (t : TypeId)
    (ho : o.op = .call { callee := .builtin .append, args := #[s, x], argTypes := #[t, t] }) (e : TypeId) (ht : P.underlying t = some (.slice e))
    (hinfo : (P.info? e).map (fun i => (i.zero, i.size, i.bytes)) = some (some (.int .i64 0), 1, 8))
    (B : Nat) (v : Value) (Z : List Int) (hs : a.eval s = v) (hown : OwnsI w B e v Z) (hB : B ≤ w.heap.size)
    (C : Array Value) (c g : Nat) (z : Int) (hx : a.eval x = .slice (some ⟨g, 0, none⟩) 1 c) (hg : g = w.heap.size) (hC : C = #[.int .i64 z])
    (hlen : (Z.length + 1) * 8 ≤ 140737488355328)
    (h : ∀ va vn vc w', OwnsI w' B e (.slice va vn vc) (Z ++ [z]) → (w.alloc (.cells C e)).grownBy w' v.ownBlock → (∀ i, (Value.slice va vn vc).ownBlock = some i → v.ownBlock = some i ∨ w.heap.size ≤ i) → wpList P ops Q rest (a.put o.dst (.slice va vn vc)) w') : wpList P ops Q (o :: rest) a (w.alloc (.cells C e)) := by
  obtain ⟨i0, hi, hz0, hz1, hz2⟩ := info_parts hinfo
  subst hC hg
  have hcell : (w.alloc (.cells #[.int .i64 z] e)).cell? ⟨w.heap.size, 0, none⟩ = some (.int .i64 z) := by rw [World.cell?_alloc_mark]; rfl
  have hown1 : OwnsI (w.alloc (.cells #[.int .i64 z] e)) B e v Z := World.ownsRow.alloc hown _
  refine wpList_plain hgd fun K hK' => ?_
  obtain ⟨v', w', hrun, r1, r2, _⟩ := run_append_own (P := P) (w.alloc (.cells #[.int .i64 z] e)) B t o.type e i0 (.int .i64 0) 1 8 ht hi hz0 hz1 hz2 rfl (by decide) v Z.length (Z.map numV) hown1 ⟨w.heap.size, 0, none⟩ 1 c [.int .i64 z] rfl (fun j u hu => by
    obtain ⟨hj, rfl⟩ := List.getElem?_eq_some_iff.1 hu
    simp only [List.length_cons, List.length_nil] at hj
    obtain rfl : j = 0 := by omega
    simp [Addr.add]) (by intro u hu; simp at hu; subst hu; rfl) (by unfold maxLen; omega) hlen (by simp; omega)
  have hwh := append_where ht hi hz0 hz1 hz2 hown1 hcell hlen hrun
  have hown2 : OwnsI w' B e v' (Z ++ [z]) := by
    show w'.ownsRow B e 1 v' (Z ++ [z]).length ((Z ++ [z]).map numV)
    rw [List.map_append, List.length_append]
    exact r1
  obtain ⟨va, vn, vc, rfl, _⟩ := hown2.nums
  unfold Oper.wp
  simp [execOp, ho, resolve, invoke, builtin, hs, hx, hrun, Result.andThen]
  exact hK' _ _ (h va vn vc w' hown2 r2 (fun i hi' => (hwh i hi').imp id (fun h' => by simp at h'; omega)))

/-- What a walk leaves as it was: all but its two lists' place and the first list's array; that one is then the same, or new. -/
structure WkKeep (pw : Nat) (W W' : World) (mv mv' : Value) : Prop where
  off : Off (fun i => i = pw ∨ mv.ownBlock = some i) W W'
  new : ∀ i, mv'.ownBlock = some i → mv.ownBlock = some i ∨ W.heap.size ≤ i
theorem WkKeep.refl (pw : Nat) (W : World) (mv : Value) : WkKeep pw W W mv mv := ⟨Off.refl _ _, fun i h => .inl h⟩
theorem WkKeep.trans {pw : Nat} {A B C : World} {a b c : Value} (h : WkKeep pw A B a b) (k : WkKeep pw B C b c) : WkKeep pw A C a c :=
  ⟨h.off.trans_new k.off (fun i hi => by
    rcases hi with rfl | hi
    · exact .inl (.inl rfl)
    · rcases h.new i hi with h' | h'
      · exact .inl (.inr h')
      · exact .inr h'), fun i hi => by
    rcases k.new i hi with h' | h'
    · exact h.new i h'
    · exact .inr (Nat.le_trans h.off.size h')⟩
/-- New blocks alone. -/
theorem WkKeep.since {pw : Nat} {W W' : World} {mv : Value} (hb : Below W.heap.size W W') : WkKeep pw W W' mv mv := ⟨Off.since hb, fun i h => .inl h⟩
theorem WkKeep.below {pw n0 : Nat} {W W' : World} {mv mv' : Value} {met : List Int} (h : WkKeep pw W W' mv mv') (hm : OwnsI W (pw + 1) 3 mv met) (hn : n0 ≤ pw) (hW : n0 ≤ W.heap.size) : Below n0 W W' :=
  h.off.below hW (fun i hi => by
    rcases hi with rfl | hi
    · exact hn
    · have := (hm.lt i hi).1; omega)
theorem fold_facts {N : Nat} {nx : Nat → List Int} (k : Nat) : ∀ (l : List Int) (s : List Int × List Int), Inv N s.1 → N - s.1.length < k → s.2.length ≤ s.1.length → Inv N (l.foldl (walkF N nx k) s).1 ∧ s.1.length ≤ (l.foldl (walkF N nx k) s).1.length ∧ (l.foldl (walkF N nx k) s).2.length ≤ (l.foldl (walkF N nx k) s).1.length
  | [], s, h1, _, h3 => ⟨h1, Nat.le_refl _, h3⟩
  | b :: l, s, h1, h2, h3 => by
    obtain ⟨t, u, a, _⟩ := walk_adds (nx := nx) k s b h1 h2
    have e1 : (walkF N nx k s b).1.length = s.1.length + t.length := by rw [a.met, List.length_append]
    have e2 : (walkF N nx k s b).2.length = u.length + s.2.length := by rw [a.left, List.length_append]
    have e3 := a.perm.length_eq
    obtain ⟨r1, r2, r3⟩ := fold_facts k l (walkF N nx k s b) a.inv (by omega) (by omega)
    exact ⟨r1, by rw [List.foldl_cons]; omega, r3⟩
theorem room_step {n m s k : Nat} (h : n - m < k + 1) (hm : m < n) (hs : m + 1 ≤ s) : n - s < k := by omega
theorem meas_step {i zn : Nat} (h : i < zn) : zn - (intOf (.int .i64 ((i : Int) + 1))).toNat < zn - (intOf (.int .i64 (i : Int))).toNat := by
  simp [intOf]
  omega
theorem own_nil {w : World} {B : Nat} {e : TypeId} {va : Option Addr} {vn vc : Nat} {Z : List Int} (h : OwnsI w B e (.slice va vn vc) Z) : va = none → vc = 0 := by
  intro hv
  rcases h.2 with ⟨e, _⟩ | ⟨g, cap, cur, e, _⟩
  · cases e; rfl
  · cases e; cases hv
theorem one_own (w : World) (z : Int) : OwnsI (w.alloc (.cells #[.int .i64 z] 3)) w.heap.size 3 (.slice (some ⟨w.heap.size, 0, none⟩) 1 1) [z] := World.ownsRow_lit w #[.int .i64 z] 1 (Nat.le_refl _) (by decide) rfl
theorem walkF_end {n k p : Nat} {f : FuncD} {met left L : List Int} {s2 : List Int × List Int} {zn : Nat} (hw : walkF n (nxF f) (k + 1) (met, left) (p : Int) = (((nxF f (p : Int).toNat).foldl (walkF n (nxF f) k) (met ++ [(p : Int)], left)).1, (p : Int) :: ((nxF f (p : Int).toNat).foldl (walkF n (nxF f) k) (met ++ [(p : Int)], left)).2)) (hL : nxF f p = L) (hz : L.length = zn) (hs : s2 = (L.take zn).foldl (walkF n (nxF f) k) (met ++ [(p : Int)], left)) :
    (walkF n (nxF f) (k + 1) (met, left) (p : Int)).1 = s2.1 ∧ (walkF n (nxF f) (k + 1) (met, left) (p : Int)).2 = (p : Int) :: s2.2 := by
  rw [hw, Int.toNat_natCast, hL, hs, ← hz, List.take_length]
  exact ⟨rfl, rfl⟩
theorem left_fits {n s t : Nat} (h : t ≤ s) (h2 : s ≤ n) (hn : n ≤ 1099511627776) : (1 + t) * 8 ≤ 140737488355328 := by omega
theorem walkF_now {N : Nat} {nx : Nat → List Int} {k : Nat} {met left : List Int} {b : Int} (h : There N b) (h2 : b ∉ met) : walkF N nx (k + 1) (met, left) b = (((nx b.toNat).foldl (walkF N nx k) (met ++ [b], left)).1, b :: ((nx b.toNat).foldl (walkF N nx k) (met ++ [b], left)).2) := walkF_go h h2
end Go.Proofs.Ytnnccahpgailiaa
