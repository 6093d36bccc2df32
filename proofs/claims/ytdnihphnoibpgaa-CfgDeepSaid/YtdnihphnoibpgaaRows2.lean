/- A row of rows of numbers, all of the call's own, no two in one array: what it reads as, and one row grown. Nothing of the program is named here. -/
import Derived.Test.YtdnihphnoibpgaaIterBox
import Derived.Maps.AppendAt
namespace Go.Proofs.Ytdnihphnoibpgaa
open Go.RowKit
set_option linter.unusedVariables false

/-- v: a row (of type s) of rows (of type e) of numbers, from block B on. -/
structure Rows2 (W : World) (B : Nat) (s e : TypeId) (v : Value) (vs : List Value) (Zs : List (List Int)) : Prop where
  row : W.ownsRow B s 1 v vs.length vs
  len : vs.length = Zs.length
  own : ∀ i (h1 : i < vs.length) (h2 : i < Zs.length), OwnsI W B e vs[i] Zs[i]
  apart : ∀ i j (h1 : i < vs.length) (h2 : j < vs.length), i ≠ j → ∀ k, vs[i].ownBlock = some k → vs[j].ownBlock ≠ some k
theorem ownsI_blk {W : World} {B : Nat} {e : TypeId} {v : Value} {Z : List Int} (h : OwnsI W B e v Z) {i : Nat} (hi : v.ownBlock = some i) : ∃ cur, W.heap[i]? = some (.cells cur e (0, 0)) ∧ B ≤ i := by
  rcases h.2 with ⟨e, _⟩ | ⟨g, cap, cur, e, hb, hh, _⟩
  · subst e; cases hi
  · subst e; cases hi; exact ⟨cur, hh, hb⟩
theorem ownsRow_blk {W : World} {B k n : Nat} {e : TypeId} {v : Value} {xs : List Value} (h : W.ownsRow B e k v n xs) {i : Nat} (hi : v.ownBlock = some i) : ∃ cur, W.heap[i]? = some (.cells cur e (0, 0)) ∧ B ≤ i := by
  rcases h.2 with ⟨e, _⟩ | ⟨g, cap, cur, e, hb, hh, _⟩
  · subst e; cases hi
  · subst e; cases hi; exact ⟨cur, hh, hb⟩
theorem Rows2.kept {W W' : World} {B : Nat} {s e : TypeId} {v : Value} {vs : List Value} {Zs : List (List Int)} (h : Rows2 W B s e v vs Zs) {X : Nat → Prop} (hb : Off X W W') (hX : ∀ i, X i → i < B ∨ ∀ C (t : TypeId), (t = s ∨ t = e) → W.heap[i]? ≠ some (.cells C t (0, 0))) : Rows2 W' B s e v vs Zs := by
  refine ⟨?_, h.len, fun i h1 h2 => ?_, h.apart⟩
  · refine ⟨h.row.1, ?_⟩
    rcases h.row.2 with hn | ⟨g, cap, cur, rfl, hB, hg, rest⟩
    · exact .inl hn
    · refine .inr ⟨g, cap, cur, rfl, hB, ?_, rest⟩
      rw [hb.block g (Array.getElem?_eq_some_iff.1 hg).1 (fun hx => by
        rcases hX g hx with h' | h'
        · omega
        · exact h' cur s (.inl rfl) hg)]
      exact hg
  · have ho := h.own i h1 h2
    refine ⟨ho.1, ?_⟩
    rcases ho.2 with hn | ⟨g, cap, cur, he, hB, hg, rest⟩
    · exact .inl hn
    · refine .inr ⟨g, cap, cur, he, hB, ?_, rest⟩
      rw [hb.block g (Array.getElem?_eq_some_iff.1 hg).1 (fun hx => by
        rcases hX g hx with h' | h'
        · omega
        · exact h' cur e (.inr rfl) hg)]
      exact hg
theorem Rows2.since {W W' : World} {B : Nat} {s e : TypeId} {v : Value} {vs : List Value} {Zs : List (List Int)} (h : Rows2 W B s e v vs Zs) (hb : Below W.heap.size W W') : Rows2 W' B s e v vs Zs :=
  h.kept (X := fun _ => False) (Off.since hb) (fun i hi => hi.elim)
theorem Rows2.mono {W : World} {B B' : Nat} {s e : TypeId} {v : Value} {vs : List Value} {Zs : List (List Int)} (h : Rows2 W B s e v vs Zs) (hB : B' ≤ B) : Rows2 W B' s e v vs Zs := by
  refine ⟨⟨h.row.1, ?_⟩, h.len, fun i h1 h2 => (h.own i h1 h2).mono hB, h.apart⟩
  rcases h.row.2 with hn | ⟨g, cap, cur, rfl, hg, rest⟩
  · exact .inl hn
  · exact .inr ⟨g, cap, cur, rfl, Nat.le_trans hB hg, rest⟩
/-- Row i has grown: it is v' now, and that is stored. -/
theorem Rows2.push {W U w1 : World} {B g n cap i : Nat} {s e : TypeId} {vs : List Value} {Zs : List (List Int)} {v' : Value} {Z' : List Int} (h : Rows2 W B s e (.slice (some ⟨g, 0, none⟩) n cap) vs Zs) (hse : s ≠ e) (hn : n = vs.length) (hi : i < vs.length)
    (hU : Below W.heap.size W U) (hg : U.grownBy w1 (vs[i]).ownBlock) (ho : OwnsI w1 B e v' Z') (hw : ∀ k, v'.ownBlock = some k → (vs[i]).ownBlock = some k ∨ W.heap.size ≤ k) :
    Rows2 (w1.setCell ⟨g, i, none⟩ v') B s e (.slice (some ⟨g, 0, none⟩) n cap) (vs.set i v') (Zs.set i Z') ∧ Below B W (w1.setCell ⟨g, i, none⟩ v') ∧ Off (fun k => (vs[i]).ownBlock = some k ∨ k = g) W (w1.setCell ⟨g, i, none⟩ v') ∧ Off (fun k => (vs[i]).ownBlock = some k) W w1 ∧ (vs[i]).ownBlock ≠ some g := by
  subst hn
  have hiZ : i < Zs.length := by rw [← h.len]; exact hi
  obtain ⟨cur, hgb, hBg⟩ := ownsRow_blk h.row (i := g) rfl
  have hgl : g < W.heap.size := (Array.getElem?_eq_some_iff.1 hgb).1
  have hne : (vs[i]).ownBlock ≠ some g := fun e' => by
    obtain ⟨c2, h2, _⟩ := ownsI_blk (h.own i hi hiZ) e'
    rw [hgb] at h2; cases h2; exact hse rfl
  have hvlt : ∀ k, (vs[i]).ownBlock = some k → k < W.heap.size ∧ B ≤ k := fun k hk => by
    obtain ⟨c2, h2, h3⟩ := ownsI_blk (h.own i hi hiZ) hk
    exact ⟨(Array.getElem?_eq_some_iff.1 h2).1, h3⟩
  have hBW : B ≤ W.heap.size := by omega
  have hoff : Off (fun k => (vs[i]).ownBlock = some k) W w1 := (Off.since hU).grown hg (fun k hk => .inl hk)
  -- the row of rows
  have hrow1 : w1.ownsRow B s 1 (.slice (some ⟨g, 0, none⟩) vs.length cap) vs.length vs := by
    refine ⟨h.row.1, ?_⟩
    rcases h.row.2 with ⟨e', _⟩ | ⟨g', cap', cur', e', hB, hg', rest⟩
    · cases e'
    · cases e'
      exact .inr ⟨g, cap, cur', rfl, hB, (hoff.block g hgl hne).trans hg', rest⟩
  have hst := World.ownsRow.stored hrow1 i v'
  have hoff2 : Off (fun k => (vs[i]).ownBlock = some k ∨ k = g) W (w1.setCell ⟨g, i, none⟩ v') := (hoff.mono (fun k _ hk => .inl hk)).setCell (.inl (.inr rfl)) v'
  have hng : ∀ k, v'.ownBlock = some k → k ≠ g := fun k hk e' => by
    subst e'
    rcases hw k hk with h' | h'
    · exact hne h'
    · omega
  have keepOwn : ∀ {u : Value} {Z : List Int}, OwnsI w1 B e u Z → (∀ k, u.ownBlock = some k → k ≠ g) → OwnsI (w1.setCell ⟨g, i, none⟩ v') B e u Z := by
    intro u Z hu hk
    refine World.ownsRow.kept hu hst.2 ?_
    by_cases e' : u.ownBlock = none
    · exact .inl e'
    · exact .inr fun h' => hk g h' rfl
  refine ⟨⟨by simpa using hst.1, by simp [h.len], fun j h1 h2 => ?_, fun j k h1 h2 hjk b hb => ?_⟩, ?_⟩
  · simp only [List.getElem_set]
    by_cases hij : i = j
    · subst hij
      simp only [if_true]
      exact keepOwn ho hng
    · rw [if_neg hij, if_neg hij]
      have h1' : j < vs.length := by simpa using h1
      have h2' : j < Zs.length := by simpa using h2
      have hoj := h.own j h1' h2'
      have hoj1 : OwnsI w1 B e vs[j] Zs[j] := by
        refine ⟨hoj.1, ?_⟩
        rcases hoj.2 with hn | ⟨g', cap', cur', e', hB, hg', rest⟩
        · exact .inl hn
        · refine .inr ⟨g', cap', cur', e', hB, ?_, rest⟩
          rw [hoff.block g' (Array.getElem?_eq_some_iff.1 hg').1 (fun hx => h.apart i j hi h1' hij g' hx (by rw [e']; rfl))]
          exact hg'
      refine keepOwn hoj1 fun k hk e' => ?_
      subst e'
      obtain ⟨c2, h2, _⟩ := ownsI_blk hoj hk
      rw [hgb] at h2; cases h2; exact hse rfl
  · simp only [List.length_set] at h1 h2
    simp only [List.getElem_set] at hb ⊢
    by_cases hij : i = j
    · rw [if_pos hij] at hb
      have hik : i ≠ k := fun e' => hjk (hij ▸ e')
      rw [if_neg hik]
      rcases hw b hb with h' | h'
      · exact h.apart i k hi h2 hik b h'
      · intro e'
        obtain ⟨c2, h3, _⟩ := ownsI_blk (h.own k h2 (by rw [← h.len]; exact h2)) e'
        have := (Array.getElem?_eq_some_iff.1 h3).1
        omega
    · rw [if_neg hij] at hb
      by_cases hik : i = k
      · rw [if_pos hik]
        intro e'
        rcases hw b e' with h' | h'
        · exact h.apart i j hi h1 hij b h' hb
        · obtain ⟨c2, h3, _⟩ := ownsI_blk (h.own j h1 (by rw [← h.len]; exact h1)) hb
          have := (Array.getElem?_eq_some_iff.1 h3).1
          omega
      · rw [if_neg hik]
        exact h.apart j k h1 h2 hjk b hb
  · exact ⟨hoff2.below hBW (fun k hk => by
      rcases hk with hk | rfl
      · exact (hvlt k hk).2
      · exact hBg), hoff2, hoff, hne⟩
/-- What lies at place i of the row. -/
theorem Rows2.cell {W : World} {B g n cap i : Nat} {s e : TypeId} {vs : List Value} {Zs : List (List Int)} (h : Rows2 W B s e (.slice (some ⟨g, 0, none⟩) n cap) vs Zs) (hi : i < vs.length) : W.cell? ⟨g, i, none⟩ = some vs[i] := by
  have := World.ownsRow.cells h.row rfl i _ (List.getElem?_eq_getElem hi)
  rwa [addr_plain, Nat.zero_add] at this
theorem Rows2.free {W : World} {B g n cap i : Nat} {s e : TypeId} {vs : List Value} {Zs : List (List Int)} (h : Rows2 W B s e (.slice (some ⟨g, 0, none⟩) n cap) vs Zs) (hn : n = vs.length) : W.frozen? ⟨g, i, none⟩ = false := by
  subst hn
  exact World.ownsRow.frozenAt h.row i
theorem made_rows (n : Nat) : (madeCells #[Value.slice none 0 0] n).toList = List.replicate n (.slice none 0 0) := by
  apply List.ext_getElem
  · simp [madeCells]
  · intro i h1 h2
    simp [madeCells, Nat.mod_one]
theorem Rows2.made {w : World} {B n : Nat} {s e : TypeId} (hB : B ≤ w.heap.size) (hn : n ≤ maxLen) :
    Rows2 (w.alloc (.cells (madeCells #[Value.slice none 0 0] n) s)) B s e (.slice (some ⟨w.heap.size, 0, none⟩) n n) (List.replicate n (.slice none 0 0)) (List.replicate n []) := by
  refine ⟨?_, by simp, fun i h1 h2 => ?_, fun i j h1 h2 _ k hk => ?_⟩
  · refine ⟨by simp, .inr ⟨w.heap.size, n, _, by simp, hB, World.alloc_heap_new w _, by simp, hn, by simp [size_madeCells], by rw [made_rows]; simp⟩⟩
  · simp only [List.getElem_replicate]
    exact World.ownsRow_nil _ _ _ 1
  · simp only [List.getElem_replicate] at hk
    cases hk
end Go.Proofs.Ytdnihphnoibpgaa
