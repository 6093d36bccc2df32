/- Layer 7: the document's Ahead; a block of a function that came in, with the lists of its end. -/
import Derived.Test.YtdchhfdmingnaaaDoorFCfgI
import Derived.Test.YtdchhfdmingnaaaDoorFCfgJ
import Derived.Test.YtdchhfdmingnaaaDoorFCodeCe
import Derived.Test.YtdchhfdmingnaaaDoorFCodeWo
import Derived.Test.YtdchhfdmingnaaaDoorFKindPlainW
import Derived.Test.YtdchhfdmingnaaaDoorFKindRef
import Derived.Test.YtdchhfdmingnaaaDoorFKindRefRes
import Derived.Test.YtdchhfdmingnaaaDoorFKindRefRes2
import Derived.Test.YtdchhfdmingnaaaDoorFKindRefRes3
import Derived.Test.YtdchhfdmingnaaaDoorFT0
import Derived.Test.YtdchhfdmingnaaaDoorFT1
import Derived.Test.YtdchhfdmingnaaaDoorFT2
import Derived.BigQuiet
import Derived.Deep.LoopGhost
import Derived.Laws.CopyOwn
import Derived.Deep.RegionLaw
import Derived.Lib.SliceRun
import Derived.Laws.IdiomCopy
import Derived.Defers
import Derived.Recover
namespace Go.Proofs.YtdchhfdmingnaaaDoor
open Go.RowKit (wrap64 intOf Below)
set_option linter.unusedVariables false
set_option linter.unusedSimpArgs false
def ListAt (W : World) (a : Option Addr) (n c : Nat) (Z : List Int) : Prop := NumsAt W a n Z ∧ (a = none → c = 0) ∧ n * 8 ≤ 140737488351232
theorem ListAt.since {W W' : World} {a : Option Addr} {n c : Nat} {Z : List Int} (h : ListAt W a n c Z) (hb : Below W.heap.size W W') : ListAt W' a n c Z := ⟨h.1.since hb, h.2⟩
end Go.Proofs.YtdchhfdmingnaaaDoor

/- Layer 5: two boxes that a call lays, and what is stored over them; whether two ends, two steps are one, in what plays a part. -/
namespace Go.Proofs.YtdchhfdmingnaaaDoor
open Go.RowKit (wrap64 intOf Below)
set_option linter.unusedVariables false
set_option linter.unusedSimpArgs false
structure Laid2B (w : World) (t : TypeId) (C0 C1 : Array Value) (u : World) : Prop where
  bel : Below w.heap.size w u
  b0 : u.heap[w.heap.size]? = some (.cells C0 t (0, 0))
  b1 : u.heap[w.heap.size + 1]? = some (.cells C1 t (0, 0))
  size : w.heap.size + 2 ≤ u.heap.size
section
variable {w : World} {t : TypeId} {C0 C1 : Array Value} {u u' : World}
theorem Laid2B.start (w : World) (t : TypeId) (C0 C1 : Array Value) : Laid2B w t C0 C1 ((w.alloc (.cells C0 t)).alloc (.cells C1 t)) := by
  have h1 : (w.alloc (.cells C0 t)).heap.size = w.heap.size + 1 := by simp
  refine ⟨((Below.refl _ _).alloc (Nat.le_refl _) _).alloc (by omega) _, ?_, ?_, by simp⟩
  · exact (heap_alloc_old _ _ (by omega)).trans (heap_alloc_new w _)
  · rw [← h1]; exact heap_alloc_new _ _
theorem Laid2B.step {B : Nat} (h : Laid2B w t C0 C1 u) (hb : Below B u u') (hB : w.heap.size + 2 ≤ B) : Laid2B w t C0 C1 u' :=
  ⟨h.bel.trans (hb.mono (by omega)), (hb.block _ (by omega)).trans h.b0, (hb.block _ (by omega)).trans h.b1, Nat.le_trans h.size hb.size⟩
theorem Laid2B.drew (h : Laid2B w t C0 C1 u) : Laid2B w t C0 C1 u.drew := ⟨h.bel.drew, h.b0, h.b1, h.size⟩
theorem Laid2B.c0 (h : Laid2B w t C0 C1 u) (j : Nat) : u.cell? ⟨w.heap.size, j, Option.none⟩ = C0[j]? := by simp [World.cell?, h.b0]
theorem Laid2B.c1 (h : Laid2B w t C0 C1 u) (j : Nat) : u.cell? ⟨w.heap.size + 1, j, Option.none⟩ = C1[j]? := by simp [World.cell?, h.b1]
theorem Laid2B.f0 (h : Laid2B w t C0 C1 u) (j : Nat) : u.frozen? ⟨w.heap.size, j, Option.none⟩ = false := by simp [World.frozen?, h.b0]
theorem Laid2B.f1 (h : Laid2B w t C0 C1 u) (j : Nat) : u.frozen? ⟨w.heap.size + 1, j, Option.none⟩ = false := by simp [World.frozen?, h.b1]
end
theorem EndQ.parts {w w' : World} {k1 x1 t1 l1 k2 x2 t2 l2 : Int} {p1 q1 p2 q2 : Value} {X Y : EndD} (hx : EndQ w [.int .i64 k1, .int .i64 x1, .int .i64 t1, .int .i64 l1, p1, q1] X) (hy : EndQ w' [.int .i64 k2, .int .i64 x2, .int .i64 t2, .int .i64 l2, p2, q2] Y) :
    X = Y ↔ k1 = k2 ∧ x1 = x2 ∧ t1 = t2 ∧ l1 = l2 ∧ X.L = Y.L ∧ X.M = Y.M := by
  obtain ⟨_, _, e, _⟩ := hx
  obtain ⟨_, _, f, _⟩ := hy
  obtain ⟨K, A, To, El, L, M⟩ := X
  obtain ⟨K', A', To', El', L', M'⟩ := Y
  simp only [List.cons.injEq, Value.int.injEq, true_and, and_true] at e f
  obtain ⟨rfl, rfl, rfl, rfl, _⟩ := e
  obtain ⟨rfl, rfl, rfl, rfl, _⟩ := f
  simp
theorem EndQ.numL {w : World} {k x t l : Int} {a b : Option Addr} {n c m d : Nat} {X : EndD} (h : EndQ w [.int .i64 k, .int .i64 x, .int .i64 t, .int .i64 l, .slice a n c, .slice b m d] X) : NumsAt w a n X.L ∧ n ≤ 140737488355328 := by
  obtain ⟨p, q, e, _, _, _, _, ⟨_, _, _, hp0, hp1, hp2, hp3, hp4⟩, _⟩ := h
  simp only [List.cons.injEq, true_and, and_true] at e
  obtain ⟨_, _, _, _, rfl, rfl⟩ := e
  cases hp0
  exact ⟨hp1, by omega⟩
theorem EndQ.numM {w : World} {k x t l : Int} {a b : Option Addr} {n c m d : Nat} {X : EndD} (h : EndQ w [.int .i64 k, .int .i64 x, .int .i64 t, .int .i64 l, .slice a n c, .slice b m d] X) : NumsAt w b m X.M ∧ m ≤ 140737488355328 := by
  obtain ⟨p, q, e, _, _, _, _, _, ⟨_, _, _, hp0, hp1, hp2, hp3, hp4⟩⟩ := h
  simp only [List.cons.injEq, true_and, and_true] at e
  obtain ⟨_, _, _, _, rfl, rfl⟩ := e
  cases hp0
  exact ⟨hp1, by omega⟩
theorem OpQ.parts {w w' : World} {k1 a1 b1 c1 n1 k2 a2 b2 c2 n2 : Int} {s1 s2 : ByteArray} {p1 p2 : Value} {t1 t2 : Bool} {X Y : OpD} (hx : OpQ w [.int .i64 k1, .int .i64 a1, .int .i64 b1, .int .i64 c1, .int .i64 n1, .string s1, p1, .bool t1] X) (hy : OpQ w' [.int .i64 k2, .int .i64 a2, .int .i64 b2, .int .i64 c2, .int .i64 n2, .string s2, p2, .bool t2] Y) :
    X = Y ↔ k1 = k2 ∧ a1 = a2 ∧ b1 = b2 ∧ c1 = c2 ∧ n1 = n2 ∧ s1 = s2 ∧ X.L = Y.L ∧ t1 = t2 := by
  obtain ⟨_, e, _⟩ := hx
  obtain ⟨_, f, _⟩ := hy
  obtain ⟨K, A, B, C, N, S, L, T⟩ := X
  obtain ⟨K', A', B', C', N', S', L', T'⟩ := Y
  simp only [List.cons.injEq, Value.int.injEq, Value.string.injEq, Value.bool.injEq, true_and, and_true] at e f
  obtain ⟨rfl, rfl, rfl, rfl, rfl, rfl, _, rfl⟩ := e
  obtain ⟨rfl, rfl, rfl, rfl, rfl, rfl, _, rfl⟩ := f
  simp
theorem OpQ.numL {w : World} {K A B C N : Int} {S : ByteArray} {a : Option Addr} {n c : Nat} {T : Bool} {X : OpD} (h : OpQ w [.int .i64 K, .int .i64 A, .int .i64 B, .int .i64 C, .int .i64 N, .string S, .slice a n c, .bool T] X) : NumsAt w a n X.L ∧ n ≤ 140737488355328 := by
  obtain ⟨p, e, _, _, _, _, _, _, ⟨_, _, _, hp0, hp1, hp2, hp3, hp4⟩⟩ := h
  simp only [List.cons.injEq, true_and, and_true] at e
  obtain ⟨_, _, _, _, _, _, rfl, _⟩ := e
  cases hp0
  exact ⟨hp1, by omega⟩
end Go.Proofs.YtdchhfdmingnaaaDoor

/- Layer 5: Copy's lists (gen/cpeach.py): of steps. -/
namespace Go.Proofs.YtdchhfdmingnaaaDoor
open Go.RowKit (wrap64 intOf Below)
set_option linter.unusedVariables false
set_option linter.unusedSimpArgs false
attribute [local go_sem ↓] Go.wp_at_zero Go.wp_at_succ
theorem InR.pick {b : Bool} {z : Int} (h : InR z) : InR (pickI b z) := by
  cases b
  · exact InR.zero
  · exact h
end Go.Proofs.YtdchhfdmingnaaaDoor

/- Layer 7: the document's Deep: how far blocks are, by rounds. -/
namespace Go.Proofs.YtdchhfdmingnaaaDoor
open Go.RowKit (wrap64 intOf Below)
set_option linter.unusedVariables false
set_option linter.unusedSimpArgs false
theorem own_addr {W : World} {B : Nat} {e : TypeId} {va : Option Addr} {vn vc : Nat} {Z : List Int} (h : OwnsI W B e (.slice va vn vc) Z) (h0 : 0 < Z.length) : ∃ g, va = some ⟨g, 0, none⟩ ∧ B ≤ g ∧ g < W.heap.size := by
  rcases h.2 with ⟨e, h'⟩ | ⟨g, cap, cur, e, hB, hh, _⟩
  · omega
  · cases e; exact ⟨g, rfl, hB, (Array.getElem?_eq_some_iff.1 hh).1⟩
theorem own_cell {W : World} {B : Nat} {e : TypeId} {g vn vc : Nat} {Z : List Int} (h : OwnsI W B e (.slice (some ⟨g, 0, none⟩) vn vc) Z) {j : Nat} (hj : j < Z.length) : W.cell? ⟨g, j, none⟩ = some (.int .i64 (nth Z j)) := by
  have := World.ownsRow.cells h rfl j (numV Z[j]) (by rw [List.getElem?_map, List.getElem?_eq_getElem hj]; rfl)
  rw [addr_plain, Nat.zero_add] at this
  rw [nth_is hj]
  exact this
theorem own_store {W : World} {B : Nat} {e : TypeId} {g vn vc : Nat} {Z : List Int} (h : OwnsI W B e (.slice (some ⟨g, 0, none⟩) vn vc) Z) (j : Nat) (z : Int) : OwnsI (W.setCell ⟨g, j, none⟩ (.int .i64 z)) B e (.slice (some ⟨g, 0, none⟩) vn vc) (Z.set j z) := by
  have hn := h.read.1
  subst hn
  have := (World.ownsRow.stored h j (.int .i64 z)).1
  show World.ownsRow _ B e 1 _ (Z.set j z).length ((Z.set j z).map numV)
  rw [List.length_set, List.map_set]
  exact this
structure RdSt (w : World) (r : Int) (a : Option Addr) (n c : Nat) (va : Option Addr) (vn vc : Nat) (DL : List Int) (W : World) : Prop where
  law : LawSt w r a n c none 0 [] W
  own : OwnsI W (w.heap.size + 1) 3 (.slice va vn vc) DL
  len : DL.length = n
theorem RdSt.since {w : World} {r : Int} {a : Option Addr} {n c : Nat} {va : Option Addr} {vn vc : Nat} {DL : List Int} {W W' : World} (h : RdSt w r a n c va vn vc DL W) (hb : Below W.heap.size W W') : RdSt w r a n c va vn vc DL W' :=
  ⟨h.law.since hb, h.own.below hb, h.len⟩
theorem law_above {w : World} {r : Int} {a : Option Addr} {n c : Nat} {W W' : World} (h : LawSt w r a n c none 0 [] W) (hb : Below (w.heap.size + 1) W W') : LawSt w r a n c none 0 [] W' :=
  ⟨h.bel.trans (hb.mono (by omega)), Nat.lt_of_lt_of_le h.siz hb.size, (hb.cell (p := ⟨w.heap.size, 0, none⟩) (Nat.lt_succ_self _)).trans h.c0, (hb.cell (p := ⟨w.heap.size, 1, none⟩) (Nat.lt_succ_self _)).trans h.c1, NumsAt.nil _ _⟩
theorem RdSt.store {w : World} {r : Int} {a : Option Addr} {n c : Nat} {g vn vc : Nat} {DL : List Int} {W : World} (h : RdSt w r a n c (some ⟨g, 0, none⟩) vn vc DL W) (hg : w.heap.size + 1 ≤ g) (j : Nat) (z : Int) : RdSt w r a n c (some ⟨g, 0, none⟩) vn vc (DL.set j z) (W.setCell ⟨g, j, none⟩ (.int .i64 z)) :=
  ⟨law_above h.law ((Below.refl _ W).setCell (p := ⟨g, j, none⟩) hg _), own_store h.own j z, by simp [h.len]⟩
end Go.Proofs.YtdchhfdmingnaaaDoor

/- Layer 8: each block is laid below the one that all that go to it meet in, until nothing changes (mk_dom.py C). -/
namespace Go.Proofs.YtdchhfdmingnaaaDoor
open Go.RowKit (wrap64 intOf Below)
set_option linter.unusedVariables false
set_option linter.unusedSimpArgs false
def ZU (Z : Nat → List Int) (UP PS : List Int) : Nat → List Int := fun k => if k = 1 then UP else if k = 4 then PS else Z k
structure Settled (E : Nat → Nat → Prop) (M : Nat → Prop) (pl : Nat → Nat) (n : Nat) (UP : List Int) (m : Nat) : Prop where
  tree : Tree E M pl (upOf n UP) m
  all : ∀ v, M v → pl v < m
  fix : ∀ v c : Nat, M v → upOf n UP v = (c : Int) → ∀ p, M p → E p v → On (upOf n UP) p c
end Go.Proofs.YtdchhfdmingnaaaDoor

/- Layer 8: slices.Backward over a row of numbers: the contract of its iterator. -/
namespace Go.Proofs.YtdchhfdmingnaaaDoor
open Go.RowKit
set_option linter.unusedVariables false
set_option linter.unusedSimpArgs false
attribute [local go_sem] Oper.semAt_some
structure KeptN (b : Nat) (a : Option Addr) (n : Nat) (L : List Int) (W W' : World) : Prop where
  walks : KeepsWalks W W'
  box : W'.cell? ⟨b, 0, none⟩ = W.cell? ⟨b, 0, none⟩
  nums : NumsAt W a n L → NumsAt W' a n L
theorem KeptN.refl (b : Nat) (a : Option Addr) (n : Nat) (L : List Int) (W : World) : KeptN b a n L W W := ⟨KeepsWalks.refl W, rfl, id⟩
theorem KeptN.trans {b : Nat} {a : Option Addr} {n : Nat} {L : List Int} {A B C : World} (h : KeptN b a n L A B) (k : KeptN b a n L B C) : KeptN b a n L A C := ⟨h.walks.trans k.walks, k.box.trans h.box, fun x => k.nums (h.nums x)⟩
end Go.Proofs.YtdchhfdmingnaaaDoor

/- Layer 8: the blocks of the tree get their sizes, and their numbers (mk_dom.py E). -/
namespace Go.Proofs.YtdchhfdmingnaaaDoor
open Go.RowKit
set_option linter.unusedVariables false
set_option linter.unusedSimpArgs false
attribute [local go_sem] Oper.semAt_some
def ZN (Z : Nat → List Int) (NU EN : List Int) : Nat → List Int := fun k => if k = 2 then NU else if k = 3 then EN else Z k
section
variable {W W' : World} {B p n : Nat} {g : Nat → Nat} {Z : Nat → List Int} {ov fv : Value} {ord : List Int} {vs : List Value} {FR : List (List Int)} {rd : Int}
theorem KeptN.off {b : Nat} {a : Option Addr} {m : Nat} {L : List Int} {X : Nat → Prop} (h : Off X W W') (hk : KeepsOthers W W') (hb : b < W.heap.size) (hxb : ¬ X b) (hx : ∀ g off, a = some ⟨g, off, none⟩ → 0 < m → ¬ X g) : KeptN b a m L W W' :=
  ⟨hk.walks, h.cell (p := ⟨b, 0, none⟩) hb hxb, fun hn => hn.off h hx⟩
end
end Go.Proofs.YtdchhfdmingnaaaDoor

/- Layer 8: slices.DeleteFunc of those blocks that are not met. -/
namespace Go.Proofs.YtdchhfdmingnaaaDoor
open Go.RowKit (wrap64 intOf Below)
set_option linter.unusedVariables false
set_option linter.unusedSimpArgs false
structure DelSt (W0 : World) (d : Int → Bool) (B g n c : Nat) (L : List Int) (i j : Nat) (D : List Int) (W : World) : Prop where
  own : OwnsI W B 3 (.slice (some ⟨g, 0, none⟩) n c) D
  off : Off (fun k => k = g) W0 W
  done : D.take i = (L.take j).filter (fun z => !d z)
  rest : ∀ k, j ≤ k → nth D k = nth L k
  lt : i < j
  len : i = ((L.take j).filter (fun z => !d z)).length
section
variable {W0 W : World} {d : Int → Bool} {B g n c : Nat} {L : List Int} {i j : Nat} {D : List Int}
theorem filter_more {d : Int → Bool} {L : List Int} {j : Nat} (hj : j < L.length) : (L.take (j + 1)).filter (fun z => !d z) = (L.take j).filter (fun z => !d z) ++ (if d (nth L j) then [] else [nth L j]) := by
  rw [List.take_succ_eq_append_getElem hj, List.filter_append, nth_is hj]
  congr 1
  cases h : d L[j] <;> simp [h]
theorem DelSt.start (ho : OwnsI W B 3 (.slice (some ⟨g, 0, none⟩) n c) L) {i : Nat} (hi : i < L.length) (hd : d (nth L i) = true) (hall : ∀ z ∈ L.take i, d z = false) : DelSt W d B g n c L i (i + 1) L W := by
  have e : (L.take i).filter (fun z => !d z) = L.take i := List.filter_eq_self.2 fun z hz => by rw [hall z hz]; rfl
  refine ⟨ho, Off.refl _ _, ?_, fun _ _ => rfl, by omega, ?_⟩
  · rw [filter_more hi, if_pos hd, List.append_nil, e]
  · rw [filter_more hi, if_pos hd, List.append_nil, e, List.length_take]; omega
theorem DelSt.skip (h : DelSt W0 d B g n c L i j D W) (hj : j < L.length) (hd : d (nth L j) = true) : DelSt W0 d B g n c L i (j + 1) D W :=
  ⟨h.own, h.off, by rw [filter_more hj, if_pos hd, List.append_nil]; exact h.done, fun k hk => h.rest k (by omega), by have := h.lt; omega, by rw [filter_more hj, if_pos hd, List.append_nil]; exact h.len⟩
theorem DelSt.keep (h : DelSt W0 d B g n c L i j D W) (hj : j < L.length) (hln : L.length = n) (hd : d (nth L j) = false) : DelSt W0 d B g n c L (i + 1) (j + 1) (D.set i (nth L j)) (W.setCell ⟨g, i, none⟩ (.int .i64 (nth L j))) := by
  have hl := h.own.read.1
  have hlt := h.lt
  have hdf : ¬ d (nth L j) = true := by rw [hd]; simp
  refine ⟨own_store h.own i _, h.off.setCell (.inl rfl) _, ?_, fun k hk => ?_, by omega, ?_⟩
  · rw [filter_more hj, if_neg hdf, ← h.done, List.take_succ_eq_append_getElem (by rw [List.length_set]; omega), List.getElem_set_self, List.take_set_of_le (Nat.le_refl _)]
  · rw [nth_set (by omega), if_neg (by omega)]
    exact h.rest k (by omega)
  · rw [filter_more hj, if_neg hdf, List.length_append, ← h.len]; rfl
end
end Go.Proofs.YtdchhfdmingnaaaDoor

/- Layer 5: code.Encode: a program's bytes, or why none. -/
namespace Go.Proofs.YtdchhfdmingnaaaDoor
open Go.RowKit (wrap64 intOf Below)
set_option linter.unusedVariables false
set_option linter.unusedSimpArgs false
def outBytes (o : Out) : Out := match o with | .no e => .no e | .ok l => if 65536 < l.length then .no 2 else .ok l
def EncPost (o : Out) (w : World) (e : Ending) (w' : World) : Prop :=
  (∃ l va vn vc, o = .ok l ∧ e = .returned (.tuple #[.slice va vn vc, .int .i64 0]) ∧ OwnsB w' w.heap.size 5 (.slice va vn vc) l ∧ Below w.heap.size w w') ∨ (∃ er, o = .no er ∧ e = .returned (.tuple #[.slice none 0 0, .int .i64 er]) ∧ Below w.heap.size w w')
end Go.Proofs.YtdchhfdmingnaaaDoor

/- Layer 4, P4.3: the document's result at each kind. (Its text: by wip/gen/refany.py.) -/
namespace Go.Proofs.YtdchhfdmingnaaaDoor
open Go.RowKit (wrap64 intOf Below)
set_option linter.unusedVariables false
theorem rkinds (K : Int) : (K = 0 ∨ K = 1 ∨ K = 2 ∨ K = 3 ∨ K = 4 ∨ K = 5 ∨ K = 6 ∨ K = 7 ∨ K = 8 ∨ K = 9 ∨ K = 10 ∨ K = 11 ∨ K = 12 ∨ K = 13 ∨ K = 14 ∨ K = 15 ∨ K = 16 ∨ K = 17 ∨ K = 18 ∨ K = 19 ∨ K = 20 ∨ K = 21 ∨ K = 22 ∨ K = 23 ∨ K = 24 ∨ K = 25) ∨ (K < 0 ∨ 25 < K) := by omega
def TypesFit (K : Int) (l : List Int) : Prop := (K = 0 ∨ K = 1 ∨ K = 2 ∨ K = 12 ∨ K = 17 → l = []) ∧ (K = 10 ∨ K = 22 ∨ K = 25 → ∃ x, l = [x]) ∧ (K = 11 → ∃ x y, l = [x, y]) ∧ (K = 24 → ∃ x m, l = x :: m)
theorem fits_uses (K A B C : Int) (L ts : List Int) : TypesFit K ((usesL K A B C L).map (tyAt ts)) := by
  refine ⟨?_, ?_, ?_, ?_⟩
  · rintro (rfl | rfl | rfl | rfl | rfl) <;> rfl
  · rintro (rfl | rfl | rfl) <;> exact ⟨_, rfl⟩
  · rintro rfl; exact ⟨_, _, rfl⟩
  · rintro rfl; exact ⟨_, _, rfl⟩
theorem rres_any (g : Nat) {sa : Option Addr} {sn sc : Nat} {ca : Option Addr} {cn cc : Nat} {fa : Option Addr} {fn fc : Nat} {P : ProgD} (K A B C N : Int) (S : ByteArray) (la : Option Addr) (ln lc : Nat) (T : Bool) (va : Option Addr) (vn vc : Nat) (l : List Int) (w : World) (hfit : TypesFit K l) (hcap : vn ≤ vc)
    (hP : ProgAt w g sa sn sc ca cn cc fa fn fc P) (hv : NumsAt w va vn l) (hvn : vn ≤ 140737488355328) (hr : ∀ z ∈ l, InR z) (hN : InR N) :
    Calls Tryd.prog 68 #[.pointer (some ⟨g, 0, none⟩), .agg #[.int .i64 K, .int .i64 A, .int .i64 B, .int .i64 C, .int .i64 N, .string S, .slice la ln lc, .bool T], .slice va vn vc] w (RowPost (rowS P K N S l) w) := by
  obtain ⟨h0, h1, h2, h3⟩ := hfit
  rcases rkinds K with h | h
  · rcases h with rfl | rfl | rfl | rfl | rfl | rfl | rfl | rfl | rfl | rfl | rfl | rfl | rfl | rfl | rfl | rfl | rfl | rfl | rfl | rfl | rfl | rfl | rfl | rfl | rfl | rfl
    · obtain rfl := h0 (by simp)
      have hz : vn = 0 := hv.1.symm
      subst hz
      exact rres_0 _ P A B C N S la ln lc T va vc w hv
    · obtain rfl := h0 (by simp)
      have hz : vn = 0 := hv.1.symm
      subst hz
      exact rres_1 _ P A B C N S la ln lc T va vc w hv
    · obtain rfl := h0 (by simp)
      have hz : vn = 0 := hv.1.symm
      subst hz
      exact rres_2 _ P A B C N S la ln lc T va vc w hv
    · exact rres_3 _ P A B C N S la ln lc T va vn vc l w hv hvn
    · exact rres_4 _ P A B C N S la ln lc T va vn vc l w hv hvn
    · exact rres_5 _ P A B C N S la ln lc T va vn vc l w hv hvn
    · exact rres_6 _ P A B C N S la ln lc T va vn vc l w hv hvn
    · exact rres_7 _ P A B C N S la ln lc T va vn vc l w hv hvn
    · exact rres_8 _ P A B C N S la ln lc T va vn vc l w hv hvn
    · exact rres_9 g A B C N S la ln lc T va vn vc w l hP hv hvn hr hN
    · obtain ⟨x, rfl⟩ := h1 (by simp)
      exact rres_10 g A B C N S la ln lc T va vn vc w x hP hv hvn hr hN
    · obtain ⟨x, y, rfl⟩ := h2 rfl
      exact rres_11 g A B C N S la ln lc T va vn vc w x y hP hv hvn hr hN
    · obtain rfl := h0 (by simp)
      have hz : vn = 0 := hv.1.symm
      subst hz
      exact rres_12 _ P A B C N S la ln lc T va vc w hv
    · exact rres_13 _ P A B C N S la ln lc T va vn vc l w hv hvn
    · exact rres_14 _ P A B C N S la ln lc T va vn vc l w hv hvn
    · exact rres_15 _ P A B C N S la ln lc T va vn vc l w hv hvn
    · exact rres_16 _ P A B C N S la ln lc T va vn vc l w hv hvn
    · obtain rfl := h0 (by simp)
      have hz : vn = 0 := hv.1.symm
      subst hz
      exact rres_17 _ P A B C N S la ln lc T va vc w hv
    · exact rres_18 _ P A B C N S la ln lc T va vn vc l w hv hvn
    · exact rres_19 _ P A B C N S la ln lc T va vn vc l w hv hvn
    · exact rres_20 _ P A B C N S la ln lc T va vn vc l w hv hvn
    · exact rres_21 _ P A B C N S la ln lc T va vn vc l w hv hvn
    · obtain ⟨x, rfl⟩ := h1 (by simp)
      exact rres_22 g A B C N S la ln lc T va vn vc w x hP hv hvn hr hN
    · exact rres_23 g A B C N S la ln lc T va vn vc w l hP hv hvn hr hN
    · obtain ⟨x, m, rfl⟩ := h3 rfl
      exact rres_24 g A B C N S la ln lc T va vn vc w x m hcap hP hv hvn hr hN
    · obtain ⟨x, rfl⟩ := h1 (by simp)
      exact rres_25 g A B C N S la ln lc T va vn vc w x hP hv hvn hr hN
  · exact rres_none _ P K h A B C N S la ln lc T va vn vc l w
end Go.Proofs.YtdchhfdmingnaaaDoor

/- Layer 4, P4.3: the document's Result, walked whole. -/
namespace Go.Proofs.YtdchhfdmingnaaaDoor
open Go.RowKit (wrap64 intOf Below)
set_option linter.unusedVariables false
theorem kruses_len (K A B C : Int) (L : List Int) : (usesL K A B C L).length ≤ L.length + 3 := by
  unfold usesL
  have h1 := oneL_len (hasB K 65) A
  have h2 := oneL_len (hasB K 66) B
  have h3 := oneL_len (hasB K 67) C
  have h4 : (pickL (hasB K 76) L).length ≤ L.length := by unfold pickL; split <;> simp
  simp only [List.length_append]
  omega
theorem OwnsI.cap {w : World} {B : Nat} {e : TypeId} {a : Option Addr} {n c : Nat} {Z : List Int} (h : OwnsI w B e (.slice a n c) Z) : n ≤ c := by
  rcases h.2 with ⟨he, _⟩ | ⟨g, cap, cur, he, _, _, hc, _⟩
  · cases he; exact Nat.le_refl _
  · cases he; exact hc
theorem typesIn {U ts : List Int} {tn : Nat} (hl : ts.length = tn) (hr : ∀ z ∈ ts, InR z) (ha : Among U tn) : ∀ z ∈ U.map (tyAt ts), InR z := by
  intro z hz
  obtain ⟨v, hv, rfl⟩ := List.mem_map.1 hz
  exact hr _ (tyAt_mem hl (ha v hv))
theorem uses_bad {K A B C : Int} {L : List Int} {n k : Nat} (hk : k < (usesL K A B C L).length) {z : Int} (hz : (usesL K A B C L)[k] = z) (hb : z < 0 ∨ (n : Int) ≤ z) : usesB K A B C L (n : Int) = false := by
  unfold usesB
  rw [List.all_eq_false]
  refine ⟨z, by rw [← hz]; exact List.getElem_mem _, ?_⟩
  unfold kinB
  simp only [decide_eq_true_eq]
  omega
set_option maxRecDepth 100000 in
set_option maxHeartbeats 8000000 in
theorem rresult_any (g : Nat) {sa : Option Addr} {sn sc : Nat} {ca : Option Addr} {cn cc : Nat} {fa : Option Addr} {fn fc : Nat} {P : ProgD} (K A B C N : Int) (S : ByteArray) (la : Option Addr) (ln lc : Nat) (T : Bool) (L : List Int) (ta : Option Addr) (tn tc : Nat) (ts : List Int) (w : World)
    (hP : ProgAt w g sa sn sc ca cn cc fa fn fc P) (hat : NumsAt w la ln L) (hnil : la = none → lc = 0) (hln : ln ≤ 17592186044000) (ht : NumsAt w ta tn ts) (htn : tn ≤ 140737488355328) (hr : ∀ z ∈ ts, InR z) (hN : InR N) :
    Calls Tryd.prog 56 #[.pointer (some ⟨g, 0, none⟩), .agg #[.int .i64 K, .int .i64 A, .int .i64 B, .int .i64 C, .int .i64 N, .string S, .slice la ln lc, .bool T], .slice ta tn tc] w (ResPost (resS P K A B C N S L ts) w) := by
  obtain ⟨W0, hW0⟩ : ∃ W0, W0 = w.alloc (.cells #[.int .i64 K, .int .i64 A, .int .i64 B, .int .i64 C, .int .i64 N, .string S, .slice la ln lc, .bool T] 52) := ⟨_, rfl⟩
  have hw0 : ∀ u, Below (w.heap.size + 1) W0 u → Below w.heap.size w u := fun u hu => by rw [hW0] at hu; exact first_below hu
  have H2 : RowKit.Hid (Below (w.heap.size + 1) W0 W0) := Lib.hid (Below.refl _ _)
  have HZ : RowKit.Hid (w.heap.size + 1 ≤ W0.heap.size) := Lib.hid (by rw [hW0]; simp)
  have HU := Lib.hid (uses_any K A B C N S la ln lc T L W0 (hat.since (hw0 _ H2.out)) hnil hln)
  have HC : RowKit.Hid (∀ u, Below (w.heap.size + 1) W0 u → ∀ j, u.cell? ⟨w.heap.size, j, none⟩ = (#[.int .i64 K, .int .i64 A, .int .i64 B, .int .i64 C, .int .i64 N, .string S, .slice la ln lc, .bool T] : Array Value)[j]?) := Lib.hid (fun u hu => by rw [hW0] at hu; exact cell_first hu)
  have HW := Lib.hid hw0
  obtain ⟨z0, z1, z2, z3, z4, z5, z6, z7⟩ : W0.cell? ⟨w.heap.size, 0, none⟩ = some (.int .i64 K) ∧ W0.cell? ⟨w.heap.size, 1, none⟩ = some (.int .i64 A) ∧ W0.cell? ⟨w.heap.size, 2, none⟩ = some (.int .i64 B) ∧ W0.cell? ⟨w.heap.size, 3, none⟩ = some (.int .i64 C) ∧ W0.cell? ⟨w.heap.size, 4, none⟩ = some (.int .i64 N) ∧ W0.cell? ⟨w.heap.size, 5, none⟩ = some (.string S) ∧ W0.cell? ⟨w.heap.size, 6, none⟩ = some (.slice la ln lc) ∧ W0.cell? ⟨w.heap.size, 7, none⟩ = some (.bool T) :=
    ⟨HC.out _ H2.out 0, HC.out _ H2.out 1, HC.out _ H2.out 2, HC.out _ H2.out 3, HC.out _ H2.out 4, HC.out _ H2.out 5, HC.out _ H2.out 6, HC.out _ H2.out 7⟩
  have HP := Lib.hid hP
  have HT := Lib.hid ht
  have HRR := Lib.hid hr
  have HNN := Lib.hid hN
  have HUL : RowKit.Hid ((usesL K A B C L).length ≤ 17592186044003) := Lib.hid (by have := kruses_len K A B C L; have := hat.1; omega)
  have HRS : RowKit.Hid (resS P K A B C N S L ts = if usesB K A B C L (tn : Int) = true then (if (rowS P K N S ((usesL K A B C L).map (tyAt ts))).2 = true then ((rowS P K N S ((usesL K A B C L).map (tyAt ts))).1, true) else (-1, false)) else (-1, false)) := Lib.hid (by rw [← ht.1]; rfl)
  have HUB : RowKit.Hid (∀ (k : Nat) (hk : k < (usesL K A B C L).length) (z : Int), (usesL K A B C L)[k] = z → (z < 0 ∨ (tn : Int) ≤ z) → resS P K A B C N S L ts = (-1, false)) := Lib.hid (fun k hk z hz hb => by rw [HRS.out, uses_bad hk hz hb]; rfl)
  have HUA : RowKit.Hid (Among (usesL K A B C L) tn → usesB K A B C L (tn : Int) = true) := Lib.hid (fun h => by
    unfold usesB
    rw [List.all_eq_true]
    intro v hv
    exact decide_eq_true (h v hv))
  have HFIT := Lib.hid (fits_uses K A B C L ts)
  clear hP hat hnil ht hr hN hw0
  obtain ⟨U, hU⟩ : ∃ U, usesL K A B C L = U := ⟨_, rfl⟩
  rw [hU] at HU HUL HRS HUA HFIT
  go_enter Tryd.func56, Tryd.ntmps56
  go_wp2_with (go_at_call 40; rw [← hW0]; clear hW0; (with_reducible refine (HU.out).mono ?_); rintro e wc ⟨va, vn, vc, rfl, hown, hb⟩)
  have hvl : U.length = vn := hown.read.1
  have HUN := Lib.hid hown.read
  have hvb : vn ≤ 17592186044003 := by have := HUL.out; omega
  have HBC : RowKit.Hid (Below (w.heap.size + 1) W0 wc) := Lib.hid (keepN H2.out HZ.out hb)
  clear hown hb HU
  go_loopw [9, 10] (fun lv iv wr => ∃ k : Nat, k ≤ vn ∧ iv = .int .i64 (k : Int) ∧ RowKit.Hid (Among (U.take k) tn) ∧ RowKit.Hid (OwnsI wr wc.heap.size 3 lv ((U.take k).map (tyAt ts))) ∧ RowKit.Hid (Below wc.heap.size wc wr)) (fun _ iv _ => vn - (intOf iv).toNat)
  case atStart => exact ⟨0, Nat.zero_le _, rfl, Lib.hid (fun v hv => by simp at hv), Lib.hid (OwnsI.laid rfl (Nat.le_refl _)), Lib.hid ((Below.refl _ _).alloc (Nat.le_refl _) _)⟩
  case round =>
    obtain ⟨k, hk, rfl, HA, HO, HB⟩ := hrel
    have HBW : RowKit.Hid (Below (w.heap.size + 1) W0 wr) := Lib.hid (keepN HBC.out (by have h1 := HZ.out; omega) HB.out)
    by_cases hlt : k < vn
    · have hkl : k < U.length := by omega
      obtain ⟨z, hz⟩ : ∃ z, U[k] = z := ⟨_, rfl⟩
      obtain ⟨ug, uo, rfl, hug, huc⟩ := (HUN.out.since HB.out).2 (by omega)
      have hcu : wr.cell? ⟨ug, uo + k, none⟩ = some (.int .i64 z) := by rw [huc k hkl, hz]; rfl
      clear huc
      by_cases hneg : z < 0
      · have HE : RowKit.Hid (resS P K A B C N S L ts = (-1, false)) := Lib.hid (HUB.out k (by rw [hU]; exact hkl) z (by rw [← hz]; simp only [hU]) (.inl hneg))
        clear hz
        go_wp2_with fail
        refine bodyPost_ret (v := .tuple #[.int .i64 (-1), .bool false]) (by simp [results, Tryd.results56, go_sem]) rfl ⟨by rw [HE.out], HW.out _ HBW.out⟩
      by_cases hbig : (tn : Int) ≤ z
      · have HE : RowKit.Hid (resS P K A B C N S L ts = (-1, false)) := Lib.hid (HUB.out k (by rw [hU]; exact hkl) z (by rw [← hz]; simp only [hU]) (.inr hbig))
        have hd : decide (z < 0) = false := decide_eq_false hneg
        clear hz hneg
        go_wp2_with fail
        refine bodyPost_ret (v := .tuple #[.int .i64 (-1), .bool false]) (by simp [results, Tryd.results56, go_sem]) rfl ⟨by rw [HE.out], HW.out _ HBW.out⟩
      have hd : decide (z < 0) = false := decide_eq_false hneg
      have hd2 : decide ((tn : Int) ≤ z) = false := decide_eq_false hbig
      obtain ⟨j, rfl⟩ := Int.eq_ofNat_of_zero_le (show 0 ≤ z by omega)
      have hjn : j < tn := by omega
      have hjc : (j : Int) < (tn : Int) := by omega
      obtain ⟨tg, to', rfl, _, htc⟩ := (HT.out.since (HW.out _ HBW.out)).2 (by omega)
      have hct : wr.cell? ⟨tg, to' + j, none⟩ = some (.int .i64 (tyAt ts (j : Int))) := by
        have h3 := htc j (by rw [HT.out.1]; exact hjn)
        rw [h3]
        unfold tyAt numV
        rw [nth_is (by rw [HT.out.1]; exact hjn)]
        rfl
      have HS : RowKit.Hid ((U.take k).map (tyAt ts) ++ [tyAt ts (j : Int)] = (U.take (k + 1)).map (tyAt ts)) := Lib.hid (by rw [List.take_succ_eq_append_getElem hkl, hz]; simp)
      have HA2 : RowKit.Hid (Among (U.take (k + 1)) tn) := Lib.hid (by
        rw [List.take_succ_eq_append_getElem hkl, hz]
        intro v hv
        rcases List.mem_append.1 hv with h | h
        · exact HA.out v h
        · obtain rfl := List.mem_singleton.1 h; omega)
      have HL : RowKit.Hid ((((U.take k).map (tyAt ts)).length + 1) * 8 ≤ 140737488355328) := Lib.hid (by rw [List.length_map, List.length_take]; have := HUL.out; omega)
      obtain ⟨y, hy⟩ : ∃ y, tyAt ts (j : Int) = y := ⟨_, rfl⟩
      rw [hy] at hct HS
      have hsz := HB.out.size
      clear htc hz hy hneg hbig
      go_wp2_with (at_builtin; refine wpList_append_num _ rfl _ _ 34 rfl 3 Tryd.underlying34 info_int wc.heap.size _ _ rfl HO.out hsz _ 1 _ y rfl (by simp) rfl HL.out ?_; intro v2 w2 hown hb)
      rw [HS.out] at hown
      have HO2 := Lib.hid hown
      have HB2 := Lib.hid (HB.out.trans hb)
      clear hown hb
      go_wp2_with fail
      go_roundw
      case rel => exact ⟨k + 1, by omega, by go_num, HA2, HO2, HB2⟩
      case measure => simp [intOf]; omega
    · obtain rfl : k = vn := by omega
      have HAA : RowKit.Hid (Among U tn) := Lib.hid (by have := HA.out; rwa [List.take_of_length_le (by omega)] at this)
      have hlo := HO.out
      rw [List.take_of_length_le (by omega)] at hlo
      have HLO := Lib.hid hlo
      clear hlo
      have HRZ := Lib.hid (typesIn HT.out.1 HRR.out HAA.out)
      have HR1 : RowKit.Hid (resS P K A B C N S L ts = (if (rowS P K N S (U.map (tyAt ts))).2 = true then ((rowS P K N S (U.map (tyAt ts))).1, true) else (-1, false))) := Lib.hid (by rw [HRS.out, if_pos (HUA.out HAA.out)])
      obtain ⟨xa, xn, xc, rfl, hxs⟩ := HLO.out.nums
      have HCAP := Lib.hid HLO.out.cap
      have HXN : RowKit.Hid (xn ≤ 140737488355328) := Lib.hid (by have h1 := hxs.1; rw [List.length_map] at h1; have := HUL.out; omega)
      have HQ := Lib.hid (rres_any g K A B C N S la ln lc T xa xn xc (U.map (tyAt ts)) wr HFIT.out HCAP.out (HP.out.since (HW.out _ HBW.out)) hxs HXN.out HRZ.out HNN.out)
      obtain ⟨y0, y1, y2, y3, y4, y5, y6, y7⟩ : wr.cell? ⟨w.heap.size, 0, none⟩ = some (.int .i64 K) ∧ wr.cell? ⟨w.heap.size, 1, none⟩ = some (.int .i64 A) ∧ wr.cell? ⟨w.heap.size, 2, none⟩ = some (.int .i64 B) ∧ wr.cell? ⟨w.heap.size, 3, none⟩ = some (.int .i64 C) ∧ wr.cell? ⟨w.heap.size, 4, none⟩ = some (.int .i64 N) ∧ wr.cell? ⟨w.heap.size, 5, none⟩ = some (.string S) ∧ wr.cell? ⟨w.heap.size, 6, none⟩ = some (.slice la ln lc) ∧ wr.cell? ⟨w.heap.size, 7, none⟩ = some (.bool T) :=
        ⟨HC.out _ HBW.out 0, HC.out _ HBW.out 1, HC.out _ HBW.out 2, HC.out _ HBW.out 3, HC.out _ HBW.out 4, HC.out _ HBW.out 5, HC.out _ HBW.out 6, HC.out _ HBW.out 7⟩
      obtain ⟨r1, r2, hrr⟩ : ∃ r1 r2, rowS P K N S (U.map (tyAt ts)) = (r1, r2) := ⟨_, _, rfl⟩
      rw [hrr] at HR1 HQ
      clear hxs hrr
      cases r2 with
      | false =>
        have HE : RowKit.Hid (resS P K A B C N S L ts = (-1, false)) := Lib.hid HR1.out
        go_wp2_with (go_at_call 68; (with_reducible refine (HQ.out).mono ?_); rintro e w' ⟨t, rfl, hx, hb⟩)
        have HBR : RowKit.Hid (Below (w.heap.size + 1) W0 w') := Lib.hid (keepN HBW.out HZ.out hb)
        go_wp2_with fail
        refine bodyPost_ret (v := .tuple #[.int .i64 (-1), .bool false]) (by simp [results, Tryd.results56, go_sem]) rfl ⟨by rw [HE.out], HW.out _ HBR.out⟩
      | true =>
        have HE : RowKit.Hid (resS P K A B C N S L ts = (r1, true)) := Lib.hid HR1.out
        go_wp2_with (go_at_call 68; (with_reducible refine (HQ.out).mono ?_); rintro e w' ⟨t, rfl, hx, hb⟩)
        have HBR : RowKit.Hid (Below (w.heap.size + 1) W0 w') := Lib.hid (keepN HBW.out HZ.out hb)
        obtain rfl : t = r1 := by simpa using hx
        go_wp2_with fail
        refine bodyPost_ret (v := .tuple #[.int .i64 t, .bool true]) (by simp [results, Tryd.results56, go_sem]) rfl ⟨by rw [HE.out], HW.out _ HBR.out⟩
end Go.Proofs.YtdchhfdmingnaaaDoor
