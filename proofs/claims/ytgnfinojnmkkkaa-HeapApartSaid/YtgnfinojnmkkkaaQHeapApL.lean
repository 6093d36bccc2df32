/- Layer 10: the law HeapApart, walked. -/
import Derived.Test.YtgnfinojnmkkkaaQHeapApA
import Derived.Deep.DeepCutAuto
import Derived.BigQuiet
namespace Go.Proofs.Ytgnfinojnmkkkaa
open Go.RowKit (wrap64 intOf Below)
set_option linter.unusedVariables false
set_option linter.unusedSimpArgs false

def slv (x : Nat × Nat × Nat) : Value := .slice (some ⟨x.1, 0, none⟩) x.2.1 x.2.2
/-- A row of rows of values, of the call's own. -/
structure WasAt (W : World) (Z : Nat) (v : Value) (gs : List (Nat × Nat × Nat)) (l : List (List VV)) : Prop where
  len : gs.length = l.length
  row : W.ownsRow Z 36 1 v gs.length (gs.map slv)
  one : ∀ i (h1 : i < gs.length) (h2 : i < l.length), OwnsV W Z (slv gs[i]) l[i]
theorem info_row : (Try.prog.info? 36).map (fun i => (i.zero, i.size, i.bytes)) = some (some (.slice none 0 0), 1, 24) := by kernel_rfl
theorem own_off {W W' : World} {B e z n : Nat} {v : Value} {xs : List Value} {X : Nat → Prop} (h : W.ownsRow B e z v n xs) (ho : Off X W W') (hX : ∀ b, v.ownBlock = some b → ¬ X b) : W'.ownsRow B e z v n xs := by
  refine ⟨h.1, ?_⟩
  rcases h.2 with h1 | ⟨g, cp, cur, e1, hB, hg, rest⟩
  · exact .inl h1
  · exact .inr ⟨g, cp, cur, e1, hB, (ho.block g (Array.getElem?_eq_some_iff.1 hg).1 (hX g (by rw [e1]; rfl))).trans hg, rest⟩
section
variable {W W' : World} {Z : Nat} {v : Value} {gs : List (Nat × Nat × Nat)} {l : List (List VV)}
theorem WasAt.off (h : WasAt W Z v gs l) {X : Nat → Prop} (ho : Off X W W') (hX : ∀ b, Z ≤ b → ¬ X b) : WasAt W' Z v gs l :=
  ⟨h.len, own_off h.row ho (fun b hb => hX b (h.row.lt b hb).1), fun i h1 h2 => own_off (h.one i h1 h2) ho (fun b hb => hX b ((h.one i h1 h2).lt b hb).1)⟩
theorem WasAt.since (h : WasAt W Z v gs l) (hb : Below W.heap.size W W') : WasAt W' Z v gs l := h.off (X := fun _ => False) (Off.since hb) (fun _ _ h => h)
/-- Block tags part a row of rows from a row of values. -/
theorem tags_apart {b : Nat} {v' : Value} {xs ys : List Value} {n m B B' : Nat} (h : W.ownsRow B 36 1 v n xs) (k : W.ownsRow B' 24 3 v' m ys) (hb : v'.ownBlock = some b) : v.ownBlock ≠ some b := fun e => by
  rcases h.2 with ⟨e1, _⟩ | ⟨g, _, cur, e1, _, hg, _⟩
  · rw [e1] at e; cases e
  · rcases k.2 with ⟨e2, _⟩ | ⟨g', _, cur', e2, _, hg', _⟩
    · rw [e2] at hb; cases hb
    · rw [e1] at e; rw [e2] at hb
      cases e; cases hb
      rw [hg] at hg'
      cases hg'
theorem WasAt.push (h : WasAt W Z v gs l) {x : Nat × Nat × Nat} {y : List VV} (hx : OwnsV W Z (slv x) y) {C : Array Value} {T : TypeId} {w1 : World} {v' : Value} (hg : (W.alloc (.cells C T)).grownBy w1 v.ownBlock) (ho : w1.ownsRow Z 36 1 v' (gs.length + 1) (gs.map slv ++ [slv x])) : WasAt w1 Z v' (gs ++ [x]) (l ++ [y]) := by
  have hoff : Off (fun b => v.ownBlock = some b) W w1 := ((Off.refl _ W).alloc _).grown hg (fun b hb => .inl hb)
  refine ⟨by simp [h.len], ?_, fun i h1 h2 => ?_⟩
  · rw [List.length_append, List.map_append]; exact ho
  · by_cases e : i < gs.length
    · rw [List.getElem_append_left e, List.getElem_append_left (by rw [← h.len]; exact e)]
      have k := h.one i e (by rw [← h.len]; exact e)
      exact own_off k hoff (fun b hb => tags_apart h.row k hb)
    · have e2 : i = gs.length := by simp at h1; omega
      subst e2
      rw [List.getElem_append_right (by omega), List.getElem_append_right (by rw [h.len]; omega)]
      simp only [Nat.sub_self, h.len, List.getElem_cons_zero]
      exact own_off hx hoff (fun b hb => tags_apart h.row hx hb)
theorem WasAt.nil (W : World) (Z : Nat) (hZ : Z ≤ W.heap.size) : WasAt (W.alloc (.cells #[] 36)) Z (.slice (some ⟨W.heap.size, 0, none⟩) 0 0) [] [] :=
  ⟨rfl, World.ownsRow_lit (size := 1) (base := Z) W #[] 0 hZ (by unfold maxLen; omega) rfl, fun i h1 => absurd h1 (by simp)⟩
end
/-- 'append(l, x)' of a row of values. -/
theorem wpList_append_vrow {P : Program} (w : World) {ops : Array Oper} {rest : List Oper} {o : Oper} {a : Act} {Q : Exit → Act → World → Prop} (hP : P = Try.prog) (hgd : o.guard = none) (s x : Operand)
    (ho : o.op = .call { callee := .builtin .append, args := #[s, x], argTypes := #[32, 32] })
    (Z : Nat) (v : Value) (gs : List (Nat × Nat × Nat)) (l : List (List VV)) (hs : a.eval s = v) (hown : WasAt w Z v gs l) (hZ : Z ≤ w.heap.size)
    (C : Array Value) (c g : Nat) (z : Nat × Nat × Nat) (y : List VV) (hy : OwnsV w Z (slv z) y) (hx : a.eval x = .slice (some ⟨g, 0, none⟩) 1 c) (hg : g = w.heap.size) (hC : C = #[.slice (some ⟨z.1, 0, none⟩) z.2.1 z.2.2])
    (hlen : (gs.length + 1) * 24 ≤ 140737488355328)
    (h : ∀ va vn vc w', WasAt w' Z (.slice va vn vc) (gs ++ [z]) (l ++ [y]) → (w.alloc (.cells C 36)).grownBy w' v.ownBlock → wpList P ops Q rest (a.put o.dst (.slice va vn vc)) w') : wpList P ops Q (o :: rest) a (w.alloc (.cells C 36)) := by
  subst hP
  obtain ⟨i0, hi, hz0, hz1, hz2⟩ := info_parts info_row
  subst hC hg
  refine wpList_append_own_at _ hgd s x 32 ho Z 36 i0 (.slice none 0 0) 1 24 Try.underlying32 hi hz0 hz1 hz2 rfl (by decide) v gs.length (gs.map slv) hs (World.ownsRow.alloc hown.row _) ⟨w.heap.size, 0, none⟩ 1 c [slv z] hx rfl (fun j u hu => ?_) (by intro u hu; simp at hu; subst hu; rfl) (by unfold maxLen; omega) hlen (by simp; omega) ?_
  · rw [addr_plain, Nat.zero_add, World.cell?_alloc_mark]
    simpa [slv] using hu
  · intro v' w' hown' hgrow _ _
    obtain ⟨va, vn, vc, rfl⟩ : ∃ va vn vc, v' = .slice va vn vc := by
      rcases hown'.2 with ⟨e, _⟩ | ⟨_, _, _, e, _⟩
      · exact ⟨_, _, _, e⟩
      · exact ⟨_, _, _, e⟩
    exact h va vn vc w' (hown.push hy hgrow hown') hgrow
theorem Duo.beside {W W' : World} {B cap p d : Nat} {M : PM} {G : GM} {R : RM} {G2 : GR} (h : Duo W B cap p d M G R G2) {X : Nat → Prop} (ho : Off X W W') (hX : ∀ b, X b → ¬ dm G G2 b) : Duo W' B cap p d M G R G2 :=
  ⟨h.mem.beside ho (fun b hb hd => hX b hb (.inl hd)), h.fm, h.ref.beside ho (fun b hb hd => hX b hb (.inr hd)), h.p, h.d, h.ap, h.same⟩
theorem Duo.lt {W : World} {B cap p d : Nat} {M : PM} {G : GM} {R : RM} {G2 : GR} (h : Duo W B cap p d M G R G2) {b : Nat} (hb : dm G G2 b) : B ≤ b ∧ b < W.heap.size := by
  rcases hb with ⟨r, hr⟩ | ⟨r, hr⟩
  · exact h.mem.range b r hr
  · exact h.ref.range b r hr
/-- What was told, of the first q. -/
def tells (M : PM) (q : Nat) : List (List VV) := (List.range q).map fun (j : Nat) => tellM M ((j : Int) + 1)
theorem tells_len (M : PM) (q : Nat) : (tells M q).length = q := by simp [tells]
theorem tells_more (M : PM) (q : Nat) : tells M q ++ [tellM M ((q : Int) + 1)] = tells M (q + 1) := by simp [tells, List.range_succ]
theorem tells_at (M : PM) (N q : Nat) (h : q < N) (h' : q < (tells M N).length) : (tells M N)[q] = tellM M ((q : Int) + 1) := by simp [tells]
def asSet (a : PAct) : PAct := if a.kind = 6 then a else {a with kind := 8}
theorem asSet_kind (a : PAct) : (asSet a).kind = 6 ∨ (asSet a).kind = 8 := by
  unfold asSet; split
  · rename_i h; exact .inl h
  · exact .inr rfl
theorem asSet_ok {a : PAct} (ok : a.Ok) : (asSet a).Ok := by
  unfold asSet; split
  · exact ok
  · exact ⟨⟨by show (-9223372036854775808 : Int) ≤ 8; decide, by show (8 : Int) ≤ 9223372036854775807; decide⟩, ok.r, ok.i, ok.n⟩
theorem asSet_r (a : PAct) : (asSet a).r = a.r := by unfold asSet; split <;> rfl
/-- Where the first loop stands. -/
structure Ap1 (U wr : World) (B cap p d : Nat) (M : PM) (G : GM) (R : RM) (G2 : GR) : Prop where
  duo : Duo wr B cap p d M G R G2
  keys : KeysOk M
  bel : Below B U wr
/-- Where the second loop stands. -/
structure Ap2 (u0 wr : World) (M : PM) (v : Value) (gs : List (Nat × Nat × Nat)) (q : Nat) : Prop where
  bel : Below u0.heap.size u0 wr
  was : WasAt wr u0.heap.size v gs (tells M q)
/-- What the box holds once the kind is one that sets. -/
structure KindSt (x : PAct) (wp wc : World) (kb : Nat) : Prop where
  box : wc.heap[kb]? = some (.cells (actL (asSet x)).toArray 26 (0, 0))
  off : Off (fun b => b = kb) wp wc
  bel : Below kb wp wc
theorem kind_same {x : PAct} {wp : World} {kb : Nat} (hb : wp.heap[kb]? = some (.cells (actL x).toArray 26 (0, 0))) (hk : x.kind = 6) : KindSt x wp wp kb :=
  ⟨by unfold asSet; rw [if_pos hk]; exact hb, Off.refl _ _, Below.refl _ _⟩
theorem kind_set {x : PAct} {wp : World} {kb : Nat} (hb : wp.heap[kb]? = some (.cells (actL x).toArray 26 (0, 0))) (hk : ¬ x.kind = 6) : KindSt x wp (wp.setCell ⟨kb, 0, none⟩ (.int .i64 8)) kb := by
  refine ⟨?_, (Off.refl (fun b => b = kb) wp).setCell (p := ⟨kb, 0, none⟩) (.inl rfl) _, (Below.refl kb wp).setCell (p := ⟨kb, 0, none⟩) (Nat.le_refl _) _⟩
  rw [heap_setCell_same wp kb 0 _ _ _ hb]
  unfold asSet
  rw [if_neg hk]
  rfl
theorem act_cells {u : World} {kb : Nat} {y : PAct} (h : u.heap[kb]? = some (.cells (actL y).toArray 26 (0, 0))) : u.cell? ⟨kb, 0, none⟩ = some (.int .i64 y.kind) ∧ u.cell? ⟨kb, 1, none⟩ = some (.int .i64 y.r) ∧ u.cell? ⟨kb, 2, none⟩ = some (.int .i64 y.i) ∧ u.cell? ⟨kb, 3, none⟩ = some (.int .i64 y.n) ∧ u.cell? ⟨kb, 4, none⟩ = some (.int .i64 y.v.1) ∧ u.cell? ⟨kb, 5, none⟩ = some (.string y.v.2.1) ∧ u.cell? ⟨kb, 6, none⟩ = some (.int .i64 y.v.2.2) ∧ u.cell? ⟨kb, 7, none⟩ = some (.bool y.st) := by
  simp only [World.cell?, h]
  exact ⟨rfl, rfl, rfl, rfl, rfl, rfl, rfl, rfl⟩
/-- Where the law stands behind the call that sets. -/
structure Ap3 (w wd : World) (kb B cap p d Z : Nat) (M : PM) (y : PAct) (G : GM) (R : RM) (G2 : GR) (v : Value) (gs : List (Nat × Nat × Nat)) (N : Nat) : Prop where
  duo : Duo wd B (cap + 2) p d (doesM M y) G R G2
  keys : KeysOk (doesM M y)
  was : WasAt wd Z v gs (tells M N)
  box : wd.heap[kb]? = some (.cells (actL y).toArray 26 (0, 0))
  bel : Below kb w wd
/-- A row of rows, one of them and its values, where it is read. -/
theorem was_read {W : World} {Z q N : Nat} {a : Option Addr} {n c : Nat} {gs : List (Nat × Nat × Nat)} {M : PM} (h : WasAt W Z (.slice a n c) gs (tells M N)) (hq : q < N) : n = N ∧ ∃ gw g1 n1 c1, a = some ⟨gw, 0, none⟩ ∧ W.cell? ⟨gw, q, none⟩ = some (.slice (some ⟨g1, 0, none⟩) n1 c1) ∧ gw < W.heap.size ∧ OwnsV W Z (.slice (some ⟨g1, 0, none⟩) n1 c1) (tellM M ((q : Int) + 1)) := by
  have hl := h.len
  rw [tells_len] at hl
  obtain ⟨e1, hc⟩ := row_cells h.row
  rw [hl] at e1
  obtain ⟨gw, e2, _, hg, hcs⟩ := hc (by omega)
  have hqg : q < gs.length := by omega
  have ho := h.one q hqg (by rw [tells_len]; exact hq)
  rw [tells_at M N q hq] at ho
  refine ⟨e1, gw, gs[q].1, gs[q].2.1, gs[q].2.2, e2, hcs q _ (by rw [List.getElem?_map, List.getElem?_eq_getElem hqg]; rfl), hg, ho⟩
theorem vals_at {W : World} {Z g n c : Nat} {l : List VV} (h : OwnsV W Z (.slice (some ⟨g, 0, none⟩) n c) l) {j : Nat} (hj : j < l.length) : W.cell? ⟨g, j * 3, none⟩ = some (.int .i64 l[j].1) ∧ W.cell? ⟨g, j * 3 + 1, none⟩ = some (.string l[j].2.1) ∧ W.cell? ⟨g, j * 3 + 2, none⟩ = some (.int .i64 l[j].2.2) := by
  obtain ⟨e, hc⟩ := h.cells
  obtain ⟨g', e2, _, _, hcs⟩ := hc (by omega)
  cases e2
  exact hcs j hj
theorem meas_down {r N : Nat} (h : wrap64 ((r : Int) + 1) = (r : Int) + 1) (hr : r ≤ N) : N + 1 - (intOf (Value.int .i64 (wrap64 ((r : Int) + 1)))).toNat < N + 1 - (intOf (Value.int .i64 (r : Int))).toNat := by
  have e : ∀ z : Int, intOf (Value.int .i64 z) = z := fun _ => rfl
  rw [e, e, h]
  omega
set_option maxRecDepth 100000 in
set_option maxHeartbeats 8000000 in
theorem heapapart_walk (a : Option Addr) (n c : Nat) (L : List PAct) (x : PAct) (w : World) (hL : ActsAt w a n L) (hn : n ≤ 140737488351232) (ok : x.Ok) :
    Calls Try.prog 3 #[.slice a n c, actV x] w fun e w' => e = .returned (.bool true) ∧ Below w.heap.size w w' := by
  obtain ⟨U, hU⟩ : ∃ U, w.alloc (.cells #[.int .i64 x.kind, .int .i64 x.r, .int .i64 x.i, .int .i64 x.n, .int .i64 x.v.1, .string x.v.2.1, .int .i64 x.v.2.2, .bool x.st] 26) = U := ⟨_, rfl⟩
  obtain ⟨kb, hkb⟩ : ∃ kb, w.heap.size = kb := ⟨_, rfl⟩
  have hbU : Below kb w U := by rw [← hU, ← hkb]; exact (Below.refl _ w).alloc (Nat.le_refl _) _
  have hUx : U.heap[kb]? = some (.cells (actL x).toArray 26 (0, 0)) := by rw [← hU, ← hkb]; exact World.alloc_heap_new _ _
  have hUs : U.heap.size = kb + 1 := by rw [← hU, ← hkb]; simp
  obtain ⟨B, hB⟩ : ∃ B, U.heap.size = B := ⟨_, rfl⟩
  have C0 := Lib.hid (new_any 1048576 U)
  have C1 : RowKit.Hid (∀ u, Below U.heap.size U u → Calls Try.prog 6 #[.int .i64 1048576] u fun e w' => ∃ G : GR, e = .returned (.pointer (some ⟨G.p, 0, none⟩)) ∧ RefAt w' U.heap.size 0 (newR 1048576) G ∧ Below u.heap.size u w' ∧ ∀ b, dom G.ρ b → b = u.heap.size) := Lib.hid fun u hu => refnew_any 1048576 u hu.size
  have hLU : ActsAt U a n L := hL.since (by rw [hkb]; exact hbU)
  rw [hB] at C0 C1
  have HAC : RowKit.Hid (∀ u, Below B U u → ActsAt u a n L) := Lib.hid fun u hu => hLU.since (by rw [hB]; exact hu)
  have HBX : RowKit.Hid (∀ u, Below B U u → u.heap[kb]? = some (.cells (actL x).toArray 26 (0, 0))) := Lib.hid fun u hu => (hu.block kb (by omega)).trans hUx
  have HBB : RowKit.Hid (kb < B ∧ kb ≤ B ∧ Below kb w U ∧ x.Ok ∧ w.heap.size = kb) := Lib.hid ⟨by omega, by omega, hbU, ok, hkb⟩
  have HBS : RowKit.Hid (∀ u : World, Below B U u → B ≤ u.heap.size) := Lib.hid fun u hu => by have := hu.size; omega
  have hnl := hL.1
  rw [hkb]
  clear hL hLU hUx hUs hB hbU ok
  unfold actV
  go_enter Try.func3, Try.ntmps3
  go_upto_region 1 with fail
  try rw [hU]
  try rw [hkb]
  clear hU hkb
  go_upto_region 2 with (first
    | (go_at_call 5; refine C0.out.mono ?_; rintro e wa ⟨G0, rfl, hm, hb⟩; have H0 := Lib.hid (And.intro hm hb); clear hm hb)
    | (go_at_call 6; (with_reducible refine (C1.out wa H0.out.2).mono ?_); rintro e wb ⟨G2, rfl, hm, hb, hd⟩; have H1 := Lib.hid (And.intro hm (And.intro hb hd)); clear hm hb hd))
  have hduo := duo_new H0.out.1 H1.out.1 H1.out.2.1 H1.out.2.2
  have hbw : Below B U wb := H0.out.2.trans (H1.out.2.1.mono (HBS.out _ H0.out.2))
  obtain ⟨p, hp⟩ : ∃ p, G0.p = p := ⟨_, rfl⟩
  obtain ⟨d, hd⟩ : ∃ d, G2.p = d := ⟨_, rfl⟩
  rw [hp, hd] at hduo
  try rw [hp]
  try rw [hd]
  have HS0 : RowKit.Hid (Ap1 U wb B (2 * 0) p d (newM 1048576) G0 (newR 1048576) G2) := Lib.hid ⟨hduo, (fun o ho => absurd ho (by simp [newM])), hbw⟩
  clear hduo hbw hp hd H0 H1 C0 C1
  go_wp2_with fail
  go_loopw [7] (fun v7 wr => ∃ (i : Nat) (M : PM) (G : GM) (R : RM) (G2 : GR), i ≤ n ∧ i ≤ 40 ∧ v7 = .int .i64 (i : Int) ∧ RowKit.Hid (Ap1 U wr B (2 * i) p d M G R G2)) (fun v7 _ => n - (intOf v7).toNat)
  case atStart => exact ⟨0, _, _, _, _, Nat.zero_le _, by omega, rfl, HS0⟩
  case round =>
    obtain ⟨i, M, G, R, G2, hi, hi2, rfl, HI⟩ := hrel
    clear HS0
    obtain ⟨wo, hwo⟩ : ∃ u, u = wr := ⟨_, rfl⟩
    rw [← hwo] at HI ⊢
    clear hwo
    have HW : RowKit.Hid (wrap64 ((i : Int) + 1) = (i : Int) + 1) := Lib.hid (by unfold wrap64; omega)
    by_cases hlt : i < n ∧ i < 40
    · as_aux_lemma =>
        obtain ⟨hl1, hl2⟩ := hlt
        obtain ⟨hal, hok, hac⟩ := HAC.out wo HI.out.bel
        have hil : i < L.length := by omega
        obtain ⟨g, off, rfl, hgl, hcs⟩ := hac (by omega)
        have q0 : wo.cell? ⟨g, off + i * 8, none⟩ = some (.int .i64 L[i].kind) := hcs i hil 0 _ rfl
        have q1 : wo.cell? ⟨g, off + i * 8 + 1, none⟩ = some (.int .i64 L[i].r) := hcs i hil 1 _ rfl
        have q2 : wo.cell? ⟨g, off + i * 8 + 2, none⟩ = some (.int .i64 L[i].i) := hcs i hil 2 _ rfl
        have q3 : wo.cell? ⟨g, off + i * 8 + 3, none⟩ = some (.int .i64 L[i].n) := hcs i hil 3 _ rfl
        have q4 : wo.cell? ⟨g, off + i * 8 + 4, none⟩ = some (.int .i64 L[i].v.1) := hcs i hil 4 _ rfl
        have q5 : wo.cell? ⟨g, off + i * 8 + 5, none⟩ = some (.string L[i].v.2.1) := hcs i hil 5 _ rfl
        have q6 : wo.cell? ⟨g, off + i * 8 + 6, none⟩ = some (.int .i64 L[i].v.2.2) := hcs i hil 6 _ rfl
        have q7 : wo.cell? ⟨g, off + i * 8 + 7, none⟩ = some (.bool L[i].st) := hcs i hil 7 _ rfl
        have HOK : RowKit.Hid (L[i].Ok) := Lib.hid (hok _ (List.getElem_mem hil))
        have hin : (i : Int) < (n : Int) := by omega
        have hi0 : (0 : Int) ≤ (i : Int) := by omega
        have hih : (i : Int) < 40 := by omega
        generalize L[i] = y at *
        clear hcs hac hok hal
        have CD : RowKit.Hid (Calls Try.prog 7 #[.pointer (some ⟨p, 0, none⟩), .pointer (some ⟨d, 0, none⟩), .agg #[.int .i64 y.kind, .int .i64 y.r, .int .i64 y.i, .int .i64 y.n, .int .i64 y.v.1, .string y.v.2.1, .int .i64 y.v.2.2, .bool y.st]] wo (DuoPost wo B (2 * i) p d (dm G G2) (doesM M y))) := Lib.hid (does_any HI.out.duo (by omega) HOK.out)
        go_wp2_with (go_at_call 7; refine CD.out.mono ?_; rintro e wc ⟨rfl, G', R', G2', h2, hb2⟩; have H2 := Lib.hid (And.intro h2 hb2); clear h2 hb2)
        go_roundw
        case rel => exact ⟨i + 1, doesM M y, G', R', G2', by omega, by omega, by go_num, Lib.hid ⟨by rw [show 2 * (i + 1) = 2 * i + 2 by omega]; exact H2.out.1, keys_does HI.out.keys HOK.out, HI.out.bel.trans H2.out.2.bel⟩⟩
        case measure => simp [intOf, HW.out]; omega
    · have HC : RowKit.Hid (2 * i ≤ 80) := Lib.hid (by omega)
      go_upto_region 5 with fail
      go_cut [27] (fun tc wc => tc = .bool false ∧ wo = wc)
      case first =>
        by_cases hl1 : i < n
        · have hin : (i : Int) < (n : Int) := by omega
          obtain rfl : i = 40 := by omega
          clear hlt
          go_wp2_with fail
          go_meet
          exact ⟨rfl, rfl⟩
        · have hin : ¬ ((i : Int) < (n : Int)) := by omega
          clear hlt
          go_wp2_with fail
          go_meet
          exact ⟨rfl, rfl⟩
      case rest =>
       obtain ⟨rfl, rfl⟩ := hcut
       as_aux_lemma =>
        clear hlt hnl HW hi hi2
        obtain ⟨cap, hcap⟩ : ∃ cap, 2 * i = cap := ⟨_, rfl⟩
        rw [hcap] at HI HC
        clear hcap
        obtain ⟨N, hN⟩ : ∃ N, R.L.length = N := ⟨_, rfl⟩
        have hNc : N ≤ 80 := by have := HI.out.duo.ref.num.len; have := HC.out; omega
        have d0 := HI.out.duo.ref.cell 0
        simp only [List.getElem?_toArray, List.getElem?_cons_zero] at d0
        rw [HI.out.duo.ref.ln, HI.out.duo.d, hN] at d0
        have hdlt : d < wo.heap.size := by have := HI.out.duo.ref.plt.2; rw [HI.out.duo.d] at this; exact this
        have HD0 : RowKit.Hid (∀ u, Below wo.heap.size wo u → u.cell? ⟨d, 0, none⟩ = some (.slice G2.la N G2.lc)) := Lib.hid fun u hu => (hu.cell (p := ⟨d, 0, none⟩) hdlt).trans d0
        have HNC : RowKit.Hid (N ≤ 80 ∧ cap ≤ 80) := Lib.hid ⟨hNc, HC.out⟩
        have HS2 : RowKit.Hid (Ap2 wo (wo.alloc (.cells #[] 36)) M (.slice (some ⟨wo.heap.size, 0, none⟩) 0 0) [] (1 - 1)) := Lib.hid ⟨(Below.refl _ wo).alloc (Nat.le_refl _) _, WasAt.nil wo _ (Nat.le_refl _)⟩
        clear d0 hdlt hN hNc HC
        go_wp2_with fail
        go_loopw [8, 9] (fun v8 v9 wr => ∃ (r : Nat) (ya : Option Addr) (yn yc : Nat) (gs : List (Nat × Nat × Nat)), 1 ≤ r ∧ r ≤ N + 1 ∧ v8 = .slice ya yn yc ∧ v9 = .int .i64 (r : Int) ∧ RowKit.Hid (Ap2 wo wr M (.slice ya yn yc) gs (r - 1))) (fun _ v9 _ => N + 1 - (intOf v9).toNat)
        case atStart => exact ⟨1, _, _, _, [], by omega, by omega, rfl, rfl, HS2⟩
        case round =>
          obtain ⟨r, ya, yn, yc, gs, hr1, hr2, rfl, rfl, HJ⟩ := hrel
          clear HS2
          obtain ⟨wp, hwp⟩ : ∃ u, u = wr := ⟨_, rfl⟩
          rw [← hwp] at HJ ⊢
          clear hwp
          have hd0 := HD0.out wp HJ.out.bel
          have HW : RowKit.Hid (wrap64 ((r : Int) + 1) = (r : Int) + 1) := Lib.hid (by have := HNC.out; unfold wrap64; omega)
          by_cases hrn : r ≤ N
          · as_aux_lemma =>
              have hrn' : (r : Int) ≤ (N : Int) := by omega
              have CT : RowKit.Hid (Calls Try.prog 8 #[.pointer (some ⟨p, 0, none⟩), .int .i64 (r : Int)] wp (TellPost wp M r)) := Lib.hid (by
                have k := tell_any (HI.out.duo.since HJ.out.bel).mem (by have := HNC.out; omega) HI.out.keys (r : Int) (by have := HNC.out; unfold I64; omega)
                rw [HI.out.duo.p] at k
                exact k)
              have HZ : RowKit.Hid (∀ u, Below wp.heap.size wp u → wo.heap.size ≤ u.heap.size) := Lib.hid fun u hu => by have := hu.size; have := HJ.out.bel.size; omega
              have HGL : RowKit.Hid ((gs.length + 1) * 24 ≤ 140737488355328) := Lib.hid (by have h1 := HJ.out.was.len; rw [tells_len] at h1; have := HNC.out; omega)
              have HNX : RowKit.Hid (∀ u g2 n2 c2, OwnsV u wp.heap.size (.slice (some ⟨g2, 0, none⟩) n2 c2) (tellM M r) → Below wp.heap.size wp u → WasAt u wo.heap.size (.slice ya yn yc) gs (tells M (r - 1)) ∧ OwnsV u wo.heap.size (slv (g2, n2, c2)) (tellM M r) ∧ ∀ C va vn vc w', WasAt w' wo.heap.size (.slice va vn vc) (gs ++ [(g2, n2, c2)]) (tells M (r - 1) ++ [tellM M r]) → (u.alloc (.cells C 36)).grownBy w' (Value.slice ya yn yc).ownBlock → Ap2 wo w' M (.slice va vn vc) (gs ++ [(g2, n2, c2)]) (r + 1 - 1)) := Lib.hid fun u g2 n2 c2 ho hu => by
                refine ⟨HJ.out.was.since hu, ho.mono HJ.out.bel.size, fun C va vn vc w' hw hg => ⟨?_, ?_⟩⟩
                · have hb : Below wo.heap.size wo u := HJ.out.bel.trans (hu.mono HJ.out.bel.size)
                  exact Below.grown (hb.alloc hb.size _) hg (by have := hb.size; simp; omega) (fun k hk => (HJ.out.was.row.lt k hk).1)
                · have e : tells M (r - 1) ++ [tellM M (r : Int)] = tells M (r + 1 - 1) := by
                    have h1 := tells_more M (r - 1)
                    rw [show (((r - 1 : Nat) : Int) + 1) = (r : Int) by omega] at h1
                    rw [h1, show r - 1 + 1 = r + 1 - 1 by omega]
                  rw [← e]; exact hw
              go_wp2_with (first
                | (go_at_call 8; refine CT.out.mono ?_; rintro e wq ⟨g2, n2, c2, y2, rfl, ho, hb⟩; have HT := Lib.hid (HNX.out wq g2 n2 c2 ho hb); have HZ2 := Lib.hid (HZ.out wq hb); clear ho hb)
                | ((with_reducible refine wpList_append_vrow _ rfl rfl _ _ rfl wo.heap.size (.slice ya yn yc) gs (tells M (r - 1)) ?_ ?_ ?_ _ 1 wq.heap.size (g2, n2, c2) (tellM M r) ?_ ?_ ?_ ?_ ?_ ?_); (next => rfl); (next => exact HT.out.1); (next => exact HZ2.out); (next => exact HT.out.2.1); (next => rfl); (next => rfl); (next => rfl); (next => exact HGL.out); intro za zn zc ws hw2 hg2; have HA := Lib.hid (HT.out.2.2 _ _ _ _ _ hw2 hg2); clear hw2 hg2))
              have hN80 := HNC.out.1
              go_roundw
              case rel => exact ⟨r + 1, za, zn, zc, _, Nat.le_succ_of_le hr1, Nat.succ_le_succ hrn, rfl, (by rw [HW.out]; rfl), HA⟩
              case measure => exact meas_down HW.out hrn
          · obtain rfl : r = N + 1 := by omega
            have hrn' : ¬ (((N + 1 : Nat) : Int) ≤ (N : Int)) := by omega
            as_aux_lemma =>
              have hbp : Below B U wp := HI.out.bel.trans (HJ.out.bel.mono (HBS.out _ HI.out.bel))
              have hbx := HBX.out wp hbp
              have HBP := Lib.hid (And.intro hbp hbx)
              have e0 : wp.cell? ⟨kb, 0, none⟩ = some (.int .i64 x.kind) := (act_cells hbx).1
              have z0 : wp.frozen? ⟨kb, 0, none⟩ = false := by simp [World.frozen?, hbx]
              clear hbp hbx
              go_upto_region 14 with fail
              clear hd0 hrn'
              by_cases hk6 : x.kind = 6
              focus (
                have hk : (x.kind != 6) = false := by simp [hk6]
                have HK0 := Lib.hid (kind_same HBP.out.2 hk6)
                go_upto_region 16 with fail
                obtain ⟨wc, hwc⟩ : ∃ wc, wc = wp := ⟨_, rfl⟩
                have HK : RowKit.Hid (KindSt x wp wc kb) := by rw [hwc]; exact HK0
                rw [← hwc])
              rotate_left
              focus (
                have hk : (x.kind != 6) = true := by simp [hk6]
                have HK0 := Lib.hid (kind_set HBP.out.2 hk6)
                go_upto_region 16 with fail
                obtain ⟨wc, hwc⟩ : ∃ wc, wc = wp.setCell ⟨kb, 0, none⟩ (.int .i64 8) := ⟨_, rfl⟩
                have HK : RowKit.Hid (KindSt x wp wc kb) := by rw [hwc]; exact HK0
                rw [← hwc])
              all_goals as_aux_lemma =>
                clear e0 z0 hk6 hk HK0 hwc
                obtain ⟨y, hy⟩ : ∃ y, asSet x = y := ⟨_, rfl⟩
                have hyk := asSet_kind x
                have hyr := asSet_r x
                have hyo := asSet_ok HBB.out.2.2.2.1
                rw [hy] at hyk hyr hyo
                have HYK := Lib.hid (And.intro hyk (And.intro hyr hyo))
                have hkx := HK.out.box
                rw [hy] at hkx
                have HKX := Lib.hid hkx
                obtain ⟨c0, c1, c2, c3, c4, c5, c6, c7⟩ := act_cells hkx
                have HKO := Lib.hid (And.intro HK.out.off HK.out.bel)
                have hduo := (HI.out.duo.since HJ.out.bel).beside HK.out.off (fun b hb hd => by have := (HI.out.duo.lt hd).1; have := HBB.out.1; omega)
                have HDW := Lib.hid hduo
                have CD : RowKit.Hid (Calls Try.prog 7 #[.pointer (some ⟨p, 0, none⟩), .pointer (some ⟨d, 0, none⟩), .agg #[.int .i64 y.kind, .int .i64 y.r, .int .i64 y.i, .int .i64 y.n, .int .i64 y.v.1, .string y.v.2.1, .int .i64 y.v.2.2, .bool y.st]] wc (DuoPost wc B cap p d (dm G G2) (doesM M y))) := Lib.hid (does_any hduo (by have := HNC.out; omega) hyo)
                clear hy hyk hyr hyo hkx hduo HK
                go_upto_region 17 with (go_at_call 7; refine CD.out.mono ?_; rintro e wd ⟨rfl, G', R', G2', h2, hst⟩; have H2 := Lib.hid (And.intro h2 hst); clear h2 hst)
                have H3 : RowKit.Hid (Ap3 w wd kb B cap p d wo.heap.size M y G' R' G2' (.slice ya yn yc) gs N) := Lib.hid (by
                  have hs := H2.out.2
                  have hBo := HBS.out _ HI.out.bel
                  refine ⟨H2.out.1, keys_does HI.out.keys HYK.out.2.2, ?_, (hs.bel.block kb HBB.out.1).trans HKX.out, ((HBB.out.2.2.1.trans (HBP.out.1.mono HBB.out.2.1)).trans HKO.out.2).trans (hs.bel.mono HBB.out.2.1)⟩
                  have k1 := HJ.out.was
                  rw [show N + 1 - 1 = N by omega] at k1
                  have k2 := k1.off HKO.out.1 (fun b hb e => by have := HBB.out.1; omega)
                  exact k2.off hs.off (fun b hb hd => by have := (HI.out.duo.lt hd).2; omega))
                clear H2 HKO HKX HDW CD HBP HJ HI c0 c1 c2 c3 c4 c5 c6 c7
                obtain ⟨Z, hZ⟩ : ∃ Z, wo.heap.size = Z := ⟨_, rfl⟩
                rw [hZ] at H3
                have hynN : yn = N := by
                  have h1 := (row_cells H3.out.was.row).1
                  have h2 := H3.out.was.len
                  rw [tells_len] at h2
                  omega
                subst hynN
                clear hZ
                go_wp2_with fail
                go_loopw [12] (fun v12 wr => ∃ r : Nat, 1 ≤ r ∧ r ≤ yn + 1 ∧ v12 = .int .i64 (r : Int) ∧ RowKit.Hid (Below wd.heap.size wd wr)) (fun v12 _ => yn + 1 - (intOf v12).toNat)
                case atStart => exact ⟨1, by omega, by omega, rfl, Lib.hid (Below.refl _ _)⟩
                case round =>
                  obtain ⟨r, hr1, hr2, rfl, HQ⟩ := hrel
                  obtain ⟨we, hwe⟩ : ∃ u, u = wr := ⟨_, rfl⟩
                  rw [← hwe] at HQ ⊢
                  clear hwe
                  have HW : RowKit.Hid (wrap64 ((r : Int) + 1) = (r : Int) + 1) := Lib.hid (by have := HNC.out; unfold wrap64; omega)
                  by_cases hrn : r ≤ yn
                  · as_aux_lemma =>
                      have hrn' : (r : Int) ≤ (yn : Int) := by omega
                      have CT : RowKit.Hid (Calls Try.prog 8 #[.pointer (some ⟨p, 0, none⟩), .int .i64 (r : Int)] we (TellPost we (doesM M y) r)) := Lib.hid (by
                        have k := tell_any (H3.out.duo.since HQ.out).mem (by have := HNC.out; omega) H3.out.keys (r : Int) (by have := HNC.out; unfold I64; omega)
                        rw [H3.out.duo.p] at k
                        exact k)
                      have HC1 : RowKit.Hid (∀ u, Below we.heap.size we u → u.cell? ⟨kb, 1, none⟩ = some (.int .i64 y.r)) := Lib.hid fun u hu => (act_cells (((HQ.out.trans (hu.mono HQ.out.size)).block kb (Array.getElem?_eq_some_iff.1 H3.out.box).1).trans H3.out.box)).2.1
                      go_upto_region 21 with (go_at_call 8; refine CT.out.mono ?_; rintro e wf ⟨g2, n2, c2, y2, rfl, ho, hb⟩; have HT := Lib.hid (And.intro ho hb); clear ho hb)
                      have k1 := HC1.out wf HT.out.2
                      have HBF : RowKit.Hid (Below wd.heap.size wd wf) := Lib.hid (HQ.out.trans (HT.out.2.mono HQ.out.size))
                      by_cases hrr : (r : Int) = y.r
                      · have hbb : ((r : Int) == y.r) = true := by simpa using hrr
                        clear hrr
                        go_wp2_with fail
                        go_roundw
                        case rel => exact ⟨r + 1, Nat.le_succ_of_le hr1, Nat.succ_le_succ hrn, (by rw [HW.out]; rfl), HBF⟩
                        case measure => exact meas_down HW.out hrn
                      · have hbb : ((r : Int) == y.r) = false := by simpa using hrr
                        obtain ⟨q, hq⟩ : ∃ q : Nat, q + 1 = r := ⟨r - 1, by omega⟩
                        have hts : tellM (doesM M y) (r : Int) = tellM M ((q : Int) + 1) := by
                          rw [tell_apart HYK.out.1 hrr, show ((q : Int) + 1) = (r : Int) by omega]
                        obtain ⟨T, hT⟩ : ∃ T, tellM M ((q : Int) + 1) = T := ⟨_, rfl⟩
                        have ho := HT.out.1
                        rw [hts, hT] at ho
                        obtain ⟨_, gw, g1, n1, c1, rfl, hcw, hgw, ho1⟩ := was_read H3.out.was (show q < yn by omega)
                        rw [hT] at ho1
                        have hn2 := ho.cells.1
                        have hn1 := ho1.cells.1
                        have HO := Lib.hid ho
                        have HO1 : RowKit.Hid (OwnsV wf Z (.slice (some ⟨g1, 0, none⟩) n1 c1) T) := Lib.hid (ho1.below2 HBF.out)
                        have kw : wf.cell? ⟨gw, q, none⟩ = some (.slice (some ⟨g1, 0, none⟩) n1 c1) := (HBF.out.cell (p := ⟨gw, q, none⟩) hgw).trans hcw
                        have HKW : RowKit.Hid (∀ u, Below wf.heap.size wf u → u.cell? ⟨gw, q, none⟩ = some (.slice (some ⟨g1, 0, none⟩) n1 c1)) := Lib.hid fun u hu => (hu.cell (p := ⟨gw, q, none⟩) (block_lt_of_cell kw)).trans kw
                        have hw1 : wrap64 ((r : Int) - 1) = (q : Int) := by have := HNC.out; unfold wrap64; omega
                        have hvw1 : IntKind.i64.wrap ((r : Int) - 1) = (q : Int) := by rw [show (r : Int) - 1 = (q : Int) by omega]; exact wrap_small _ (by omega) (by have := HNC.out; omega)
                        have hq0 : (0 : Int) ≤ (q : Int) := by omega
                        have hq1 : (q : Int) < (yn : Int) := by omega
                        have HQ1 : RowKit.Hid (q + 1 = r) := Lib.hid hq
                        obtain ⟨ln, hln⟩ : ∃ ln, T.length = ln := ⟨_, rfl⟩
                        rw [hln] at hn1 hn2
                        have hn1 := hn1.symm
                        have hn2 := hn2.symm
                        subst hn1
                        subst hn2
                        have HLN := Lib.hid hln
                        have hl50 : ln ≤ 51 := by
                          rw [← hln, ← hT]
                          unfold tellM
                          rw [tellTo_len]
                          unfold tellN
                          omega
                        clear hts hT ho ho1 hcw hgw hq hln
                        go_upto_region 24 with fail
                        have HJ0 : RowKit.Hid (Below wf.heap.size wf wf) := Lib.hid (Below.refl _ _)
                        go_wp2_with fail
                        go_loopw [15] (fun v15 wr => ∃ j : Nat, j ≤ ln ∧ v15 = .int .i64 (j : Int) ∧ RowKit.Hid (Below wf.heap.size wf wr)) (fun v15 _ => ln - (intOf v15).toNat)
                        case atStart => exact ⟨0, Nat.zero_le _, rfl, HJ0⟩
                        case round =>
                          obtain ⟨j, hj, rfl, HJ⟩ := hrel
                          clear HJ0
                          obtain ⟨wg, hwg⟩ : ∃ u, u = wr := ⟨_, rfl⟩
                          rw [← hwg] at HJ ⊢
                          clear hwg
                          have kg := HKW.out wg HJ.out
                          have HWJ : RowKit.Hid (wrap64 ((j : Int) + 1) = (j : Int) + 1) := Lib.hid (by unfold wrap64; omega)
                          by_cases hjl : j < ln
                          · have hjT : j < T.length := by have := HLN.out; omega
                            obtain ⟨m0, m1, m2⟩ := vals_at (HO.out.below2 HJ.out) hjT
                            obtain ⟨l0, l1, l2⟩ := vals_at (HO1.out.below2 HJ.out) hjT
                            obtain ⟨z, hz⟩ : ∃ z, T[j] = z := ⟨_, rfl⟩
                            rw [hz] at m0 m1 m2 l0 l1 l2
                            obtain ⟨z1, z2, z3⟩ := z
                            simp only at m0 m1 m2 l0 l1 l2
                            have hji : (j : Int) < (ln : Int) := by omega
                            have hj0 : (0 : Int) ≤ (j : Int) := by omega
                            clear hz hjT
                            go_upto_region 27 with fail
                            go_quiet (fail)
                            go_wp2_with fail
                            go_roundw
                            case rel => exact ⟨j + 1, hjl, (by first | rfl | go_num), Lib.hid (below_drewN _ HJ.out)⟩
                            case measure => simp [intOf, HWJ.out]; omega
                          · obtain rfl : j = ln := by omega
                            go_wp2_with fail
                            go_roundw
                            case rel => exact ⟨r + 1, Nat.le_succ_of_le hr1, Nat.succ_le_succ hrn, (by rw [HW.out]; rfl), Lib.hid (HBF.out.trans (HJ.out.mono HBF.out.size))⟩
                            case measure => exact meas_down HW.out hrn
                  · obtain rfl : r = yn + 1 := by omega
                    have hrn' : ¬ (((yn + 1 : Nat) : Int) ≤ (yn : Int)) := by omega
                    have CV := Lib.hid (lives10_any we)
                    go_wp2_with (go_at_call 9; refine CV.out.mono ?_; rintro e wz ⟨rfl, hb⟩; have HBZ := Lib.hid hb; clear hb)
                    go_ret
                    have s1 := H3.out.bel
                    have s2 := HQ.out
                    have s3 := HBZ.out
                    have hwk : kb ≤ wd.heap.size := Nat.le_of_lt (Array.getElem?_eq_some_iff.1 H3.out.box).1
                    exact ⟨rfl, (s1.trans (s2.mono hwk)).trans (s3.mono (Nat.le_trans hwk s2.size))⟩
end Go.Proofs.Ytgnfinojnmkkkaa
