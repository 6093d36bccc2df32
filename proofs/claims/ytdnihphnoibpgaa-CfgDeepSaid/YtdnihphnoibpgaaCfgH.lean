/- Layer 7: package cfg's Targets: a range over its targets, each target's list copied: the contract of the iterator by which of both it is; what the rounds keep. -/
import Derived.Test.YtdnihphnoibpgaaCfgF
import Derived.Maps.OwnIn
namespace Go.Proofs.Ytdnihphnoibpgaa
open Go.RowKit
set_option linter.unusedVariables false
set_option linter.unusedSimpArgs false
attribute [local go_sem] Oper.semAt_some

def encB (T E : Int) (la : Option Addr) (ln lc : Nat) (ma : Option Addr) (mn mc : Nat) : Bool → Array Value
  | false => #[.agg #[.int .i64 T, .slice la ln lc]]
  | true => #[.agg #[.int .i64 E, .slice ma mn mc]]
def ixs (K : Int) : List Bool := if K = 0 then [false] else if K = 1 then [false, true] else []
theorem ixs_len (K : Int) : (ixs K).length ≤ 2 := by
  unfold ixs
  repeat' split
  all_goals simp
def tgOf (e : EndD) : Bool → Int × List Int
  | false => (e.To, e.L)
  | true => (e.Else, e.M)
theorem ixs_tgts (e : EndD) : (ixs e.K).map (tgOf e) = tgts e := by
  unfold ixs tgts
  split
  · rfl
  · split <;> rfl
set_option maxRecDepth 100000 in
set_option maxHeartbeats 2000000 in
theorem tg_stopsB (K A T E : Int) (la : Option Addr) (ln lc : Nat) (ma : Option Addr) (mn mc : Nat) (b n : Nat) (w : World) (hb : ∀ j, w.cell? ⟨b, j, none⟩ = (#[.int .i64 K, .int .i64 A, .int .i64 T, .int .i64 E, .slice la ln lc, .slice ma mn mc] : Array Value)[j]?) :
    SeqStopsK Fence.wide n Try.prog 49 #[.pointer (some ⟨b, 0, none⟩)] (encB T E la ln lc ma mn mc) (KeptT b) (fun xs => xs = ixs K) (fun pre => ∃ q, pre = (ixs K).take q) (ixs K).length w := by
  intro l J Jx W hW hJ hJx hY h0
  have hlt : b < w.heap.size := World.block_lt_of_cell? (a := ⟨b, 0, none⟩) _ (hb 0)
  have HB : RowKit.Hid (∀ u, KeptT b W u → ∀ j, u.cell? ⟨b, j, none⟩ = (#[.int .i64 K, .int .i64 A, .int .i64 T, .int .i64 E, .slice la ln lc, .slice ma mn mc] : Array Value)[j]?) := Lib.hid fun u hu j => (hu.cells j).trans ((hW.cell (p := ⟨b, j, none⟩) hlt).trans (hb j))
  have c0 := HB.out W (KeptT.refl b W) 0
  have c2 := HB.out W (KeptT.refl b W) 2
  have c4 := HB.out W (KeptT.refl b W) 4
  clear hb hlt hW
  refine callsIn_of_wp Try.func49 rfl trivial ?_ rfl
  simp only [Try.ntmps49, List.size_toArray, List.length_cons, List.length_nil, Nat.reduceAdd, Nat.reduceSub, Array.replicate_succ, Array.replicate_zero, List.push_toArray, List.append_toArray, List.nil_append, List.cons_append]
  by_cases hK0 : K = 0
  · have hk : (K == 0) = true := by rw [hK0]; rfl
    have HT : RowKit.Hid (ixs K = [false]) := Lib.hid (by unfold ixs; rw [if_pos hK0])
    clear hK0
    have hy0 := hY [] false W h0 (by rw [HT.out]; simp)
    simp only [encB] at hy0
    obtain ⟨fn, tmps, assign, body, hy, hR⟩ := hy0
    clear hY
    gi_wp2
    refine ⟨(fun h => (nomatch h)), hR.mono ?_⟩
    rintro e W3 (⟨rfl, hJ3, hk3⟩ | ⟨rfl, hJx3⟩)
    · gi_wp2
      go_end0
      exact ⟨⟨_, rfl⟩, .inl ⟨_, HT.out.symm, hJ3⟩⟩
    · gi_wp2
      go_end0
      exact ⟨⟨_, rfl⟩, .inr ⟨_, ⟨1, by rw [HT.out]; rfl⟩, hJx3⟩⟩
  · have hk : (K == 0) = false := by simpa using hK0
    by_cases hK1 : K = 1
    · have hk1 : (K == 1) = true := by rw [hK1]; rfl
      have HT : RowKit.Hid (ixs K = [false, true]) := Lib.hid (by unfold ixs; rw [if_neg hK0, if_pos hK1])
      clear hK0 hK1
      have hy0 := hY [] false W h0 (by rw [HT.out]; simp)
      have HY1 := Lib.hid fun W1 h => hY [false] true W1 h (by rw [HT.out]; simp)
      simp only [encB] at hy0 HY1
      obtain ⟨fn, tmps, assign, body, hy, hR⟩ := hy0
      clear hY
      gi_wp2
      refine ⟨(fun h => (nomatch h)), hR.mono ?_⟩
      rintro e W3 (⟨rfl, hJ3, hk3⟩ | ⟨rfl, hJx3⟩)
      · have d3 := HB.out W3 hk3 3
        have d5 := HB.out W3 hk3 5
        obtain ⟨fn2, tmps2, assign2, body2, hy2, hR2⟩ := HY1.out W3 hJ3
        clear hJ3 hk3 hy hR c0 c2 c4
        gi_wp2
        refine ⟨(fun h => (nomatch h)), hR2.mono ?_⟩
        rintro e W4 (⟨rfl, hJ4, hk4⟩ | ⟨rfl, hJx4⟩)
        · gi_wp2
          go_end0
          exact ⟨⟨_, rfl⟩, .inl ⟨_, HT.out.symm, hJ4⟩⟩
        · gi_wp2
          go_end0
          exact ⟨⟨_, rfl⟩, .inr ⟨_, ⟨2, by rw [HT.out]; rfl⟩, hJx4⟩⟩
      · gi_wp2
        go_end0
        exact ⟨⟨_, rfl⟩, .inr ⟨_, ⟨1, by rw [HT.out]; rfl⟩, hJx3⟩⟩
    · have hk1 : (K == 1) = false := by simpa using hK1
      have HT : RowKit.Hid (ixs K = []) := Lib.hid (by unfold ixs; rw [if_neg hK0, if_neg hK1])
      clear hK0 hK1 hY
      gi_wp2
      go_end0
      exact ⟨⟨_, rfl⟩, .inl ⟨_, HT.out.symm, h0⟩⟩

/-- 'append(b, x...)' in a fence: b the call's own, x whatever is read. -/
theorem wpListIn_append_nums {F : Fence} {n : Nat} {P : Program} (w : World) {ops : Array Oper} {rest : List Oper} {o : Oper} {a : Act} {Q : Exit → Act → World → Prop} (hgd : o.guard = none) (s x : Operand) (t : TypeId)
    (ho : o.op = .call { callee := .builtin .append, args := #[s, x], argTypes := #[t, t] }) (e : TypeId) (ht : P.underlying t = some (.slice e))
    (hinfo : (P.info? e).map (fun i => (i.zero, i.size, i.bytes)) = some (some (.int .i64 0), 1, 8))
    (B : Nat) (v : Value) (Z : List Int) (hs : a.eval s = v) (hown : OwnsI w B e v Z) (hB : B ≤ w.heap.size)
    (xa : Option Addr) (m c : Nat) (news : List Int) (hx : a.eval x = .slice xa m c) (hnil : xa = none → c = 0) (hat : NumsAt w xa m news)
    (hlen : (Z.length + m) * 8 ≤ 140737488355328)
    (h : ∀ va vn vc w', OwnsI w' B e (.slice va vn vc) (Z ++ news) → w.grownBy w' v.ownBlock → wpListIn F n P ops Q rest (a.put o.dst (.slice va vn vc)) w') : wpListIn F n P ops Q (o :: rest) a w := by
  obtain ⟨i0, hi, hz0, hz1, hz2⟩ := info_parts hinfo
  have h1 := hat.1
  have hc0 : xa = none → m = 0 := fun e => by
    by_cases h0 : 0 < m
    · obtain ⟨g, off, he, _⟩ := hat.2 h0; rw [e] at he; cases he
    · omega
  cases xa with
  | none =>
    have hm := hc0 rfl
    have hc : c = 0 := hnil rfl
    subst hm hc
    have h0 : news = [] := List.eq_nil_of_length_eq_zero h1
    subst h0
    have hown0 : w.ownsRow B e 1 v Z.length (Z.map numV) := hown
    have hrun := run_append_owned_none (P := P) (w := w) B t o.type e i0 1 ht hi v Z.length (Z.map numV) hown0
    refine wpListIn_plain hgd fun K' hK' => ?_
    obtain ⟨va, vn, vc, rfl, hat⟩ := hown.nums
    unfold Oper.wpIn
    refine ⟨by simp [Oper.about, ho, resolve, Target.leads, Sem.run_pure], ?_⟩
    rw [Oper.semAt_plain F _ _ (by rw [ho]; intro c hc'; cases hc')]
    simp [execOp, ho, resolve, invoke, builtin, hs, hx, hrun, Result.andThen]
    exact hK' _ _ (h va vn vc w (by rw [List.append_nil]; exact hown) ⟨rfl, rfl, rfl, Nat.le_refl _, fun _ _ _ => rfl⟩)
  | some ad =>
    subst h1
    refine wpListIn_append_own _ hgd s x t ho B e i0 (.int .i64 0) 1 8 ht hi hz0 hz1 hz2 rfl (by decide) v Z.length (Z.map numV) hs hown ad news.length c (news.map numV) hx (by simp) (fun j u hu => ?_) (fun u hu => by obtain ⟨z, _, rfl⟩ := List.mem_map.1 hu; rfl) (by unfold maxLen; omega) hlen hB ?_
    · rw [List.getElem?_map] at hu
      obtain ⟨z, hz, rfl⟩ := Option.map_eq_some_iff.1 hu
      obtain ⟨hj, rfl⟩ := List.getElem?_eq_some_iff.1 hz
      obtain ⟨ad', he, hcell⟩ := hat.at (by omega)
      cases he
      exact hcell j hj
    · intro v' w' hown' hgrow _
      have hown2 : OwnsI w' B e v' (Z ++ news) := by
        show w'.ownsRow B e 1 v' (Z ++ news).length ((Z ++ news).map numV)
        rw [List.map_append, List.length_append]
        exact hown'
      obtain ⟨va, vn, vc, rfl, hat⟩ := hown2.nums
      exact h va vn vc w' hown2 hgrow
theorem wpListIn_append_tg {F : Fence} {n : Nat} (w : World) {ops : Array Oper} {rest : List Oper} {o : Oper} {a : Act} {Q : Exit → Act → World → Prop} (hgd : o.guard = none) (s x : Operand)
    (ho : o.op = .call { callee := .builtin .append, args := #[s, x], argTypes := #[28, 28] })
    (B : Nat) (v : Value) (l : List TgV) (hs : a.eval s = v) (hown : OwnsT w B v l) (hB : B ≤ w.heap.size)
    (C : Array Value) (c g : Nat) (z : TgV) (hx : a.eval x = .slice (some ⟨g, 0, none⟩) 1 c) (hg : g = w.heap.size) (hC : C = #[.int .i64 z.1, .slice z.2.1 z.2.2.1 z.2.2.2])
    (hlen : l.length ≤ 100000)
    (h : ∀ va vn vc w', OwnsT w' B (.slice va vn vc) (l ++ [z]) → (w.alloc (.cells C 40)).grownBy w' v.ownBlock → wpListIn F n Try.prog ops Q rest (a.put o.dst (.slice va vn vc)) w') : wpListIn F n Try.prog ops Q (o :: rest) a (w.alloc (.cells C 40)) := by
  obtain ⟨i0, hi, hz0, hz1, hz2⟩ := info_parts info_tg
  subst hC hg
  refine wpListIn_append_own _ hgd s x 28 ho B 40 i0 (.agg #[.int .i64 0, .slice none 0 0]) 2 32 Try.underlying28 hi hz0 hz1 hz2 rfl (by decide) v l.length (flatT l) hs (World.ownsRow.alloc hown _) ⟨w.heap.size, 0, none⟩ 1 c [.int .i64 z.1, .slice z.2.1 z.2.2.1 z.2.2.2] hx rfl (fun j u hu => ?_) (by intro u hu; simp at hu; rcases hu with rfl | rfl <;> rfl) (by unfold maxLen; omega) (by omega) (by simp; omega) ?_
  · rw [addr_plain, Nat.zero_add, World.cell?_alloc_mark]
    simpa using hu
  · intro v' w' hown' hgrow _
    have h2 : OwnsT w' B v' (l ++ [z]) := by
      show w'.ownsRow B _ 2 v' (l ++ [z]).length (flatT (l ++ [z]))
      rw [show flatT (l ++ [z]) = flatT l ++ [.int .i64 z.1, .slice z.2.1 z.2.2.1 z.2.2.2] by simp [flatT], List.length_append]
      exact hown'
    obtain ⟨va, vn, vc, rfl⟩ : ∃ va vn vc, v' = .slice va vn vc := by
      rcases h2.2 with ⟨e, _⟩ | ⟨_, _, _, e, _⟩
      · exact ⟨_, _, _, e⟩
      · exact ⟨_, _, _, e⟩
    exact h va vn vc w' h2 hgrow

/-! ## What the rounds have made -/
/-- A target with a list of the call's own. -/
def CopT (W : World) (B : Nat) (x : TgV) (t : Int × List Int) : Prop := x.1 = t.1 ∧ OwnsI W B 3 (.slice x.2.1 x.2.2.1 x.2.2.2) t.2
def Cops (W : World) (B : Nat) : List TgV → List (Int × List Int) → Prop
  | [], [] => True
  | x :: l, t :: ts => CopT W B x t ∧ Cops W B l ts
  | _, _ => False
theorem Cops.len {W : World} {B : Nat} : ∀ {l : List TgV} {ts : List (Int × List Int)}, Cops W B l ts → l.length = ts.length
  | [], [], _ => rfl
  | _ :: _, _ :: _, h => by have := Cops.len h.2; simp [this]
  | [], _ :: _, h => h.elim
  | _ :: _, [], h => h.elim
theorem Cops.snoc {W : World} {B : Nat} {x : TgV} {t : Int × List Int} (hx : CopT W B x t) : ∀ {l : List TgV} {ts : List (Int × List Int)}, Cops W B l ts → Cops W B (l ++ [x]) (ts ++ [t])
  | [], [], _ => ⟨hx, trivial⟩
  | _ :: _, _ :: _, h => ⟨h.1, Cops.snoc hx h.2⟩
  | [], _ :: _, h => h.elim
  | _ :: _, [], h => h.elim
theorem Cops.at {W : World} {B : Nat} : ∀ {l : List TgV} {ts : List (Int × List Int)}, Cops W B l ts → ∀ i (h1 : i < l.length) (h2 : i < ts.length), CopT W B l[i] ts[i]
  | [], [], _, i, h1, _ => absurd h1 (by simp)
  | _ :: _, _ :: _, h, 0, _, _ => h.1
  | _ :: _, _ :: _, h, i + 1, h1, h2 => Cops.at h.2 i (by simpa using h1) (by simpa using h2)
  | [], _ :: _, h, _, _, _ => h.elim
  | _ :: _, [], h, _, _, _ => h.elim
theorem Cops.all {W W' : World} {B B' : Nat} (hk : ∀ x t, CopT W B x t → CopT W' B' x t) : ∀ {l : List TgV} {ts : List (Int × List Int)}, Cops W B l ts → Cops W' B' l ts
  | [], [], _ => trivial
  | _ :: _, _ :: _, h => ⟨hk _ _ h.1, Cops.all hk h.2⟩
  | [], _ :: _, h => h.elim
  | _ :: _, [], h => h.elim
theorem CopT.grown {W W' : World} {B : Nat} {x : TgV} {t : Int × List Int} {row : Option Nat} (h : CopT W B x t) (hg : W.grownBy W' row) (hr : ∀ r, row = some r → ∀ (C : Array Value) (m : Nat × Nat), W.heap[r]? ≠ some (.cells C 3 m)) : CopT W' B x t := by
  refine ⟨h.1, World.ownsRow.kept h.2 hg ?_⟩
  rcases h.2.2 with ⟨he, _⟩ | ⟨g, cap, cur, he, _, hgb, _⟩
  · exact .inl (by rw [he]; rfl)
  · exact .inr fun e' => hr g (by rw [← e', he]; rfl) _ _ hgb
theorem ownT_block {W : World} {B : Nat} {v : Value} {l : List TgV} (h : OwnsT W B v l) {r : Nat} (hr : v.ownBlock = some r) : ∃ C, W.heap[r]? = some (.cells C 40 (0, 0)) ∧ B ≤ r := by
  rcases h.2 with ⟨rfl, _⟩ | ⟨g, cap, cur, rfl, hB, hgb, _⟩
  · cases hr
  · cases hr; exact ⟨_, hgb, hB⟩
/-- Where Targets stands: what it has, in a box of its own. -/
structure TgtSt (w W : World) (v : Value) (l : List TgV) (ts : List (Int × List Int)) : Prop where
  box : Boxed W (w.heap.size + 1) 28 v
  own : OwnsT W (w.heap.size + 3) v l
  cop : Cops W (w.heap.size + 3) l ts
  bel : Below w.heap.size w W
  siz : w.heap.size + 3 ≤ W.heap.size
theorem TgtSt.grown {w W W' : World} {v : Value} {l : List TgV} {ts : List (Int × List Int)} {row : Option Nat} (h : TgtSt w W v l ts) (hg : W.grownBy W' row) (hr : ∀ r, row = some r → w.heap.size + 3 ≤ r ∧ ∃ o : Obj, W.heap[r]? = some o ∧ o.isCells = false) : TgtSt w W' v l ts := by
  have hb : Below (w.heap.size + 3) W W' := Below.grown (Below.refl _ W) hg h.siz (fun k e => (hr k e).1)
  refine ⟨Boxed.grownRow h.box hg (fun r e => (hr r e).2), ?_, h.cop.all fun x t hx => hx.grown hg fun r e C m hC => ?_, h.bel.trans (hb.mono (by omega)), Nat.le_trans h.siz hb.size⟩
  · refine World.ownsRow.kept h.own hg ?_
    by_cases hv : v.ownBlock = none
    · exact .inl hv
    · refine .inr fun e => ?_
      obtain ⟨r, hr'⟩ := Option.ne_none_iff_exists'.1 hv
      obtain ⟨C, hC, _⟩ := ownT_block h.own hr'
      obtain ⟨o, ho, hc⟩ := (hr r (by rw [← e]; exact hr')).2
      rw [hC] at ho; cases ho; cases hc
  · obtain ⟨o, ho, hc⟩ := (hr r e).2
    rw [hC] at ho; cases ho; cases hc
theorem TgtSt.alloc {w W : World} {v : Value} {l : List TgV} {ts : List (Int × List Int)} (h : TgtSt w W v l ts) (o : Obj) : TgtSt w (W.alloc o) v l ts := h.grown (World.grownBy_alloc W o none) (fun r e => by cases e)
end Go.Proofs.Ytdnihphnoibpgaa
