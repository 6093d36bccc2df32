/- Layer 10: a table's has and put. -/
import Derived.Test.YtnnccahpgailiaaQCfgJ
import Derived.Test.YtnnccahpgailiaaQT0
import Derived.Maps.AppendAt
namespace Go.Proofs.Ytnnccahpgailiaa
open Go.RowKit (wrap64 intOf Below)
open Go.Maps (Keyed)
set_option linter.unusedVariables false
set_option linter.unusedSimpArgs false

theorem law64 : Keyed Try.prog 2 := Maps.int_keyed Try.underlying2
theorem zero64 (w : World) : (zeroValue 2).run Try.prog w = .ok (.int .i64 0) w := by kernel_rfl
theorem key64 {k : Int} (hk : -9223372036854775808 ≤ k ∧ k ≤ 9223372036854775807) : keyOf Try.prog 2 (.int .i64 k) = some (.int .i64 k) := Maps.keyOf_int_mk Try.underlying2 (WalkArith.wf_i64 (by omega))
theorem info64 : (Try.prog.info? 2).map (fun i => (i.zero, i.size, i.bytes)) = some (some (.int .i64 0), 1, 8) := by kernel_rfl
section
variable {W : World} {B cap : Nat} {ρ : Rho} {i : Nat} {o : PO} {g : GO}
theorem TabAt.c1 (h : TabAt W B cap ρ i o g) : W.cell? ⟨g.q, 1, none⟩ = some (.slice g.ka g.kn g.kc) := by simp [World.cell?, h.blk]
theorem TabAt.c2 (h : TabAt W B cap ρ i o g) : W.cell? ⟨g.q, 2, none⟩ = some (.map (some g.mp)) := by simp [World.cell?, h.blk]
theorem TabAt.c0 (h : TabAt W B cap ρ i o g) : W.cell? ⟨g.q, 0, none⟩ = some (.bool o.stack) := by simp [World.cell?, h.blk]
end
set_option maxRecDepth 100000 in
theorem thas_any {W : World} {B cap : Nat} {ρ : Rho} {i : Nat} {o : PO} {g : GO} (h : TabAt W B cap ρ i o g) (k : Int) (hk : -9223372036854775808 ≤ k ∧ k ≤ 9223372036854775807) :
    Calls Try.prog 54 #[.pointer (some ⟨g.q, 0, none⟩), .int .i64 k] W fun e w' => e = .returned (.bool (decide (k ∈ o.keys))) ∧ w' = W := by
  have c2 := h.c2
  have HMAP := Lib.hid h.map
  have HKEY := Lib.hid (key64 hk)
  have HR : RowKit.Hid (Maps.has g.D (.int .i64 k) = decide (k ∈ o.keys)) := Lib.hid (h.has k)
  generalize decide (k ∈ o.keys) = bb at *
  clear h
  go_enter Try.func54, Try.ntmps54
  go_wp2_with (at_lookup; refine wpList_lookup_own_ok_int _ rfl _ _ 106 rfl 2 2 .i64 law64 Try.underlying106 Try.underlying2 (zero64 _) g.mp cap g.D rfl HMAP.out _ _ rfl HKEY.out ?_; intro c hat hwc; rw [HR.out])
  go_ret
  exact ⟨rfl, rfl⟩
def keysUp (o : PO) (k : Int) : List Int := if k ∈ o.keys then o.keys else o.keys ++ [k]
def tabUp (o : PO) (k n : Int) : PO := {o with keys := keysUp o k, under := fun x => if x = k then n else o.under x}
theorem keysUp_mem (o : PO) (k x : Int) : x ∈ keysUp o k ↔ x = k ∨ x ∈ o.keys := by
  unfold keysUp
  split
  · rename_i h; exact ⟨.inr, fun hx => hx.elim (fun e => e ▸ h) id⟩
  · rw [List.mem_append, List.mem_singleton]; exact Or.comm
/-- What changes of object i's body. -/
def bodyR (i : Nat) (r : Nat × Nat) : Prop := ¬ (3 ≤ r.1 ∧ r.1 ≤ 5 ∧ r.2 = i)
theorem body_in {t i : Nat} (h1 : 3 ≤ t) (h2 : t ≤ 5) : ¬ bodyR i (t, i) := fun h => h ⟨h1, h2, rfl⟩
structure TabSt (W w' : World) (B cap : Nat) (ρ ρ' : Rho) (i : Nat) (o : PO) (g g' : GO) (k n : Int) : Prop where
  tab : TabAt w' B (cap + 1) ρ' i (tabUp o k n) g'
  ptr : g'.ptr = g.ptr
  q : g'.q = g.q
  ex : Ex ρ ρ'
  new : ∀ b r, ρ' b = some r → ρ b = some r ∨ (W.heap.size ≤ b ∧ b < w'.heap.size)
  kp : Kp ρ (bodyR i) W w'
  bel : Below B W w'
  off : Off (dom ρ) W w'
section
variable {W W2 w3 : World} {B cap : Nat} {ρ ρ' : Rho} {i : Nat} {o : PO} {g : GO} {k n : Int}
/-- The map told anew, behind the keys. -/
theorem TabAt.upd (h : TabAt W B cap ρ i o g) (hq : ρ g.q = some (3, i)) (hr : ∀ b r, ρ b = some r → B ≤ b ∧ b < W.heap.size) {ya : Option Addr} {yn yc : Nat}
    (hb : W2.heap[g.q]? = some (.cells #[.bool o.stack, .slice ya yn yc, .map (some g.mp)] 108 (0, 0))) (hk2 : OwnsI W2 B 2 (.slice ya yn yc) (keysUp o k)) (hrk : RoleS ρ' (.slice ya yn yc) (4, i)) (hex : Ex ρ ρ')
    (hnew : ∀ b r, ρ' b = some r → ρ b = some r ∨ (W.heap.size ≤ b ∧ b < W2.heap.size)) (hkp : Kp ρ (fun r => bodyR i r ∨ r = (5, i)) W W2) (hbel : Below B W W2) (hod : Off (dom ρ) W W2)
    (hm : w3.ownsMap Try.prog 2 (plainElem Try.prog 2) g.mp (cap + 1) (g.D.put (.int .i64 k) (.lit (.int .i64 n)))) (hg : W2.grownBy w3 (some g.mp)) (hmap : Maps.IsMap g.D) (hklen : (keysUp o k).length ≤ cap + 1) :
    ∃ ρ' g', TabSt W w3 B cap ρ ρ' i o g g' k n := by
  have hm2 : ρ' g.mp = some (5, i) := hex _ _ h.rm
  have hq2 : ρ' g.q = some (3, i) := hex _ _ hq
  have hsz2 : W.heap.size ≤ W2.heap.size := hbel.size
  have hlt2 : ∀ b r, ρ' b = some r → b < W2.heap.size := fun b r hbr => by
    rcases hnew b r hbr with h1 | h1
    · have := (hr b r h1).2; omega
    · exact h1.2
  have hne : ∀ b r, ρ' b = some r → r ≠ (5, i) → w3.heap[b]? = W2.heap[b]? := fun b r hbr hn => hg.block b (hlt2 b r hbr) (fun e => by
    cases e
    rw [hm2] at hbr
    exact hn (Option.some.inj hbr).symm)
  have kp3 : Kp ρ' (fun r => r ≠ (5, i)) W2 w3 := hne
  refine ⟨ρ', {g with ka := ya, kn := yn, kc := yc, D := g.D.put (.int .i64 k) (.lit (.int .i64 n))}, ⟨?_, ?_, hrk, hm2, hm, fun x => ?_, fun x => ?_, hklen⟩, rfl, rfl, hex, fun b r hbr => ?_, fun b r hbr hR => ?_, hbel.trans ?_, hod.grown hg (fun j hj => by cases hj; exact .inl ⟨_, h.rm⟩)⟩
  · exact (hne _ _ hq2 (by simp)).trans hb
  · exact row_kept hk2 hrk kp3 (by simp)
  · show Maps.has (g.D.put _ _) _ = decide (x ∈ keysUp o k)
    by_cases e : x = k
    · subst e
      rw [Maps.has_put_same hmap (show WideAt.IsKeyLit (.int .i64 x) from trivial)]
      exact (decide_eq_true ((keysUp_mem o x x).2 (.inl rfl))).symm
    · rw [Maps.has_put_other (by intro h'; cases h'; exact e rfl), h.has x]
      have : (x ∈ keysUp o k) ↔ x ∈ o.keys := by rw [keysUp_mem]; exact ⟨fun h' => h'.resolve_left e, .inr⟩
      exact decide_eq_decide.2 this.symm
  · show (g.D.put _ _).atKey _ _ = .lit (.int .i64 (if x = k then n else o.under x))
    by_cases e : x = k
    · subst e
      rw [if_pos rfl, Maps.atKey_put_same hmap (show WideAt.IsKeyLit (.int .i64 x) from trivial)]
    · rw [if_neg e, Maps.atKey_put_other (by intro h'; cases h'; exact e rfl)]
      exact h.look x
  · rcases hnew b r hbr with h1 | h1
    · exact .inl h1
    · exact .inr ⟨h1.1, Nat.lt_of_lt_of_le h1.2 hg.size⟩
  · have h5 : r ≠ (5, i) := fun e => body_in (i := i) (by omega : 3 ≤ 5) (by omega) (e ▸ hR)
    exact (hne b r (hex _ _ hbr) h5).trans (hkp b r hbr (.inl hR))
  · exact Below.grown (Below.refl B W2) hg (by have := (hr _ _ h.rm).1; have := (hr _ _ h.rm).2; omega) (fun j hj => by cases hj; exact (hr _ _ h.rm).1)
/-- One key more. -/
theorem TabAt.more {w1 : World} {C : Array Value} {ya : Option Addr} {yn yc : Nat} (h : TabAt W B cap ρ i o g) (hq : ρ g.q = some (3, i)) (hr : ∀ b r, ρ b = some r → B ≤ b ∧ b < W.heap.size) (hkn : k ∉ o.keys)
    (hg : (W.alloc (.cells C 2)).grownBy w1 (Value.slice g.ka g.kn g.kc).ownBlock) (ho : OwnsI w1 B 2 (.slice ya yn yc) (o.keys ++ [k])) (hw : ∀ b, (Value.slice ya yn yc).ownBlock = some b → (Value.slice g.ka g.kn g.kc).ownBlock = some b ∨ W.heap.size ≤ b) :
    w1.frozen? ⟨g.q, 1, none⟩ = false ∧ w1.cell? ⟨g.q, 1, none⟩ = some (.slice g.ka g.kn g.kc) ∧ ∃ ρ', (w1.setCell ⟨g.q, 1, none⟩ (.slice ya yn yc)).heap[g.q]? = some (.cells #[.bool o.stack, .slice ya yn yc, .map (some g.mp)] 108 (0, 0)) ∧ OwnsI (w1.setCell ⟨g.q, 1, none⟩ (.slice ya yn yc)) B 2 (.slice ya yn yc) (keysUp o k) ∧ RoleS ρ' (.slice ya yn yc) (4, i) ∧ Ex ρ ρ' ∧
    (∀ b r, ρ' b = some r → ρ b = some r ∨ (W.heap.size ≤ b ∧ b < (w1.setCell ⟨g.q, 1, none⟩ (.slice ya yn yc)).heap.size)) ∧ Kp ρ (fun r => bodyR i r ∨ r = (5, i)) W (w1.setCell ⟨g.q, 1, none⟩ (.slice ya yn yc)) ∧ Below B W (w1.setCell ⟨g.q, 1, none⟩ (.slice ya yn yc)) ∧ Off (dom ρ) W (w1.setCell ⟨g.q, 1, none⟩ (.slice ya yn yc)) ∧ (w1.setCell ⟨g.q, 1, none⟩ (.slice ya yn yc)).ownsMap Try.prog 2 (plainElem Try.prog 2) g.mp cap g.D := by
  have hoff : Off (fun b => (Value.slice g.ka g.kn g.kc).ownBlock = some b) W w1 := ((Off.refl _ W).alloc _).grown hg (fun b hb => .inl hb)
  have hqlt := (hr _ _ hq).2
  have hqne : (Value.slice g.ka g.kn g.kc).ownBlock ≠ some g.q := fun e => by
    have := h.rk _ e
    rw [hq] at this
    simp at this
  have hq1 : w1.heap[g.q]? = some (.cells #[.bool o.stack, .slice g.ka g.kn g.kc, .map (some g.mp)] 108 (0, 0)) := (hoff.block g.q hqlt hqne).trans h.blk
  have hyq : ∀ b, (Value.slice ya yn yc).ownBlock = some b → b ≠ g.q := fun b hb e => by
    rcases hw b hb with h1 | h1
    · exact hqne (e ▸ h1)
    · omega
  have hku : keysUp o k = o.keys ++ [k] := by unfold keysUp; rw [if_neg hkn]
  have hs1 : W.heap.size ≤ w1.heap.size := hoff.size
  have hoff2 : Off (fun b => (Value.slice g.ka g.kn g.kc).ownBlock = some b ∨ b = g.q) W (w1.setCell ⟨g.q, 1, none⟩ (.slice ya yn yc)) := (hoff.mono (fun b _ hb => .inl hb)).setCell (.inl (.inr rfl)) _
  refine ⟨by simp [World.frozen?, hq1], by simp [World.cell?, hq1], fun b => if (Value.slice ya yn yc).ownBlock = some b then some (4, i) else ρ b, ?_, ?_, fun b hb => if_pos hb, fun b r hbr => ?_, fun b r hbr => ?_, fun b r hbr hR => ?_, hoff2.below (by have := (hr _ _ hq).1; omega) (fun b hb => ?_), hoff2.mono (fun b _ hb => hb.elim (fun h' => ⟨_, h.rk b h'⟩) (fun h' => ⟨(3, i), by rw [h']; exact hq⟩)), ?_⟩
  · rw [heap_setCell_same w1 g.q 1 _ _ _ hq1]; rfl
  · rw [hku]
    refine ⟨ho.1, ?_⟩
    rcases ho.2 with hn | ⟨gg, cp, cur, e, hB, hgg, rest⟩
    · exact .inl hn
    · exact .inr ⟨gg, cp, cur, e, hB, (Below.heap_setCell _ _ _ _ (hyq gg (by rw [e]; rfl))).trans hgg, rest⟩
  · show (if (Value.slice ya yn yc).ownBlock = some b then some (4, i) else ρ b) = some r
    by_cases e : (Value.slice ya yn yc).ownBlock = some b
    · rw [if_pos e]
      rcases hw b e with h1 | h1
      · have := h.rk _ h1
        rw [hbr] at this
        exact this.symm
      · have := (hr b r hbr).2; omega
    · rw [if_neg e]; exact hbr
  · have hbr : (if (Value.slice ya yn yc).ownBlock = some b then some (4, i) else ρ b) = some r := hbr
    by_cases e : (Value.slice ya yn yc).ownBlock = some b
    · rw [if_pos e] at hbr
      rcases hw b e with h1 | h1
      · have h2 := h.rk _ h1
        rw [← hbr]; exact .inl h2
      · refine .inr ⟨h1, ?_⟩
        have := (ho.lt b e).2
        simpa [World.setCell] using this
    · rw [if_neg e] at hbr; exact .inl hbr
  · refine hoff2.block b (hr b r hbr).2 (fun hx => ?_)
    rcases hx with hx | hx
    · have := h.rk _ hx
      rw [hbr] at this
      have h4 : r = (4, i) := Option.some.inj this
      rcases hR with hR | hR
      · exact body_in (i := i) (by omega : 3 ≤ 4) (by omega) (h4 ▸ hR)
      · rw [h4] at hR; simp at hR
    · rw [hx, hq] at hbr
      have h3 : r = (3, i) := (Option.some.inj hbr).symm
      rcases hR with hR | hR
      · exact body_in (i := i) (by omega : 3 ≤ 3) (by omega) (h3 ▸ hR)
      · rw [h3] at hR; simp at hR
  · rcases hb with hb | hb
    · exact (h.keys.lt b hb).1
    · rw [hb]; exact (hr _ _ hq).1
  · refine map_kept h.map ?_ (Nat.le_refl _)
    refine hoff2.block g.mp (hr _ _ h.rm).2 (fun hx => ?_)
    rcases hx with hx | hx
    · have := h.rk _ hx
      rw [h.rm] at this; simp at this
    · have := h.rm
      rw [hx, hq] at this; simp at this
end
set_option maxRecDepth 100000 in
set_option maxHeartbeats 1000000 in
theorem tput_any {W : World} {B cap : Nat} {ρ : Rho} {i : Nat} {o : PO} {g : GO} (h : TabAt W B cap ρ i o g) (hq : ρ g.q = some (3, i)) (hr : ∀ b r, ρ b = some r → B ≤ b ∧ b < W.heap.size) (hcap : cap ≤ 1099511627776) (k n : Int) (hk : -9223372036854775808 ≤ k ∧ k ≤ 9223372036854775807) (hn : -9223372036854775808 ≤ n ∧ n ≤ 9223372036854775807) :
    Calls Try.prog 56 #[.pointer (some ⟨g.q, 0, none⟩), .int .i64 k, .int .i64 n] W fun e w' => e = .returned (.tuple #[]) ∧ ∃ ρ' g', TabSt W w' B cap ρ ρ' i o g g' k n := by
  have CH := Lib.hid (thas_any h k hk)
  have HT := Lib.hid h
  have HQ := Lib.hid (And.intro hq hr)
  have HKEY := Lib.hid (key64 hk)
  have HVAL : RowKit.Hid (plainElem (H := Unit) Try.prog 2 (.int .i64 n) = some (.lit (.int .i64 n), [])) := Lib.hid (plainElem_int Try.underlying2 (WalkArith.wf_i64 (by omega)))
  have HIM : RowKit.Hid (Maps.IsMap g.D) := Lib.hid h.map.isMap
  have c1 := h.c1
  have c2 := h.c2
  have HKL : RowKit.Hid ((o.keys.length + 1) * 8 ≤ 140737488355328) := Lib.hid (by have := h.klen; omega)
  have hBW : B ≤ W.heap.size := by have := (hr _ _ hq).1; have := (hr _ _ hq).2; omega
  by_cases hin : k ∈ o.keys
  · rw [decide_eq_true hin] at CH
    have HKU : RowKit.Hid (keysUp o k = o.keys) := Lib.hid (by unfold keysUp; rw [if_pos hin])
    clear h hq hr hin
    go_enter Try.func56, Try.ntmps56
    go_wp2_with (first
      | (go_at_call 54; refine CH.out.mono ?_; rintro e u ⟨rfl, hu⟩; rw [hu]; clear hu u)
      | (at_mapUpdate; refine wpList_mapUpdate_own _ rfl _ _ _ 106 rfl 2 2 law64 Try.underlying106 _ g.mp cap g.D rfl HT.out.map (by unfold maxLen; omega) _ _ _ rfl rfl HKEY.out _ [] HVAL.out ?_; intro w3 hm3 hg3; have HW3 := Lib.hid (And.intro hm3 hg3); clear hm3 hg3))
    go_end0
    exact ⟨rfl, HT.out.upd HQ.out.1 HQ.out.2 HT.out.blk (by rw [HKU.out]; exact HT.out.keys) HT.out.rk (Ex.refl _) (fun b r hbr => .inl hbr) (fun _ _ _ _ => rfl) (Below.refl _ _) (Off.refl _ _) HW3.out.1 HW3.out.2 HIM.out (by rw [HKU.out]; have := HT.out.klen; omega)⟩
  · rw [decide_eq_false hin] at CH
    have HIN := Lib.hid hin
    have HKU : RowKit.Hid (keysUp o k = o.keys ++ [k]) := Lib.hid (by unfold keysUp; rw [if_neg hin])
    clear h hq hr hin
    go_enter Try.func56, Try.ntmps56
    go_wp2_with (first
      | (go_at_call 54; refine CH.out.mono ?_; rintro e u ⟨rfl, hu⟩; rw [hu]; clear hu u)
      | ((with_reducible refine wpList_append_numA _ rfl _ _ 65 rfl 2 Try.underlying65 info64 B (.slice g.ka g.kn g.kc) o.keys ?_ ?_ ?_ _ 1 W.heap.size k ?_ ?_ ?_ ?_ ?_); (next => rfl); (next => exact HT.out.keys); (next => exact hBW); (next => rfl); (next => rfl); (next => rfl); (next => exact HKL.out); intro ya yn yc w1 ho1 hg1 hw1; have HMO := Lib.hid (HT.out.more HQ.out.1 HQ.out.2 HIN.out hg1 ho1 hw1); have hf1 := HMO.out.1; have hc1 := HMO.out.2.1; have hd2 : (w1.setCell ⟨g.q, 1, none⟩ (.slice ya yn yc)).cell? ⟨g.q, 2, none⟩ = some (.map (some g.mp)) := (by obtain ⟨ρ', hb, _⟩ := HMO.out.2.2; simp [World.cell?, hb]); have HM2 : RowKit.Hid ((w1.setCell ⟨g.q, 1, none⟩ (.slice ya yn yc)).ownsMap Try.prog 2 (plainElem Try.prog 2) g.mp cap g.D) := Lib.hid (by obtain ⟨ρ', _, _, _, _, _, _, _, _, hm⟩ := HMO.out.2.2; exact hm); clear ho1 hg1 hw1)
      | (at_mapUpdate; refine wpList_mapUpdate_own _ rfl _ _ _ 106 rfl 2 2 law64 Try.underlying106 _ g.mp cap g.D rfl HM2.out (by unfold maxLen; omega) _ _ _ rfl rfl HKEY.out _ [] HVAL.out ?_; intro w3 hm3 hg3; have HW3 := Lib.hid (And.intro hm3 hg3); clear hm3 hg3))
    go_end0
    obtain ⟨ρ', hb, hk2, hrk, hex, hnew, hkp, hbel, hod, _⟩ := HMO.out.2.2
    exact ⟨rfl, HT.out.upd HQ.out.1 HQ.out.2 hb hk2 hrk hex hnew hkp hbel hod HW3.out.1 HW3.out.2 HIM.out (by rw [HKU.out, List.length_append]; have := HT.out.klen; simp; omega)⟩
end Go.Proofs.Ytnnccahpgailiaa

/- Layer 10: package heap's Put, Look, Key and Size. -/
namespace Go.Proofs.Ytnnccahpgailiaa
open Go.RowKit (wrap64 intOf Below)
set_option linter.unusedVariables false
set_option linter.unusedSimpArgs false

theorem map_set_same {α β : Type} {f : α → β} : ∀ {l : List α} {i : Nat} {x : α} (h : i < l.length), f x = f l[i] → (l.set i x).map f = l.map f := by
  intro l
  induction l with
  | nil => intro i x h; exact absurd h (by simp)
  | cons y l ih =>
    intro i x h e
    cases i with
    | zero => simp only [List.set_cons_zero, List.map_cons]; rw [show f x = f y from e]
    | succ i => simp only [List.set_cons_succ, List.map_cons]; rw [ih (by simpa using h) (by simpa using e)]
section
variable {W W' : World} {B cap cap' : Nat} {M : PM} {G : GM}
/-- Object i's body is told anew. -/
theorem MemAt.setBody (h : MemAt W B cap M G) {i : Nat} (h1 : i < M.objs.length) (h2 : i < G.gos.length) {o' : PO} {g' : GO} {ρ' : Rho} (hfr : o'.fr = M.objs[i].fr) (htab : o'.tab = M.objs[i].tab) (hptr : g'.ptr = G.gos[i].ptr) (hq : g'.q = G.gos[i].q)
    (hbody : BodyAt W' B cap' ρ' i o' g') (hex : Ex G.ρ ρ') (hnew : ∀ b r, ρ' b = some r → G.ρ b = some r ∨ (W.heap.size ≤ b ∧ b < W'.heap.size)) (hkp : Kp G.ρ (bodyR i) W W') (hsz : W.heap.size ≤ W'.heap.size) (hc : cap ≤ cap') :
    MemAt W' B cap' {M with objs := M.objs.set i o'} {G with gos := G.gos.set i g', ρ := ρ'} := by
  have hB : B ≤ W.heap.size := by have := h.plt; omega
  have hlow : ∀ t j, t < 3 ∨ 5 < t → bodyR i (t, j) := fun t j ht hh => by have := hh.1; have := hh.2.1; simp at *; omega
  have hoth : ∀ t j, j ≠ i → bodyR i (t, j) := fun t j hj hh => hj hh.2.2
  have hmap : (G.gos.set i g').map (·.ptr) = G.gos.map (·.ptr) := map_set_same h2 hptr
  refine ⟨fun b r hbr => ?_, hex _ _ h.rm, (hkp _ _ h.rm (hlow 0 0 (by omega))).trans h.blk, ?_, h.ro.ex hex, ⟨by simp [h.objs.len], fun j k1 k2 => ?_, fun j k1 k2 hg => ?_⟩, row_kept h.fv h.rf hkp (hlow 6 0 (by omega)), h.rf.ex hex, h.flen, h.mlen, fun j k1 k2 => ⟨row_kept (h.fo j k1 k2).1 (h.fo j k1 k2).2 hkp (hlow 7 j (by omega)), (h.fo j k1 k2).2.ex hex⟩, ?_⟩
  · rcases hnew b r hbr with h3 | h3
    · have := h.range b r h3; omega
    · omega
  · show OwnsPt W' B _ ((G.gos.set i g').map (·.ptr))
    rw [hmap]
    exact row_kept h.ov h.ro hkp (hlow 1 0 (by omega))
  · have k1' : j < M.objs.length := by simpa using k1
    have k2' : j < G.gos.length := by simpa using k2
    have hs := h.objs.shell j k1' k2'
    show ShellAt W' ρ' j (M.objs.set i o')[j] (G.gos.set i g')[j]
    by_cases e : i = j
    · subst e
      rw [List.getElem_set_self, List.getElem_set_self]
      refine ⟨by rw [hptr]; exact hex _ _ hs.rp, by rw [hq]; exact hex _ _ hs.rq, ?_⟩
      rw [hptr, hq, hfr, htab]
      exact (hkp _ _ hs.rp (hlow 2 i (by omega))).trans hs.blk
    · rw [List.getElem_set_ne e, List.getElem_set_ne e]
      exact hs.kept hkp (hlow 2 j (by omega)) hex
  · have k1' : j < M.objs.length := by simpa using k1
    have k2' : j < G.gos.length := by simpa using k2
    have hs := h.objs.shell j k1' k2'
    show BodyAt W' B cap' ρ' j (M.objs.set i o')[j] (G.gos.set i g')[j]
    by_cases e : i = j
    · subst e
      rw [List.getElem_set_self, List.getElem_set_self]
      exact hbody
    · have hg' : M.gone (M.objs.set i o')[j] = false := hg
      rw [List.getElem_set_ne e] at hg'
      rw [List.getElem_set_ne e, List.getElem_set_ne e]
      exact (h.objs.body j k1' k2' hg').kept hs hkp (fun t _ _ => hoth t j (fun e' => e e'.symm)) hex hc
  · have hn := h.num.mono hc
    refine ⟨hn.limit, hn.used, hn.makes, hn.entered, by simpa using hn.objs, hn.frs, hn.inc, hn.pos, fun o ho => ?_⟩
    rcases List.mem_or_eq_of_mem_set ho with h3 | h3
    · exact hn.fr o h3
    · rw [h3]
      show 0 ≤ o'.fr ∧ o'.fr ≤ M.entered
      rw [hfr]; exact hn.fr _ (List.getElem_mem h1)
/-- A table that can be asked. -/
theorem MemAt.tabOk (h : MemAt W B cap M G) {r : Int} (ha : ansT M r = 0) : ∃ (i : Nat) (h1 : i < M.objs.length) (h2 : i < G.gos.length), r = (i : Int) + 1 ∧ M.obj r = some M.objs[i] ∧ M.objs[i].tab = true ∧ G.body r = G.gos[i].q ∧ TabAt W B cap G.ρ i M.objs[i] G.gos[i] ∧ G.ρ G.gos[i].q = some (3, i) ∧ tabRes M G r = .pointer (some ⟨G.gos[i].q, 0, none⟩) := by
  cases ho : M.obj r with
  | none => unfold ansT at ha; rw [ho] at ha; simp at ha
  | some o =>
    obtain ⟨i, h1, h2, hri, hoi, _, hbo⟩ := obj_some h.objs.len ho
    have ha0 := ha
    unfold ansT at ha
    rw [ho] at ha
    have ht : o.tab = true := by
      cases ht : o.tab with
      | true => rfl
      | false => simp [ht] at ha
    have hg : M.gone o = false := by
      cases hg : M.gone o with
      | false => rfl
      | true => simp [ht, hg] at ha
    have hb := h.objs.body i h1 h2 (by rw [hoi]; exact hg)
    unfold BodyAt at hb
    rw [hoi, ht] at hb
    exact ⟨i, h1, h2, hri, by rw [hoi], by rw [hoi]; exact ht, hbo, by rw [hoi]; exact hb, (h.objs.shell i h1 h2).rq, by unfold tabRes; rw [if_pos ha0, hbo]; rfl⟩
end
/-- What Look, and Key, tell. -/
def lookM (M : PM) (r k : Int) : Int × Int := if ansT M r = 0 then ((match M.obj r with | some o => o.under k | none => 0), 0) else (0, ansT M r)
def keyM (M : PM) (r j : Int) : Int × Int := if ansT M r = 0 then (match M.obj r with | some o => (if j < 0 ∨ (o.keys.length : Int) ≤ j then (0, 2) else (nth o.keys j.toNat, 0)) | none => (0, 0)) else (0, ansT M r)
theorem int_end {a a' b b' : Int} (h1 : a = a') (h2 : b = b') : Ending.returned (.tuple #[.int .i64 a', .int .i64 b']) = .returned (.tuple #[.int .i64 a, .int .i64 b]) := by rw [h1, h2]
set_option maxRecDepth 100000 in
theorem look_any {W : World} {B cap : Nat} {M : PM} {G : GM} (h : MemAt W B cap M G) (hcap : cap ≤ 1099511627776) (r k : Int) (hr : -9223372036854775808 ≤ r ∧ r ≤ 9223372036854775807) (hk : -9223372036854775808 ≤ k ∧ k ≤ 9223372036854775807) :
    Calls Try.prog 30 #[.pointer (some ⟨G.p, 0, none⟩), .int .i64 r, .int .i64 k] W fun e w' => e = .returned (.tuple #[.int .i64 (lookM M r k).1, .int .i64 (lookM M r k).2]) ∧ Below W.heap.size W w' := by
  have CT := Lib.hid (table_any h hcap r hr)
  by_cases ha : ansT M r = 0
  · obtain ⟨i, h1, h2, hri, ho, ht, hbo, hT, hq, hres⟩ := h.tabOk ha
    rw [hres, ha] at CT
    have HT := Lib.hid hT
    have HM := Lib.hid h
    have hqlt := (h.range _ _ hq).2
    have hc2 := hT.c2
    have HKEY := Lib.hid (key64 hk)
    have HL : RowKit.Hid (∀ c : Int, G.gos[i].D.atKey (.int .i64 k) (.lit (.int .i64 0)) = .lit (.int .i64 c) → (lookM M r k).1 = c ∧ (lookM M r k).2 = 0) := Lib.hid fun c hc => by
      have h3 := hT.look k
      rw [hc] at h3
      unfold lookM
      rw [if_pos ha, ho]
      have h4 : c = M.objs[i].under k := by injection h3 with h5; injection h5
      exact ⟨h4.symm, rfl⟩
    have HMAP : RowKit.Hid (∀ u, Below W.heap.size W u → u.ownsMap Try.prog 2 (plainElem Try.prog 2) G.gos[i].mp cap G.gos[i].D) := Lib.hid fun u hb => map_kept hT.map (hb.block _ (h.range _ _ hT.rm).2) (Nat.le_refl _)
    generalize G.gos[i] = g at *
    clear h ha ho ht hbo hT hq hres hri
    go_enter Try.func30, Try.ntmps30
    go_wp2_with (first
      | (go_at_call 53; refine CT.out.mono ?_; rintro e u ⟨rfl, hb⟩; have HB := Lib.hid hb; have hd2 := (hb.cell (p := ⟨g.q, 2, none⟩) hqlt).trans hc2; clear hb)
      | (at_lookup; refine wpList_lookup_own_int _ rfl _ _ 106 rfl 2 2 .i64 law64 Try.underlying106 Try.underlying2 (zero64 _) g.mp cap g.D rfl (HMAP.out _ HB.out) _ _ rfl HKEY.out ?_; intro c hat hwc; have HC := Lib.hid (HL.out c hat); clear hat hwc))
    go_ret2
    exact ⟨int_end HC.out.1 HC.out.2, HB.out⟩
  · have hL : lookM M r k = (0, ansT M r) := by unfold lookM; rw [if_neg ha]
    have HL := Lib.hid hL
    have HX : RowKit.Hid (tabRes M G r = .pointer none) := Lib.hid (by unfold tabRes; rw [if_neg ha])
    rw [HX.out] at CT
    obtain ⟨x, hx⟩ : ∃ x, ansT M r = x := ⟨_, rfl⟩
    have hxb : (x != 0) = true := by rw [← hx, bne_iff_ne]; exact ha
    rw [hx] at CT HL
    clear h ha hL hx
    go_enter Try.func30, Try.ntmps30
    go_wp2_with (go_at_call 53; refine CT.out.mono ?_; rintro e u ⟨rfl, hb⟩; have HB := Lib.hid hb; clear hb)
    go_ret2
    exact ⟨int_end (by rw [HL.out]) (by rw [HL.out]), HB.out⟩
set_option maxRecDepth 100000 in
theorem key_any {W : World} {B cap : Nat} {M : PM} {G : GM} (h : MemAt W B cap M G) (hcap : cap ≤ 1099511627776) (r j : Int) (hr : -9223372036854775808 ≤ r ∧ r ≤ 9223372036854775807) (hj : -9223372036854775808 ≤ j ∧ j ≤ 9223372036854775807) :
    Calls Try.prog 31 #[.pointer (some ⟨G.p, 0, none⟩), .int .i64 r, .int .i64 j] W fun e w' => e = .returned (.tuple #[.int .i64 (keyM M r j).1, .int .i64 (keyM M r j).2]) ∧ Below W.heap.size W w' := by
  have CT := Lib.hid (table_any h hcap r hr)
  by_cases ha : ansT M r = 0
  · obtain ⟨i, h1, h2, hri, ho, ht, hbo, hT, hq, hres⟩ := h.tabOk ha
    rw [hres, ha] at CT
    have hqlt := (h.range _ _ hq).2
    have hc1 := hT.c1
    have hrd : NumsAt W G.gos[i].ka G.gos[i].kn M.objs[i].keys := OwnsI.read hT.keys
    have HRD := Lib.hid hrd
    have hkl := hrd.1
    have hkc : G.gos[i].kn ≤ 1099511627776 := by have := hT.klen; omega
    have HK : RowKit.Hid (keyM M r j = (if j < 0 ∨ (M.objs[i].keys.length : Int) ≤ j then (0, 2) else (nth M.objs[i].keys j.toNat, 0))) := Lib.hid (by unfold keyM; rw [if_pos ha, ho])
    generalize G.gos[i] = g at *
    generalize M.objs[i] = o at *
    clear h ha ho ht hbo hT hq hres hri
    by_cases h0 : j < 0
    · have HR : RowKit.Hid ((keyM M r j).1 = 0 ∧ (keyM M r j).2 = 2) := Lib.hid (by rw [HK.out, if_pos (.inl h0)]; exact ⟨rfl, rfl⟩)
      have hd : decide (j < 0) = true := decide_eq_true h0
      go_enter Try.func31, Try.ntmps31
      go_wp2_with (go_at_call 53; refine CT.out.mono ?_; rintro e u ⟨rfl, hb⟩; have HB := Lib.hid hb; have hd1 := (hb.cell (p := ⟨g.q, 1, none⟩) hqlt).trans hc1; clear hb)
      go_ret2
      exact ⟨int_end HR.out.1 HR.out.2, HB.out⟩
    · have hd : decide (j < 0) = false := decide_eq_false h0
      by_cases h3 : (g.kn : Int) ≤ j
      · have HR : RowKit.Hid ((keyM M r j).1 = 0 ∧ (keyM M r j).2 = 2) := Lib.hid (by rw [HK.out, if_pos (.inr (by omega))]; exact ⟨rfl, rfl⟩)
        have hd2 : decide ((g.kn : Int) ≤ j) = true := decide_eq_true h3
        clear hkl
        go_enter Try.func31, Try.ntmps31
        go_wp2_with (go_at_call 53; refine CT.out.mono ?_; rintro e u ⟨rfl, hb⟩; have HB := Lib.hid hb; have hd1 := (hb.cell (p := ⟨g.q, 1, none⟩) hqlt).trans hc1; clear hb)
        go_ret2
        exact ⟨int_end HR.out.1 HR.out.2, HB.out⟩
      · have hd2 : decide ((g.kn : Int) ≤ j) = false := decide_eq_false h3
        obtain ⟨n, rfl⟩ : ∃ n : Nat, j = n := ⟨j.toNat, by omega⟩
        have hnl : n < o.keys.length := by omega
        have HR : RowKit.Hid ((keyM M r (n : Int)).1 = nth o.keys n ∧ (keyM M r (n : Int)).2 = 0) := Lib.hid (by rw [HK.out, if_neg (by omega)]; exact ⟨rfl, rfl⟩)
        obtain ⟨gb, off, e, hgb, hcs⟩ := hrd.2 (by omega)
        have hcell : W.cell? ⟨gb, off + n, none⟩ = some (.int .i64 (nth o.keys n)) := by rw [hcs n hnl, nth_is hnl]; rfl
        rw [e] at hc1
        have hn0 : (0 : Int) ≤ (n : Int) := by omega
        have hn1 : (n : Int) < (g.kn : Int) := by omega
        generalize nth o.keys n = y at *
        clear hkl hcs hrd e h3 h0
        go_enter Try.func31, Try.ntmps31
        go_wp2_with (go_at_call 53; refine CT.out.mono ?_; rintro e u ⟨rfl, hb⟩; have HB := Lib.hid hb; have hd1 := (hb.cell (p := ⟨g.q, 1, none⟩) hqlt).trans hc1; have hdc := (hb.cell (p := ⟨gb, off + n, none⟩) hgb).trans hcell; clear hb)
        go_ret2
        exact ⟨int_end HR.out.1 HR.out.2, HB.out⟩
  · have hL : keyM M r j = (0, ansT M r) := by unfold keyM; rw [if_neg ha]
    have HL := Lib.hid hL
    have HX : RowKit.Hid (tabRes M G r = .pointer none) := Lib.hid (by unfold tabRes; rw [if_neg ha])
    rw [HX.out] at CT
    obtain ⟨x, hx⟩ : ∃ x, ansT M r = x := ⟨_, rfl⟩
    have hxb : (x != 0) = true := by rw [← hx, bne_iff_ne]; exact ha
    rw [hx] at CT HL
    clear h ha hL hx
    go_enter Try.func31, Try.ntmps31
    go_wp2_with (go_at_call 53; refine CT.out.mono ?_; rintro e u ⟨rfl, hb⟩; have HB := Lib.hid hb; clear hb)
    go_ret2
    exact ⟨int_end (by rw [HL.out]) (by rw [HL.out]), HB.out⟩
end Go.Proofs.Ytnnccahpgailiaa

/- Layer 10: package heap's Put and Size. -/
namespace Go.Proofs.Ytnnccahpgailiaa
open Go.RowKit (wrap64 intOf Below)
set_option linter.unusedVariables false
set_option linter.unusedSimpArgs false

/-- What Put does, and answers. -/
def putO (M : PM) (i : Nat) (o : PO) (k n : Int) : PM := {M with objs := M.objs.set i (tabUp o k n)}
def putM (M : PM) (r k n : Int) : PM × Int :=
  if ansT M r = 0 then
    (match M.obj r with
    | some o => (if k ∈ o.keys ∨ o.stack = true then (putO M (r - 1).toNat o k n, 0) else (if fits M 16 then (putO (takeM M 16) (r - 1).toNat o k n, 0) else (M, 4)))
    | none => (M, 0))
  else (M, ansT M r)
def PutPost (W : World) (B cap : Nat) (M : PM) (p : Nat) (ρ : Rho) (r k n : Int) (e : Ending) (w' : World) : Prop := e = .returned (.int .i64 (putM M r k n).2) ∧ ∃ G', MemAt w' B (cap + 1) (putM M r k n).1 G' ∧ G'.p = p ∧ Below B W w' ∧ Sep W w' ρ G'.ρ
section
variable {W u w' : World} {B cap : Nat} {M : PM} {G : GM}
theorem takeM_objs (M : PM) (n : Int) : (takeM M n).objs = M.objs ∧ (takeM M n).frs = M.frs := by unfold takeM; split <;> exact ⟨rfl, rfl⟩
/-- A table's put, told of the memory. -/
theorem MemAt.putTab (h : MemAt u B cap M G) {i : Nat} (h1 : i < M.objs.length) (h2 : i < G.gos.length) (ht : M.objs[i].tab = true) {k n : Int} {ρ' : Rho} {g' : GO} (hs : TabSt u w' B cap G.ρ ρ' i M.objs[i] G.gos[i] g' k n) : ∃ G', MemAt w' B (cap + 1) (putO M i M.objs[i] k n) G' ∧ G'.p = G.p ∧ Sep u w' G.ρ G'.ρ :=
  ⟨_, h.setBody h1 h2 (o' := tabUp M.objs[i] k n) (g' := g') (ρ' := ρ') rfl rfl hs.ptr hs.q (by
    have e : (tabUp M.objs[i] k n).tab = true := ht
    unfold BodyAt
    rw [e]
    exact hs.tab) hs.ex hs.new hs.kp hs.bel.size (Nat.le_succ _), rfl, hs.off, fun b r hr => (hs.new b r hr).imp (fun h' => ⟨r, h'⟩) (fun h' => h'.1)⟩
end
set_option maxRecDepth 100000 in
set_option maxHeartbeats 1000000 in
theorem put_any {W : World} {B cap : Nat} {M : PM} {G : GM} (h : MemAt W B cap M G) (hcap : cap ≤ 1099511627776) (r k n : Int) (hr : -9223372036854775808 ≤ r ∧ r ≤ 9223372036854775807) (hk : -9223372036854775808 ≤ k ∧ k ≤ 9223372036854775807) (hn : -9223372036854775808 ≤ n ∧ n ≤ 9223372036854775807) :
    Calls Try.prog 29 #[.pointer (some ⟨G.p, 0, none⟩), .int .i64 r, .int .i64 k, .int .i64 n] W (PutPost W B cap M G.p G.ρ r k n) := by
  have CT := Lib.hid (table_any h hcap r hr)
  have HB0 : RowKit.Hid (B ≤ W.heap.size) := Lib.hid (by have := h.plt; omega)
  by_cases ha : ansT M r = 0
  · obtain ⟨i, h1, h2, hri, ho, ht, hbo, hT, hq, hres⟩ := h.tabOk ha
    rw [hres, ha] at CT
    have hri2 : (r - 1).toNat = i := by omega
    have HM := Lib.hid h
    have HI := Lib.hid (And.intro h1 h2)
    have HTT := Lib.hid ht
    have hqlt := (h.range _ _ hq).2
    have hc0 := hT.c0
    -- the table, wherever the memory still is what it was
    have HTB : RowKit.Hid (∀ (u : World) (M' : PM), MemAt u B cap M' G → M'.objs = M.objs → M'.frs = M.frs → TabAt u B cap G.ρ i M.objs[i] G.gos[i]) := Lib.hid fun u M' hu he hf => by
      have hg : M'.gone M.objs[i] = false := by
        unfold ansT at ha
        rw [ho] at ha
        cases hg : M.gone M.objs[i] with
        | true => simp [ht, hg] at ha
        | false => unfold PM.gone at hg ⊢; rw [hf]; exact hg
      have hb := hu.objs.body i (by rw [he]; exact h1) h2 (by simp only [he]; exact hg)
      unfold BodyAt at hb
      simp only [he] at hb
      rw [ht] at hb
      exact hb
    have HQ := Lib.hid hq
    have HPM : RowKit.Hid (putM M r k n = (if k ∈ M.objs[i].keys ∨ M.objs[i].stack = true then (putO M i M.objs[i] k n, 0) else (if fits M 16 then (putO (takeM M 16) i M.objs[i] k n, 0) else (M, 4)))) := Lib.hid (by unfold putM; rw [if_pos ha, ho, hri2])
    have CHA : RowKit.Hid (∀ u, Below W.heap.size W u → Calls Try.prog 54 #[.pointer (some ⟨G.gos[i].q, 0, none⟩), .int .i64 k] u fun e w' => e = .returned (.bool (decide (k ∈ M.objs[i].keys))) ∧ w' = u) := Lib.hid fun u hu => thas_any (HTB.out u M (HM.out.since hu) rfl rfl) k hk
    have CPU : RowKit.Hid (∀ (u : World) (M' : PM), MemAt u B cap M' G → M'.objs = M.objs → M'.frs = M.frs → Calls Try.prog 56 #[.pointer (some ⟨G.gos[i].q, 0, none⟩), .int .i64 k, .int .i64 n] u fun e w' => e = .returned (.tuple #[]) ∧ ∃ ρ' g', TabSt u w' B cap G.ρ ρ' i M.objs[i] G.gos[i] g' k n) := Lib.hid fun u M' hu he hf => tput_any (HTB.out u M' hu he hf) HQ.out hu.range hcap k n hk hn
    have CTA : RowKit.Hid (∀ u, Below W.heap.size W u → Calls Try.prog 55 #[.pointer (some ⟨G.p, 0, none⟩), .int .i64 16] u fun e w' => e = .returned (.bool (fits M 16)) ∧ MemAt w' B cap (takeM M 16) G ∧ Below B u w' ∧ Sep u w' G.ρ G.ρ) := Lib.hid fun u hu => (take_any (HM.out.since hu) 16 (by omega)).mono fun e w' h => ⟨h.1, h.2.1, h.2.2.1, h.2.2.2.mono (fun b _ hb => ⟨(0, 0), by rw [hb]; exact HM.out.rm⟩), fun b r hr => .inl ⟨r, hr⟩⟩
    have HPT : RowKit.Hid (∀ (u w' : World) (M' : PM), MemAt u B cap M' G → M'.objs = M.objs → (∃ ρ' g', TabSt u w' B cap G.ρ ρ' i M.objs[i] G.gos[i] g' k n) → ∃ G', MemAt w' B (cap + 1) (putO M' i M.objs[i] k n) G' ∧ G'.p = G.p ∧ Below B u w' ∧ Sep u w' G.ρ G'.ρ) := Lib.hid fun u w' M' hu he hs => by
      obtain ⟨ρ', g', hs⟩ := hs
      have h1' : i < M'.objs.length := by rw [he]; exact HI.out.1
      have e2 : M'.objs[i] = M.objs[i] := by simp only [he]
      rw [← e2] at hs ⊢
      obtain ⟨G', hG', hp, hsep⟩ := hu.putTab h1' HI.out.2 (by rw [e2]; exact HTT.out) hs
      exact ⟨G', hG', hp, hs.bel, hsep⟩
    obtain ⟨q, hqe⟩ : ∃ q, G.gos[i].q = q := ⟨_, rfl⟩
    obtain ⟨st, hst⟩ : ∃ st, M.objs[i].stack = st := ⟨_, rfl⟩
    rw [hqe] at CT hqlt hc0 CHA CPU
    rw [hst] at hc0 HPM
    by_cases hin : k ∈ M.objs[i].keys
    · have HP2 : RowKit.Hid (putM M r k n = (putO M i M.objs[i] k n, 0)) := Lib.hid (by rw [HPM.out, if_pos (.inl hin)])
      rw [decide_eq_true hin] at CHA
      clear h ha ho ht hbo hT hq hres hri hri2 hin hst hqe
      go_enter Try.func29, Try.ntmps29
      go_wp2_with (first
        | (go_at_call 53; refine CT.out.mono ?_; rintro e u ⟨rfl, hb⟩; have HB := Lib.hid hb; have hd0 := (hb.cell (p := ⟨q, 0, none⟩) hqlt).trans hc0; clear hb)
        | (go_at_call 54; (with_reducible refine (CHA.out _ HB.out).mono ?_); rintro e u2 ⟨rfl, hu⟩; rw [hu]; clear hu u2)
        | (go_at_call 56; refine (CPU.out _ M (HM.out.since HB.out) rfl rfl).mono ?_; rintro e u3 ⟨rfl, hs⟩; have HS := Lib.hid hs; clear hs))
      go_ret
      obtain ⟨G', hG, hp, hb, hsep⟩ := HPT.out _ _ M (HM.out.since HB.out) rfl HS.out
      exact ⟨by rw [HP2.out]; rfl, G', by rw [HP2.out]; exact hG, hp, (HB.out.mono HB0.out).trans hb, (Sep.since HB.out).trans hsep⟩
    · rw [decide_eq_false hin] at CHA
      cases st with
      | true =>
        have HP2 : RowKit.Hid (putM M r k n = (putO M i M.objs[i] k n, 0)) := Lib.hid (by rw [HPM.out, if_pos (.inr rfl)])
        clear h ha ho ht hbo hT hq hres hri hri2 hin hst hqe
        go_enter Try.func29, Try.ntmps29
        go_wp2_with (first
          | (go_at_call 53; refine CT.out.mono ?_; rintro e u ⟨rfl, hb⟩; have HB := Lib.hid hb; have hd0 := (hb.cell (p := ⟨q, 0, none⟩) hqlt).trans hc0; clear hb)
          | (go_at_call 54; (with_reducible refine (CHA.out _ HB.out).mono ?_); rintro e u2 ⟨rfl, hu⟩; rw [hu]; clear hu u2)
          | (go_at_call 56; refine (CPU.out _ M (HM.out.since HB.out) rfl rfl).mono ?_; rintro e u3 ⟨rfl, hs⟩; have HS := Lib.hid hs; clear hs))
        go_ret
        obtain ⟨G', hG, hp, hb, hsep⟩ := HPT.out _ _ M (HM.out.since HB.out) rfl HS.out
        exact ⟨by rw [HP2.out]; rfl, G', by rw [HP2.out]; exact hG, hp, (HB.out.mono HB0.out).trans hb, (Sep.since HB.out).trans hsep⟩
      | false =>
        cases hf : fits M 16 with
        | true =>
          have HP2 : RowKit.Hid (putM M r k n = (putO (takeM M 16) i M.objs[i] k n, 0)) := Lib.hid (by rw [HPM.out, if_neg (by simp [hin]), if_pos hf])
          rw [hf] at CTA
          clear h ha ho ht hbo hT hq hres hri hri2 hin hst hqe hf
          go_enter Try.func29, Try.ntmps29
          go_wp2_with (first
            | (go_at_call 53; refine CT.out.mono ?_; rintro e u ⟨rfl, hb⟩; have HB := Lib.hid hb; have hd0 := (hb.cell (p := ⟨q, 0, none⟩) hqlt).trans hc0; clear hb)
            | (go_at_call 54; (with_reducible refine (CHA.out _ HB.out).mono ?_); rintro e u2 ⟨rfl, hu⟩; rw [hu]; clear hu u2)
            | (go_at_call 55; (with_reducible refine (CTA.out _ HB.out).mono ?_); rintro e u4 ⟨rfl, hm, hb, hsp⟩; have HM4 := Lib.hid hm; have HB4 := Lib.hid hb; have HS4 := Lib.hid hsp; clear hm hb hsp)
            | (go_at_call 56; refine (CPU.out _ (takeM M 16) HM4.out (takeM_objs M 16).1 (takeM_objs M 16).2).mono ?_; rintro e u3 ⟨rfl, hs⟩; have HS := Lib.hid hs; clear hs))
          go_ret
          obtain ⟨G', hG, hp, hb, hsep⟩ := HPT.out _ _ (takeM M 16) HM4.out (takeM_objs M 16).1 HS.out
          exact ⟨by rw [HP2.out]; rfl, G', by rw [HP2.out]; exact hG, hp, ((HB.out.mono HB0.out).trans HB4.out).trans hb, ((Sep.since HB.out).trans HS4.out).trans hsep⟩
        | false =>
          have HP2 : RowKit.Hid (putM M r k n = (M, 4)) := Lib.hid (by rw [HPM.out, if_neg (by simp [hin]), if_neg (by rw [hf]; simp)])
          have HTK : RowKit.Hid (takeM M 16 = M) := Lib.hid (by unfold takeM; rw [if_neg (by rw [hf]; simp)])
          rw [hf] at CTA
          clear h ha ho ht hbo hT hq hres hri hri2 hin hst hqe hf
          go_enter Try.func29, Try.ntmps29
          go_wp2_with (first
            | (go_at_call 53; refine CT.out.mono ?_; rintro e u ⟨rfl, hb⟩; have HB := Lib.hid hb; have hd0 := (hb.cell (p := ⟨q, 0, none⟩) hqlt).trans hc0; clear hb)
            | (go_at_call 54; (with_reducible refine (CHA.out _ HB.out).mono ?_); rintro e u2 ⟨rfl, hu⟩; rw [hu]; clear hu u2)
            | (go_at_call 55; (with_reducible refine (CTA.out _ HB.out).mono ?_); rintro e u4 ⟨rfl, hm, hb, hsp⟩; have HM4 := Lib.hid hm; have HB4 := Lib.hid hb; have HS4 := Lib.hid hsp; clear hm hb hsp))
          go_ret
          exact ⟨by rw [HP2.out]; rfl, G, by rw [HP2.out]; have h5 := HM4.out; rw [HTK.out] at h5; exact h5.mono (Nat.le_succ _), rfl, (HB.out.mono HB0.out).trans HB4.out, (Sep.since HB.out).trans HS4.out⟩
  · have hL : putM M r k n = (M, ansT M r) := by unfold putM; rw [if_neg ha]
    have HL := Lib.hid hL
    have HX : RowKit.Hid (tabRes M G r = .pointer none) := Lib.hid (by unfold tabRes; rw [if_neg ha])
    rw [HX.out] at CT
    have HM := Lib.hid h
    obtain ⟨x, hx⟩ : ∃ x, ansT M r = x := ⟨_, rfl⟩
    have hxb : (x != 0) = true := by rw [← hx, bne_iff_ne]; exact ha
    rw [hx] at CT HL
    clear h ha hL hx
    go_enter Try.func29, Try.ntmps29
    go_wp2_with (go_at_call 53; refine CT.out.mono ?_; rintro e u ⟨rfl, hb⟩; have HB := Lib.hid hb; clear hb)
    go_ret
    exact ⟨by rw [HL.out]; rfl, G, by rw [HL.out]; exact (HM.out.since HB.out).mono (Nat.le_succ _), rfl, HB.out.mono HB0.out, Sep.since HB.out⟩
/-- How many keys, or values, there are. -/
def sizeM (M : PM) (r : Int) : Int × Int := match M.obj r with | none => (0, 6) | some o => if M.gone o then (0, 5) else (if o.tab then (o.keys.length, 0) else (o.size, 0))
set_option maxRecDepth 100000 in
theorem size_any {W : World} {B cap : Nat} {M : PM} {G : GM} (h : MemAt W B cap M G) (hcap : cap ≤ 1099511627776) (r : Int) (hr : -9223372036854775808 ≤ r ∧ r ≤ 9223372036854775807) :
    Calls Try.prog 32 #[.pointer (some ⟨G.p, 0, none⟩), .int .i64 r] W fun e w' => e = .returned (.tuple #[.int .i64 (sizeM M r).1, .int .i64 (sizeM M r).2]) ∧ Below W.heap.size W w' := by
  have CO := Lib.hid (object_any h r hr)
  cases ho : M.obj r with
  | none =>
    have HA : RowKit.Hid (sizeM M r = (0, 6)) := Lib.hid (by unfold sizeM; rw [ho])
    rw [obj_none ho] at CO
    clear h ho
    go_enter Try.func32, Try.ntmps32
    go_wp2_with (go_at_call 57; refine CO.out.mono ?_; rintro e u ⟨rfl, hu⟩; rw [hu]; clear hu u)
    go_ret2
    exact ⟨int_end (by rw [HA.out]) (by rw [HA.out]), Below.refl _ _⟩
  | some o =>
    obtain ⟨i, h1, h2, hri, hoi, hob, hbo⟩ := obj_some h.objs.len ho
    obtain ⟨hx, hx0, hx1, hx2⟩ := h.shellCells h1 h2
    have CG := Lib.hid (gone_o_any h hcap i h1 h2)
    rw [hob] at CO
    rw [hoi] at hx1 hx2 CG
    unfold ptrV at CO hx1 hx2
    have hs := h.objs.shell i h1 h2
    have hqlt := (h.range _ _ hs.rq).2
    cases hg : M.gone o with
    | true =>
      have HA : RowKit.Hid (sizeM M r = (0, 5)) := Lib.hid (by unfold sizeM; rw [ho]; simp [hg])
      rw [hg] at CG
      generalize G.gos[i].ptr = x at *
      clear h ho hob hbo hoi hx0 hx1 hx2 hri hg hs
      go_enter Try.func32, Try.ntmps32
      go_wp2_with (first
        | (go_at_call 57; refine CO.out.mono ?_; rintro e u ⟨rfl, hu⟩; rw [hu]; clear hu u)
        | (go_at_call 58; refine CG.out.mono ?_; rintro e u ⟨rfl, hb⟩; have HB := Lib.hid hb; clear hb))
      go_ret2
      exact ⟨int_end (by rw [HA.out]) (by rw [HA.out]), HB.out⟩
    | false =>
      rw [hg] at CG
      have hbd := h.objs.body i h1 h2 (by rw [hoi]; exact hg)
      unfold BodyAt at hbd
      rw [hoi] at hbd
      have CS : RowKit.Hid (∀ u, Below W.heap.size W u → Calls Try.prog 59 #[.pointer (some ⟨G.gos[i].ptr, 0, none⟩)] u fun e w' => e = .returned (.int .i64 (sizeM M r).1) ∧ w' = u) := Lib.hid fun u hu => by
        cases ht : o.tab with
        | true =>
          rw [ht] at hbd hx1 hx2
          simp only [if_true] at hbd hx1 hx2
          have hrd : NumsAt W G.gos[i].ka G.gos[i].kn o.keys := OwnsI.read hbd.keys
          have e1 : (sizeM M r).1 = (G.gos[i].kn : Int) := by unfold sizeM; rw [ho]; simp [hg, ht, hrd.1]
          rw [e1]
          exact sizetab_any (by have := hrd.1; have := hbd.klen; omega) ((hu.cell (p := ⟨_, 2, none⟩) hx).trans hx2) ((hu.cell (p := ⟨_, 1, none⟩) hqlt).trans hbd.c1)
        | false =>
          rw [ht] at hbd hx1 hx2
          simp only [Bool.false_eq_true, if_false] at hbd hx1 hx2
          have e1 : (sizeM M r).1 = o.size := by unfold sizeM; rw [ho]; simp [hg, ht]
          rw [e1]
          exact sizerow_any ((hu.cell (p := ⟨_, 2, none⟩) hx).trans hx2) ((hu.cell (p := ⟨_, 1, none⟩) hx).trans hx1) ((hu.cell (p := ⟨_, 0, none⟩) hqlt).trans (by simp [World.cell?, hbd.blk]))
      have HA : RowKit.Hid ((sizeM M r).2 = 0) := Lib.hid (by unfold sizeM; rw [ho]; simp only [hg]; cases o.tab <;> rfl)
      generalize G.gos[i].ptr = x at *
      clear h ho hob hbo hoi hx0 hx1 hx2 hri hg hs hbd
      go_enter Try.func32, Try.ntmps32
      go_wp2_with (first
        | (go_at_call 57; refine CO.out.mono ?_; rintro e u ⟨rfl, hu⟩; rw [hu]; clear hu u)
        | (go_at_call 58; refine CG.out.mono ?_; rintro e u ⟨rfl, hb⟩; have HB := Lib.hid hb; clear hb)
        | (go_at_call 59; (with_reducible refine (CS.out _ HB.out).mono ?_); rintro e u2 ⟨rfl, hu⟩; rw [hu]; clear hu u2))
      go_ret2
      exact ⟨int_end rfl HA.out, HB.out⟩
end Go.Proofs.Ytnnccahpgailiaa

/- Layer 10: a new object gets its place. -/
namespace Go.Proofs.Ytnnccahpgailiaa
open Go.RowKit (wrap64 intOf Below)
set_option linter.unusedVariables false
set_option linter.unusedSimpArgs false

def rhoSet (ρ : Rho) (v : Value) (r : Nat × Nat) : Rho := fun b => if v.ownBlock = some b then some r else ρ b
theorem rhoSet_role (ρ : Rho) (v : Value) (r : Nat × Nat) : RoleS (rhoSet ρ v r) v r := fun b hb => if_pos hb
section
variable {W : World} {B : Nat} {ρ : Rho} {v v' : Value} {r : Nat × Nat}
theorem rhoSet_ex (hr : ∀ b r, ρ b = some r → B ≤ b ∧ b < W.heap.size) (ho : RoleS ρ v r) (hw : ∀ b, v'.ownBlock = some b → v.ownBlock = some b ∨ W.heap.size ≤ b) : Ex ρ (rhoSet ρ v' r) := fun b x hbx => by
  unfold rhoSet
  by_cases e : v'.ownBlock = some b
  · rw [if_pos e]
    rcases hw b e with h1 | h1
    · have := ho b h1; rw [hbx] at this; exact this.symm
    · have := (hr b x hbx).2; omega
  · rw [if_neg e]; exact hbx
theorem rhoSet_new (ho : RoleS ρ v r) (hw : ∀ b, v'.ownBlock = some b → v.ownBlock = some b ∨ W.heap.size ≤ b) {b : Nat} {x : Nat × Nat} (h : rhoSet ρ v' r b = some x) : ρ b = some x ∨ (W.heap.size ≤ b ∧ v'.ownBlock = some b) := by
  unfold rhoSet at h
  by_cases e : v'.ownBlock = some b
  · rw [if_pos e] at h
    rcases hw b e with h1 | h1
    · exact .inl (by rw [ho b h1]; exact h)
    · exact .inr ⟨h1, e⟩
  · rw [if_neg e] at h; exact .inl h
end
theorem info_pt : (Try.prog.info? 94).map (fun i => (i.zero, i.size, i.bytes)) = some (some (.pointer none), 1, 8) := by kernel_rfl
/-- 'append(l, o)' of a pointer to an object: what was turned, and where its array then lies. -/
theorem wpList_append_pt {P : Program} (w : World) {ops : Array Oper} {rest : List Oper} {o : Oper} {a : Act} {Q : Exit → Act → World → Prop} (hP : P = Try.prog) (hgd : o.guard = none) (s x : Operand)
    (ho : o.op = .call { callee := .builtin .append, args := #[s, x], argTypes := #[86, 86] })
    (B : Nat) (v : Value) (Z : List Nat) (hs : a.eval s = v) (hown : OwnsPt w B v Z) (hB : B ≤ w.heap.size)
    (C : Array Value) (c g : Nat) (z : Nat) (hx : a.eval x = .slice (some ⟨g, 0, none⟩) 1 c) (hg : g = w.heap.size) (hC : C = #[.pointer (some ⟨z, 0, none⟩)])
    (hlen : (Z.length + 1) * 8 ≤ 140737488355328)
    (h : ∀ va vn vc w', OwnsPt w' B (.slice va vn vc) (Z ++ [z]) → (w.alloc (.cells C 94)).grownBy w' v.ownBlock → (∀ k, (Value.slice va vn vc).ownBlock = some k → v.ownBlock = some k ∨ w.heap.size ≤ k) → wpList P ops Q rest (a.put o.dst (.slice va vn vc)) w') : wpList P ops Q (o :: rest) a (w.alloc (.cells C 94)) := by
  subst hP
  obtain ⟨i0, hi, hz0, hz1, hz2⟩ := info_parts info_pt
  subst hC hg
  refine wpList_append_own_at _ hgd s x 86 ho B 94 i0 (.pointer none) 1 8 Try.underlying86 hi hz0 hz1 hz2 rfl (by decide) v Z.length (Z.map ptrV) hs (World.ownsRow.alloc hown _) ⟨w.heap.size, 0, none⟩ 1 c [.pointer (some ⟨z, 0, none⟩)] hx rfl (fun j u hu => ?_) (by intro u hu; simp at hu; subst hu; rfl) (by unfold maxLen; omega) hlen (by simp; omega) ?_
  · rw [addr_plain, Nat.zero_add, World.cell?_alloc_mark]
    simpa using hu
  · intro v' w' hown' hgrow _ hwh
    have hown2 : OwnsPt w' B v' (Z ++ [z]) := by
      show w'.ownsRow B 94 1 v' (Z ++ [z]).length ((Z ++ [z]).map ptrV)
      rw [List.map_append, List.length_append]
      exact hown'
    obtain ⟨va, vn, vc, rfl⟩ : ∃ va vn vc, v' = .slice va vn vc := by
      rcases hown2.2 with ⟨e, _⟩ | ⟨_, _, _, e, _⟩
      · exact ⟨_, _, _, e⟩
      · exact ⟨_, _, _, e⟩
    exact h va vn vc w' hown2 hgrow (fun k hk => by
      rcases hwh with e' | e'
      · exact .inl (e' ▸ hk)
      · rw [e'] at hk; cases hk; simp)
/-- What a memory is when an object has come. -/
def pushM (M : PM) (o : PO) : PM := {M with objs := M.objs ++ [o]}
section
variable {W w1 : World} {B cap : Nat} {M : PM} {G : GM}
/-- The same, told with more roles. -/
theorem MemAt.exRho (h : MemAt W B cap M G) {ρ' : Rho} (he : Ex G.ρ ρ') (hr : ∀ k r, ρ' k = some r → B ≤ k ∧ k < W.heap.size) : MemAt W B cap M {G with ρ := ρ'} := by
  have hk : Kp G.ρ (fun _ => True) W W := fun _ _ _ _ => rfl
  exact ⟨hr, he _ _ h.rm, h.blk, h.ov, h.ro.ex he, h.objs.kept hk (fun _ _ _ _ => trivial) (Nat.le_refl _) he, h.fv, h.rf.ex he, h.flen, h.mlen, fun j h1 h2 => ⟨(h.fo j h1 h2).1, (h.fo j h1 h2).2.ex he⟩, h.num⟩
theorem MemAt.pushObj (h : MemAt W B cap M G) {o : PO} {g : GO} (hs : ShellAt W G.ρ M.objs.length o g) (hb : BodyAt W B cap G.ρ M.objs.length o g) (hfr : 0 ≤ o.fr ∧ o.fr ≤ M.entered) {cap' : Nat} (hcc : cap ≤ cap') (hol : M.objs.length + 1 ≤ cap') {C : Array Value} {ya : Option Addr} {yn yc : Nat}
    (hg : (W.alloc (.cells C 94)).grownBy w1 (Value.slice G.oa G.on G.oc).ownBlock) (ho : OwnsPt w1 B (.slice ya yn yc) (G.gos.map (·.ptr) ++ [g.ptr])) (hw : ∀ b, (Value.slice ya yn yc).ownBlock = some b → (Value.slice G.oa G.on G.oc).ownBlock = some b ∨ W.heap.size ≤ b) :
    w1.frozen? ⟨G.p, 3, none⟩ = false ∧ w1.cell? ⟨G.p, 3, none⟩ = some (.slice G.oa G.on G.oc) ∧ Below B W (w1.setCell ⟨G.p, 3, none⟩ (.slice ya yn yc)) ∧ Sep W (w1.setCell ⟨G.p, 3, none⟩ (.slice ya yn yc)) G.ρ (rhoSet G.ρ (.slice ya yn yc) (1, 0)) ∧ MemAt (w1.setCell ⟨G.p, 3, none⟩ (.slice ya yn yc)) B cap' (pushM M o) {G with oa := ya, on := yn, oc := yc, gos := G.gos ++ [g], ρ := rhoSet G.ρ (.slice ya yn yc) (1, 0)} := by
  have hoff : Off (fun b => (Value.slice G.oa G.on G.oc).ownBlock = some b) W w1 := ((Off.refl _ W).alloc _).grown hg (fun b hb => .inl hb)
  have hplt := h.plt.2
  have hpB := h.plt.1
  have hpne : (Value.slice G.oa G.on G.oc).ownBlock ≠ some G.p := fun e => by
    have := h.ro _ e; rw [h.rm] at this; simp at this
  have hp1 : w1.heap[G.p]? = _ := (hoff.block G.p hplt hpne).trans h.blk
  have hoff2 : Off (fun b => (Value.slice G.oa G.on G.oc).ownBlock = some b ∨ b = G.p) W (w1.setCell ⟨G.p, 3, none⟩ (.slice ya yn yc)) := (hoff.mono (fun b _ hb => .inl hb)).setCell (.inl (.inr rfl)) _
  have hex : Ex G.ρ (rhoSet G.ρ (.slice ya yn yc) (1, 0)) := rhoSet_ex h.range h.ro hw
  have hkp : Kp G.ρ (fun r => r ≠ (0, 0) ∧ r ≠ (1, 0)) W (w1.setCell ⟨G.p, 3, none⟩ (.slice ya yn yc)) := kp_of_off h.range hoff2 fun b r hx hbr hR => by
    rcases hx with hx | hx
    · have := h.ro _ hx; rw [hbr] at this; exact hR.2 (Option.some.inj this)
    · rw [hx, h.rm] at hbr; exact hR.1 (Option.some.inj hbr).symm
  have hyp : ∀ b, (Value.slice ya yn yc).ownBlock = some b → b ≠ G.p := fun b hb e => by
    rcases hw b hb with h1 | h1
    · exact hpne (e ▸ h1)
    · omega
  have hbel : Below B W (w1.setCell ⟨G.p, 3, none⟩ (.slice ya yn yc)) := hoff2.below (by omega) fun b hb => by
    rcases hb with hb | hb
    · exact (h.range _ _ (h.ro b hb)).1
    · rw [hb]; exact hpB
  refine ⟨by simp [World.frozen?, hp1], by simp [World.cell?, hp1], hbel, ⟨hoff2.mono (fun b _ hb => hb.elim (fun h' => ⟨_, h.ro b h'⟩) (fun h' => ⟨(0, 0), by rw [h']; exact h.rm⟩)), fun b r hbr => (rhoSet_new h.ro hw hbr).imp (fun h' => ⟨r, h'⟩) (fun h' => h'.1)⟩, fun b r hbr => ?_, hex _ _ h.rm, ?_, ?_, rhoSet_role _ _ _, ⟨by simp [pushM, h.objs.len], fun j k1 k2 => ?_, fun j k1 k2 hgo => ?_⟩, row_kept h.fv h.rf hkp (by simp), h.rf.ex hex, h.flen, h.mlen, fun j k1 k2 => ⟨row_kept (h.fo j k1 k2).1 (h.fo j k1 k2).2 hkp (by simp), (h.fo j k1 k2).2.ex hex⟩, ?_⟩
  · rcases rhoSet_new h.ro hw hbr with h1 | ⟨h1, h2⟩
    · have := h.range b r h1; have := hbel.size; omega
    · have := (ho.lt b h2).2
      simp [World.setCell]
      omega
  · rw [heap_setCell_same w1 G.p 3 _ _ _ hp1]; rfl
  · show OwnsPt _ B _ ((G.gos ++ [g]).map (·.ptr))
    rw [List.map_append]
    refine ⟨ho.1, ?_⟩
    rcases ho.2 with hn | ⟨gg, cp, cur, e, hB, hgg, rest⟩
    · exact .inl hn
    · exact .inr ⟨gg, cp, cur, e, hB, (Below.heap_setCell _ _ _ _ (hyp gg (by rw [e]; rfl))).trans hgg, rest⟩
  · have k1' : j < (M.objs ++ [o]).length := k1
    show ShellAt _ _ j (M.objs ++ [o])[j] (G.gos ++ [g])[j]
    by_cases e : j < M.objs.length
    · rw [List.getElem_append_left e, List.getElem_append_left (by rw [h.objs.len]; exact e)]
      exact (h.objs.shell j e (by rw [h.objs.len]; exact e)).kept hkp (by simp) hex
    · have e2 : j = M.objs.length := by simp at k1'; omega
      subst e2
      rw [List.getElem_append_right (by omega), List.getElem_append_right (by rw [h.objs.len]; omega)]
      simp only [Nat.sub_self, h.objs.len, List.getElem_cons_zero]
      exact hs.kept hkp (by simp) hex
  · have k1' : j < (M.objs ++ [o]).length := k1
    show BodyAt _ B cap' _ j (M.objs ++ [o])[j] (G.gos ++ [g])[j]
    have hR : ∀ t, 3 ≤ t → t ≤ 5 → ((t, j) : Nat × Nat) ≠ (0, 0) ∧ ((t, j) : Nat × Nat) ≠ (1, 0) := fun t h3 _ => ⟨by simp; omega, by simp; omega⟩
    by_cases e : j < M.objs.length
    · have hgo' : M.gone (M.objs ++ [o])[j] = false := hgo
      rw [List.getElem_append_left e] at hgo'
      rw [List.getElem_append_left e, List.getElem_append_left (by rw [h.objs.len]; exact e)]
      exact (h.objs.body j e (by rw [h.objs.len]; exact e) hgo').kept (h.objs.shell j e (by rw [h.objs.len]; exact e)) hkp hR hex hcc
    · have e2 : j = M.objs.length := by simp at k1'; omega
      subst e2
      rw [List.getElem_append_right (by omega), List.getElem_append_right (by rw [h.objs.len]; omega)]
      simp only [Nat.sub_self, h.objs.len, List.getElem_cons_zero]
      exact hb.kept hs hkp hR hex hcc
  · have hn := h.num
    refine ⟨hn.limit, hn.used, ⟨hn.makes.1, by have := hn.makes.2; show M.makes ≤ _; omega⟩, ⟨hn.entered.1, by have := hn.entered.2; show M.entered ≤ _; omega⟩, by show (M.objs ++ [o]).length ≤ _; rw [List.length_append]; simp; omega, by have := hn.frs; show M.frs.length ≤ _; omega, hn.inc, hn.pos, fun x hx => ?_⟩
    have hx' : x ∈ M.objs ++ [o] := hx
    rcases List.mem_append.1 hx' with h3 | h3
    · exact hn.fr x h3
    · rw [List.mem_singleton.1 h3]; exact hfr
end
end Go.Proofs.Ytnnccahpgailiaa

/- Layer 10: package heap's lay (where no frame was entered), add, Slice and Table. -/
namespace Go.Proofs.Ytnnccahpgailiaa
open Go.RowKit (wrap64 intOf Below)
set_option linter.unusedVariables false
set_option linter.unusedSimpArgs false

/-- The last frame's number; 0: it is the first one. -/
def lastFr (M : PM) : Int := M.frs.getLast?.getD 0
def withFr (o : PO) (f : Int) : PO := {o with fr := f}
/-- What the frames' rows of objects hold. -/
def FmAt (M : PM) (G : GM) : Prop := ∀ j (h1 : j < M.frs.length) (h2 : j < G.fms.length) x, x ∈ G.fms[j] ↔ ∃ i, ∃ (k1 : i < M.objs.length) (k2 : i < G.gos.length), G.gos[i].ptr = x ∧ M.objs[i].fr = M.frs[j]
/-- What the rows hold while object x has its frame and no place yet. -/
def FmNew (M : PM) (G : GM) (x : Nat) (f : Int) : Prop := ∀ j (h1 : j < M.frs.length) (h2 : j < G.fms.length) y, y ∈ G.fms[j] ↔ (∃ i, ∃ (k1 : i < M.objs.length) (k2 : i < G.gos.length), G.gos[i].ptr = y ∧ M.objs[i].fr = M.frs[j]) ∨ (y = x ∧ f = M.frs[j])
structure LaySt (W w' : World) (B cap : Nat) (M : PM) (G G' : GM) (o : PO) (g : GO) : Prop where
  mem : MemAt w' B cap M G'
  p : G'.p = G.p
  gos : G'.gos = G.gos
  ov : G'.oa = G.oa ∧ G'.on = G.on ∧ G'.oc = G.oc
  shell : ShellAt w' G'.ρ M.objs.length (withFr o (lastFr M)) g
  body : BodyAt w' B cap G'.ρ M.objs.length (withFr o (lastFr M)) g
  bel : Below B W w'
  fm : FmAt M G → FmNew M G' g.ptr (lastFr M)
  sep : Sep W w' G.ρ G'.ρ
section
variable {W w' : World} {B cap : Nat} {M : PM} {G : GM} {o : PO} {g : GO}
theorem withFr_same {o : PO} {f : Int} (h : o.fr = f) : withFr o f = o := by cases o; simp only [withFr] at *; rw [h]
theorem FmAt.pushed (hn : FmNew M G g.ptr o.fr) {G' : GM} (hlen : G.gos.length = M.objs.length) (hg : G'.gos = G.gos ++ [g]) (hf : G'.fms = G.fms) : FmAt (pushM M o) G' := by
  intro j h1 h2 x
  have h2' : j < G.fms.length := by rw [← hf]; exact h2
  have e : G'.fms[j] = G.fms[j] := by simp only [hf]
  rw [e, hn j h1 h2' x]
  constructor
  · rintro (⟨i, k1, k2, h3, h4⟩ | ⟨rfl, h4⟩)
    · refine ⟨i, by show i < (M.objs ++ [o]).length; simp; omega, by rw [hg]; simp; omega, ?_, ?_⟩
      · simp only [hg]; rw [List.getElem_append_left k2]; exact h3
      · show ((M.objs ++ [o])[i]'(by simp; omega)).fr = _; rw [List.getElem_append_left k1]; exact h4
    · refine ⟨M.objs.length, by show _ < (M.objs ++ [o]).length; simp, by rw [hg]; simp; omega, ?_, ?_⟩
      · simp only [hg]; rw [List.getElem_append_right (by omega)]; simp [hlen]
      · show ((M.objs ++ [o])[M.objs.length]'(by simp)).fr = _; rw [List.getElem_append_right (by omega)]; simp; exact h4
  · rintro ⟨i, k1, k2, h3, h4⟩
    have k1' : i < (M.objs ++ [o]).length := k1
    have h4 : (M.objs ++ [o])[i].fr = M.frs[j] := h4
    simp only [hg] at h3
    by_cases e : i < M.objs.length
    · rw [List.getElem_append_left (by omega)] at h3 h4
      exact .inl ⟨i, e, by omega, h3, h4⟩
    · have e2 : i = M.objs.length := by simp at k1'; omega
      subst e2
      rw [List.getElem_append_right (by omega)] at h3 h4
      simp [hlen] at h3 h4
      exact .inr ⟨h3.symm, h4⟩
/-- A new object that lies on the heap. -/
theorem FmAt.heap (h : MemAt W B cap M G) (hf : FmAt M G) {x : Nat} : FmNew M G x 0 := by
  intro j h1 h2 y
  rw [hf j h1 h2 y]
  refine ⟨.inl, fun h3 => h3.elim id (fun h4 => ?_)⟩
  have := (h.num.pos _ (List.getElem_mem h1)).1
  omega
end
set_option maxRecDepth 100000 in
theorem lay_nil {W : World} {B cap : Nat} {M : PM} {G : GM} (h : MemAt W B cap M G) (h0 : M.frs = []) {o : PO} {g : GO} (hs : ShellAt W G.ρ M.objs.length o g) (hb : BodyAt W B cap G.ρ M.objs.length o g) (hfr : o.fr = 0) :
    Calls Try.prog 81 #[.pointer (some ⟨G.p, 0, none⟩), .pointer (some ⟨g.ptr, 0, none⟩)] W fun e w' => e = .returned (.tuple #[]) ∧ ∃ G', LaySt W w' B cap M G G' o g := by
  have hl : lastFr M = 0 := by unfold lastFr; rw [h0]; rfl
  have HL : RowKit.Hid (LaySt W W B cap M G G o g) := Lib.hid ⟨h, rfl, rfl, ⟨rfl, rfl, rfl⟩, by rw [hl, withFr_same hfr]; exact hs, by rw [hl, withFr_same hfr]; exact hb, Below.refl _ _, fun hf => by rw [hl]; exact hf.heap h, Sep.since (Below.refl _ _)⟩
  have c4 := h.cell 4
  simp only [List.getElem?_toArray, List.getElem?_cons_succ, List.getElem?_cons_zero] at c4
  have hfn : G.fn = 0 := by rw [h.frn, h0]; rfl
  rw [hfn] at c4
  clear h h0 hs hb hfr hl hfn
  go_enter Try.func81, Try.ntmps81
  go_wp2_with fail
  go_end0
  exact ⟨rfl, G, HL.out⟩
def osz (o : PO) : Int := if o.tab then (o.keys.length : Int) else o.size
/-- What add does, and answers. -/
def addM (M : PM) (o : PO) (stack : Bool) : PM × Int × Int :=
  if stack then (pushM M (withFr o (lastFr M)), (M.objs.length : Int) + 1, 0)
  else if fits M (8 + 8 * osz o) then (pushM {takeM M (8 + 8 * osz o) with makes := M.makes + 1} o, (M.objs.length : Int) + 1, 0)
  else (M, 0, 4)
def AddPost (W : World) (B cap : Nat) (M : PM) (G : GM) (R : PM × Int × Int) (e : Ending) (w' : World) : Prop := e = .returned (.tuple #[.int .i64 R.2.1, .int .i64 R.2.2]) ∧ ∃ G', MemAt w' B (cap + 1) R.1 G' ∧ G'.p = G.p ∧ Below B W w' ∧ (FmAt M G → FmAt R.1 G') ∧ Sep W w' G.ρ G'.ρ
section
variable {W : World} {B cap : Nat} {M : PM} {G : GM}
theorem lastFr_range (h : NumAt cap M) : 0 ≤ lastFr M ∧ lastFr M ≤ M.entered := by
  unfold lastFr
  cases hl : M.frs.getLast? with
  | none => exact ⟨Int.le_refl _, h.entered.1⟩
  | some f => have := h.pos f (List.mem_of_getLast? hl); exact ⟨by simp; omega, by simp; omega⟩
end
set_option maxRecDepth 100000 in
set_option maxHeartbeats 1000000 in
theorem add_st {W : World} {B cap : Nat} {M : PM} {G : GM} (h : MemAt W B cap M G) (hcap : cap ≤ 1099511627776) {o : PO} {g : GO} (hs : ShellAt W G.ρ M.objs.length o g) (hb : BodyAt W B cap G.ρ M.objs.length o g)
    (hl : Calls Try.prog 81 #[.pointer (some ⟨G.p, 0, none⟩), .pointer (some ⟨g.ptr, 0, none⟩)] W fun e w' => e = .returned (.tuple #[]) ∧ ∃ G', LaySt W w' B cap M G G' o g) :
    Calls Try.prog 48 #[.pointer (some ⟨G.p, 0, none⟩), .pointer (some ⟨g.ptr, 0, none⟩), .bool true] W (AddPost W B cap M G (addM M o true)) := by
  have HL := Lib.hid hl
  have HR : RowKit.Hid (addM M o true = (pushM M (withFr o (lastFr M)), (M.objs.length : Int) + 1, 0)) := Lib.hid rfl
  have HNU := Lib.hid (lastFr_range h.num)
  have hlen : M.objs.length ≤ cap := h.num.objs
  have HB0 : RowKit.Hid (B ≤ W.heap.size) := Lib.hid (by have := h.plt; omega)
  clear h hs hb hl
  go_enter Try.func48, Try.ntmps48
  go_upto_region 6 with (go_at_call 81; refine HL.out.mono ?_; rintro e u ⟨rfl, G1, hS⟩; have HS := Lib.hid hS; clear hS)
  have hp := HS.out.p
  obtain ⟨e1, e2, e3⟩ := HS.out.ov
  have c3 : u.cell? ⟨G.p, 3, none⟩ = some (.slice G.oa G.on G.oc) := by
    have := HS.out.mem.cell 3
    simp only [List.getElem?_toArray, List.getElem?_cons_succ, List.getElem?_cons_zero] at this
    rw [hp, e1, e2, e3] at this
    exact this
  have HOV : RowKit.Hid (OwnsPt u B (.slice G.oa G.on G.oc) (G.gos.map (·.ptr))) := Lib.hid (by have := HS.out.mem.ov; rw [e1, e2, e3, HS.out.gos] at this; exact this)
  have HGL : RowKit.Hid (G.gos.length = M.objs.length) := Lib.hid (by have := HS.out.mem.objs.len; rw [HS.out.gos] at this; exact this)
  have HLZ : RowKit.Hid (((G.gos.map (·.ptr)).length + 1) * 8 ≤ 140737488355328) := Lib.hid (by rw [List.length_map, HGL.out]; omega)
  have hBu : B ≤ u.heap.size := by have := HS.out.bel.size; have := HB0.out; omega
  have HPU : RowKit.Hid (∀ (C : Array Value) (ya : Option Addr) (yn yc : Nat) (w1 : World), (u.alloc (.cells C 94)).grownBy w1 (Value.slice G.oa G.on G.oc).ownBlock → OwnsPt w1 B (.slice ya yn yc) (G.gos.map (·.ptr) ++ [g.ptr]) → (∀ b, (Value.slice ya yn yc).ownBlock = some b → (Value.slice G.oa G.on G.oc).ownBlock = some b ∨ u.heap.size ≤ b) →
      w1.frozen? ⟨G.p, 3, none⟩ = false ∧ w1.cell? ⟨G.p, 3, none⟩ = some (.slice G.oa G.on G.oc) ∧ Below B u (w1.setCell ⟨G.p, 3, none⟩ (.slice ya yn yc)) ∧ Sep u (w1.setCell ⟨G.p, 3, none⟩ (.slice ya yn yc)) G1.ρ (rhoSet G1.ρ (.slice ya yn yc) (1, 0)) ∧ MemAt (w1.setCell ⟨G.p, 3, none⟩ (.slice ya yn yc)) B (cap + 1) (pushM M (withFr o (lastFr M))) {G1 with p := G.p, oa := ya, on := yn, oc := yc, gos := G1.gos ++ [g], ρ := rhoSet G1.ρ (.slice ya yn yc) (1, 0)} ∧ (w1.setCell ⟨G.p, 3, none⟩ (.slice ya yn yc)).cell? ⟨G.p, 3, none⟩ = some (.slice ya yn yc) ∧ yn = M.objs.length + 1) := Lib.hid fun C ya yn yc w1 hg1 ho1 hw1 => by
    have h5 := HS.out.mem.pushObj (C := C) (w1 := w1) (ya := ya) (yn := yn) (yc := yc) HS.out.shell HS.out.body HNU.out (Nat.le_succ cap) (Nat.succ_le_succ hlen) (by rw [e1, e2, e3]; exact hg1) (by rw [HS.out.gos]; exact ho1) (by rw [e1, e2, e3]; exact hw1)
    rw [hp] at h5
    obtain ⟨k1, k2, k3, k5, k4⟩ := h5
    refine ⟨k1, by rw [e1, e2, e3] at k2; exact k2, k3, k5, k4, ?_, ?_⟩
    · have h6 := k4.cell 3
      simp only [List.getElem?_toArray, List.getElem?_cons_succ, List.getElem?_cons_zero] at h6
      exact h6
    · have h6 := ho1.read.1; rw [h6, List.length_append, List.length_map, HGL.out]; rfl
  clear hp e1 e2 e3
  go_wp2_with ((with_reducible refine wpList_append_pt _ rfl rfl _ _ rfl B (.slice G.oa G.on G.oc) (G.gos.map (·.ptr)) ?_ ?_ ?_ _ 1 u.heap.size g.ptr ?_ ?_ ?_ ?_ ?_); (next => rfl); (next => exact HOV.out); (next => exact hBu); (next => rfl); (next => rfl); (next => rfl); (next => exact HLZ.out); intro ya yn yc w1 ho1 hg1 hw1; have HP := Lib.hid (HPU.out _ ya yn yc w1 hg1 ho1 hw1); have hf1 := HP.out.1; have hc1 := HP.out.2.1; have hd3 := HP.out.2.2.2.2.2.1; clear ho1 hg1 hw1)
  go_ret2
  refine ⟨int_end (by rw [HR.out, HP.out.2.2.2.2.2.2]; simp) (by rw [HR.out]), {G1 with p := G.p, oa := ya, on := yn, oc := yc, gos := G1.gos ++ [g], ρ := rhoSet G1.ρ (.slice ya yn yc) (1, 0)}, by rw [HR.out]; exact HP.out.2.2.2.2.1, rfl, HS.out.bel.trans HP.out.2.2.1, fun hf => ?_, HS.out.sep.trans HP.out.2.2.2.1⟩
  rw [HR.out]
  exact FmAt.pushed (o := withFr o (lastFr M)) (HS.out.fm hf) HS.out.mem.objs.len rfl rfl
set_option maxRecDepth 100000 in
set_option maxHeartbeats 1000000 in
theorem add_hp {W : World} {B cap : Nat} {M : PM} {G : GM} (h : MemAt W B cap M G) (hcap : cap ≤ 1099511627776) {o : PO} {g : GO} (hs : ShellAt W G.ρ M.objs.length o g) (hb : BodyAt W B cap G.ρ M.objs.length o g) (hfr : o.fr = 0) :
    Calls Try.prog 48 #[.pointer (some ⟨G.p, 0, none⟩), .pointer (some ⟨g.ptr, 0, none⟩), .bool false] W (AddPost W B cap M G (addM M o false)) := by
  have hx0 : W.cell? ⟨g.ptr, 1, none⟩ = some (if o.tab then .pointer none else ptrV g.q) := by simp [World.cell?, hs.blk]
  have hx2 : W.cell? ⟨g.ptr, 2, none⟩ = some (if o.tab then ptrV g.q else .pointer none) := by simp [World.cell?, hs.blk]
  have hoz : 0 ≤ osz o ∧ osz o ≤ 1099511627776 := by
    unfold osz
    unfold BodyAt at hb
    cases ht : o.tab with
    | true => rw [ht] at hb; have := TabAt.klen hb; simp; omega
    | false => rw [ht] at hb; have := (RwAt.size hb); simp; omega
  have CS : RowKit.Hid (Calls Try.prog 59 #[.pointer (some ⟨g.ptr, 0, none⟩)] W fun e w' => e = .returned (.int .i64 (osz o)) ∧ w' = W) := Lib.hid (by
    unfold BodyAt at hb
    unfold osz
    cases ht : o.tab with
    | true =>
      rw [ht] at hb hx0 hx2
      simp only [if_true] at hb hx0 hx2 ⊢
      have hrd : NumsAt W g.ka g.kn o.keys := OwnsI.read hb.keys
      rw [hrd.1]
      exact sizetab_any (by have := hrd.1; have := hb.klen; omega) hx2 hb.c1
    | false =>
      rw [ht] at hb hx0 hx2
      simp only [Bool.false_eq_true, if_false] at hb hx0 hx2 ⊢
      exact sizerow_any hx2 hx0 (by simp [World.cell?, hb.blk]))
  have hlen : M.objs.length ≤ cap := h.num.objs
  have HM := Lib.hid h
  have HSB := Lib.hid (And.intro hs hb)
  have HB0 : RowKit.Hid (B ≤ W.heap.size) := Lib.hid (by have := h.plt; omega)
  obtain ⟨z, hz⟩ : ∃ z, osz o = z := ⟨_, rfl⟩
  rw [hz] at CS hoz
  have hw1 : wrap64 (8 * z) = 8 * z := by unfold wrap64; omega
  have hw2 : wrap64 (8 + 8 * z) = 8 + 8 * z := by unfold wrap64; omega
  have CT := Lib.hid (take_any h (8 + 8 * z) (by omega))
  cases hf : fits M (8 + 8 * z) with
  | false =>
    have HR : RowKit.Hid (addM M o false = (M, 0, 4)) := Lib.hid (by unfold addM; rw [hz, if_neg (by simp), if_neg (by rw [hf]; simp)])
    have HTK : RowKit.Hid (takeM M (8 + 8 * z) = M) := Lib.hid (by unfold takeM; rw [if_neg (by rw [hf]; simp)])
    rw [hf] at CT
    clear h hs hb hfr hx0 hx2 hz hf
    go_enter Try.func48, Try.ntmps48
    go_wp2_with (first
      | (go_at_call 59; refine CS.out.mono ?_; rintro e u ⟨rfl, hu⟩; rw [hu]; clear hu u)
      | (go_at_call 55; refine CT.out.mono ?_; rintro e u ⟨rfl, hm, hb, hoff⟩; have HM2 := Lib.hid hm; have HB2 := Lib.hid hb; have HO2 := Lib.hid hoff; clear hm hb hoff))
    go_ret2
    exact ⟨int_end (by rw [HR.out]) (by rw [HR.out]), G, by rw [HR.out]; have h5 := HM2.out; rw [HTK.out] at h5; exact h5.mono (Nat.le_succ _), rfl, HB2.out, (fun hfm => by rw [HR.out]; exact hfm), HO2.out.mono (fun b _ hb => ⟨(0, 0), by rw [hb]; exact HM.out.rm⟩), fun b r hr => .inl ⟨r, hr⟩⟩
  | true =>
    have HR : RowKit.Hid (addM M o false = (pushM {takeM M (8 + 8 * z) with makes := M.makes + 1} o, (M.objs.length : Int) + 1, 0)) := Lib.hid (by unfold addM; rw [hz, if_neg (by simp), if_pos hf])
    have HTK : RowKit.Hid (takeM M (8 + 8 * z) = {M with used := M.used + (8 + 8 * z)}) := Lib.hid (by unfold takeM; rw [if_pos hf])
    have hmk := h.num.makes
    have hwm : wrap64 (M.makes + 1) = M.makes + 1 := by unfold wrap64; omega
    have HFH : RowKit.Hid (FmAt M G → FmNew M G g.ptr o.fr) := Lib.hid fun hfm => by rw [hfr]; exact hfm.heap h
    have HNU : RowKit.Hid (0 ≤ o.fr ∧ o.fr ≤ M.entered) := Lib.hid (by rw [hfr]; exact ⟨Int.le_refl _, h.num.entered.1⟩)
    rw [hf] at CT
    clear h hs hb hfr hx0 hx2 hz hf
    go_enter Try.func48, Try.ntmps48
    go_upto_region 4 with (first
      | (go_at_call 59; refine CS.out.mono ?_; rintro e u ⟨rfl, hu⟩; rw [hu]; clear hu u)
      | (go_at_call 55; refine CT.out.mono ?_; rintro e u ⟨rfl, hm, hb, hoff⟩; have HM2 := Lib.hid hm; have HB2 := Lib.hid hb; have HO2 := Lib.hid hoff; clear hm hb hoff))
    rw [HTK.out] at HM2
    have c2 : u.cell? ⟨G.p, 2, none⟩ = some (.int .i64 M.makes) := by
      have := HM2.out.cell 2
      simp only [List.getElem?_toArray, List.getElem?_cons_succ, List.getElem?_cons_zero] at this
      exact this
    have hf2 := HM2.out.free 2
    have HM3 : RowKit.Hid (MemAt (u.setCell ⟨G.p, 2, none⟩ (.int .i64 (M.makes + 1))) B (cap + 1) {M with used := M.used + (8 + 8 * z), makes := M.makes + 1} G ∧ Below B u (u.setCell ⟨G.p, 2, none⟩ (.int .i64 (M.makes + 1)))) := Lib.hid (by
      have hn := HM2.out.num
      refine ⟨HM2.out.head (a := M.limit) (b := M.used + (8 + 8 * z)) (c := M.makes + 1) (d := M.entered) (HM2.out.kpSet 2 _) (by simp [World.setCell]) (by rw [heap_setCell_same u G.p 2 _ _ _ HM2.out.blk]; rfl) (Nat.le_succ _) ?_, (Below.refl B u).setCell (p := ⟨G.p, 2, none⟩) HM2.out.plt.1 _⟩
      exact ⟨hn.limit, hn.used, ⟨by show 0 ≤ M.makes + 1; omega, by show M.makes + 1 ≤ _; omega⟩, ⟨hn.entered.1, by have := hn.entered.2; show M.entered ≤ _; simp at this ⊢; omega⟩, Nat.le_succ_of_le hn.objs, Nat.le_succ_of_le hn.frs, hn.inc, hn.pos, hn.fr⟩)
    obtain ⟨U, hU⟩ : ∃ U, u.setCell ⟨G.p, 2, none⟩ (.int .i64 (M.makes + 1)) = U := ⟨_, rfl⟩
    rw [hU] at HM3
    have HOU : RowKit.Hid (Off (fun k => k = G.p) W U) := Lib.hid (by rw [← hU]; exact HO2.out.setCell (p := ⟨G.p, 2, none⟩) (.inl rfl) _)
    go_upto_region 6 with fail
    try rw [hU]
    clear hU c2 hf2
    have HWU : RowKit.Hid (Below B W U) := Lib.hid (HB2.out.trans HM3.out.2)
    have c3 : U.cell? ⟨G.p, 3, none⟩ = some (.slice G.oa G.on G.oc) := by
      have := HM3.out.1.cell 3
      simp only [List.getElem?_toArray, List.getElem?_cons_succ, List.getElem?_cons_zero] at this
      exact this
    have HOV := Lib.hid HM3.out.1.ov
    have HGL : RowKit.Hid (G.gos.length = M.objs.length) := Lib.hid HM.out.objs.len
    have HLZ : RowKit.Hid (((G.gos.map (·.ptr)).length + 1) * 8 ≤ 140737488355328) := Lib.hid (by rw [List.length_map, HGL.out]; omega)
    have hBu : B ≤ U.heap.size := by have := HWU.out.size; have := HB0.out; omega
    have HPU : RowKit.Hid (∀ (C : Array Value) (ya : Option Addr) (yn yc : Nat) (w1 : World), (U.alloc (.cells C 94)).grownBy w1 (Value.slice G.oa G.on G.oc).ownBlock → OwnsPt w1 B (.slice ya yn yc) (G.gos.map (·.ptr) ++ [g.ptr]) → (∀ b, (Value.slice ya yn yc).ownBlock = some b → (Value.slice G.oa G.on G.oc).ownBlock = some b ∨ U.heap.size ≤ b) →
        w1.frozen? ⟨G.p, 3, none⟩ = false ∧ w1.cell? ⟨G.p, 3, none⟩ = some (.slice G.oa G.on G.oc) ∧ Below B U (w1.setCell ⟨G.p, 3, none⟩ (.slice ya yn yc)) ∧ Sep U (w1.setCell ⟨G.p, 3, none⟩ (.slice ya yn yc)) G.ρ (rhoSet G.ρ (.slice ya yn yc) (1, 0)) ∧ MemAt (w1.setCell ⟨G.p, 3, none⟩ (.slice ya yn yc)) B (cap + 1) (pushM {M with used := M.used + (8 + 8 * z), makes := M.makes + 1} o) {G with oa := ya, on := yn, oc := yc, gos := G.gos ++ [g], ρ := rhoSet G.ρ (.slice ya yn yc) (1, 0)} ∧ (w1.setCell ⟨G.p, 3, none⟩ (.slice ya yn yc)).cell? ⟨G.p, 3, none⟩ = some (.slice ya yn yc) ∧ yn = M.objs.length + 1) := Lib.hid fun C ya yn yc w1 hg1 ho1 hw1 => by
      have hkp : Kp G.ρ (fun r => r ≠ (0, 0)) W U := kp_of_off HM.out.range HOU.out fun b r hx hbr hne => by
        rw [hx, HM.out.rm] at hbr
        exact hne (Option.some.inj hbr).symm
      obtain ⟨k1, k2, k3, k5, k4⟩ := HM3.out.1.pushObj (o := o) (g := g) (C := C) (w1 := w1) (ya := ya) (yn := yn) (yc := yc) (HSB.out.1.kept hkp (by simp) (Ex.refl _)) (HSB.out.2.kept HSB.out.1 hkp (fun t h3 _ => by simp; omega) (Ex.refl _) (Nat.le_succ _)) HNU.out (Nat.le_refl _) (Nat.succ_le_succ hlen) hg1 ho1 hw1
      refine ⟨k1, k2, k3, k5, k4, ?_, ?_⟩
      · have h6 := k4.cell 3
        simp only [List.getElem?_toArray, List.getElem?_cons_succ, List.getElem?_cons_zero] at h6
        exact h6
      · have h6 := ho1.read.1; rw [h6, List.length_append, List.length_map, HGL.out]; rfl
    go_wp2_with ((with_reducible refine wpList_append_pt _ rfl rfl _ _ rfl B (.slice G.oa G.on G.oc) (G.gos.map (·.ptr)) ?_ ?_ ?_ _ 1 U.heap.size g.ptr ?_ ?_ ?_ ?_ ?_); (next => rfl); (next => exact HOV.out); (next => exact hBu); (next => rfl); (next => rfl); (next => rfl); (next => exact HLZ.out); intro ya yn yc w1 ho1 hg1 hw1; have HP := Lib.hid (HPU.out _ ya yn yc w1 hg1 ho1 hw1); have hf1 := HP.out.1; have hc1 := HP.out.2.1; have hd3 := HP.out.2.2.2.2.2.1; clear ho1 hg1 hw1)
    go_ret2
    refine ⟨int_end (by rw [HR.out, HP.out.2.2.2.2.2.2]; simp) (by rw [HR.out]), {G with oa := ya, on := yn, oc := yc, gos := G.gos ++ [g], ρ := rhoSet G.ρ (.slice ya yn yc) (1, 0)}, by rw [HR.out, HTK.out]; exact HP.out.2.2.2.2.1, rfl, HWU.out.trans HP.out.2.2.1, fun hfm => ?_, (Sep.mk (HOU.out.mono (fun b _ hb => ⟨(0, 0), by rw [hb]; exact HM.out.rm⟩)) (fun b r hr => .inl ⟨r, hr⟩)).trans HP.out.2.2.2.1⟩
    rw [HR.out, HTK.out]
    exact FmAt.pushed (M := {M with used := M.used + (8 + 8 * z), makes := M.makes + 1}) (o := o) (HFH.out hfm) HGL.out rfl rfl
end Go.Proofs.Ytnnccahpgailiaa

/- Layer 10: package heap's Slice and Table. -/
namespace Go.Proofs.Ytnnccahpgailiaa
open Go.RowKit (wrap64 intOf Below)
set_option linter.unusedVariables false
set_option linter.unusedSimpArgs false

def newRow (n : Int) : PO := { fr := 0, tab := false, stack := false, size := n, get := fun _ => zeroVV, keys := [], under := fun _ => 0 }
def newTab (st : Bool) : PO := { fr := 0, tab := true, stack := st, size := 0, get := fun _ => zeroVV, keys := [], under := fun _ => 0 }
def sliceM (M : PM) (n : Int) (st : Bool) : PM × Int × Int := if n < 0 ∨ 1024 < n then (M, 0, 2) else addM M (newRow n) st
def tableM (M : PM) (st : Bool) : PM × Int × Int := addM M (newTab st) st
/-- A frame takes what is laid in it. -/
def LayOk (B cap : Nat) (M : PM) : Prop := ∀ W G o g, MemAt W B cap M G → ShellAt W G.ρ M.objs.length o g → BodyAt W B cap G.ρ M.objs.length o g → o.fr = 0 →
  Calls Try.prog 81 #[.pointer (some ⟨G.p, 0, none⟩), .pointer (some ⟨g.ptr, 0, none⟩)] W fun e w' => e = .returned (.tuple #[]) ∧ ∃ G', LaySt W w' B cap M G G' o g
theorem layOk_nil {B cap : Nat} {M : PM} (h0 : M.frs = []) : LayOk B cap M := fun W G o g h hs hb hfr => lay_nil h h0 hs hb hfr
def rho3 (ρ : Rho) (k n : Nat) : Rho := fun b => if b = k then some (5, n) else if b = k + 1 then some (3, n) else if b = k + 2 then some (2, n) else ρ b
section
variable {W : World} {B cap : Nat} {M : PM} {G : GM}
theorem rho3_ex (h : MemAt W B cap M G) (n : Nat) : Ex G.ρ (rho3 G.ρ W.heap.size n) := fun b r hbr => by
  have := (h.range b r hbr).2
  unfold rho3
  rw [if_neg (by omega), if_neg (by omega), if_neg (by omega)]
  exact hbr
theorem rho3_at (ρ : Rho) (k n : Nat) : rho3 ρ k n k = some (5, n) ∧ rho3 ρ k n (k + 1) = some (3, n) ∧ rho3 ρ k n (k + 2) = some (2, n) := by
  unfold rho3
  refine ⟨by simp, by simp, by simp⟩
theorem rho3_new {ρ : Rho} {k n b : Nat} {r : Nat × Nat} (h : rho3 ρ k n b = some r) : dom ρ b ∨ k ≤ b := by
  unfold rho3 at h
  split at h
  · exact .inr (by omega)
  · split at h
    · exact .inr (by omega)
    · split at h
      · exact .inr (by omega)
      · exact .inl ⟨r, h⟩
theorem three_new (W : World) (o1 o2 o3 : Obj) : (((W.alloc o1).alloc o2).alloc o3).heap[W.heap.size]? = some o1 ∧ (((W.alloc o1).alloc o2).alloc o3).heap[W.heap.size + 1]? = some o2 ∧ (((W.alloc o1).alloc o2).alloc o3).heap[W.heap.size + 2]? = some o3 ∧ (((W.alloc o1).alloc o2).alloc o3).heap.size = W.heap.size + 3 := by
  refine ⟨?_, ?_, ?_, by simp⟩
  · rw [((Below.refl (W.heap.size + 1) _).alloc (by simp) _ |>.alloc (by simp) _ : Below (W.heap.size + 1) (W.alloc o1) (((W.alloc o1).alloc o2).alloc o3)).block W.heap.size (by omega)]
    exact World.alloc_heap_new _ _
  · rw [((Below.refl (W.heap.size + 2) _).alloc (by simp) _ : Below (W.heap.size + 2) ((W.alloc o1).alloc o2) (((W.alloc o1).alloc o2).alloc o3)).block (W.heap.size + 1) (by omega)]
    have := World.alloc_heap_new (W.alloc o1) o2
    simpa using this
  · have := World.alloc_heap_new ((W.alloc o1).alloc o2) o3
    simpa using this
/-- The memory, with what was made for a new object. -/
theorem MemAt.fresh (h : MemAt W B cap M G) (o1 o2 o3 : Obj) : MemAt (((W.alloc o1).alloc o2).alloc o3) B cap M {G with ρ := rho3 G.ρ W.heap.size M.objs.length} := by
  have hb : Below W.heap.size W (((W.alloc o1).alloc o2).alloc o3) := (((Below.refl _ W).alloc (Nat.le_refl _) _).alloc (by simp) _).alloc (by simp; omega) _
  refine (h.since hb).exRho (rho3_ex h _) fun k r hkr => ?_
  have hz := (three_new W o1 o2 o3).2.2.2
  have hp := h.plt
  unfold rho3 at hkr
  split at hkr
  · omega
  · split at hkr
    · omega
    · split at hkr
      · omega
      · have := h.range k r hkr; omega
end
theorem empty_at (k : Int) (z : DataW Unit) : (DataW.map [] : DataW Unit).atKey (.int .i64 k) z = z := rfl
theorem row_fresh {W : World} {B cap : Nat} {M : PM} {G : GM} (h : MemAt W B cap M G) {n : Int} (hn : 0 ≤ n ∧ n ≤ 1024) {W3 : World} (hW : ((W.alloc (.map #[] 0)).alloc (.cells #[.int .i64 n, .slice none 0 0, .map (some W.heap.size)] 98)).alloc (.cells #[.int .i64 0, .pointer (some ⟨W.heap.size + 1, 0, none⟩), .pointer none] 101) = W3) :
    ∃ G3 g, G3.p = G.p ∧ g.ptr = W.heap.size + 2 ∧ MemAt W3 B cap M G3 ∧ ShellAt W3 G3.ρ M.objs.length (newRow n) g ∧ BodyAt W3 B cap G3.ρ M.objs.length (newRow n) g ∧ Below B W W3 ∧ (FmAt M G → FmAt M G3) ∧ Sep W W3 G.ρ G3.ρ := by
  obtain ⟨n1, n2, n3, n4⟩ := three_new W (.map #[] 0) (.cells #[.int .i64 n, .slice none 0 0, .map (some W.heap.size)] 98) (.cells #[.int .i64 0, .pointer (some ⟨W.heap.size + 1, 0, none⟩), .pointer none] 101)
  obtain ⟨r1, r2, r3⟩ := rho3_at G.ρ W.heap.size M.objs.length
  have hm := h.fresh (.map #[] 0) (.cells #[.int .i64 n, .slice none 0 0, .map (some W.heap.size)] 98) (.cells #[.int .i64 0, .pointer (some ⟨W.heap.size + 1, 0, none⟩), .pointer none] 101)
  have hp := h.plt
  have hb : Below W.heap.size W W3 := by rw [← hW]; exact (((Below.refl _ W).alloc (Nat.le_refl _) _).alloc (by simp) _).alloc (by simp; omega) _
  rw [hW] at n1 n2 n3 n4 hm
  refine ⟨{G with ρ := rho3 G.ρ W.heap.size M.objs.length}, ⟨W.heap.size + 2, W.heap.size + 1, none, 0, 0, W.heap.size, .map []⟩, rfl, rfl, hm, ⟨r3, r2, n3⟩, ?_, hb.mono (by omega), fun hf => hf, Off.since hb, fun b r hbr => rho3_new hbr⟩
  show RwAt W3 B cap _ _ _ _
  exact ⟨n2, r1, map_kept (World.ownsMap_made W _ _ _) (n1.trans (World.alloc_heap_new _ _).symm) (Nat.zero_le _), fun k => empty_at k _, by show 0 ≤ n ∧ n ≤ 1048576; omega⟩
theorem tab_fresh {W : World} {B cap : Nat} {M : PM} {G : GM} (h : MemAt W B cap M G) (st : Bool) {W3 : World} (hW : ((W.alloc (.map #[] 0)).alloc (.cells #[.bool st, .slice none 0 0, .map (some W.heap.size)] 108)).alloc (.cells #[.int .i64 0, .pointer none, .pointer (some ⟨W.heap.size + 1, 0, none⟩)] 101) = W3) :
    ∃ G3 g, G3.p = G.p ∧ g.ptr = W.heap.size + 2 ∧ MemAt W3 B cap M G3 ∧ ShellAt W3 G3.ρ M.objs.length (newTab st) g ∧ BodyAt W3 B cap G3.ρ M.objs.length (newTab st) g ∧ Below B W W3 ∧ (FmAt M G → FmAt M G3) ∧ Sep W W3 G.ρ G3.ρ := by
  obtain ⟨n1, n2, n3, n4⟩ := three_new W (.map #[] 0) (.cells #[.bool st, .slice none 0 0, .map (some W.heap.size)] 108) (.cells #[.int .i64 0, .pointer none, .pointer (some ⟨W.heap.size + 1, 0, none⟩)] 101)
  obtain ⟨r1, r2, r3⟩ := rho3_at G.ρ W.heap.size M.objs.length
  have hm := h.fresh (.map #[] 0) (.cells #[.bool st, .slice none 0 0, .map (some W.heap.size)] 108) (.cells #[.int .i64 0, .pointer none, .pointer (some ⟨W.heap.size + 1, 0, none⟩)] 101)
  have hp := h.plt
  have hb : Below W.heap.size W W3 := by rw [← hW]; exact (((Below.refl _ W).alloc (Nat.le_refl _) _).alloc (by simp) _).alloc (by simp; omega) _
  rw [hW] at n1 n2 n3 n4 hm
  refine ⟨{G with ρ := rho3 G.ρ W.heap.size M.objs.length}, ⟨W.heap.size + 2, W.heap.size + 1, none, 0, 0, W.heap.size, .map []⟩, rfl, rfl, hm, ⟨r3, r2, n3⟩, ?_, hb.mono (by omega), fun hf => hf, Off.since hb, fun b r hbr => rho3_new hbr⟩
  show TabAt W3 B cap _ _ _ _
  exact ⟨n2, World.ownsRow_nil _ _ _ 1, (fun k hk => (by cases hk)), r1, map_kept (World.ownsMap_made W _ _ _) (n1.trans (World.alloc_heap_new _ _).symm) (Nat.zero_le _), fun k => rfl, fun k => empty_at k _, Nat.zero_le _⟩
set_option maxRecDepth 100000 in
theorem slice_any {W : World} {B cap : Nat} {M : PM} {G : GM} (h : MemAt W B cap M G) (hcap : cap ≤ 1099511627776) (n : Int) (st : Bool) (hlay : LayOk B cap M) :
    Calls Try.prog 25 #[.pointer (some ⟨G.p, 0, none⟩), .int .i64 n, .bool st] W (AddPost W B cap M G (sliceM M n st)) := by
  have HM := Lib.hid h
  by_cases h0 : n < 0
  · have HR : RowKit.Hid (sliceM M n st = (M, 0, 2)) := Lib.hid (by unfold sliceM; rw [if_pos (.inl h0)])
    have hd : decide (n < 0) = true := decide_eq_true h0
    clear h
    go_enter Try.func25, Try.ntmps25
    go_wp2_with fail
    go_ret2
    exact ⟨int_end (by rw [HR.out]) (by rw [HR.out]), G, by rw [HR.out]; exact HM.out.mono (Nat.le_succ _), rfl, Below.refl _ _, (fun hf => by rw [HR.out]; exact hf), Sep.since (Below.refl _ _)⟩
  · have hd : decide (n < 0) = false := decide_eq_false h0
    by_cases h1 : 1024 < n
    · have HR : RowKit.Hid (sliceM M n st = (M, 0, 2)) := Lib.hid (by unfold sliceM; rw [if_pos (.inr h1)])
      have hd2 : decide (1024 < n) = true := decide_eq_true h1
      clear h
      go_enter Try.func25, Try.ntmps25
      go_wp2_with fail
      go_ret2
      exact ⟨int_end (by rw [HR.out]) (by rw [HR.out]), G, by rw [HR.out]; exact HM.out.mono (Nat.le_succ _), rfl, Below.refl _ _, (fun hf => by rw [HR.out]; exact hf), Sep.since (Below.refl _ _)⟩
    · have HR : RowKit.Hid (sliceM M n st = addM M (newRow n) st) := Lib.hid (by unfold sliceM; rw [if_neg (by omega)])
      have hd2 : decide (1024 < n) = false := decide_eq_false h1
      have CA : RowKit.Hid (∀ W3, ((W.alloc (.map #[] 0)).alloc (.cells #[.int .i64 n, .slice none 0 0, .map (some W.heap.size)] 98)).alloc (.cells #[.int .i64 0, .pointer (some ⟨W.heap.size + 1, 0, none⟩), .pointer none] 101) = W3 → Calls Try.prog 48 #[.pointer (some ⟨G.p, 0, none⟩), .pointer (some ⟨W.heap.size + 2, 0, none⟩), .bool st] W3 (AddPost W B cap M G (sliceM M n st))) := Lib.hid fun W3 hW => by
        obtain ⟨G3, g, hp, hg, hm, hs, hb, hbl, hfm, hsp⟩ := row_fresh h (by omega) hW
        rw [HR.out, ← hp, ← hg]
        cases st with
        | true => exact (add_st hm hcap hs hb (hlay W3 G3 (newRow n) g hm hs hb rfl)).mono fun e w' ⟨he, G', h1, h2, h3, h4, h5⟩ => ⟨he, G', h1, h2.trans hp, hbl.trans h3, fun hf => h4 (hfm hf), hsp.trans h5⟩
        | false => exact (add_hp hm hcap hs hb rfl).mono fun e w' ⟨he, G', h1, h2, h3, h4, h5⟩ => ⟨he, G', h1, h2.trans hp, hbl.trans h3, fun hf => h4 (hfm hf), hsp.trans h5⟩
      have hmm := @RowKit.run_makeMap Try.prog
      clear h hlay
      go_enter Try.func25, Try.ntmps25
      go_wp2_with (go_at_call 48; refine (CA.out _ rfl).mono ?_; rintro e w' ⟨rfl, hG⟩; have HG := Lib.hid hG; clear hG)
      go_ret2
      exact ⟨rfl, HG.out⟩
set_option maxRecDepth 100000 in
theorem mtable_any {W : World} {B cap : Nat} {M : PM} {G : GM} (h : MemAt W B cap M G) (hcap : cap ≤ 1099511627776) (st : Bool) (hlay : LayOk B cap M) :
    Calls Try.prog 28 #[.pointer (some ⟨G.p, 0, none⟩), .bool st] W (AddPost W B cap M G (tableM M st)) := by
  have CA : RowKit.Hid (∀ W3, ((W.alloc (.map #[] 0)).alloc (.cells #[.bool st, .slice none 0 0, .map (some W.heap.size)] 108)).alloc (.cells #[.int .i64 0, .pointer none, .pointer (some ⟨W.heap.size + 1, 0, none⟩)] 101) = W3 → Calls Try.prog 48 #[.pointer (some ⟨G.p, 0, none⟩), .pointer (some ⟨W.heap.size + 2, 0, none⟩), .bool st] W3 (AddPost W B cap M G (tableM M st))) := Lib.hid fun W3 hW => by
    obtain ⟨G3, g, hp, hg, hm, hs, hb, hbl, hfm, hsp⟩ := tab_fresh h st hW
    rw [← hp, ← hg]
    unfold tableM
    cases st with
    | true => exact (add_st hm hcap hs hb (hlay W3 G3 (newTab true) g hm hs hb rfl)).mono fun e w' ⟨he, G', h1, h2, h3, h4, h5⟩ => ⟨he, G', h1, h2.trans hp, hbl.trans h3, fun hf => h4 (hfm hf), hsp.trans h5⟩
    | false => exact (add_hp hm hcap hs hb rfl).mono fun e w' ⟨he, G', h1, h2, h3, h4, h5⟩ => ⟨he, G', h1, h2.trans hp, hbl.trans h3, fun hf => h4 (hfm hf), hsp.trans h5⟩
  have hmm := @RowKit.run_makeMap Try.prog
  clear h hlay
  go_enter Try.func28, Try.ntmps28
  go_wp2_with (go_at_call 48; refine (CA.out _ rfl).mono ?_; rintro e w' ⟨rfl, hG⟩; have HG := Lib.hid hG; clear hG)
  go_ret2
  exact ⟨rfl, HG.out⟩
end Go.Proofs.Ytnnccahpgailiaa

/- Layer 10: the living call of the statements, walked. -/
namespace Go.Proofs.Ytnnccahpgailiaa
open Go.RowKit (wrap64 intOf Below)
set_option linter.unusedVariables false
set_option linter.unusedSimpArgs false

def lv0 : PM := newM 100
def lv1 : PM := (sliceM lv0 2 false).1
def lv2 : PM := (sliceM lv1 1 true).1
def lv3 : PM := (tableM lv2 false).1
def lv4 : PM := (putM lv3 3 5 7).1
theorem lv_facts : (sliceM lv0 2 false).2 = (1, 0) ∧ (sliceM lv1 1 true).2 = (2, 0) ∧ (tableM lv2 false).2 = (3, 0) ∧ (putM lv3 3 5 7).2 = 0 ∧ lv4.used = 48 ∧ lv4.makes = 2 ∧ lv0.frs = [] ∧ lv1.frs = [] ∧ lv2.frs = [] := by
  refine ⟨by decide, by decide, by decide, by decide, by decide, by decide, by decide, by decide, by decide⟩
set_option maxRecDepth 100000 in
set_option maxHeartbeats 1000000 in
theorem lives10_any (w : World) : Calls Try.prog 21 #[] w fun e w' => e = .returned (.bool true) ∧ Below w.heap.size w w' := by
  obtain ⟨f1, f2, f3, f4, f5, f6, f7, f8, f9⟩ := lv_facts
  obtain ⟨B, hB⟩ : ∃ B, B = w.heap.size := ⟨_, rfl⟩
  have C0 := Lib.hid (new_any 100 w)
  have C1 : RowKit.Hid (∀ u G p, MemAt u B 0 lv0 G → G.p = p → Calls Try.prog 25 #[.pointer (some ⟨p, 0, none⟩), .int .i64 2, .bool false] u fun e w' => e = .returned (.tuple #[.int .i64 1, .int .i64 0]) ∧ ∃ G', MemAt w' B 1 lv1 G' ∧ G'.p = p ∧ Below B u w') := Lib.hid fun u G p h hp => by subst hp; exact (slice_any h (by omega) 2 false (layOk_nil f7)).mono fun e w' ⟨he, G', h1, h2, h3, _⟩ => ⟨by rw [he, f1], G', h1, h2, h3⟩
  have C2 : RowKit.Hid (∀ u G p, MemAt u B 1 lv1 G → G.p = p → Calls Try.prog 25 #[.pointer (some ⟨p, 0, none⟩), .int .i64 1, .bool true] u fun e w' => e = .returned (.tuple #[.int .i64 2, .int .i64 0]) ∧ ∃ G', MemAt w' B 2 lv2 G' ∧ G'.p = p ∧ Below B u w') := Lib.hid fun u G p h hp => by subst hp; exact (slice_any h (by omega) 1 true (layOk_nil f8)).mono fun e w' ⟨he, G', h1, h2, h3, _⟩ => ⟨by rw [he, f2], G', h1, h2, h3⟩
  have C3 : RowKit.Hid (∀ u G p, MemAt u B 2 lv2 G → G.p = p → Calls Try.prog 28 #[.pointer (some ⟨p, 0, none⟩), .bool false] u fun e w' => e = .returned (.tuple #[.int .i64 3, .int .i64 0]) ∧ ∃ G', MemAt w' B 3 lv3 G' ∧ G'.p = p ∧ Below B u w') := Lib.hid fun u G p h hp => by subst hp; exact (mtable_any h (by omega) false (layOk_nil f9)).mono fun e w' ⟨he, G', h1, h2, h3, _⟩ => ⟨by rw [he, f3], G', h1, h2, h3⟩
  have C4 : RowKit.Hid (∀ u G p, MemAt u B 3 lv3 G → G.p = p → Calls Try.prog 29 #[.pointer (some ⟨p, 0, none⟩), .int .i64 3, .int .i64 5, .int .i64 7] u fun e w' => e = .returned (.int .i64 0) ∧ ∃ G', MemAt w' B 4 lv4 G' ∧ G'.p = p ∧ Below B u w') := Lib.hid fun u G p h hp => by subst hp; exact (put_any h (by omega) 3 5 7 (by omega) (by omega) (by omega)).mono fun e w' ⟨he, G', h1, h2, h3, _⟩ => ⟨by rw [he, f4], G', h1, h2, h3⟩
  have C5 : RowKit.Hid (∀ u G p, MemAt u B 4 lv4 G → G.p = p → Calls Try.prog 22 #[.pointer (some ⟨p, 0, none⟩)] u fun e w' => e = .returned (.int .i64 48) ∧ w' = u) := Lib.hid fun u G p h hp => by subst hp; have := used_any h; rw [f5] at this; exact this
  have C6 : RowKit.Hid (∀ u G p, MemAt u B 4 lv4 G → G.p = p → Calls Try.prog 23 #[.pointer (some ⟨p, 0, none⟩)] u fun e w' => e = .returned (.int .i64 2) ∧ w' = u) := Lib.hid fun u G p h hp => by subst hp; have := makes_any h; rw [f6] at this; exact this
  rw [← hB] at C0 ⊢
  clear f1 f2 f3 f4 f5 f6 f7 f8 f9 hB
  go_enter Try.func21, Try.ntmps21
  go_wp2_with (first
    | (go_at_call 17; refine C0.out.mono ?_; rintro e u0 ⟨G0, rfl, hm, hb⟩; obtain ⟨p, hp⟩ : ∃ p, G0.p = p := ⟨_, rfl⟩; have HM0 : RowKit.Hid (MemAt u0 B 0 lv0 G0 ∧ G0.p = p) := Lib.hid ⟨hm, hp⟩; have HB0 := Lib.hid hb; rw [hp]; clear hm hb hp C0)
    | (go_at_call 25; (with_reducible refine (C1.out u0 G0 p HM0.out.1 HM0.out.2).mono ?_); rintro e u1 ⟨rfl, G1, hm, hp, hb⟩; have HM1 : RowKit.Hid (MemAt u1 B 1 lv1 G1 ∧ G1.p = p) := Lib.hid ⟨hm, hp⟩; have HB1 := Lib.hid hb; clear hm hb hp C1)
    | (go_at_call 25; (with_reducible refine (C2.out u1 G1 p HM1.out.1 HM1.out.2).mono ?_); rintro e u2 ⟨rfl, G2, hm, hp, hb⟩; have HM2 : RowKit.Hid (MemAt u2 B 2 lv2 G2 ∧ G2.p = p) := Lib.hid ⟨hm, hp⟩; have HB2 := Lib.hid hb; clear hm hb hp C2)
    | (go_at_call 28; (with_reducible refine (C3.out u2 G2 p HM2.out.1 HM2.out.2).mono ?_); rintro e u3 ⟨rfl, G3, hm, hp, hb⟩; have HM3 : RowKit.Hid (MemAt u3 B 3 lv3 G3 ∧ G3.p = p) := Lib.hid ⟨hm, hp⟩; have HB3 := Lib.hid hb; clear hm hb hp C3)
    | (go_at_call 29; (with_reducible refine (C4.out u3 G3 p HM3.out.1 HM3.out.2).mono ?_); rintro e u4 ⟨rfl, G4, hm, hp, hb⟩; have HM4 : RowKit.Hid (MemAt u4 B 4 lv4 G4 ∧ G4.p = p) := Lib.hid ⟨hm, hp⟩; have HB4 := Lib.hid hb; clear hm hb hp C4)
    | (go_at_call 22; (with_reducible refine (C5.out u4 G4 p HM4.out.1 HM4.out.2).mono ?_); rintro e u5 ⟨rfl, hu⟩; rw [hu]; clear hu u5)
    | (go_at_call 23; (with_reducible refine (C6.out u4 G4 p HM4.out.1 HM4.out.2).mono ?_); rintro e u6 ⟨rfl, hu⟩; rw [hu]; clear hu u6))
  go_ret
  exact ⟨rfl, ((((HB0.out.trans HB1.out).trans HB2.out).trans HB3.out).trans HB4.out)⟩
end Go.Proofs.Ytnnccahpgailiaa
