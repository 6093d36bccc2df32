/- Layer 10: a table's has and put. -/
import Derived.Test.YtgnfinojnmkkkaaQCfgJ
import Derived.Test.YtgnfinojnmkkkaaQT0
import Derived.Maps.AppendAt
import Derived.Laws.Rows
import Derived.Laws.ResultCell
import Derived.WalkSmall
import Derived.Deep.DeepAppendRoom
import Derived.Lib.SliceRun
import Derived.Laws.OwnMore
namespace Go.Proofs.Ytgnfinojnmkkkaa
open Go.RowKit (wrap64 intOf Below)
open Go.Maps (Keyed)
set_option linter.unusedVariables false
set_option linter.unusedSimpArgs false

theorem law64 : Keyed Try.prog 2 := Maps.int_keyed Try.underlying2
theorem zero64 (w : World) : (zeroValue 2).run Try.prog w = .ok (.int .i64 0) w := by kernel_rfl
theorem key64 {k : Int} (hk : -9223372036854775808 ≤ k ∧ k ≤ 9223372036854775807) : keyOf Try.prog 2 (.int .i64 k) = some (.int .i64 k) := Maps.keyOf_int_mk Try.underlying2 (WalkArith.wf_i64 (by omega))
theorem info64 : (Try.prog.info? 2).map (fun i => (i.zero, i.size, i.bytes)) = some (some (.int .i64 0), 1, 8) := by kernel_rfl
section
variable {W : World} {B cap : Nat} {ρ : Rho} {i : Nat} {o : PO} {g : GO}
theorem TabAt.c1 (h : TabAt W B cap ρ i o g) : W.cell? ⟨g.q, 1, none⟩ = some (.slice g.ka g.kn g.kc) := by simp [World.cell?, h.blk]
theorem TabAt.c2 (h : TabAt W B cap ρ i o g) : W.cell? ⟨g.q, 2, none⟩ = some (.map (some g.mp)) := by simp [World.cell?, h.blk]
theorem TabAt.c0 (h : TabAt W B cap ρ i o g) : W.cell? ⟨g.q, 0, none⟩ = some (.bool o.stack) := by simp [World.cell?, h.blk]
end
set_option maxRecDepth 100000 in
theorem thas_any {W : World} {B cap : Nat} {ρ : Rho} {i : Nat} {o : PO} {g : GO} (h : TabAt W B cap ρ i o g) (k : Int) (hk : -9223372036854775808 ≤ k ∧ k ≤ 9223372036854775807) :
    Calls Try.prog 46 #[.pointer (some ⟨g.q, 0, none⟩), .int .i64 k] W fun e w' => e = .returned (.bool (decide (k ∈ o.keys))) ∧ w' = W := by
  have c2 := h.c2
  have HMAP := Lib.hid h.map
  have HKEY := Lib.hid (key64 hk)
  have HR : RowKit.Hid (Maps.has g.D (.int .i64 k) = decide (k ∈ o.keys)) := Lib.hid (h.has k)
  generalize decide (k ∈ o.keys) = bb at *
  clear h
  go_enter Try.func46, Try.ntmps46
  go_wp2_with (at_lookup; refine wpList_lookup_own_ok_int _ rfl _ _ 74 rfl 2 2 .i64 law64 Try.underlying74 Try.underlying2 (zero64 _) g.mp cap g.D rfl HMAP.out _ _ rfl HKEY.out ?_; intro c hat hwc; rw [HR.out])
  go_ret
  exact ⟨rfl, rfl⟩
def keysUp (o : PO) (k : Int) : List Int := if k ∈ o.keys then o.keys else o.keys ++ [k]
def tabUp (o : PO) (k n : Int) : PO := {o with keys := keysUp o k, under := fun x => if x = k then n else o.under x}
theorem keysUp_mem (o : PO) (k x : Int) : x ∈ keysUp o k ↔ x = k ∨ x ∈ o.keys := by
  unfold keysUp
  split
  · rename_i h; exact ⟨.inr, fun hx => hx.elim (fun e => e ▸ h) id⟩
  · rw [List.mem_append, List.mem_singleton]; exact Or.comm
/-- What changes of object i's body. -/
def bodyR (i : Nat) (r : Nat × Nat) : Prop := ¬ (3 ≤ r.1 ∧ r.1 ≤ 5 ∧ r.2 = i)
theorem body_in {t i : Nat} (h1 : 3 ≤ t) (h2 : t ≤ 5) : ¬ bodyR i (t, i) := fun h => h ⟨h1, h2, rfl⟩
structure TabSt (W w' : World) (B cap : Nat) (ρ ρ' : Rho) (i : Nat) (o : PO) (g g' : GO) (k n : Int) : Prop where
  tab : TabAt w' B (cap + 1) ρ' i (tabUp o k n) g'
  ptr : g'.ptr = g.ptr
  q : g'.q = g.q
  ex : Ex ρ ρ'
  new : ∀ b r, ρ' b = some r → ρ b = some r ∨ (W.heap.size ≤ b ∧ b < w'.heap.size)
  kp : Kp ρ (bodyR i) W w'
  bel : Below B W w'
  off : Off (dom ρ) W w'
section
variable {W W2 w3 : World} {B cap : Nat} {ρ ρ' : Rho} {i : Nat} {o : PO} {g : GO} {k n : Int}
/-- The map told anew, behind the keys. -/
theorem TabAt.upd (h : TabAt W B cap ρ i o g) (hq : ρ g.q = some (3, i)) (hr : ∀ b r, ρ b = some r → B ≤ b ∧ b < W.heap.size) {ya : Option Addr} {yn yc : Nat}
    (hb : W2.heap[g.q]? = some (.cells #[.bool o.stack, .slice ya yn yc, .map (some g.mp)] 76 (0, 0))) (hk2 : OwnsI W2 B 2 (.slice ya yn yc) (keysUp o k)) (hrk : RoleS ρ' (.slice ya yn yc) (4, i)) (hex : Ex ρ ρ')
    (hnew : ∀ b r, ρ' b = some r → ρ b = some r ∨ (W.heap.size ≤ b ∧ b < W2.heap.size)) (hkp : Kp ρ (fun r => bodyR i r ∨ r = (5, i)) W W2) (hbel : Below B W W2) (hod : Off (dom ρ) W W2)
    (hm : w3.ownsMap Try.prog 2 (plainElem Try.prog 2) g.mp (cap + 1) (g.D.put (.int .i64 k) (.lit (.int .i64 n)))) (hg : W2.grownBy w3 (some g.mp)) (hmap : Maps.IsMap g.D) (hklen : (keysUp o k).length ≤ cap + 1) :
    ∃ ρ' g', TabSt W w3 B cap ρ ρ' i o g g' k n := by
  have hm2 : ρ' g.mp = some (5, i) := hex _ _ h.rm
  have hq2 : ρ' g.q = some (3, i) := hex _ _ hq
  have hsz2 : W.heap.size ≤ W2.heap.size := hbel.size
  have hlt2 : ∀ b r, ρ' b = some r → b < W2.heap.size := fun b r hbr => by
    rcases hnew b r hbr with h1 | h1
    · have := (hr b r h1).2; omega
    · exact h1.2
  have hne : ∀ b r, ρ' b = some r → r ≠ (5, i) → w3.heap[b]? = W2.heap[b]? := fun b r hbr hn => hg.block b (hlt2 b r hbr) (fun e => by
    cases e
    rw [hm2] at hbr
    exact hn (Option.some.inj hbr).symm)
  have kp3 : Kp ρ' (fun r => r ≠ (5, i)) W2 w3 := hne
  refine ⟨ρ', {g with ka := ya, kn := yn, kc := yc, D := g.D.put (.int .i64 k) (.lit (.int .i64 n))}, ⟨?_, ?_, hrk, hm2, hm, fun x => ?_, fun x => ?_, hklen⟩, rfl, rfl, hex, fun b r hbr => ?_, fun b r hbr hR => ?_, hbel.trans ?_, hod.grown hg (fun j hj => by cases hj; exact .inl ⟨_, h.rm⟩)⟩
  · exact (hne _ _ hq2 (by simp)).trans hb
  · exact row_kept hk2 hrk kp3 (by simp)
  · show Maps.has (g.D.put _ _) _ = decide (x ∈ keysUp o k)
    by_cases e : x = k
    · subst e
      rw [Maps.has_put_same hmap (show WideAt.IsKeyLit (.int .i64 x) from trivial)]
      exact (decide_eq_true ((keysUp_mem o x x).2 (.inl rfl))).symm
    · rw [Maps.has_put_other (by intro h'; cases h'; exact e rfl), h.has x]
      have : (x ∈ keysUp o k) ↔ x ∈ o.keys := by rw [keysUp_mem]; exact ⟨fun h' => h'.resolve_left e, .inr⟩
      exact decide_eq_decide.2 this.symm
  · show (g.D.put _ _).atKey _ _ = .lit (.int .i64 (if x = k then n else o.under x))
    by_cases e : x = k
    · subst e
      rw [if_pos rfl, Maps.atKey_put_same hmap (show WideAt.IsKeyLit (.int .i64 x) from trivial)]
    · rw [if_neg e, Maps.atKey_put_other (by intro h'; cases h'; exact e rfl)]
      exact h.look x
  · rcases hnew b r hbr with h1 | h1
    · exact .inl h1
    · exact .inr ⟨h1.1, Nat.lt_of_lt_of_le h1.2 hg.size⟩
  · have h5 : r ≠ (5, i) := fun e => body_in (i := i) (by omega : 3 ≤ 5) (by omega) (e ▸ hR)
    exact (hne b r (hex _ _ hbr) h5).trans (hkp b r hbr (.inl hR))
  · exact Below.grown (Below.refl B W2) hg (by have := (hr _ _ h.rm).1; have := (hr _ _ h.rm).2; omega) (fun j hj => by cases hj; exact (hr _ _ h.rm).1)
/-- One key more. -/
theorem TabAt.more {w1 : World} {C : Array Value} {ya : Option Addr} {yn yc : Nat} (h : TabAt W B cap ρ i o g) (hq : ρ g.q = some (3, i)) (hr : ∀ b r, ρ b = some r → B ≤ b ∧ b < W.heap.size) (hkn : k ∉ o.keys)
    (hg : (W.alloc (.cells C 2)).grownBy w1 (Value.slice g.ka g.kn g.kc).ownBlock) (ho : OwnsI w1 B 2 (.slice ya yn yc) (o.keys ++ [k])) (hw : ∀ b, (Value.slice ya yn yc).ownBlock = some b → (Value.slice g.ka g.kn g.kc).ownBlock = some b ∨ W.heap.size ≤ b) :
    w1.frozen? ⟨g.q, 1, none⟩ = false ∧ w1.cell? ⟨g.q, 1, none⟩ = some (.slice g.ka g.kn g.kc) ∧ ∃ ρ', (w1.setCell ⟨g.q, 1, none⟩ (.slice ya yn yc)).heap[g.q]? = some (.cells #[.bool o.stack, .slice ya yn yc, .map (some g.mp)] 76 (0, 0)) ∧ OwnsI (w1.setCell ⟨g.q, 1, none⟩ (.slice ya yn yc)) B 2 (.slice ya yn yc) (keysUp o k) ∧ RoleS ρ' (.slice ya yn yc) (4, i) ∧ Ex ρ ρ' ∧
    (∀ b r, ρ' b = some r → ρ b = some r ∨ (W.heap.size ≤ b ∧ b < (w1.setCell ⟨g.q, 1, none⟩ (.slice ya yn yc)).heap.size)) ∧ Kp ρ (fun r => bodyR i r ∨ r = (5, i)) W (w1.setCell ⟨g.q, 1, none⟩ (.slice ya yn yc)) ∧ Below B W (w1.setCell ⟨g.q, 1, none⟩ (.slice ya yn yc)) ∧ Off (dom ρ) W (w1.setCell ⟨g.q, 1, none⟩ (.slice ya yn yc)) ∧ (w1.setCell ⟨g.q, 1, none⟩ (.slice ya yn yc)).ownsMap Try.prog 2 (plainElem Try.prog 2) g.mp cap g.D := by
  have hoff : Off (fun b => (Value.slice g.ka g.kn g.kc).ownBlock = some b) W w1 := ((Off.refl _ W).alloc _).grown hg (fun b hb => .inl hb)
  have hqlt := (hr _ _ hq).2
  have hqne : (Value.slice g.ka g.kn g.kc).ownBlock ≠ some g.q := fun e => by
    have := h.rk _ e
    rw [hq] at this
    simp at this
  have hq1 : w1.heap[g.q]? = some (.cells #[.bool o.stack, .slice g.ka g.kn g.kc, .map (some g.mp)] 76 (0, 0)) := (hoff.block g.q hqlt hqne).trans h.blk
  have hyq : ∀ b, (Value.slice ya yn yc).ownBlock = some b → b ≠ g.q := fun b hb e => by
    rcases hw b hb with h1 | h1
    · exact hqne (e ▸ h1)
    · omega
  have hku : keysUp o k = o.keys ++ [k] := by unfold keysUp; rw [if_neg hkn]
  have hs1 : W.heap.size ≤ w1.heap.size := hoff.size
  have hoff2 : Off (fun b => (Value.slice g.ka g.kn g.kc).ownBlock = some b ∨ b = g.q) W (w1.setCell ⟨g.q, 1, none⟩ (.slice ya yn yc)) := (hoff.mono (fun b _ hb => .inl hb)).setCell (.inl (.inr rfl)) _
  refine ⟨by simp [World.frozen?, hq1], by simp [World.cell?, hq1], fun b => if (Value.slice ya yn yc).ownBlock = some b then some (4, i) else ρ b, ?_, ?_, fun b hb => if_pos hb, fun b r hbr => ?_, fun b r hbr => ?_, fun b r hbr hR => ?_, hoff2.below (by have := (hr _ _ hq).1; omega) (fun b hb => ?_), hoff2.mono (fun b _ hb => hb.elim (fun h' => ⟨_, h.rk b h'⟩) (fun h' => ⟨(3, i), by rw [h']; exact hq⟩)), ?_⟩
  · rw [heap_setCell_same w1 g.q 1 _ _ _ hq1]; rfl
  · rw [hku]
    refine ⟨ho.1, ?_⟩
    rcases ho.2 with hn | ⟨gg, cp, cur, e, hB, hgg, rest⟩
    · exact .inl hn
    · exact .inr ⟨gg, cp, cur, e, hB, (Below.heap_setCell _ _ _ _ (hyq gg (by rw [e]; rfl))).trans hgg, rest⟩
  · show (if (Value.slice ya yn yc).ownBlock = some b then some (4, i) else ρ b) = some r
    by_cases e : (Value.slice ya yn yc).ownBlock = some b
    · rw [if_pos e]
      rcases hw b e with h1 | h1
      · have := h.rk _ h1
        rw [hbr] at this
        exact this.symm
      · have := (hr b r hbr).2; omega
    · rw [if_neg e]; exact hbr
  · have hbr : (if (Value.slice ya yn yc).ownBlock = some b then some (4, i) else ρ b) = some r := hbr
    by_cases e : (Value.slice ya yn yc).ownBlock = some b
    · rw [if_pos e] at hbr
      rcases hw b e with h1 | h1
      · have h2 := h.rk _ h1
        rw [← hbr]; exact .inl h2
      · refine .inr ⟨h1, ?_⟩
        have := (ho.lt b e).2
        simpa [World.setCell] using this
    · rw [if_neg e] at hbr; exact .inl hbr
  · refine hoff2.block b (hr b r hbr).2 (fun hx => ?_)
    rcases hx with hx | hx
    · have := h.rk _ hx
      rw [hbr] at this
      have h4 : r = (4, i) := Option.some.inj this
      rcases hR with hR | hR
      · exact body_in (i := i) (by omega : 3 ≤ 4) (by omega) (h4 ▸ hR)
      · rw [h4] at hR; simp at hR
    · rw [hx, hq] at hbr
      have h3 : r = (3, i) := (Option.some.inj hbr).symm
      rcases hR with hR | hR
      · exact body_in (i := i) (by omega : 3 ≤ 3) (by omega) (h3 ▸ hR)
      · rw [h3] at hR; simp at hR
  · rcases hb with hb | hb
    · exact (h.keys.lt b hb).1
    · rw [hb]; exact (hr _ _ hq).1
  · refine map_kept h.map ?_ (Nat.le_refl _)
    refine hoff2.block g.mp (hr _ _ h.rm).2 (fun hx => ?_)
    rcases hx with hx | hx
    · have := h.rk _ hx
      rw [h.rm] at this; simp at this
    · have := h.rm
      rw [hx, hq] at this; simp at this
end
set_option maxRecDepth 100000 in
set_option maxHeartbeats 1000000 in
theorem tput_any {W : World} {B cap : Nat} {ρ : Rho} {i : Nat} {o : PO} {g : GO} (h : TabAt W B cap ρ i o g) (hq : ρ g.q = some (3, i)) (hr : ∀ b r, ρ b = some r → B ≤ b ∧ b < W.heap.size) (hcap : cap ≤ 1099511627776) (k n : Int) (hk : -9223372036854775808 ≤ k ∧ k ≤ 9223372036854775807) (hn : -9223372036854775808 ≤ n ∧ n ≤ 9223372036854775807) :
    Calls Try.prog 48 #[.pointer (some ⟨g.q, 0, none⟩), .int .i64 k, .int .i64 n] W fun e w' => e = .returned (.tuple #[]) ∧ ∃ ρ' g', TabSt W w' B cap ρ ρ' i o g g' k n := by
  have CH := Lib.hid (thas_any h k hk)
  have HT := Lib.hid h
  have HQ := Lib.hid (And.intro hq hr)
  have HKEY := Lib.hid (key64 hk)
  have HVAL : RowKit.Hid (plainElem (H := Unit) Try.prog 2 (.int .i64 n) = some (.lit (.int .i64 n), [])) := Lib.hid (plainElem_int Try.underlying2 (WalkArith.wf_i64 (by omega)))
  have HIM : RowKit.Hid (Maps.IsMap g.D) := Lib.hid h.map.isMap
  have c1 := h.c1
  have c2 := h.c2
  have HKL : RowKit.Hid ((o.keys.length + 1) * 8 ≤ 140737488355328) := Lib.hid (by have := h.klen; omega)
  have hBW : B ≤ W.heap.size := by have := (hr _ _ hq).1; have := (hr _ _ hq).2; omega
  by_cases hin : k ∈ o.keys
  · rw [decide_eq_true hin] at CH
    have HKU : RowKit.Hid (keysUp o k = o.keys) := Lib.hid (by unfold keysUp; rw [if_pos hin])
    clear h hq hr hin
    go_enter Try.func48, Try.ntmps48
    go_wp2_with (first
      | (go_at_call 46; refine CH.out.mono ?_; rintro e u ⟨rfl, hu⟩; rw [hu]; clear hu u)
      | (at_mapUpdate; refine wpList_mapUpdate_own _ rfl _ _ _ 74 rfl 2 2 law64 Try.underlying74 _ g.mp cap g.D rfl HT.out.map (by unfold maxLen; omega) _ _ _ rfl rfl HKEY.out _ [] HVAL.out ?_; intro w3 hm3 hg3; have HW3 := Lib.hid (And.intro hm3 hg3); clear hm3 hg3))
    go_end0
    exact ⟨rfl, HT.out.upd HQ.out.1 HQ.out.2 HT.out.blk (by rw [HKU.out]; exact HT.out.keys) HT.out.rk (Ex.refl _) (fun b r hbr => .inl hbr) (fun _ _ _ _ => rfl) (Below.refl _ _) (Off.refl _ _) HW3.out.1 HW3.out.2 HIM.out (by rw [HKU.out]; have := HT.out.klen; omega)⟩
  · rw [decide_eq_false hin] at CH
    have HIN := Lib.hid hin
    have HKU : RowKit.Hid (keysUp o k = o.keys ++ [k]) := Lib.hid (by unfold keysUp; rw [if_neg hin])
    clear h hq hr hin
    go_enter Try.func48, Try.ntmps48
    go_wp2_with (first
      | (go_at_call 46; refine CH.out.mono ?_; rintro e u ⟨rfl, hu⟩; rw [hu]; clear hu u)
      | ((with_reducible refine wpList_append_numA _ rfl _ _ 61 rfl 2 Try.underlying61 info64 B (.slice g.ka g.kn g.kc) o.keys ?_ ?_ ?_ _ 1 W.heap.size k ?_ ?_ ?_ ?_ ?_); (next => rfl); (next => exact HT.out.keys); (next => exact hBW); (next => rfl); (next => rfl); (next => rfl); (next => exact HKL.out); intro ya yn yc w1 ho1 hg1 hw1; have HMO := Lib.hid (HT.out.more HQ.out.1 HQ.out.2 HIN.out hg1 ho1 hw1); have hf1 := HMO.out.1; have hc1 := HMO.out.2.1; have hd2 : (w1.setCell ⟨g.q, 1, none⟩ (.slice ya yn yc)).cell? ⟨g.q, 2, none⟩ = some (.map (some g.mp)) := (by obtain ⟨ρ', hb, _⟩ := HMO.out.2.2; simp [World.cell?, hb]); have HM2 : RowKit.Hid ((w1.setCell ⟨g.q, 1, none⟩ (.slice ya yn yc)).ownsMap Try.prog 2 (plainElem Try.prog 2) g.mp cap g.D) := Lib.hid (by obtain ⟨ρ', _, _, _, _, _, _, _, _, hm⟩ := HMO.out.2.2; exact hm); clear ho1 hg1 hw1)
      | (at_mapUpdate; refine wpList_mapUpdate_own _ rfl _ _ _ 74 rfl 2 2 law64 Try.underlying74 _ g.mp cap g.D rfl HM2.out (by unfold maxLen; omega) _ _ _ rfl rfl HKEY.out _ [] HVAL.out ?_; intro w3 hm3 hg3; have HW3 := Lib.hid (And.intro hm3 hg3); clear hm3 hg3))
    go_end0
    obtain ⟨ρ', hb, hk2, hrk, hex, hnew, hkp, hbel, hod, _⟩ := HMO.out.2.2
    exact ⟨rfl, HT.out.upd HQ.out.1 HQ.out.2 hb hk2 hrk hex hnew hkp hbel hod HW3.out.1 HW3.out.2 HIM.out (by rw [HKU.out, List.length_append]; have := HT.out.klen; simp; omega)⟩
end Go.Proofs.Ytgnfinojnmkkkaa

/- Layer 10: package heap's Put, Look, Key and Size. -/
namespace Go.Proofs.Ytgnfinojnmkkkaa
open Go.RowKit (wrap64 intOf Below)
set_option linter.unusedVariables false
set_option linter.unusedSimpArgs false

theorem map_set_same {α β : Type} {f : α → β} : ∀ {l : List α} {i : Nat} {x : α} (h : i < l.length), f x = f l[i] → (l.set i x).map f = l.map f := by
  intro l
  induction l with
  | nil => intro i x h; exact absurd h (by simp)
  | cons y l ih =>
    intro i x h e
    cases i with
    | zero => simp only [List.set_cons_zero, List.map_cons]; rw [show f x = f y from e]
    | succ i => simp only [List.set_cons_succ, List.map_cons]; rw [ih (by simpa using h) (by simpa using e)]
section
variable {W W' : World} {B cap cap' : Nat} {M : PM} {G : GM}
/-- Object i's body is told anew. -/
theorem MemAt.setBody (h : MemAt W B cap M G) {i : Nat} (h1 : i < M.objs.length) (h2 : i < G.gos.length) {o' : PO} {g' : GO} {ρ' : Rho} (hfr : o'.fr = M.objs[i].fr) (htab : o'.tab = M.objs[i].tab) (hptr : g'.ptr = G.gos[i].ptr) (hq : g'.q = G.gos[i].q)
    (hbody : BodyAt W' B cap' ρ' i o' g') (hex : Ex G.ρ ρ') (hnew : ∀ b r, ρ' b = some r → G.ρ b = some r ∨ (W.heap.size ≤ b ∧ b < W'.heap.size)) (hkp : Kp G.ρ (bodyR i) W W') (hsz : W.heap.size ≤ W'.heap.size) (hc : cap ≤ cap') :
    MemAt W' B cap' {M with objs := M.objs.set i o'} {G with gos := G.gos.set i g', ρ := ρ'} := by
  have hB : B ≤ W.heap.size := by have := h.plt; omega
  have hlow : ∀ t j, t < 3 ∨ 5 < t → bodyR i (t, j) := fun t j ht hh => by have := hh.1; have := hh.2.1; simp at *; omega
  have hoth : ∀ t j, j ≠ i → bodyR i (t, j) := fun t j hj hh => hj hh.2.2
  have hmap : (G.gos.set i g').map (·.ptr) = G.gos.map (·.ptr) := map_set_same h2 hptr
  refine ⟨fun b r hbr => ?_, hex _ _ h.rm, (hkp _ _ h.rm (hlow 0 0 (by omega))).trans h.blk, ?_, h.ro.ex hex, ⟨by simp [h.objs.len], fun j k1 k2 => ?_, fun j k1 k2 hg => ?_⟩, row_kept h.fv h.rf hkp (hlow 6 0 (by omega)), h.rf.ex hex, h.flen, h.mlen, fun j k1 k2 => ⟨row_kept (h.fo j k1 k2).1 (h.fo j k1 k2).2 hkp (hlow 7 j (by omega)), (h.fo j k1 k2).2.ex hex⟩, ?_⟩
  · rcases hnew b r hbr with h3 | h3
    · have := h.range b r h3; omega
    · omega
  · show OwnsPt W' B _ ((G.gos.set i g').map (·.ptr))
    rw [hmap]
    exact row_kept h.ov h.ro hkp (hlow 1 0 (by omega))
  · have k1' : j < M.objs.length := by simpa using k1
    have k2' : j < G.gos.length := by simpa using k2
    have hs := h.objs.shell j k1' k2'
    show ShellAt W' ρ' j (M.objs.set i o')[j] (G.gos.set i g')[j]
    by_cases e : i = j
    · subst e
      rw [List.getElem_set_self, List.getElem_set_self]
      refine ⟨by rw [hptr]; exact hex _ _ hs.rp, by rw [hq]; exact hex _ _ hs.rq, ?_⟩
      rw [hptr, hq, hfr, htab]
      exact (hkp _ _ hs.rp (hlow 2 i (by omega))).trans hs.blk
    · rw [List.getElem_set_ne e, List.getElem_set_ne e]
      exact hs.kept hkp (hlow 2 j (by omega)) hex
  · have k1' : j < M.objs.length := by simpa using k1
    have k2' : j < G.gos.length := by simpa using k2
    have hs := h.objs.shell j k1' k2'
    show BodyAt W' B cap' ρ' j (M.objs.set i o')[j] (G.gos.set i g')[j]
    by_cases e : i = j
    · subst e
      rw [List.getElem_set_self, List.getElem_set_self]
      exact hbody
    · have hg' : M.gone (M.objs.set i o')[j] = false := hg
      rw [List.getElem_set_ne e] at hg'
      rw [List.getElem_set_ne e, List.getElem_set_ne e]
      exact (h.objs.body j k1' k2' hg').kept hs hkp (fun t _ _ => hoth t j (fun e' => e e'.symm)) hex hc
  · have hn := h.num.mono hc
    refine ⟨hn.limit, hn.used, hn.makes, hn.entered, by simpa using hn.objs, hn.frs, hn.inc, hn.pos, fun o ho => ?_⟩
    rcases List.mem_or_eq_of_mem_set ho with h3 | h3
    · exact hn.fr o h3
    · rw [h3]
      show 0 ≤ o'.fr ∧ o'.fr ≤ M.entered
      rw [hfr]; exact hn.fr _ (List.getElem_mem h1)
/-- A table that can be asked. -/
theorem MemAt.tabOk (h : MemAt W B cap M G) {r : Int} (ha : ansT M r = 0) : ∃ (i : Nat) (h1 : i < M.objs.length) (h2 : i < G.gos.length), r = (i : Int) + 1 ∧ M.obj r = some M.objs[i] ∧ M.objs[i].tab = true ∧ G.body r = G.gos[i].q ∧ TabAt W B cap G.ρ i M.objs[i] G.gos[i] ∧ G.ρ G.gos[i].q = some (3, i) ∧ tabRes M G r = .pointer (some ⟨G.gos[i].q, 0, none⟩) := by
  cases ho : M.obj r with
  | none => unfold ansT at ha; rw [ho] at ha; simp at ha
  | some o =>
    obtain ⟨i, h1, h2, hri, hoi, _, hbo⟩ := obj_some h.objs.len ho
    have ha0 := ha
    unfold ansT at ha
    rw [ho] at ha
    have ht : o.tab = true := by
      cases ht : o.tab with
      | true => rfl
      | false => simp [ht] at ha
    have hg : M.gone o = false := by
      cases hg : M.gone o with
      | false => rfl
      | true => simp [ht, hg] at ha
    have hb := h.objs.body i h1 h2 (by rw [hoi]; exact hg)
    unfold BodyAt at hb
    rw [hoi, ht] at hb
    exact ⟨i, h1, h2, hri, by rw [hoi], by rw [hoi]; exact ht, hbo, by rw [hoi]; exact hb, (h.objs.shell i h1 h2).rq, by unfold tabRes; rw [if_pos ha0, hbo]; rfl⟩
end
/-- What Look, and Key, tell. -/
def lookM (M : PM) (r k : Int) : Int × Int := if ansT M r = 0 then ((match M.obj r with | some o => o.under k | none => 0), 0) else (0, ansT M r)
def keyM (M : PM) (r j : Int) : Int × Int := if ansT M r = 0 then (match M.obj r with | some o => (if j < 0 ∨ (o.keys.length : Int) ≤ j then (0, 2) else (nth o.keys j.toNat, 0)) | none => (0, 0)) else (0, ansT M r)
theorem int_end {a a' b b' : Int} (h1 : a = a') (h2 : b = b') : Ending.returned (.tuple #[.int .i64 a', .int .i64 b']) = .returned (.tuple #[.int .i64 a, .int .i64 b]) := by rw [h1, h2]
set_option maxRecDepth 100000 in
theorem look_any {W : World} {B cap : Nat} {M : PM} {G : GM} (h : MemAt W B cap M G) (hcap : cap ≤ 1099511627776) (r k : Int) (hr : -9223372036854775808 ≤ r ∧ r ≤ 9223372036854775807) (hk : -9223372036854775808 ≤ k ∧ k ≤ 9223372036854775807) :
    Calls Try.prog 26 #[.pointer (some ⟨G.p, 0, none⟩), .int .i64 r, .int .i64 k] W fun e w' => e = .returned (.tuple #[.int .i64 (lookM M r k).1, .int .i64 (lookM M r k).2]) ∧ Below W.heap.size W w' := by
  have CT := Lib.hid (table_any h hcap r hr)
  by_cases ha : ansT M r = 0
  · obtain ⟨i, h1, h2, hri, ho, ht, hbo, hT, hq, hres⟩ := h.tabOk ha
    rw [hres, ha] at CT
    have HT := Lib.hid hT
    have HM := Lib.hid h
    have hqlt := (h.range _ _ hq).2
    have hc2 := hT.c2
    have HKEY := Lib.hid (key64 hk)
    have HL : RowKit.Hid (∀ c : Int, G.gos[i].D.atKey (.int .i64 k) (.lit (.int .i64 0)) = .lit (.int .i64 c) → (lookM M r k).1 = c ∧ (lookM M r k).2 = 0) := Lib.hid fun c hc => by
      have h3 := hT.look k
      rw [hc] at h3
      unfold lookM
      rw [if_pos ha, ho]
      have h4 : c = M.objs[i].under k := by injection h3 with h5; injection h5
      exact ⟨h4.symm, rfl⟩
    have HMAP : RowKit.Hid (∀ u, Below W.heap.size W u → u.ownsMap Try.prog 2 (plainElem Try.prog 2) G.gos[i].mp cap G.gos[i].D) := Lib.hid fun u hb => map_kept hT.map (hb.block _ (h.range _ _ hT.rm).2) (Nat.le_refl _)
    generalize G.gos[i] = g at *
    clear h ha ho ht hbo hT hq hres hri
    go_enter Try.func26, Try.ntmps26
    go_wp2_with (first
      | (go_at_call 45; refine CT.out.mono ?_; rintro e u ⟨rfl, hb⟩; have HB := Lib.hid hb; have hd2 := (hb.cell (p := ⟨g.q, 2, none⟩) hqlt).trans hc2; clear hb)
      | (at_lookup; refine wpList_lookup_own_int _ rfl _ _ 74 rfl 2 2 .i64 law64 Try.underlying74 Try.underlying2 (zero64 _) g.mp cap g.D rfl (HMAP.out _ HB.out) _ _ rfl HKEY.out ?_; intro c hat hwc; have HC := Lib.hid (HL.out c hat); clear hat hwc))
    go_ret2
    exact ⟨int_end HC.out.1 HC.out.2, HB.out⟩
  · have hL : lookM M r k = (0, ansT M r) := by unfold lookM; rw [if_neg ha]
    have HL := Lib.hid hL
    have HX : RowKit.Hid (tabRes M G r = .pointer none) := Lib.hid (by unfold tabRes; rw [if_neg ha])
    rw [HX.out] at CT
    obtain ⟨x, hx⟩ : ∃ x, ansT M r = x := ⟨_, rfl⟩
    have hxb : (x != 0) = true := by rw [← hx, bne_iff_ne]; exact ha
    rw [hx] at CT HL
    clear h ha hL hx
    go_enter Try.func26, Try.ntmps26
    go_wp2_with (go_at_call 45; refine CT.out.mono ?_; rintro e u ⟨rfl, hb⟩; have HB := Lib.hid hb; clear hb)
    go_ret2
    exact ⟨int_end (by rw [HL.out]) (by rw [HL.out]), HB.out⟩
set_option maxRecDepth 100000 in
theorem key_any {W : World} {B cap : Nat} {M : PM} {G : GM} (h : MemAt W B cap M G) (hcap : cap ≤ 1099511627776) (r j : Int) (hr : -9223372036854775808 ≤ r ∧ r ≤ 9223372036854775807) (hj : -9223372036854775808 ≤ j ∧ j ≤ 9223372036854775807) :
    Calls Try.prog 25 #[.pointer (some ⟨G.p, 0, none⟩), .int .i64 r, .int .i64 j] W fun e w' => e = .returned (.tuple #[.int .i64 (keyM M r j).1, .int .i64 (keyM M r j).2]) ∧ Below W.heap.size W w' := by
  have CT := Lib.hid (table_any h hcap r hr)
  by_cases ha : ansT M r = 0
  · obtain ⟨i, h1, h2, hri, ho, ht, hbo, hT, hq, hres⟩ := h.tabOk ha
    rw [hres, ha] at CT
    have hqlt := (h.range _ _ hq).2
    have hc1 := hT.c1
    have hrd : NumsAt W G.gos[i].ka G.gos[i].kn M.objs[i].keys := OwnsI.read hT.keys
    have HRD := Lib.hid hrd
    have hkl := hrd.1
    have hkc : G.gos[i].kn ≤ 1099511627776 := by have := hT.klen; omega
    have HK : RowKit.Hid (keyM M r j = (if j < 0 ∨ (M.objs[i].keys.length : Int) ≤ j then (0, 2) else (nth M.objs[i].keys j.toNat, 0))) := Lib.hid (by unfold keyM; rw [if_pos ha, ho])
    generalize G.gos[i] = g at *
    generalize M.objs[i] = o at *
    clear h ha ho ht hbo hT hq hres hri
    by_cases h0 : j < 0
    · have HR : RowKit.Hid ((keyM M r j).1 = 0 ∧ (keyM M r j).2 = 2) := Lib.hid (by rw [HK.out, if_pos (.inl h0)]; exact ⟨rfl, rfl⟩)
      have hd : decide (j < 0) = true := decide_eq_true h0
      go_enter Try.func25, Try.ntmps25
      go_wp2_with (go_at_call 45; refine CT.out.mono ?_; rintro e u ⟨rfl, hb⟩; have HB := Lib.hid hb; have hd1 := (hb.cell (p := ⟨g.q, 1, none⟩) hqlt).trans hc1; clear hb)
      go_ret2
      exact ⟨int_end HR.out.1 HR.out.2, HB.out⟩
    · have hd : decide (j < 0) = false := decide_eq_false h0
      by_cases h3 : (g.kn : Int) ≤ j
      · have HR : RowKit.Hid ((keyM M r j).1 = 0 ∧ (keyM M r j).2 = 2) := Lib.hid (by rw [HK.out, if_pos (.inr (by omega))]; exact ⟨rfl, rfl⟩)
        have hd2 : decide ((g.kn : Int) ≤ j) = true := decide_eq_true h3
        clear hkl
        go_enter Try.func25, Try.ntmps25
        go_wp2_with (go_at_call 45; refine CT.out.mono ?_; rintro e u ⟨rfl, hb⟩; have HB := Lib.hid hb; have hd1 := (hb.cell (p := ⟨g.q, 1, none⟩) hqlt).trans hc1; clear hb)
        go_ret2
        exact ⟨int_end HR.out.1 HR.out.2, HB.out⟩
      · have hd2 : decide ((g.kn : Int) ≤ j) = false := decide_eq_false h3
        obtain ⟨n, rfl⟩ : ∃ n : Nat, j = n := ⟨j.toNat, by omega⟩
        have hnl : n < o.keys.length := by omega
        have HR : RowKit.Hid ((keyM M r (n : Int)).1 = nth o.keys n ∧ (keyM M r (n : Int)).2 = 0) := Lib.hid (by rw [HK.out, if_neg (by omega)]; exact ⟨rfl, rfl⟩)
        obtain ⟨gb, off, e, hgb, hcs⟩ := hrd.2 (by omega)
        have hcell : W.cell? ⟨gb, off + n, none⟩ = some (.int .i64 (nth o.keys n)) := by rw [hcs n hnl, nth_is hnl]; rfl
        rw [e] at hc1
        have hn0 : (0 : Int) ≤ (n : Int) := by omega
        have hn1 : (n : Int) < (g.kn : Int) := by omega
        generalize nth o.keys n = y at *
        clear hkl hcs hrd e h3 h0
        go_enter Try.func25, Try.ntmps25
        go_wp2_with (go_at_call 45; refine CT.out.mono ?_; rintro e u ⟨rfl, hb⟩; have HB := Lib.hid hb; have hd1 := (hb.cell (p := ⟨g.q, 1, none⟩) hqlt).trans hc1; have hdc := (hb.cell (p := ⟨gb, off + n, none⟩) hgb).trans hcell; clear hb)
        go_ret2
        exact ⟨int_end HR.out.1 HR.out.2, HB.out⟩
  · have hL : keyM M r j = (0, ansT M r) := by unfold keyM; rw [if_neg ha]
    have HL := Lib.hid hL
    have HX : RowKit.Hid (tabRes M G r = .pointer none) := Lib.hid (by unfold tabRes; rw [if_neg ha])
    rw [HX.out] at CT
    obtain ⟨x, hx⟩ : ∃ x, ansT M r = x := ⟨_, rfl⟩
    have hxb : (x != 0) = true := by rw [← hx, bne_iff_ne]; exact ha
    rw [hx] at CT HL
    clear h ha hL hx
    go_enter Try.func25, Try.ntmps25
    go_wp2_with (go_at_call 45; refine CT.out.mono ?_; rintro e u ⟨rfl, hb⟩; have HB := Lib.hid hb; clear hb)
    go_ret2
    exact ⟨int_end (by rw [HL.out]) (by rw [HL.out]), HB.out⟩
end Go.Proofs.Ytgnfinojnmkkkaa

/- Layer 10: package heap's Put and Size. -/
namespace Go.Proofs.Ytgnfinojnmkkkaa
open Go.RowKit (wrap64 intOf Below)
set_option linter.unusedVariables false
set_option linter.unusedSimpArgs false

/-- What the frames' rows of objects hold. -/
def FmAt (M : PM) (G : GM) : Prop := ∀ j (h1 : j < M.frs.length) (h2 : j < G.fms.length), G.fms[j].length ≤ M.objs.length ∧ ∀ x, x ∈ G.fms[j] ↔ ∃ i, ∃ (k1 : i < M.objs.length) (k2 : i < G.gos.length), G.gos[i].ptr = x ∧ M.objs[i].fr = M.frs[j]
theorem FmAt.body {M : PM} {G : GM} (hf : FmAt M G) {i : Nat} (h1 : i < M.objs.length) (h2 : i < G.gos.length) {o : PO} {g : GO} (hfr : o.fr = M.objs[i].fr) (hp : g.ptr = G.gos[i].ptr) {ρ' : Rho} : FmAt {M with objs := M.objs.set i o} {G with gos := G.gos.set i g, ρ := ρ'} := by
  intro j k1 k2
  obtain ⟨h3, h4⟩ := hf j k1 k2
  refine ⟨by show _ ≤ (M.objs.set i o).length; rw [List.length_set]; exact h3, fun x => ?_⟩
  show x ∈ G.fms[j] ↔ ∃ q, ∃ (k1 : q < (M.objs.set i o).length) (k2 : q < (G.gos.set i g).length), (G.gos.set i g)[q].ptr = x ∧ (M.objs.set i o)[q].fr = M.frs[j]
  rw [h4 x]
  have e : ∀ q (a1 : q < M.objs.length) (a2 : q < G.gos.length), ((G.gos.set i g)[q]'(by simpa using a2)).ptr = G.gos[q].ptr ∧ ((M.objs.set i o)[q]'(by simpa using a1)).fr = M.objs[q].fr := fun q a1 a2 => by
    by_cases e : i = q
    · subst e; rw [List.getElem_set_self, List.getElem_set_self]; exact ⟨hp, hfr⟩
    · rw [List.getElem_set_ne e, List.getElem_set_ne e]; exact ⟨rfl, rfl⟩
  constructor
  · rintro ⟨q, a1, a2, h5, h6⟩
    exact ⟨q, by simpa using a1, by simpa using a2, (e q a1 a2).1.trans h5, (e q a1 a2).2.trans h6⟩
  · rintro ⟨q, a1, a2, h5, h6⟩
    have a1' : q < M.objs.length := by simpa using a1
    have a2' : q < G.gos.length := by simpa using a2
    exact ⟨q, a1', a2', (e q a1' a2').1.symm.trans h5, (e q a1' a2').2.symm.trans h6⟩
theorem FmAt.take {M : PM} {G : GM} (hf : FmAt M G) (n : Int) : FmAt (if fits M n then {M with used := M.used + n} else M) G := by
  split
  · exact hf
  · exact hf
/-- What Put does, and answers. -/
def putO (M : PM) (i : Nat) (o : PO) (k n : Int) : PM := {M with objs := M.objs.set i (tabUp o k n)}
def putM (M : PM) (r k n : Int) : PM × Int :=
  if ansT M r = 0 then
    (match M.obj r with
    | some o => (if k ∈ o.keys ∨ o.stack = true then (putO M (r - 1).toNat o k n, 0) else (if fits M 16 then (putO (takeM M 16) (r - 1).toNat o k n, 0) else (M, 4)))
    | none => (M, 0))
  else (M, ansT M r)
def PutPost (W : World) (B cap : Nat) (M : PM) (G : GM) (r k n : Int) (e : Ending) (w' : World) : Prop := e = .returned (.int .i64 (putM M r k n).2) ∧ ∃ G', MemAt w' B (cap + 1) (putM M r k n).1 G' ∧ G'.p = G.p ∧ Below B W w' ∧ Sep W w' G.ρ G'.ρ ∧ (FmAt M G → FmAt (putM M r k n).1 G')
section
variable {W u w' : World} {B cap : Nat} {M : PM} {G : GM}
theorem takeM_objs (M : PM) (n : Int) : (takeM M n).objs = M.objs ∧ (takeM M n).frs = M.frs := by unfold takeM; split <;> exact ⟨rfl, rfl⟩
/-- A table's put, told of the memory. -/
theorem MemAt.putTab (h : MemAt u B cap M G) {i : Nat} (h1 : i < M.objs.length) (h2 : i < G.gos.length) (ht : M.objs[i].tab = true) {k n : Int} {ρ' : Rho} {g' : GO} (hs : TabSt u w' B cap G.ρ ρ' i M.objs[i] G.gos[i] g' k n) : ∃ G', MemAt w' B (cap + 1) (putO M i M.objs[i] k n) G' ∧ G'.p = G.p ∧ Sep u w' G.ρ G'.ρ ∧ (FmAt M G → FmAt (putO M i M.objs[i] k n) G') :=
  ⟨_, h.setBody h1 h2 (o' := tabUp M.objs[i] k n) (g' := g') (ρ' := ρ') rfl rfl hs.ptr hs.q (by
    have e : (tabUp M.objs[i] k n).tab = true := ht
    unfold BodyAt
    rw [e]
    exact hs.tab) hs.ex hs.new hs.kp hs.bel.size (Nat.le_succ _), rfl, ⟨hs.off, fun b r hr => (hs.new b r hr).imp (fun h' => ⟨r, h'⟩) (fun h' => h'.1)⟩, fun hf => FmAt.body (o := tabUp M.objs[i] k n) hf h1 h2 rfl hs.ptr⟩
end
set_option maxRecDepth 100000 in
set_option maxHeartbeats 1000000 in
theorem put_any {W : World} {B cap : Nat} {M : PM} {G : GM} (h : MemAt W B cap M G) (hcap : cap ≤ 1099511627776) (r k n : Int) (hr : -9223372036854775808 ≤ r ∧ r ≤ 9223372036854775807) (hk : -9223372036854775808 ≤ k ∧ k ≤ 9223372036854775807) (hn : -9223372036854775808 ≤ n ∧ n ≤ 9223372036854775807) :
    Calls Try.prog 27 #[.pointer (some ⟨G.p, 0, none⟩), .int .i64 r, .int .i64 k, .int .i64 n] W (PutPost W B cap M G r k n) := by
  have CT := Lib.hid (table_any h hcap r hr)
  have HB0 : RowKit.Hid (B ≤ W.heap.size) := Lib.hid (by have := h.plt; omega)
  by_cases ha : ansT M r = 0
  · obtain ⟨i, h1, h2, hri, ho, ht, hbo, hT, hq, hres⟩ := h.tabOk ha
    rw [hres, ha] at CT
    have hri2 : (r - 1).toNat = i := by omega
    have HM := Lib.hid h
    have HI := Lib.hid (And.intro h1 h2)
    have HTT := Lib.hid ht
    have hqlt := (h.range _ _ hq).2
    have hc0 := hT.c0
    -- the table, wherever the memory still is what it was
    have HTB : RowKit.Hid (∀ (u : World) (M' : PM), MemAt u B cap M' G → M'.objs = M.objs → M'.frs = M.frs → TabAt u B cap G.ρ i M.objs[i] G.gos[i]) := Lib.hid fun u M' hu he hf => by
      have hg : M'.gone M.objs[i] = false := by
        unfold ansT at ha
        rw [ho] at ha
        cases hg : M.gone M.objs[i] with
        | true => simp [ht, hg] at ha
        | false => unfold PM.gone at hg ⊢; rw [hf]; exact hg
      have hb := hu.objs.body i (by rw [he]; exact h1) h2 (by simp only [he]; exact hg)
      unfold BodyAt at hb
      simp only [he] at hb
      rw [ht] at hb
      exact hb
    have HQ := Lib.hid hq
    have HPM : RowKit.Hid (putM M r k n = (if k ∈ M.objs[i].keys ∨ M.objs[i].stack = true then (putO M i M.objs[i] k n, 0) else (if fits M 16 then (putO (takeM M 16) i M.objs[i] k n, 0) else (M, 4)))) := Lib.hid (by unfold putM; rw [if_pos ha, ho, hri2])
    have CHA : RowKit.Hid (∀ u, Below W.heap.size W u → Calls Try.prog 46 #[.pointer (some ⟨G.gos[i].q, 0, none⟩), .int .i64 k] u fun e w' => e = .returned (.bool (decide (k ∈ M.objs[i].keys))) ∧ w' = u) := Lib.hid fun u hu => thas_any (HTB.out u M (HM.out.since hu) rfl rfl) k hk
    have CPU : RowKit.Hid (∀ (u : World) (M' : PM), MemAt u B cap M' G → M'.objs = M.objs → M'.frs = M.frs → Calls Try.prog 48 #[.pointer (some ⟨G.gos[i].q, 0, none⟩), .int .i64 k, .int .i64 n] u fun e w' => e = .returned (.tuple #[]) ∧ ∃ ρ' g', TabSt u w' B cap G.ρ ρ' i M.objs[i] G.gos[i] g' k n) := Lib.hid fun u M' hu he hf => tput_any (HTB.out u M' hu he hf) HQ.out hu.range hcap k n hk hn
    have CTA : RowKit.Hid (∀ u, Below W.heap.size W u → Calls Try.prog 47 #[.pointer (some ⟨G.p, 0, none⟩), .int .i64 16] u fun e w' => e = .returned (.bool (fits M 16)) ∧ MemAt w' B cap (takeM M 16) G ∧ Below B u w' ∧ Sep u w' G.ρ G.ρ) := Lib.hid fun u hu => (take_any (HM.out.since hu) 16 (by omega)).mono fun e w' h => ⟨h.1, h.2.1, h.2.2.1, h.2.2.2.mono (fun b _ hb => ⟨(0, 0), by rw [hb]; exact HM.out.rm⟩), fun b r hr => .inl ⟨r, hr⟩⟩
    have HPT : RowKit.Hid (∀ (u w' : World) (M' : PM), MemAt u B cap M' G → M'.objs = M.objs → (∃ ρ' g', TabSt u w' B cap G.ρ ρ' i M.objs[i] G.gos[i] g' k n) → ∃ G', MemAt w' B (cap + 1) (putO M' i M.objs[i] k n) G' ∧ G'.p = G.p ∧ Below B u w' ∧ Sep u w' G.ρ G'.ρ ∧ (FmAt M' G → FmAt (putO M' i M.objs[i] k n) G')) := Lib.hid fun u w' M' hu he hs => by
      obtain ⟨ρ', g', hs⟩ := hs
      have h1' : i < M'.objs.length := by rw [he]; exact HI.out.1
      have e2 : M'.objs[i] = M.objs[i] := by simp only [he]
      rw [← e2] at hs ⊢
      obtain ⟨G', hG', hp, hsep, hfm⟩ := hu.putTab h1' HI.out.2 (by rw [e2]; exact HTT.out) hs
      exact ⟨G', hG', hp, hs.bel, hsep, hfm⟩
    obtain ⟨q, hqe⟩ : ∃ q, G.gos[i].q = q := ⟨_, rfl⟩
    obtain ⟨st, hst⟩ : ∃ st, M.objs[i].stack = st := ⟨_, rfl⟩
    rw [hqe] at CT hqlt hc0 CHA CPU
    rw [hst] at hc0 HPM
    by_cases hin : k ∈ M.objs[i].keys
    · have HP2 : RowKit.Hid (putM M r k n = (putO M i M.objs[i] k n, 0)) := Lib.hid (by rw [HPM.out, if_pos (.inl hin)])
      rw [decide_eq_true hin] at CHA
      clear h ha ho ht hbo hT hq hres hri hri2 hin hst hqe
      go_enter Try.func27, Try.ntmps27
      go_wp2_with (first
        | (go_at_call 45; refine CT.out.mono ?_; rintro e u ⟨rfl, hb⟩; have HB := Lib.hid hb; have hd0 := (hb.cell (p := ⟨q, 0, none⟩) hqlt).trans hc0; clear hb)
        | (go_at_call 46; (with_reducible refine (CHA.out _ HB.out).mono ?_); rintro e u2 ⟨rfl, hu⟩; rw [hu]; clear hu u2)
        | (go_at_call 48; refine (CPU.out _ M (HM.out.since HB.out) rfl rfl).mono ?_; rintro e u3 ⟨rfl, hs⟩; have HS := Lib.hid hs; clear hs))
      go_ret
      obtain ⟨G', hG, hp, hb, hsep, hfm⟩ := HPT.out _ _ M (HM.out.since HB.out) rfl HS.out
      exact ⟨by rw [HP2.out]; rfl, G', by rw [HP2.out]; exact hG, hp, (HB.out.mono HB0.out).trans hb, (Sep.since HB.out).trans hsep, fun hf => by rw [HP2.out]; exact hfm hf⟩
    · rw [decide_eq_false hin] at CHA
      cases st with
      | true =>
        have HP2 : RowKit.Hid (putM M r k n = (putO M i M.objs[i] k n, 0)) := Lib.hid (by rw [HPM.out, if_pos (.inr rfl)])
        clear h ha ho ht hbo hT hq hres hri hri2 hin hst hqe
        go_enter Try.func27, Try.ntmps27
        go_wp2_with (first
          | (go_at_call 45; refine CT.out.mono ?_; rintro e u ⟨rfl, hb⟩; have HB := Lib.hid hb; have hd0 := (hb.cell (p := ⟨q, 0, none⟩) hqlt).trans hc0; clear hb)
          | (go_at_call 46; (with_reducible refine (CHA.out _ HB.out).mono ?_); rintro e u2 ⟨rfl, hu⟩; rw [hu]; clear hu u2)
          | (go_at_call 48; refine (CPU.out _ M (HM.out.since HB.out) rfl rfl).mono ?_; rintro e u3 ⟨rfl, hs⟩; have HS := Lib.hid hs; clear hs))
        go_ret
        obtain ⟨G', hG, hp, hb, hsep, hfm⟩ := HPT.out _ _ M (HM.out.since HB.out) rfl HS.out
        exact ⟨by rw [HP2.out]; rfl, G', by rw [HP2.out]; exact hG, hp, (HB.out.mono HB0.out).trans hb, (Sep.since HB.out).trans hsep, fun hf => by rw [HP2.out]; exact hfm hf⟩
      | false =>
        cases hf : fits M 16 with
        | true =>
          have HP2 : RowKit.Hid (putM M r k n = (putO (takeM M 16) i M.objs[i] k n, 0)) := Lib.hid (by rw [HPM.out, if_neg (by simp [hin]), if_pos hf])
          rw [hf] at CTA
          clear h ha ho ht hbo hT hq hres hri hri2 hin hst hqe hf
          go_enter Try.func27, Try.ntmps27
          go_wp2_with (first
            | (go_at_call 45; refine CT.out.mono ?_; rintro e u ⟨rfl, hb⟩; have HB := Lib.hid hb; have hd0 := (hb.cell (p := ⟨q, 0, none⟩) hqlt).trans hc0; clear hb)
            | (go_at_call 46; (with_reducible refine (CHA.out _ HB.out).mono ?_); rintro e u2 ⟨rfl, hu⟩; rw [hu]; clear hu u2)
            | (go_at_call 47; (with_reducible refine (CTA.out _ HB.out).mono ?_); rintro e u4 ⟨rfl, hm, hb, hsp⟩; have HM4 := Lib.hid hm; have HB4 := Lib.hid hb; have HS4 := Lib.hid hsp; clear hm hb hsp)
            | (go_at_call 48; refine (CPU.out _ (takeM M 16) HM4.out (takeM_objs M 16).1 (takeM_objs M 16).2).mono ?_; rintro e u3 ⟨rfl, hs⟩; have HS := Lib.hid hs; clear hs))
          go_ret
          obtain ⟨G', hG, hp, hb, hsep, hfm⟩ := HPT.out _ _ (takeM M 16) HM4.out (takeM_objs M 16).1 HS.out
          exact ⟨by rw [HP2.out]; rfl, G', by rw [HP2.out]; exact hG, hp, ((HB.out.mono HB0.out).trans HB4.out).trans hb, ((Sep.since HB.out).trans HS4.out).trans hsep, fun hf => by rw [HP2.out]; exact hfm (hf.take 16)⟩
        | false =>
          have HP2 : RowKit.Hid (putM M r k n = (M, 4)) := Lib.hid (by rw [HPM.out, if_neg (by simp [hin]), if_neg (by rw [hf]; simp)])
          have HTK : RowKit.Hid (takeM M 16 = M) := Lib.hid (by unfold takeM; rw [if_neg (by rw [hf]; simp)])
          rw [hf] at CTA
          clear h ha ho ht hbo hT hq hres hri hri2 hin hst hqe hf
          go_enter Try.func27, Try.ntmps27
          go_wp2_with (first
            | (go_at_call 45; refine CT.out.mono ?_; rintro e u ⟨rfl, hb⟩; have HB := Lib.hid hb; have hd0 := (hb.cell (p := ⟨q, 0, none⟩) hqlt).trans hc0; clear hb)
            | (go_at_call 46; (with_reducible refine (CHA.out _ HB.out).mono ?_); rintro e u2 ⟨rfl, hu⟩; rw [hu]; clear hu u2)
            | (go_at_call 47; (with_reducible refine (CTA.out _ HB.out).mono ?_); rintro e u4 ⟨rfl, hm, hb, hsp⟩; have HM4 := Lib.hid hm; have HB4 := Lib.hid hb; have HS4 := Lib.hid hsp; clear hm hb hsp))
          go_ret
          exact ⟨by rw [HP2.out]; rfl, G, by rw [HP2.out]; have h5 := HM4.out; rw [HTK.out] at h5; exact h5.mono (Nat.le_succ _), rfl, (HB.out.mono HB0.out).trans HB4.out, (Sep.since HB.out).trans HS4.out, fun hf => by rw [HP2.out]; exact hf⟩
  · have hL : putM M r k n = (M, ansT M r) := by unfold putM; rw [if_neg ha]
    have HL := Lib.hid hL
    have HX : RowKit.Hid (tabRes M G r = .pointer none) := Lib.hid (by unfold tabRes; rw [if_neg ha])
    rw [HX.out] at CT
    have HM := Lib.hid h
    obtain ⟨x, hx⟩ : ∃ x, ansT M r = x := ⟨_, rfl⟩
    have hxb : (x != 0) = true := by rw [← hx, bne_iff_ne]; exact ha
    rw [hx] at CT HL
    clear h ha hL hx
    go_enter Try.func27, Try.ntmps27
    go_wp2_with (go_at_call 45; refine CT.out.mono ?_; rintro e u ⟨rfl, hb⟩; have HB := Lib.hid hb; clear hb)
    go_ret
    exact ⟨by rw [HL.out]; rfl, G, by rw [HL.out]; exact (HM.out.since HB.out).mono (Nat.le_succ _), rfl, HB.out.mono HB0.out, Sep.since HB.out, fun hf => by rw [HL.out]; exact hf⟩
/-- How many keys, or values, there are. -/
def sizeM (M : PM) (r : Int) : Int × Int := match M.obj r with | none => (0, 6) | some o => if M.gone o then (0, 5) else (if o.tab then (o.keys.length, 0) else (o.size, 0))
set_option maxRecDepth 100000 in
theorem size_any {W : World} {B cap : Nat} {M : PM} {G : GM} (h : MemAt W B cap M G) (hcap : cap ≤ 1099511627776) (r : Int) (hr : -9223372036854775808 ≤ r ∧ r ≤ 9223372036854775807) :
    Calls Try.prog 23 #[.pointer (some ⟨G.p, 0, none⟩), .int .i64 r] W fun e w' => e = .returned (.tuple #[.int .i64 (sizeM M r).1, .int .i64 (sizeM M r).2]) ∧ Below W.heap.size W w' := by
  have CO := Lib.hid (object_any h r hr)
  cases ho : M.obj r with
  | none =>
    have HA : RowKit.Hid (sizeM M r = (0, 6)) := Lib.hid (by unfold sizeM; rw [ho])
    rw [obj_none ho] at CO
    clear h ho
    go_enter Try.func23, Try.ntmps23
    go_wp2_with (go_at_call 40; refine CO.out.mono ?_; rintro e u ⟨rfl, hu⟩; rw [hu]; clear hu u)
    go_ret2
    exact ⟨int_end (by rw [HA.out]) (by rw [HA.out]), Below.refl _ _⟩
  | some o =>
    obtain ⟨i, h1, h2, hri, hoi, hob, hbo⟩ := obj_some h.objs.len ho
    obtain ⟨hx, hx0, hx1, hx2⟩ := h.shellCells h1 h2
    have CG := Lib.hid (gone_o_any h hcap i h1 h2)
    rw [hob] at CO
    rw [hoi] at hx1 hx2 CG
    unfold ptrV at CO hx1 hx2
    have hs := h.objs.shell i h1 h2
    have hqlt := (h.range _ _ hs.rq).2
    cases hg : M.gone o with
    | true =>
      have HA : RowKit.Hid (sizeM M r = (0, 5)) := Lib.hid (by unfold sizeM; rw [ho]; simp [hg])
      rw [hg] at CG
      generalize G.gos[i].ptr = x at *
      clear h ho hob hbo hoi hx0 hx1 hx2 hri hg hs
      go_enter Try.func23, Try.ntmps23
      go_wp2_with (first
        | (go_at_call 40; refine CO.out.mono ?_; rintro e u ⟨rfl, hu⟩; rw [hu]; clear hu u)
        | (go_at_call 41; refine CG.out.mono ?_; rintro e u ⟨rfl, hb⟩; have HB := Lib.hid hb; clear hb))
      go_ret2
      exact ⟨int_end (by rw [HA.out]) (by rw [HA.out]), HB.out⟩
    | false =>
      rw [hg] at CG
      have hbd := h.objs.body i h1 h2 (by rw [hoi]; exact hg)
      unfold BodyAt at hbd
      rw [hoi] at hbd
      have CS : RowKit.Hid (∀ u, Below W.heap.size W u → Calls Try.prog 42 #[.pointer (some ⟨G.gos[i].ptr, 0, none⟩)] u fun e w' => e = .returned (.int .i64 (sizeM M r).1) ∧ w' = u) := Lib.hid fun u hu => by
        cases ht : o.tab with
        | true =>
          rw [ht] at hbd hx1 hx2
          simp only [if_true] at hbd hx1 hx2
          have hrd : NumsAt W G.gos[i].ka G.gos[i].kn o.keys := OwnsI.read hbd.keys
          have e1 : (sizeM M r).1 = (G.gos[i].kn : Int) := by unfold sizeM; rw [ho]; simp [hg, ht, hrd.1]
          rw [e1]
          exact sizetab_any (by have := hrd.1; have := hbd.klen; omega) ((hu.cell (p := ⟨_, 2, none⟩) hx).trans hx2) ((hu.cell (p := ⟨_, 1, none⟩) hqlt).trans hbd.c1)
        | false =>
          rw [ht] at hbd hx1 hx2
          simp only [Bool.false_eq_true, if_false] at hbd hx1 hx2
          have e1 : (sizeM M r).1 = o.size := by unfold sizeM; rw [ho]; simp [hg, ht]
          rw [e1]
          exact sizerow_any ((hu.cell (p := ⟨_, 2, none⟩) hx).trans hx2) ((hu.cell (p := ⟨_, 1, none⟩) hx).trans hx1) ((hu.cell (p := ⟨_, 0, none⟩) hqlt).trans (by simp [World.cell?, hbd.blk]))
      have HA : RowKit.Hid ((sizeM M r).2 = 0) := Lib.hid (by unfold sizeM; rw [ho]; simp only [hg]; cases o.tab <;> rfl)
      generalize G.gos[i].ptr = x at *
      clear h ho hob hbo hoi hx0 hx1 hx2 hri hg hs hbd
      go_enter Try.func23, Try.ntmps23
      go_wp2_with (first
        | (go_at_call 40; refine CO.out.mono ?_; rintro e u ⟨rfl, hu⟩; rw [hu]; clear hu u)
        | (go_at_call 41; refine CG.out.mono ?_; rintro e u ⟨rfl, hb⟩; have HB := Lib.hid hb; clear hb)
        | (go_at_call 42; (with_reducible refine (CS.out _ HB.out).mono ?_); rintro e u2 ⟨rfl, hu⟩; rw [hu]; clear hu u2))
      go_ret2
      exact ⟨int_end rfl HA.out, HB.out⟩
end Go.Proofs.Ytgnfinojnmkkkaa

/- Layer 10: a new object gets its place. -/
namespace Go.Proofs.Ytgnfinojnmkkkaa
open Go.RowKit (wrap64 intOf Below)
set_option linter.unusedVariables false
set_option linter.unusedSimpArgs false

def rhoSet (ρ : Rho) (v : Value) (r : Nat × Nat) : Rho := fun b => if v.ownBlock = some b then some r else ρ b
theorem rhoSet_role (ρ : Rho) (v : Value) (r : Nat × Nat) : RoleS (rhoSet ρ v r) v r := fun b hb => if_pos hb
section
variable {W : World} {B : Nat} {ρ : Rho} {v v' : Value} {r : Nat × Nat}
theorem rhoSet_ex (hr : ∀ b r, ρ b = some r → B ≤ b ∧ b < W.heap.size) (ho : RoleS ρ v r) (hw : ∀ b, v'.ownBlock = some b → v.ownBlock = some b ∨ W.heap.size ≤ b) : Ex ρ (rhoSet ρ v' r) := fun b x hbx => by
  unfold rhoSet
  by_cases e : v'.ownBlock = some b
  · rw [if_pos e]
    rcases hw b e with h1 | h1
    · have := ho b h1; rw [hbx] at this; exact this.symm
    · have := (hr b x hbx).2; omega
  · rw [if_neg e]; exact hbx
theorem rhoSet_new (ho : RoleS ρ v r) (hw : ∀ b, v'.ownBlock = some b → v.ownBlock = some b ∨ W.heap.size ≤ b) {b : Nat} {x : Nat × Nat} (h : rhoSet ρ v' r b = some x) : ρ b = some x ∨ (W.heap.size ≤ b ∧ v'.ownBlock = some b) := by
  unfold rhoSet at h
  by_cases e : v'.ownBlock = some b
  · rw [if_pos e] at h
    rcases hw b e with h1 | h1
    · exact .inl (by rw [ho b h1]; exact h)
    · exact .inr ⟨h1, e⟩
  · rw [if_neg e] at h; exact .inl h
end
theorem info_pt : (Try.prog.info? 59).map (fun i => (i.zero, i.size, i.bytes)) = some (some (.pointer none), 1, 8) := by kernel_rfl
/-- 'append(l, o)' of a pointer to an object: what was turned, and where its array then lies. -/
theorem wpList_append_pt {P : Program} (w : World) {ops : Array Oper} {rest : List Oper} {o : Oper} {a : Act} {Q : Exit → Act → World → Prop} (hP : P = Try.prog) (hgd : o.guard = none) (s x : Operand)
    (ho : o.op = .call { callee := .builtin .append, args := #[s, x], argTypes := #[43, 43] })
    (B : Nat) (v : Value) (Z : List Nat) (hs : a.eval s = v) (hown : OwnsPt w B v Z) (hB : B ≤ w.heap.size)
    (C : Array Value) (c g : Nat) (z : Nat) (hx : a.eval x = .slice (some ⟨g, 0, none⟩) 1 c) (hg : g = w.heap.size) (hC : C = #[.pointer (some ⟨z, 0, none⟩)])
    (hlen : (Z.length + 1) * 8 ≤ 140737488355328)
    (h : ∀ va vn vc w', OwnsPt w' B (.slice va vn vc) (Z ++ [z]) → (w.alloc (.cells C 59)).grownBy w' v.ownBlock → (∀ k, (Value.slice va vn vc).ownBlock = some k → v.ownBlock = some k ∨ w.heap.size ≤ k) → wpList P ops Q rest (a.put o.dst (.slice va vn vc)) w') : wpList P ops Q (o :: rest) a (w.alloc (.cells C 59)) := by
  subst hP
  obtain ⟨i0, hi, hz0, hz1, hz2⟩ := info_parts info_pt
  subst hC hg
  refine wpList_append_own_at _ hgd s x 43 ho B 59 i0 (.pointer none) 1 8 Try.underlying43 hi hz0 hz1 hz2 rfl (by decide) v Z.length (Z.map ptrV) hs (World.ownsRow.alloc hown _) ⟨w.heap.size, 0, none⟩ 1 c [.pointer (some ⟨z, 0, none⟩)] hx rfl (fun j u hu => ?_) (by intro u hu; simp at hu; subst hu; rfl) (by unfold maxLen; omega) hlen (by simp; omega) ?_
  · rw [addr_plain, Nat.zero_add, World.cell?_alloc_mark]
    simpa using hu
  · intro v' w' hown' hgrow _ hwh
    have hown2 : OwnsPt w' B v' (Z ++ [z]) := by
      show w'.ownsRow B 59 1 v' (Z ++ [z]).length ((Z ++ [z]).map ptrV)
      rw [List.map_append, List.length_append]
      exact hown'
    obtain ⟨va, vn, vc, rfl⟩ : ∃ va vn vc, v' = .slice va vn vc := by
      rcases hown2.2 with ⟨e, _⟩ | ⟨_, _, _, e, _⟩
      · exact ⟨_, _, _, e⟩
      · exact ⟨_, _, _, e⟩
    exact h va vn vc w' hown2 hgrow (fun k hk => by
      rcases hwh with e' | e'
      · exact .inl (e' ▸ hk)
      · rw [e'] at hk; cases hk; simp)
/-- What a memory is when an object has come. -/
def pushM (M : PM) (o : PO) : PM := {M with objs := M.objs ++ [o]}
section
variable {W w1 : World} {B cap : Nat} {M : PM} {G : GM}
/-- The same, told with more roles. -/
theorem MemAt.exRho (h : MemAt W B cap M G) {ρ' : Rho} (he : Ex G.ρ ρ') (hr : ∀ k r, ρ' k = some r → B ≤ k ∧ k < W.heap.size) : MemAt W B cap M {G with ρ := ρ'} := by
  have hk : Kp G.ρ (fun _ => True) W W := fun _ _ _ _ => rfl
  exact ⟨hr, he _ _ h.rm, h.blk, h.ov, h.ro.ex he, h.objs.kept hk (fun _ _ _ _ => trivial) (Nat.le_refl _) he, h.fv, h.rf.ex he, h.flen, h.mlen, fun j h1 h2 => ⟨(h.fo j h1 h2).1, (h.fo j h1 h2).2.ex he⟩, h.num⟩
theorem MemAt.pushObj (h : MemAt W B cap M G) {o : PO} {g : GO} (hs : ShellAt W G.ρ M.objs.length o g) (hb : BodyAt W B cap G.ρ M.objs.length o g) (hfr : 0 ≤ o.fr ∧ o.fr ≤ M.entered) {cap' : Nat} (hcc : cap ≤ cap') (hol : M.objs.length + 1 ≤ cap') {C : Array Value} {ya : Option Addr} {yn yc : Nat}
    (hg : (W.alloc (.cells C 59)).grownBy w1 (Value.slice G.oa G.on G.oc).ownBlock) (ho : OwnsPt w1 B (.slice ya yn yc) (G.gos.map (·.ptr) ++ [g.ptr])) (hw : ∀ b, (Value.slice ya yn yc).ownBlock = some b → (Value.slice G.oa G.on G.oc).ownBlock = some b ∨ W.heap.size ≤ b) :
    w1.frozen? ⟨G.p, 3, none⟩ = false ∧ w1.cell? ⟨G.p, 3, none⟩ = some (.slice G.oa G.on G.oc) ∧ Below B W (w1.setCell ⟨G.p, 3, none⟩ (.slice ya yn yc)) ∧ Sep W (w1.setCell ⟨G.p, 3, none⟩ (.slice ya yn yc)) G.ρ (rhoSet G.ρ (.slice ya yn yc) (1, 0)) ∧ MemAt (w1.setCell ⟨G.p, 3, none⟩ (.slice ya yn yc)) B cap' (pushM M o) {G with oa := ya, on := yn, oc := yc, gos := G.gos ++ [g], ρ := rhoSet G.ρ (.slice ya yn yc) (1, 0)} := by
  have hoff : Off (fun b => (Value.slice G.oa G.on G.oc).ownBlock = some b) W w1 := ((Off.refl _ W).alloc _).grown hg (fun b hb => .inl hb)
  have hplt := h.plt.2
  have hpB := h.plt.1
  have hpne : (Value.slice G.oa G.on G.oc).ownBlock ≠ some G.p := fun e => by
    have := h.ro _ e; rw [h.rm] at this; simp at this
  have hp1 : w1.heap[G.p]? = _ := (hoff.block G.p hplt hpne).trans h.blk
  have hoff2 : Off (fun b => (Value.slice G.oa G.on G.oc).ownBlock = some b ∨ b = G.p) W (w1.setCell ⟨G.p, 3, none⟩ (.slice ya yn yc)) := (hoff.mono (fun b _ hb => .inl hb)).setCell (.inl (.inr rfl)) _
  have hex : Ex G.ρ (rhoSet G.ρ (.slice ya yn yc) (1, 0)) := rhoSet_ex h.range h.ro hw
  have hkp : Kp G.ρ (fun r => r ≠ (0, 0) ∧ r ≠ (1, 0)) W (w1.setCell ⟨G.p, 3, none⟩ (.slice ya yn yc)) := kp_of_off h.range hoff2 fun b r hx hbr hR => by
    rcases hx with hx | hx
    · have := h.ro _ hx; rw [hbr] at this; exact hR.2 (Option.some.inj this)
    · rw [hx, h.rm] at hbr; exact hR.1 (Option.some.inj hbr).symm
  have hyp : ∀ b, (Value.slice ya yn yc).ownBlock = some b → b ≠ G.p := fun b hb e => by
    rcases hw b hb with h1 | h1
    · exact hpne (e ▸ h1)
    · omega
  have hbel : Below B W (w1.setCell ⟨G.p, 3, none⟩ (.slice ya yn yc)) := hoff2.below (by omega) fun b hb => by
    rcases hb with hb | hb
    · exact (h.range _ _ (h.ro b hb)).1
    · rw [hb]; exact hpB
  refine ⟨by simp [World.frozen?, hp1], by simp [World.cell?, hp1], hbel, ⟨hoff2.mono (fun b _ hb => hb.elim (fun h' => ⟨_, h.ro b h'⟩) (fun h' => ⟨(0, 0), by rw [h']; exact h.rm⟩)), fun b r hbr => (rhoSet_new h.ro hw hbr).imp (fun h' => ⟨r, h'⟩) (fun h' => h'.1)⟩, fun b r hbr => ?_, hex _ _ h.rm, ?_, ?_, rhoSet_role _ _ _, ⟨by simp [pushM, h.objs.len], fun j k1 k2 => ?_, fun j k1 k2 hgo => ?_⟩, row_kept h.fv h.rf hkp (by simp), h.rf.ex hex, h.flen, h.mlen, fun j k1 k2 => ⟨row_kept (h.fo j k1 k2).1 (h.fo j k1 k2).2 hkp (by simp), (h.fo j k1 k2).2.ex hex⟩, ?_⟩
  · rcases rhoSet_new h.ro hw hbr with h1 | ⟨h1, h2⟩
    · have := h.range b r h1; have := hbel.size; omega
    · have := (ho.lt b h2).2
      simp [World.setCell]
      omega
  · rw [heap_setCell_same w1 G.p 3 _ _ _ hp1]; rfl
  · show OwnsPt _ B _ ((G.gos ++ [g]).map (·.ptr))
    rw [List.map_append]
    refine ⟨ho.1, ?_⟩
    rcases ho.2 with hn | ⟨gg, cp, cur, e, hB, hgg, rest⟩
    · exact .inl hn
    · exact .inr ⟨gg, cp, cur, e, hB, (Below.heap_setCell _ _ _ _ (hyp gg (by rw [e]; rfl))).trans hgg, rest⟩
  · have k1' : j < (M.objs ++ [o]).length := k1
    show ShellAt _ _ j (M.objs ++ [o])[j] (G.gos ++ [g])[j]
    by_cases e : j < M.objs.length
    · rw [List.getElem_append_left e, List.getElem_append_left (by rw [h.objs.len]; exact e)]
      exact (h.objs.shell j e (by rw [h.objs.len]; exact e)).kept hkp (by simp) hex
    · have e2 : j = M.objs.length := by simp at k1'; omega
      subst e2
      rw [List.getElem_append_right (by omega), List.getElem_append_right (by rw [h.objs.len]; omega)]
      simp only [Nat.sub_self, h.objs.len, List.getElem_cons_zero]
      exact hs.kept hkp (by simp) hex
  · have k1' : j < (M.objs ++ [o]).length := k1
    show BodyAt _ B cap' _ j (M.objs ++ [o])[j] (G.gos ++ [g])[j]
    have hR : ∀ t, 3 ≤ t → t ≤ 5 → ((t, j) : Nat × Nat) ≠ (0, 0) ∧ ((t, j) : Nat × Nat) ≠ (1, 0) := fun t h3 _ => ⟨by simp; omega, by simp; omega⟩
    by_cases e : j < M.objs.length
    · have hgo' : M.gone (M.objs ++ [o])[j] = false := hgo
      rw [List.getElem_append_left e] at hgo'
      rw [List.getElem_append_left e, List.getElem_append_left (by rw [h.objs.len]; exact e)]
      exact (h.objs.body j e (by rw [h.objs.len]; exact e) hgo').kept (h.objs.shell j e (by rw [h.objs.len]; exact e)) hkp hR hex hcc
    · have e2 : j = M.objs.length := by simp at k1'; omega
      subst e2
      rw [List.getElem_append_right (by omega), List.getElem_append_right (by rw [h.objs.len]; omega)]
      simp only [Nat.sub_self, h.objs.len, List.getElem_cons_zero]
      exact hb.kept hs hkp hR hex hcc
  · have hn := h.num
    refine ⟨hn.limit, hn.used, ⟨hn.makes.1, by have := hn.makes.2; show M.makes ≤ _; omega⟩, ⟨hn.entered.1, by have := hn.entered.2; show M.entered ≤ _; omega⟩, by show (M.objs ++ [o]).length ≤ _; rw [List.length_append]; simp; omega, by have := hn.frs; show M.frs.length ≤ _; omega, hn.inc, hn.pos, fun x hx => ?_⟩
    have hx' : x ∈ M.objs ++ [o] := hx
    rcases List.mem_append.1 hx' with h3 | h3
    · exact hn.fr x h3
    · rw [List.mem_singleton.1 h3]; exact hfr
end
end Go.Proofs.Ytgnfinojnmkkkaa

/- Layer 10: package heap's lay (where no frame was entered), add, Slice and Table. -/
namespace Go.Proofs.Ytgnfinojnmkkkaa
open Go.RowKit (wrap64 intOf Below)
set_option linter.unusedVariables false
set_option linter.unusedSimpArgs false

/-- The last frame's number; 0: it is the first one. -/
def lastFr (M : PM) : Int := M.frs.getLast?.getD 0
def withFr (o : PO) (f : Int) : PO := {o with fr := f}
/-- What the rows hold while object x has its frame and no place yet. -/
theorem fmAt_nil {M : PM} {G : GM} (h0 : M.frs = []) : FmAt M G := fun j h1 => by rw [h0] at h1; exact absurd h1 (by simp)
def FmNew (M : PM) (G : GM) (x : Nat) (f : Int) : Prop := ∀ j (h1 : j < M.frs.length) (h2 : j < G.fms.length), G.fms[j].length ≤ M.objs.length + 1 ∧ ∀ y, y ∈ G.fms[j] ↔ (∃ i, ∃ (k1 : i < M.objs.length) (k2 : i < G.gos.length), G.gos[i].ptr = y ∧ M.objs[i].fr = M.frs[j]) ∨ (y = x ∧ f = M.frs[j])
structure LaySt (W w' : World) (B cap : Nat) (M : PM) (G G' : GM) (o : PO) (g : GO) : Prop where
  mem : MemAt w' B cap M G'
  p : G'.p = G.p
  gos : G'.gos = G.gos
  ov : G'.oa = G.oa ∧ G'.on = G.on ∧ G'.oc = G.oc
  shell : ShellAt w' G'.ρ M.objs.length (withFr o (lastFr M)) g
  body : BodyAt w' B cap G'.ρ M.objs.length (withFr o (lastFr M)) g
  bel : Below B W w'
  fm : FmAt M G → FmNew M G' g.ptr (lastFr M)
  sep : Sep W w' G.ρ G'.ρ
section
variable {W w' : World} {B cap : Nat} {M : PM} {G : GM} {o : PO} {g : GO}
theorem withFr_same {o : PO} {f : Int} (h : o.fr = f) : withFr o f = o := by cases o; simp only [withFr] at *; rw [h]
theorem FmAt.pushed (hn : FmNew M G g.ptr o.fr) {G' : GM} (hlen : G.gos.length = M.objs.length) (hg : G'.gos = G.gos ++ [g]) (hf : G'.fms = G.fms) : FmAt (pushM M o) G' := by
  intro j h1 h2
  have h2' : j < G.fms.length := by rw [← hf]; exact h2
  have e : G'.fms[j] = G.fms[j] := by simp only [hf]
  refine ⟨by rw [e]; show _ ≤ (M.objs ++ [o]).length; rw [List.length_append]; exact (hn j h1 h2').1, fun x => ?_⟩
  rw [e, (hn j h1 h2').2 x]
  constructor
  · rintro (⟨i, k1, k2, h3, h4⟩ | ⟨rfl, h4⟩)
    · refine ⟨i, by show i < (M.objs ++ [o]).length; simp; omega, by rw [hg]; simp; omega, ?_, ?_⟩
      · simp only [hg]; rw [List.getElem_append_left k2]; exact h3
      · show ((M.objs ++ [o])[i]'(by simp; omega)).fr = _; rw [List.getElem_append_left k1]; exact h4
    · refine ⟨M.objs.length, by show _ < (M.objs ++ [o]).length; simp, by rw [hg]; simp; omega, ?_, ?_⟩
      · simp only [hg]; rw [List.getElem_append_right (by omega)]; simp [hlen]
      · show ((M.objs ++ [o])[M.objs.length]'(by simp)).fr = _; rw [List.getElem_append_right (by omega)]; simp; exact h4
  · rintro ⟨i, k1, k2, h3, h4⟩
    have k1' : i < (M.objs ++ [o]).length := k1
    have h4 : (M.objs ++ [o])[i].fr = M.frs[j] := h4
    simp only [hg] at h3
    by_cases e : i < M.objs.length
    · rw [List.getElem_append_left (by omega)] at h3 h4
      exact .inl ⟨i, e, by omega, h3, h4⟩
    · have e2 : i = M.objs.length := by simp at k1'; omega
      subst e2
      rw [List.getElem_append_right (by omega)] at h3 h4
      simp [hlen] at h3 h4
      exact .inr ⟨h3.symm, h4⟩
/-- A new object that lies on the heap. -/
theorem FmAt.heap (h : MemAt W B cap M G) (hf : FmAt M G) {x : Nat} : FmNew M G x 0 := by
  intro j h1 h2
  refine ⟨Nat.le_succ_of_le (hf j h1 h2).1, fun y => ?_⟩
  rw [(hf j h1 h2).2 y]
  refine ⟨.inl, fun h3 => h3.elim id (fun h4 => ?_)⟩
  have := (h.num.pos _ (List.getElem_mem h1)).1
  omega
end
set_option maxRecDepth 100000 in
theorem lay_nil {W : World} {B cap : Nat} {M : PM} {G : GM} (h : MemAt W B cap M G) (h0 : M.frs = []) {o : PO} {g : GO} (hs : ShellAt W G.ρ M.objs.length o g) (hb : BodyAt W B cap G.ρ M.objs.length o g) (hfr : o.fr = 0) :
    Calls Try.prog 49 #[.pointer (some ⟨G.p, 0, none⟩), .pointer (some ⟨g.ptr, 0, none⟩)] W fun e w' => e = .returned (.tuple #[]) ∧ ∃ G', LaySt W w' B cap M G G' o g := by
  have hl : lastFr M = 0 := by unfold lastFr; rw [h0]; rfl
  have HL : RowKit.Hid (LaySt W W B cap M G G o g) := Lib.hid ⟨h, rfl, rfl, ⟨rfl, rfl, rfl⟩, by rw [hl, withFr_same hfr]; exact hs, by rw [hl, withFr_same hfr]; exact hb, Below.refl _ _, fun hf => by rw [hl]; exact hf.heap h, Sep.since (Below.refl _ _)⟩
  have c4 := h.cell 4
  simp only [List.getElem?_toArray, List.getElem?_cons_succ, List.getElem?_cons_zero] at c4
  have hfn : G.fn = 0 := by rw [h.frn, h0]; rfl
  rw [hfn] at c4
  clear h h0 hs hb hfr hl hfn
  go_enter Try.func49, Try.ntmps49
  go_wp2_with fail
  go_end0
  exact ⟨rfl, G, HL.out⟩
def osz (o : PO) : Int := if o.tab then (o.keys.length : Int) else o.size
/-- What add does, and answers. -/
def addM (M : PM) (o : PO) (stack : Bool) : PM × Int × Int :=
  if stack then (pushM M (withFr o (lastFr M)), (M.objs.length : Int) + 1, 0)
  else if fits M (8 + 8 * osz o) then (pushM {takeM M (8 + 8 * osz o) with makes := M.makes + 1} o, (M.objs.length : Int) + 1, 0)
  else (M, 0, 4)
def AddPost (W : World) (B cap : Nat) (M : PM) (G : GM) (R : PM × Int × Int) (e : Ending) (w' : World) : Prop := e = .returned (.tuple #[.int .i64 R.2.1, .int .i64 R.2.2]) ∧ ∃ G', MemAt w' B (cap + 1) R.1 G' ∧ G'.p = G.p ∧ Below B W w' ∧ (FmAt M G → FmAt R.1 G') ∧ Sep W w' G.ρ G'.ρ
section
variable {W : World} {B cap : Nat} {M : PM} {G : GM}
theorem lastFr_range (h : NumAt cap M) : 0 ≤ lastFr M ∧ lastFr M ≤ M.entered := by
  unfold lastFr
  cases hl : M.frs.getLast? with
  | none => exact ⟨Int.le_refl _, h.entered.1⟩
  | some f => have := h.pos f (List.mem_of_getLast? hl); exact ⟨by simp; omega, by simp; omega⟩
end
set_option maxRecDepth 100000 in
set_option maxHeartbeats 1000000 in
theorem add_st {W : World} {B cap : Nat} {M : PM} {G : GM} (h : MemAt W B cap M G) (hcap : cap ≤ 1099511627776) {o : PO} {g : GO} (hs : ShellAt W G.ρ M.objs.length o g) (hb : BodyAt W B cap G.ρ M.objs.length o g)
    (hl : Calls Try.prog 49 #[.pointer (some ⟨G.p, 0, none⟩), .pointer (some ⟨g.ptr, 0, none⟩)] W fun e w' => e = .returned (.tuple #[]) ∧ ∃ G', LaySt W w' B cap M G G' o g) :
    Calls Try.prog 30 #[.pointer (some ⟨G.p, 0, none⟩), .pointer (some ⟨g.ptr, 0, none⟩), .bool true] W (AddPost W B cap M G (addM M o true)) := by
  have HL := Lib.hid hl
  have HR : RowKit.Hid (addM M o true = (pushM M (withFr o (lastFr M)), (M.objs.length : Int) + 1, 0)) := Lib.hid rfl
  have HNU := Lib.hid (lastFr_range h.num)
  have hlen : M.objs.length ≤ cap := h.num.objs
  have HB0 : RowKit.Hid (B ≤ W.heap.size) := Lib.hid (by have := h.plt; omega)
  clear h hs hb hl
  go_enter Try.func30, Try.ntmps30
  go_upto_region 6 with (go_at_call 49; refine HL.out.mono ?_; rintro e u ⟨rfl, G1, hS⟩; have HS := Lib.hid hS; clear hS)
  have hp := HS.out.p
  obtain ⟨e1, e2, e3⟩ := HS.out.ov
  have c3 : u.cell? ⟨G.p, 3, none⟩ = some (.slice G.oa G.on G.oc) := by
    have := HS.out.mem.cell 3
    simp only [List.getElem?_toArray, List.getElem?_cons_succ, List.getElem?_cons_zero] at this
    rw [hp, e1, e2, e3] at this
    exact this
  have HOV : RowKit.Hid (OwnsPt u B (.slice G.oa G.on G.oc) (G.gos.map (·.ptr))) := Lib.hid (by have := HS.out.mem.ov; rw [e1, e2, e3, HS.out.gos] at this; exact this)
  have HGL : RowKit.Hid (G.gos.length = M.objs.length) := Lib.hid (by have := HS.out.mem.objs.len; rw [HS.out.gos] at this; exact this)
  have HLZ : RowKit.Hid (((G.gos.map (·.ptr)).length + 1) * 8 ≤ 140737488355328) := Lib.hid (by rw [List.length_map, HGL.out]; omega)
  have hBu : B ≤ u.heap.size := by have := HS.out.bel.size; have := HB0.out; omega
  have HPU : RowKit.Hid (∀ (C : Array Value) (ya : Option Addr) (yn yc : Nat) (w1 : World), (u.alloc (.cells C 59)).grownBy w1 (Value.slice G.oa G.on G.oc).ownBlock → OwnsPt w1 B (.slice ya yn yc) (G.gos.map (·.ptr) ++ [g.ptr]) → (∀ b, (Value.slice ya yn yc).ownBlock = some b → (Value.slice G.oa G.on G.oc).ownBlock = some b ∨ u.heap.size ≤ b) →
      w1.frozen? ⟨G.p, 3, none⟩ = false ∧ w1.cell? ⟨G.p, 3, none⟩ = some (.slice G.oa G.on G.oc) ∧ Below B u (w1.setCell ⟨G.p, 3, none⟩ (.slice ya yn yc)) ∧ Sep u (w1.setCell ⟨G.p, 3, none⟩ (.slice ya yn yc)) G1.ρ (rhoSet G1.ρ (.slice ya yn yc) (1, 0)) ∧ MemAt (w1.setCell ⟨G.p, 3, none⟩ (.slice ya yn yc)) B (cap + 1) (pushM M (withFr o (lastFr M))) {G1 with p := G.p, oa := ya, on := yn, oc := yc, gos := G1.gos ++ [g], ρ := rhoSet G1.ρ (.slice ya yn yc) (1, 0)} ∧ (w1.setCell ⟨G.p, 3, none⟩ (.slice ya yn yc)).cell? ⟨G.p, 3, none⟩ = some (.slice ya yn yc) ∧ yn = M.objs.length + 1) := Lib.hid fun C ya yn yc w1 hg1 ho1 hw1 => by
    have h5 := HS.out.mem.pushObj (C := C) (w1 := w1) (ya := ya) (yn := yn) (yc := yc) HS.out.shell HS.out.body HNU.out (Nat.le_succ cap) (Nat.succ_le_succ hlen) (by rw [e1, e2, e3]; exact hg1) (by rw [HS.out.gos]; exact ho1) (by rw [e1, e2, e3]; exact hw1)
    rw [hp] at h5
    obtain ⟨k1, k2, k3, k5, k4⟩ := h5
    refine ⟨k1, by rw [e1, e2, e3] at k2; exact k2, k3, k5, k4, ?_, ?_⟩
    · have h6 := k4.cell 3
      simp only [List.getElem?_toArray, List.getElem?_cons_succ, List.getElem?_cons_zero] at h6
      exact h6
    · have h6 := ho1.read.1; rw [h6, List.length_append, List.length_map, HGL.out]; rfl
  clear hp e1 e2 e3
  go_wp2_with ((with_reducible refine wpList_append_pt _ rfl rfl _ _ rfl B (.slice G.oa G.on G.oc) (G.gos.map (·.ptr)) ?_ ?_ ?_ _ 1 u.heap.size g.ptr ?_ ?_ ?_ ?_ ?_); (next => rfl); (next => exact HOV.out); (next => exact hBu); (next => rfl); (next => rfl); (next => rfl); (next => exact HLZ.out); intro ya yn yc w1 ho1 hg1 hw1; have HP := Lib.hid (HPU.out _ ya yn yc w1 hg1 ho1 hw1); have hf1 := HP.out.1; have hc1 := HP.out.2.1; have hd3 := HP.out.2.2.2.2.2.1; clear ho1 hg1 hw1)
  go_ret2
  refine ⟨int_end (by rw [HR.out, HP.out.2.2.2.2.2.2]; simp) (by rw [HR.out]), {G1 with p := G.p, oa := ya, on := yn, oc := yc, gos := G1.gos ++ [g], ρ := rhoSet G1.ρ (.slice ya yn yc) (1, 0)}, by rw [HR.out]; exact HP.out.2.2.2.2.1, rfl, HS.out.bel.trans HP.out.2.2.1, fun hf => ?_, HS.out.sep.trans HP.out.2.2.2.1⟩
  rw [HR.out]
  exact FmAt.pushed (o := withFr o (lastFr M)) (HS.out.fm hf) HS.out.mem.objs.len rfl rfl
set_option maxRecDepth 100000 in
set_option maxHeartbeats 1000000 in
theorem add_hp {W : World} {B cap : Nat} {M : PM} {G : GM} (h : MemAt W B cap M G) (hcap : cap ≤ 1099511627776) {o : PO} {g : GO} (hs : ShellAt W G.ρ M.objs.length o g) (hb : BodyAt W B cap G.ρ M.objs.length o g) (hfr : o.fr = 0) :
    Calls Try.prog 30 #[.pointer (some ⟨G.p, 0, none⟩), .pointer (some ⟨g.ptr, 0, none⟩), .bool false] W (AddPost W B cap M G (addM M o false)) := by
  have hx0 : W.cell? ⟨g.ptr, 1, none⟩ = some (if o.tab then .pointer none else ptrV g.q) := by simp [World.cell?, hs.blk]
  have hx2 : W.cell? ⟨g.ptr, 2, none⟩ = some (if o.tab then ptrV g.q else .pointer none) := by simp [World.cell?, hs.blk]
  have hoz : 0 ≤ osz o ∧ osz o ≤ 1099511627776 := by
    unfold osz
    unfold BodyAt at hb
    cases ht : o.tab with
    | true => rw [ht] at hb; have := TabAt.klen hb; simp; omega
    | false => rw [ht] at hb; have := (RwAt.size hb); simp; omega
  have CS : RowKit.Hid (Calls Try.prog 42 #[.pointer (some ⟨g.ptr, 0, none⟩)] W fun e w' => e = .returned (.int .i64 (osz o)) ∧ w' = W) := Lib.hid (by
    unfold BodyAt at hb
    unfold osz
    cases ht : o.tab with
    | true =>
      rw [ht] at hb hx0 hx2
      simp only [if_true] at hb hx0 hx2 ⊢
      have hrd : NumsAt W g.ka g.kn o.keys := OwnsI.read hb.keys
      rw [hrd.1]
      exact sizetab_any (by have := hrd.1; have := hb.klen; omega) hx2 hb.c1
    | false =>
      rw [ht] at hb hx0 hx2
      simp only [Bool.false_eq_true, if_false] at hb hx0 hx2 ⊢
      exact sizerow_any hx2 hx0 (by simp [World.cell?, hb.blk]))
  have hlen : M.objs.length ≤ cap := h.num.objs
  have HM := Lib.hid h
  have HSB := Lib.hid (And.intro hs hb)
  have HB0 : RowKit.Hid (B ≤ W.heap.size) := Lib.hid (by have := h.plt; omega)
  obtain ⟨z, hz⟩ : ∃ z, osz o = z := ⟨_, rfl⟩
  rw [hz] at CS hoz
  have hw1 : wrap64 (8 * z) = 8 * z := by unfold wrap64; omega
  have hw2 : wrap64 (8 + 8 * z) = 8 + 8 * z := by unfold wrap64; omega
  have CT := Lib.hid (take_any h (8 + 8 * z) (by omega))
  cases hf : fits M (8 + 8 * z) with
  | false =>
    have HR : RowKit.Hid (addM M o false = (M, 0, 4)) := Lib.hid (by unfold addM; rw [hz, if_neg (by simp), if_neg (by rw [hf]; simp)])
    have HTK : RowKit.Hid (takeM M (8 + 8 * z) = M) := Lib.hid (by unfold takeM; rw [if_neg (by rw [hf]; simp)])
    rw [hf] at CT
    clear h hs hb hfr hx0 hx2 hz hf
    go_enter Try.func30, Try.ntmps30
    go_wp2_with (first
      | (go_at_call 42; refine CS.out.mono ?_; rintro e u ⟨rfl, hu⟩; rw [hu]; clear hu u)
      | (go_at_call 47; refine CT.out.mono ?_; rintro e u ⟨rfl, hm, hb, hoff⟩; have HM2 := Lib.hid hm; have HB2 := Lib.hid hb; have HO2 := Lib.hid hoff; clear hm hb hoff))
    go_ret2
    exact ⟨int_end (by rw [HR.out]) (by rw [HR.out]), G, by rw [HR.out]; have h5 := HM2.out; rw [HTK.out] at h5; exact h5.mono (Nat.le_succ _), rfl, HB2.out, (fun hfm => by rw [HR.out]; exact hfm), HO2.out.mono (fun b _ hb => ⟨(0, 0), by rw [hb]; exact HM.out.rm⟩), fun b r hr => .inl ⟨r, hr⟩⟩
  | true =>
    have HR : RowKit.Hid (addM M o false = (pushM {takeM M (8 + 8 * z) with makes := M.makes + 1} o, (M.objs.length : Int) + 1, 0)) := Lib.hid (by unfold addM; rw [hz, if_neg (by simp), if_pos hf])
    have HTK : RowKit.Hid (takeM M (8 + 8 * z) = {M with used := M.used + (8 + 8 * z)}) := Lib.hid (by unfold takeM; rw [if_pos hf])
    have hmk := h.num.makes
    have hwm : wrap64 (M.makes + 1) = M.makes + 1 := by unfold wrap64; omega
    have HFH : RowKit.Hid (FmAt M G → FmNew M G g.ptr o.fr) := Lib.hid fun hfm => by rw [hfr]; exact hfm.heap h
    have HNU : RowKit.Hid (0 ≤ o.fr ∧ o.fr ≤ M.entered) := Lib.hid (by rw [hfr]; exact ⟨Int.le_refl _, h.num.entered.1⟩)
    rw [hf] at CT
    clear h hs hb hfr hx0 hx2 hz hf
    go_enter Try.func30, Try.ntmps30
    go_upto_region 4 with (first
      | (go_at_call 42; refine CS.out.mono ?_; rintro e u ⟨rfl, hu⟩; rw [hu]; clear hu u)
      | (go_at_call 47; refine CT.out.mono ?_; rintro e u ⟨rfl, hm, hb, hoff⟩; have HM2 := Lib.hid hm; have HB2 := Lib.hid hb; have HO2 := Lib.hid hoff; clear hm hb hoff))
    rw [HTK.out] at HM2
    have c2 : u.cell? ⟨G.p, 2, none⟩ = some (.int .i64 M.makes) := by
      have := HM2.out.cell 2
      simp only [List.getElem?_toArray, List.getElem?_cons_succ, List.getElem?_cons_zero] at this
      exact this
    have hf2 := HM2.out.free 2
    have HM3 : RowKit.Hid (MemAt (u.setCell ⟨G.p, 2, none⟩ (.int .i64 (M.makes + 1))) B (cap + 1) {M with used := M.used + (8 + 8 * z), makes := M.makes + 1} G ∧ Below B u (u.setCell ⟨G.p, 2, none⟩ (.int .i64 (M.makes + 1)))) := Lib.hid (by
      have hn := HM2.out.num
      refine ⟨HM2.out.head (a := M.limit) (b := M.used + (8 + 8 * z)) (c := M.makes + 1) (d := M.entered) (HM2.out.kpSet 2 _) (by simp [World.setCell]) (by rw [heap_setCell_same u G.p 2 _ _ _ HM2.out.blk]; rfl) (Nat.le_succ _) ?_, (Below.refl B u).setCell (p := ⟨G.p, 2, none⟩) HM2.out.plt.1 _⟩
      exact ⟨hn.limit, hn.used, ⟨by show 0 ≤ M.makes + 1; omega, by show M.makes + 1 ≤ _; omega⟩, ⟨hn.entered.1, by have := hn.entered.2; show M.entered ≤ _; simp at this ⊢; omega⟩, Nat.le_succ_of_le hn.objs, Nat.le_succ_of_le hn.frs, hn.inc, hn.pos, hn.fr⟩)
    obtain ⟨U, hU⟩ : ∃ U, u.setCell ⟨G.p, 2, none⟩ (.int .i64 (M.makes + 1)) = U := ⟨_, rfl⟩
    rw [hU] at HM3
    have HOU : RowKit.Hid (Off (fun k => k = G.p) W U) := Lib.hid (by rw [← hU]; exact HO2.out.setCell (p := ⟨G.p, 2, none⟩) (.inl rfl) _)
    go_upto_region 6 with fail
    try rw [hU]
    clear hU c2 hf2
    have HWU : RowKit.Hid (Below B W U) := Lib.hid (HB2.out.trans HM3.out.2)
    have c3 : U.cell? ⟨G.p, 3, none⟩ = some (.slice G.oa G.on G.oc) := by
      have := HM3.out.1.cell 3
      simp only [List.getElem?_toArray, List.getElem?_cons_succ, List.getElem?_cons_zero] at this
      exact this
    have HOV := Lib.hid HM3.out.1.ov
    have HGL : RowKit.Hid (G.gos.length = M.objs.length) := Lib.hid HM.out.objs.len
    have HLZ : RowKit.Hid (((G.gos.map (·.ptr)).length + 1) * 8 ≤ 140737488355328) := Lib.hid (by rw [List.length_map, HGL.out]; omega)
    have hBu : B ≤ U.heap.size := by have := HWU.out.size; have := HB0.out; omega
    have HPU : RowKit.Hid (∀ (C : Array Value) (ya : Option Addr) (yn yc : Nat) (w1 : World), (U.alloc (.cells C 59)).grownBy w1 (Value.slice G.oa G.on G.oc).ownBlock → OwnsPt w1 B (.slice ya yn yc) (G.gos.map (·.ptr) ++ [g.ptr]) → (∀ b, (Value.slice ya yn yc).ownBlock = some b → (Value.slice G.oa G.on G.oc).ownBlock = some b ∨ U.heap.size ≤ b) →
        w1.frozen? ⟨G.p, 3, none⟩ = false ∧ w1.cell? ⟨G.p, 3, none⟩ = some (.slice G.oa G.on G.oc) ∧ Below B U (w1.setCell ⟨G.p, 3, none⟩ (.slice ya yn yc)) ∧ Sep U (w1.setCell ⟨G.p, 3, none⟩ (.slice ya yn yc)) G.ρ (rhoSet G.ρ (.slice ya yn yc) (1, 0)) ∧ MemAt (w1.setCell ⟨G.p, 3, none⟩ (.slice ya yn yc)) B (cap + 1) (pushM {M with used := M.used + (8 + 8 * z), makes := M.makes + 1} o) {G with oa := ya, on := yn, oc := yc, gos := G.gos ++ [g], ρ := rhoSet G.ρ (.slice ya yn yc) (1, 0)} ∧ (w1.setCell ⟨G.p, 3, none⟩ (.slice ya yn yc)).cell? ⟨G.p, 3, none⟩ = some (.slice ya yn yc) ∧ yn = M.objs.length + 1) := Lib.hid fun C ya yn yc w1 hg1 ho1 hw1 => by
      have hkp : Kp G.ρ (fun r => r ≠ (0, 0)) W U := kp_of_off HM.out.range HOU.out fun b r hx hbr hne => by
        rw [hx, HM.out.rm] at hbr
        exact hne (Option.some.inj hbr).symm
      obtain ⟨k1, k2, k3, k5, k4⟩ := HM3.out.1.pushObj (o := o) (g := g) (C := C) (w1 := w1) (ya := ya) (yn := yn) (yc := yc) (HSB.out.1.kept hkp (by simp) (Ex.refl _)) (HSB.out.2.kept HSB.out.1 hkp (fun t h3 _ => by simp; omega) (Ex.refl _) (Nat.le_succ _)) HNU.out (Nat.le_refl _) (Nat.succ_le_succ hlen) hg1 ho1 hw1
      refine ⟨k1, k2, k3, k5, k4, ?_, ?_⟩
      · have h6 := k4.cell 3
        simp only [List.getElem?_toArray, List.getElem?_cons_succ, List.getElem?_cons_zero] at h6
        exact h6
      · have h6 := ho1.read.1; rw [h6, List.length_append, List.length_map, HGL.out]; rfl
    go_wp2_with ((with_reducible refine wpList_append_pt _ rfl rfl _ _ rfl B (.slice G.oa G.on G.oc) (G.gos.map (·.ptr)) ?_ ?_ ?_ _ 1 U.heap.size g.ptr ?_ ?_ ?_ ?_ ?_); (next => rfl); (next => exact HOV.out); (next => exact hBu); (next => rfl); (next => rfl); (next => rfl); (next => exact HLZ.out); intro ya yn yc w1 ho1 hg1 hw1; have HP := Lib.hid (HPU.out _ ya yn yc w1 hg1 ho1 hw1); have hf1 := HP.out.1; have hc1 := HP.out.2.1; have hd3 := HP.out.2.2.2.2.2.1; clear ho1 hg1 hw1)
    go_ret2
    refine ⟨int_end (by rw [HR.out, HP.out.2.2.2.2.2.2]; simp) (by rw [HR.out]), {G with oa := ya, on := yn, oc := yc, gos := G.gos ++ [g], ρ := rhoSet G.ρ (.slice ya yn yc) (1, 0)}, by rw [HR.out, HTK.out]; exact HP.out.2.2.2.2.1, rfl, HWU.out.trans HP.out.2.2.1, fun hfm => ?_, (Sep.mk (HOU.out.mono (fun b _ hb => ⟨(0, 0), by rw [hb]; exact HM.out.rm⟩)) (fun b r hr => .inl ⟨r, hr⟩)).trans HP.out.2.2.2.1⟩
    rw [HR.out, HTK.out]
    exact FmAt.pushed (M := {M with used := M.used + (8 + 8 * z), makes := M.makes + 1}) (o := o) (HFH.out hfm) HGL.out rfl rfl
end Go.Proofs.Ytgnfinojnmkkkaa

/- Layer 10: package heap's Slice and Table. -/
namespace Go.Proofs.Ytgnfinojnmkkkaa
open Go.RowKit (wrap64 intOf Below)
set_option linter.unusedVariables false
set_option linter.unusedSimpArgs false

def newRow (n : Int) : PO := { fr := 0, tab := false, stack := false, size := n, get := fun _ => zeroVV, keys := [], under := fun _ => 0 }
def newTab (st : Bool) : PO := { fr := 0, tab := true, stack := st, size := 0, get := fun _ => zeroVV, keys := [], under := fun _ => 0 }
def sliceM (M : PM) (n : Int) (st : Bool) : PM × Int × Int := if n < 0 ∨ 1024 < n then (M, 0, 2) else addM M (newRow n) st
def tableM (M : PM) (st : Bool) : PM × Int × Int := addM M (newTab st) st
/-- A frame takes what is laid in it. -/
def LayOk (B cap : Nat) (M : PM) : Prop := ∀ W G o g, MemAt W B cap M G → ShellAt W G.ρ M.objs.length o g → BodyAt W B cap G.ρ M.objs.length o g → FmAt M G → o.fr = 0 →
  Calls Try.prog 49 #[.pointer (some ⟨G.p, 0, none⟩), .pointer (some ⟨g.ptr, 0, none⟩)] W fun e w' => e = .returned (.tuple #[]) ∧ ∃ G', LaySt W w' B cap M G G' o g
theorem layOk_nil {B cap : Nat} {M : PM} (h0 : M.frs = []) : LayOk B cap M := fun W G o g h hs hb _ hfr => lay_nil h h0 hs hb hfr
def rho3 (ρ : Rho) (k n : Nat) : Rho := fun b => if b = k then some (5, n) else if b = k + 1 then some (3, n) else if b = k + 2 then some (2, n) else ρ b
section
variable {W : World} {B cap : Nat} {M : PM} {G : GM}
theorem rho3_ex (h : MemAt W B cap M G) (n : Nat) : Ex G.ρ (rho3 G.ρ W.heap.size n) := fun b r hbr => by
  have := (h.range b r hbr).2
  unfold rho3
  rw [if_neg (by omega), if_neg (by omega), if_neg (by omega)]
  exact hbr
theorem rho3_at (ρ : Rho) (k n : Nat) : rho3 ρ k n k = some (5, n) ∧ rho3 ρ k n (k + 1) = some (3, n) ∧ rho3 ρ k n (k + 2) = some (2, n) := by
  unfold rho3
  refine ⟨by simp, by simp, by simp⟩
theorem rho3_new {ρ : Rho} {k n b : Nat} {r : Nat × Nat} (h : rho3 ρ k n b = some r) : dom ρ b ∨ k ≤ b := by
  unfold rho3 at h
  split at h
  · exact .inr (by omega)
  · split at h
    · exact .inr (by omega)
    · split at h
      · exact .inr (by omega)
      · exact .inl ⟨r, h⟩
theorem three_new (W : World) (o1 o2 o3 : Obj) : (((W.alloc o1).alloc o2).alloc o3).heap[W.heap.size]? = some o1 ∧ (((W.alloc o1).alloc o2).alloc o3).heap[W.heap.size + 1]? = some o2 ∧ (((W.alloc o1).alloc o2).alloc o3).heap[W.heap.size + 2]? = some o3 ∧ (((W.alloc o1).alloc o2).alloc o3).heap.size = W.heap.size + 3 := by
  refine ⟨?_, ?_, ?_, by simp⟩
  · rw [((Below.refl (W.heap.size + 1) _).alloc (by simp) _ |>.alloc (by simp) _ : Below (W.heap.size + 1) (W.alloc o1) (((W.alloc o1).alloc o2).alloc o3)).block W.heap.size (by omega)]
    exact World.alloc_heap_new _ _
  · rw [((Below.refl (W.heap.size + 2) _).alloc (by simp) _ : Below (W.heap.size + 2) ((W.alloc o1).alloc o2) (((W.alloc o1).alloc o2).alloc o3)).block (W.heap.size + 1) (by omega)]
    have := World.alloc_heap_new (W.alloc o1) o2
    simpa using this
  · have := World.alloc_heap_new ((W.alloc o1).alloc o2) o3
    simpa using this
/-- The memory, with what was made for a new object. -/
theorem MemAt.fresh (h : MemAt W B cap M G) (o1 o2 o3 : Obj) : MemAt (((W.alloc o1).alloc o2).alloc o3) B cap M {G with ρ := rho3 G.ρ W.heap.size M.objs.length} := by
  have hb : Below W.heap.size W (((W.alloc o1).alloc o2).alloc o3) := (((Below.refl _ W).alloc (Nat.le_refl _) _).alloc (by simp) _).alloc (by simp; omega) _
  refine (h.since hb).exRho (rho3_ex h _) fun k r hkr => ?_
  have hz := (three_new W o1 o2 o3).2.2.2
  have hp := h.plt
  unfold rho3 at hkr
  split at hkr
  · omega
  · split at hkr
    · omega
    · split at hkr
      · omega
      · have := h.range k r hkr; omega
end
theorem empty_at (k : Int) (z : DataW Unit) : (DataW.map [] : DataW Unit).atKey (.int .i64 k) z = z := rfl
theorem row_fresh {W : World} {B cap : Nat} {M : PM} {G : GM} (h : MemAt W B cap M G) {n : Int} (hn : 0 ≤ n ∧ n ≤ 1024) {W3 : World} (hW : ((W.alloc (.map #[] 0)).alloc (.cells #[.int .i64 n, .slice none 0 0, .map (some W.heap.size)] 69)).alloc (.cells #[.int .i64 0, .pointer (some ⟨W.heap.size + 1, 0, none⟩), .pointer none] 72) = W3) :
    ∃ G3 g, G3.p = G.p ∧ g.ptr = W.heap.size + 2 ∧ MemAt W3 B cap M G3 ∧ ShellAt W3 G3.ρ M.objs.length (newRow n) g ∧ BodyAt W3 B cap G3.ρ M.objs.length (newRow n) g ∧ Below B W W3 ∧ (FmAt M G → FmAt M G3) ∧ Sep W W3 G.ρ G3.ρ := by
  obtain ⟨n1, n2, n3, n4⟩ := three_new W (.map #[] 0) (.cells #[.int .i64 n, .slice none 0 0, .map (some W.heap.size)] 69) (.cells #[.int .i64 0, .pointer (some ⟨W.heap.size + 1, 0, none⟩), .pointer none] 72)
  obtain ⟨r1, r2, r3⟩ := rho3_at G.ρ W.heap.size M.objs.length
  have hm := h.fresh (.map #[] 0) (.cells #[.int .i64 n, .slice none 0 0, .map (some W.heap.size)] 69) (.cells #[.int .i64 0, .pointer (some ⟨W.heap.size + 1, 0, none⟩), .pointer none] 72)
  have hp := h.plt
  have hb : Below W.heap.size W W3 := by rw [← hW]; exact (((Below.refl _ W).alloc (Nat.le_refl _) _).alloc (by simp) _).alloc (by simp; omega) _
  rw [hW] at n1 n2 n3 n4 hm
  refine ⟨{G with ρ := rho3 G.ρ W.heap.size M.objs.length}, ⟨W.heap.size + 2, W.heap.size + 1, none, 0, 0, W.heap.size, .map [], false⟩, rfl, rfl, hm, ⟨r3, r2, n3⟩, ?_, hb.mono (by omega), fun hf => hf, Off.since hb, fun b r hbr => rho3_new hbr⟩
  show RwAt W3 B cap _ _ _ _
  exact ⟨n2, (show SetAt W3 cap _ _ _ _ from ⟨rfl, rfl, rfl, r1, map_kept (World.ownsMap_made W _ _ _) (n1.trans (World.alloc_heap_new _ _).symm) (Nat.zero_le _), fun k => empty_at k _⟩), by show 0 ≤ n ∧ n ≤ 1048576; omega⟩
theorem tab_fresh {W : World} {B cap : Nat} {M : PM} {G : GM} (h : MemAt W B cap M G) (st : Bool) {W3 : World} (hW : ((W.alloc (.map #[] 0)).alloc (.cells #[.bool st, .slice none 0 0, .map (some W.heap.size)] 76)).alloc (.cells #[.int .i64 0, .pointer none, .pointer (some ⟨W.heap.size + 1, 0, none⟩)] 72) = W3) :
    ∃ G3 g, G3.p = G.p ∧ g.ptr = W.heap.size + 2 ∧ MemAt W3 B cap M G3 ∧ ShellAt W3 G3.ρ M.objs.length (newTab st) g ∧ BodyAt W3 B cap G3.ρ M.objs.length (newTab st) g ∧ Below B W W3 ∧ (FmAt M G → FmAt M G3) ∧ Sep W W3 G.ρ G3.ρ := by
  obtain ⟨n1, n2, n3, n4⟩ := three_new W (.map #[] 0) (.cells #[.bool st, .slice none 0 0, .map (some W.heap.size)] 76) (.cells #[.int .i64 0, .pointer none, .pointer (some ⟨W.heap.size + 1, 0, none⟩)] 72)
  obtain ⟨r1, r2, r3⟩ := rho3_at G.ρ W.heap.size M.objs.length
  have hm := h.fresh (.map #[] 0) (.cells #[.bool st, .slice none 0 0, .map (some W.heap.size)] 76) (.cells #[.int .i64 0, .pointer none, .pointer (some ⟨W.heap.size + 1, 0, none⟩)] 72)
  have hp := h.plt
  have hb : Below W.heap.size W W3 := by rw [← hW]; exact (((Below.refl _ W).alloc (Nat.le_refl _) _).alloc (by simp) _).alloc (by simp; omega) _
  rw [hW] at n1 n2 n3 n4 hm
  refine ⟨{G with ρ := rho3 G.ρ W.heap.size M.objs.length}, ⟨W.heap.size + 2, W.heap.size + 1, none, 0, 0, W.heap.size, .map [], false⟩, rfl, rfl, hm, ⟨r3, r2, n3⟩, ?_, hb.mono (by omega), fun hf => hf, Off.since hb, fun b r hbr => rho3_new hbr⟩
  show TabAt W3 B cap _ _ _ _
  exact ⟨n2, World.ownsRow_nil _ _ _ 1, (fun k hk => (by cases hk)), r1, map_kept (World.ownsMap_made W _ _ _) (n1.trans (World.alloc_heap_new _ _).symm) (Nat.zero_le _), fun k => rfl, fun k => empty_at k _, Nat.zero_le _⟩
set_option maxRecDepth 100000 in
theorem slice_any {W : World} {B cap : Nat} {M : PM} {G : GM} (h : MemAt W B cap M G) (hcap : cap ≤ 1099511627776) (n : Int) (st : Bool) (hlay : LayOk B cap M) (hfm0 : FmAt M G) :
    Calls Try.prog 18 #[.pointer (some ⟨G.p, 0, none⟩), .int .i64 n, .bool st] W (AddPost W B cap M G (sliceM M n st)) := by
  have HM := Lib.hid h
  by_cases h0 : n < 0
  · have HR : RowKit.Hid (sliceM M n st = (M, 0, 2)) := Lib.hid (by unfold sliceM; rw [if_pos (.inl h0)])
    have hd : decide (n < 0) = true := decide_eq_true h0
    clear h hfm0
    go_enter Try.func18, Try.ntmps18
    go_wp2_with fail
    go_ret2
    exact ⟨int_end (by rw [HR.out]) (by rw [HR.out]), G, by rw [HR.out]; exact HM.out.mono (Nat.le_succ _), rfl, Below.refl _ _, (fun hf => by rw [HR.out]; exact hf), Sep.since (Below.refl _ _)⟩
  · have hd : decide (n < 0) = false := decide_eq_false h0
    by_cases h1 : 1024 < n
    · have HR : RowKit.Hid (sliceM M n st = (M, 0, 2)) := Lib.hid (by unfold sliceM; rw [if_pos (.inr h1)])
      have hd2 : decide (1024 < n) = true := decide_eq_true h1
      clear h hfm0
      go_enter Try.func18, Try.ntmps18
      go_wp2_with fail
      go_ret2
      exact ⟨int_end (by rw [HR.out]) (by rw [HR.out]), G, by rw [HR.out]; exact HM.out.mono (Nat.le_succ _), rfl, Below.refl _ _, (fun hf => by rw [HR.out]; exact hf), Sep.since (Below.refl _ _)⟩
    · have HR : RowKit.Hid (sliceM M n st = addM M (newRow n) st) := Lib.hid (by unfold sliceM; rw [if_neg (by omega)])
      have hd2 : decide (1024 < n) = false := decide_eq_false h1
      have CA : RowKit.Hid (∀ W3, ((W.alloc (.map #[] 0)).alloc (.cells #[.int .i64 n, .slice none 0 0, .map (some W.heap.size)] 69)).alloc (.cells #[.int .i64 0, .pointer (some ⟨W.heap.size + 1, 0, none⟩), .pointer none] 72) = W3 → Calls Try.prog 30 #[.pointer (some ⟨G.p, 0, none⟩), .pointer (some ⟨W.heap.size + 2, 0, none⟩), .bool st] W3 (AddPost W B cap M G (sliceM M n st))) := Lib.hid fun W3 hW => by
        obtain ⟨G3, g, hp, hg, hm, hs, hb, hbl, hfm, hsp⟩ := row_fresh h (by omega) hW
        rw [HR.out, ← hp, ← hg]
        cases st with
        | true => exact (add_st hm hcap hs hb (hlay W3 G3 (newRow n) g hm hs hb (hfm hfm0) rfl)).mono fun e w' ⟨he, G', h1, h2, h3, h4, h5⟩ => ⟨he, G', h1, h2.trans hp, hbl.trans h3, fun hf => h4 (hfm hf), hsp.trans h5⟩
        | false => exact (add_hp hm hcap hs hb rfl).mono fun e w' ⟨he, G', h1, h2, h3, h4, h5⟩ => ⟨he, G', h1, h2.trans hp, hbl.trans h3, fun hf => h4 (hfm hf), hsp.trans h5⟩
      have hmm := @RowKit.run_makeMap Try.prog
      clear h hlay hfm0
      go_enter Try.func18, Try.ntmps18
      go_wp2_with (go_at_call 30; refine (CA.out _ rfl).mono ?_; rintro e w' ⟨rfl, hG⟩; have HG := Lib.hid hG; clear hG)
      go_ret2
      exact ⟨rfl, HG.out⟩
set_option maxRecDepth 100000 in
theorem mtable_any {W : World} {B cap : Nat} {M : PM} {G : GM} (h : MemAt W B cap M G) (hcap : cap ≤ 1099511627776) (st : Bool) (hlay : LayOk B cap M) (hfm0 : FmAt M G) :
    Calls Try.prog 20 #[.pointer (some ⟨G.p, 0, none⟩), .bool st] W (AddPost W B cap M G (tableM M st)) := by
  have CA : RowKit.Hid (∀ W3, ((W.alloc (.map #[] 0)).alloc (.cells #[.bool st, .slice none 0 0, .map (some W.heap.size)] 76)).alloc (.cells #[.int .i64 0, .pointer none, .pointer (some ⟨W.heap.size + 1, 0, none⟩)] 72) = W3 → Calls Try.prog 30 #[.pointer (some ⟨G.p, 0, none⟩), .pointer (some ⟨W.heap.size + 2, 0, none⟩), .bool st] W3 (AddPost W B cap M G (tableM M st))) := Lib.hid fun W3 hW => by
    obtain ⟨G3, g, hp, hg, hm, hs, hb, hbl, hfm, hsp⟩ := tab_fresh h st hW
    rw [← hp, ← hg]
    unfold tableM
    cases st with
    | true => exact (add_st hm hcap hs hb (hlay W3 G3 (newTab true) g hm hs hb (hfm hfm0) rfl)).mono fun e w' ⟨he, G', h1, h2, h3, h4, h5⟩ => ⟨he, G', h1, h2.trans hp, hbl.trans h3, fun hf => h4 (hfm hf), hsp.trans h5⟩
    | false => exact (add_hp hm hcap hs hb rfl).mono fun e w' ⟨he, G', h1, h2, h3, h4, h5⟩ => ⟨he, G', h1, h2.trans hp, hbl.trans h3, fun hf => h4 (hfm hf), hsp.trans h5⟩
  have hmm := @RowKit.run_makeMap Try.prog
  clear h hlay hfm0
  go_enter Try.func20, Try.ntmps20
  go_wp2_with (go_at_call 30; refine (CA.out _ rfl).mono ?_; rintro e w' ⟨rfl, hG⟩; have HG := Lib.hid hG; clear hG)
  go_ret2
  exact ⟨rfl, HG.out⟩
end Go.Proofs.Ytgnfinojnmkkkaa

/- Layer 10: a frame takes what is laid in it; a frame more. -/
namespace Go.Proofs.Ytgnfinojnmkkkaa
open Go.RowKit (wrap64 intOf Below)
set_option linter.unusedVariables false
set_option linter.unusedSimpArgs false

theorem flatFr_len (l : List (Int × Option Addr × Nat × Nat)) : (flatFr l).length = l.length * 2 := by
  induction l with
  | nil => rfl
  | cons x l ih => show (_ :: _ :: flatFr l).length = _; simp only [List.length_cons, ih]; omega
theorem flatFr_set : ∀ (l : List (Int × Option Addr × Nat × Nat)) (i : Nat) (h : i < l.length) (s : Option Addr × Nat × Nat), (flatFr l).set (i * 2 + 1) (.slice s.1 s.2.1 s.2.2) = flatFr (l.set i (l[i].1, s)) := by
  intro l
  induction l with
  | nil => intro i h; exact absurd h (by simp)
  | cons x l ih =>
    intro i h s
    have e : flatFr (x :: l) = .int .i64 x.1 :: .slice x.2.1 x.2.2.1 x.2.2.2 :: flatFr l := rfl
    rw [e]
    cases i with
    | zero => rfl
    | succ i =>
      rw [show (i + 1) * 2 + 1 = (i * 2 + 1) + 1 + 1 by omega]
      simp only [List.set_cons_succ, List.getElem_cons_succ]
      rw [ih i (by simpa using h) s]
      rfl
theorem zip_set {α β : Type} : ∀ (l : List α) (m : List β) (i : Nat) (hl : i < l.length) (s : β), (l.zip m).set i (l[i], s) = l.zip (m.set i s) := by
  intro l
  induction l with
  | nil => intro m i hl; exact absurd hl (by simp)
  | cons x l ih =>
    intro m i hl s
    cases m with
    | nil => simp
    | cons y m =>
      cases i with
      | zero => rfl
      | succ i => simp only [List.zip_cons_cons, List.set_cons_succ, List.getElem_cons_succ]; rw [ih m i (by simpa using hl) s]
section
variable {W W' w1 : World} {B cap : Nat} {M : PM} {G : GM}
/-- What has turned is none of the memory's, nor of the objects that have a place. -/
theorem MemAt.keptBut (h : MemAt W B cap M G) (hk : Kp G.ρ (fun r => r.1 < 2 ∨ 5 < r.1 ∨ r.2 < M.objs.length) W W') (hs : W.heap.size ≤ W'.heap.size) : MemAt W' B cap M G :=
  ⟨fun k r hkr => ⟨(h.range k r hkr).1, Nat.lt_of_lt_of_le (h.range k r hkr).2 hs⟩, h.rm, (hk _ _ h.rm (.inl (by show 0 < 2; omega))).trans h.blk, row_kept h.ov h.ro hk (.inl (by show 1 < 2; omega)), h.ro, ⟨h.objs.len, fun i h1 h2 => (h.objs.shell i h1 h2).kept hk (.inr (.inr h1)) (Ex.refl _), fun i h1 h2 hg => (h.objs.body i h1 h2 hg).kept (h.objs.shell i h1 h2) hk (fun t _ _ => .inr (.inr h1)) (Ex.refl _) (Nat.le_refl _)⟩, row_kept h.fv h.rf hk (.inr (.inl (by show 5 < 6; omega))), h.rf, h.flen, h.mlen, fun j h1 h2 => ⟨row_kept (h.fo j h1 h2).1 (h.fo j h1 h2).2 hk (.inr (.inl (by show 5 < 7; omega))), (h.fo j h1 h2).2⟩, h.num⟩
/-- The last frame's row has grown. -/
theorem MemAt.pushFr (h : MemAt W B cap M G) {L : Nat} (hL : L < M.frs.length) (h1 : L < G.fss.length) (h2 : L < G.fms.length) {x fb : Nat} (hfa : G.fa = some ⟨fb, 0, none⟩) {C : Array Value} {ya : Option Addr} {yn yc : Nat}
    (hg : (W.alloc (.cells C 59)).grownBy w1 (Value.slice G.fss[L].1 G.fss[L].2.1 G.fss[L].2.2).ownBlock) (ho : OwnsPt w1 B (.slice ya yn yc) (G.fms[L] ++ [x])) (hw : ∀ b, (Value.slice ya yn yc).ownBlock = some b → (Value.slice G.fss[L].1 G.fss[L].2.1 G.fss[L].2.2).ownBlock = some b ∨ W.heap.size ≤ b) :
    w1.frozen? ⟨fb, L * 2 + 1, none⟩ = false ∧ w1.cell? ⟨fb, L * 2 + 1, none⟩ = some (.slice G.fss[L].1 G.fss[L].2.1 G.fss[L].2.2) ∧ Below B W (w1.setCell ⟨fb, L * 2 + 1, none⟩ (.slice ya yn yc)) ∧ Sep W (w1.setCell ⟨fb, L * 2 + 1, none⟩ (.slice ya yn yc)) G.ρ (rhoSet G.ρ (.slice ya yn yc) (7, L)) ∧ Kp G.ρ (fun r => r.1 < 6) W (w1.setCell ⟨fb, L * 2 + 1, none⟩ (.slice ya yn yc)) ∧ Ex G.ρ (rhoSet G.ρ (.slice ya yn yc) (7, L)) ∧
    MemAt (w1.setCell ⟨fb, L * 2 + 1, none⟩ (.slice ya yn yc)) B cap M {G with fss := G.fss.set L (ya, yn, yc), fms := G.fms.set L (G.fms[L] ++ [x]), ρ := rhoSet G.ρ (.slice ya yn yc) (7, L)} := by
  obtain ⟨hfo, hrole⟩ := h.fo L h1 h2
  have hoff : Off (fun b => (Value.slice G.fss[L].1 G.fss[L].2.1 G.fss[L].2.2).ownBlock = some b) W w1 := ((Off.refl _ W).alloc _).grown hg (fun b hb => .inl hb)
  have hfr6 : G.ρ fb = some (6, 0) := h.rf fb (by rw [hfa]; rfl)
  have hflt := (h.range _ _ hfr6).2
  have hfB := (h.range _ _ hfr6).1
  have hne : (Value.slice G.fss[L].1 G.fss[L].2.1 G.fss[L].2.2).ownBlock ≠ some fb := fun e => by
    have := hrole _ e; rw [hfr6] at this; simp at this
  have hoff2 : Off (fun b => (Value.slice G.fss[L].1 G.fss[L].2.1 G.fss[L].2.2).ownBlock = some b ∨ b = fb) W (w1.setCell ⟨fb, L * 2 + 1, none⟩ (.slice ya yn yc)) := (hoff.mono (fun b _ hb => .inl hb)).setCell (.inl (.inr rfl)) _
  have hex : Ex G.ρ (rhoSet G.ρ (.slice ya yn yc) (7, L)) := rhoSet_ex h.range hrole hw
  have hyf : ∀ b, (Value.slice ya yn yc).ownBlock = some b → b ≠ fb := fun b hb e => by
    rcases hw b hb with h3 | h3
    · exact hne (e ▸ h3)
    · omega
  have hkp : Kp G.ρ (fun r => r ≠ (6, 0) ∧ r ≠ (7, L)) W (w1.setCell ⟨fb, L * 2 + 1, none⟩ (.slice ya yn yc)) := kp_of_off h.range hoff2 fun b r hx hbr hR => by
    rcases hx with hx | hx
    · have := hrole _ hx; rw [hbr] at this; exact hR.2 (Option.some.inj this)
    · rw [hx, hfr6] at hbr; exact hR.1 (Option.some.inj hbr).symm
  have hkp6 : Kp G.ρ (fun r => r.1 < 6) W (w1.setCell ⟨fb, L * 2 + 1, none⟩ (.slice ya yn yc)) := fun b r hbr hR => hkp b r hbr ⟨fun e => by rw [e] at hR; simp at hR, fun e => by rw [e] at hR; simp at hR⟩
  have hbel : Below B W (w1.setCell ⟨fb, L * 2 + 1, none⟩ (.slice ya yn yc)) := hoff2.below (by omega) fun b hb => by
    rcases hb with hb | hb
    · exact (h.range _ _ (hrole b hb)).1
    · rw [hb]; exact hfB
  -- the row of frames
  have hfv1 : w1.ownsRow B 58 2 (.slice G.fa G.fn G.fc) (M.frs.zip G.fss).length (flatFr (M.frs.zip G.fss)) := by
    refine ⟨h.fv.1, ?_⟩
    rcases h.fv.2 with hn | ⟨g, cp, cur, e, hB, hgg, rest⟩
    · exact .inl hn
    · have e2 : g = fb := by
        have h9 : (Value.slice G.fa G.fn G.fc).ownBlock = some g := by rw [e]; rfl
        rw [hfa] at h9
        exact (Option.some.inj h9).symm
      exact .inr ⟨g, cp, cur, e, hB, (hoff.block g (by rw [e2]; exact hflt) (by rw [e2]; exact hne)).trans hgg, rest⟩
  have hzl : L < (M.frs.zip G.fss).length := by rw [List.length_zip]; omega
  have hcell : w1.cell? ⟨fb, L * 2 + 1, none⟩ = some (.slice G.fss[L].1 G.fss[L].2.1 G.fss[L].2.2) := by
    obtain ⟨g, e, _, hgl, hc⟩ := h.fv.read.2 (by rw [h.frn]; omega)
    rw [hfa] at e
    cases e
    have h3 := (hc L hzl).2
    rw [List.getElem_zip] at h3
    exact (hoff.cell (p := ⟨fb, L * 2 + 1, none⟩) hflt hne).trans h3
  have hfv1' := hfv1
  have hfn : (M.frs.zip G.fss).length = G.fn := by rw [h.frn, List.length_zip, h.flen]; exact Nat.min_self _
  rw [hfa, hfn] at hfv1'
  have hst := World.ownsRow.stored hfv1' (L * 2 + 1) (.slice ya yn yc)
  have hfz : w1.frozen? ⟨fb, L * 2 + 1, none⟩ = false := World.ownsRow.frozenAt hfv1' (L * 2 + 1)
  refine ⟨hfz, hcell, hbel, ⟨hoff2.mono (fun b _ hb => hb.elim (fun h' => ⟨_, hrole b h'⟩) (fun h' => ⟨(6, 0), by rw [h']; exact hfr6⟩)), fun b r hbr => (rhoSet_new hrole hw hbr).imp (fun h' => ⟨r, h'⟩) (fun h' => h'.1)⟩, hkp6, hex, fun b r hbr => ?_, hex _ _ h.rm, (hkp6 _ _ h.rm (by show 0 < 6; omega)).trans h.blk, row_kept h.ov h.ro hkp6 (by show 1 < 6; omega), h.ro.ex hex, (let k := h.objs.kept hkp6 (fun t i _ ht => by show t < 6; omega) (Nat.le_refl _) hex; ⟨k.len, k.shell, k.body⟩), ?_, h.rf.ex hex, by simp [h.flen], by simp [h.mlen], fun j k1 k2 => ?_, h.num⟩
  · rcases rhoSet_new hrole hw hbr with h3 | ⟨h3, h4⟩
    · have := h.range b r h3; have := hbel.size; omega
    · have := (ho.lt b h4).2
      simp [World.setCell]
      omega
  · show OwnsFr _ B (.slice G.fa G.fn G.fc) (M.frs.zip (G.fss.set L (ya, yn, yc)))
    rw [← zip_set M.frs G.fss L hL (ya, yn, yc), hfa]
    have e1 : ((M.frs.zip G.fss)[L]).1 = M.frs[L] := by rw [List.getElem_zip]
    rw [← e1]
    unfold OwnsFr
    rw [← flatFr_set _ L hzl (ya, yn, yc), List.length_set, hfn]
    exact hst.1
  · have k1' : j < G.fss.length := by simpa using k1
    have k2' : j < G.fms.length := by simpa using k2
    show OwnsPt _ B (.slice (G.fss.set L (ya, yn, yc))[j].1 (G.fss.set L (ya, yn, yc))[j].2.1 (G.fss.set L (ya, yn, yc))[j].2.2) (G.fms.set L (G.fms[L] ++ [x]))[j] ∧ RoleS _ (.slice (G.fss.set L (ya, yn, yc))[j].1 (G.fss.set L (ya, yn, yc))[j].2.1 (G.fss.set L (ya, yn, yc))[j].2.2) (7, j)
    by_cases e : L = j
    · subst e
      simp only [List.getElem_set_self]
      refine ⟨?_, rhoSet_role _ _ _⟩
      refine ⟨ho.1, ?_⟩
      rcases ho.2 with hn | ⟨gg, cp, cur, e, hB, hgg, rest⟩
      · exact .inl hn
      · exact .inr ⟨gg, cp, cur, e, hB, (Below.heap_setCell _ _ _ _ (hyf gg (by rw [e]; rfl))).trans hgg, rest⟩
    · simp only [List.getElem_set_ne e]
      have := h.fo j k1' k2'
      exact ⟨row_kept this.1 this.2 hkp ⟨by simp, by simp; omega⟩, this.2.ex hex⟩
/-- The rows hold the new object too. -/
theorem fm_new (hf : FmAt M G) (hinc : M.frs.Pairwise (· < ·)) {L : Nat} (hL : L < M.frs.length) (hm : L < G.fms.length) {x : Nat} {s : Option Addr × Nat × Nat} {ρ' : Rho} : FmNew M {G with fss := G.fss.set L s, fms := G.fms.set L (G.fms[L] ++ [x]), ρ := ρ'} x M.frs[L] := by
  intro j h1 h2
  have h2' : j < G.fms.length := by simpa using h2
  refine ⟨?_, fun y => ?_⟩
  · show ((G.fms.set L (G.fms[L] ++ [x]))[j]).length ≤ M.objs.length + 1
    rw [List.getElem_set]
    split
    · rw [List.length_append]; exact Nat.succ_le_succ (hf L hL hm).1
    · exact Nat.le_succ_of_le (hf j h1 h2').1
  show y ∈ (G.fms.set L (G.fms[L] ++ [x]))[j] ↔ _
  by_cases e : L = j
  · subst e
    rw [List.getElem_set_self, List.mem_append, List.mem_singleton, (hf L h1 hm).2 y]
    exact ⟨fun h => h.imp id (fun e => ⟨e, rfl⟩), fun h => h.imp id (fun e => e.1)⟩
  · rw [List.getElem_set_ne e, (hf j h1 h2').2 y]
    refine ⟨.inl, fun h => h.elim id (fun h3 => ?_)⟩
    exfalso
    have h4 := h3.2
    rcases Nat.lt_or_gt_of_ne e with h5 | h5
    · have := List.pairwise_iff_getElem.1 hinc L j hL h1 h5; omega
    · have := List.pairwise_iff_getElem.1 hinc j L h1 hL h5; omega
theorem last_fr {L : Nat} (hL : L + 1 = M.frs.length) : lastFr M = M.frs[L]'(by omega) := by
  unfold lastFr
  rw [List.getLast?_eq_getElem?, show M.frs.length - 1 = L by omega, List.getElem?_eq_getElem (by omega)]
  rfl
/-- Its frame's number is stored in a new object. -/
theorem shell_fr {o : PO} {g : GO} (hs : ShellAt W G.ρ M.objs.length o g) (hb : BodyAt W B cap G.ρ M.objs.length o g) (f : Int) (hr : ∀ k r, G.ρ k = some r → B ≤ k ∧ k < W.heap.size) :
    ShellAt (W.setCell ⟨g.ptr, 0, none⟩ (.int .i64 f)) G.ρ M.objs.length (withFr o f) g ∧ BodyAt (W.setCell ⟨g.ptr, 0, none⟩ (.int .i64 f)) B cap G.ρ M.objs.length (withFr o f) g ∧ Kp G.ρ (fun r => r ≠ (2, M.objs.length)) W (W.setCell ⟨g.ptr, 0, none⟩ (.int .i64 f)) := by
  have hkp : Kp G.ρ (fun r => r ≠ (2, M.objs.length)) W (W.setCell ⟨g.ptr, 0, none⟩ (.int .i64 f)) := fun b r hbr hR => Below.heap_setCell _ _ _ _ (fun e => by
    have e' : b = g.ptr := e
    rw [e', hs.rp] at hbr
    exact hR (Option.some.inj hbr).symm)
  refine ⟨⟨hs.rp, hs.rq, ?_⟩, ?_, hkp⟩
  · rw [heap_setCell_same W g.ptr 0 _ _ _ hs.blk]; rfl
  · have := hb.kept hs hkp (fun t h3 _ => by simp; omega) (Ex.refl _) (Nat.le_refl cap)
    unfold BodyAt at this ⊢
    have e : (withFr o f).tab = o.tab := rfl
    rw [e]
    cases ht : o.tab with
    | true => rw [ht] at this; exact ⟨this.blk, this.keys, this.rk, this.rm, this.map, this.has, this.look, this.klen⟩
    | false =>
      rw [ht] at this
      have h3 : RwAt (W.setCell ⟨g.ptr, 0, none⟩ (.int .i64 f)) B cap G.ρ M.objs.length o g := this
      exact ⟨h3.blk, h3.body, h3.size⟩
end
set_option maxRecDepth 100000 in
set_option maxHeartbeats 1000000 in
theorem lay_fr {W : World} {B cap : Nat} {M : PM} {G : GM} (hcap : cap ≤ 1099511627776) (h : MemAt W B cap M G) {L : Nat} (hL : L + 1 = M.frs.length) {o : PO} {g : GO} (hs : ShellAt W G.ρ M.objs.length o g) (hb : BodyAt W B cap G.ρ M.objs.length o g) (hfl : ∀ j (h2 : j < G.fms.length), G.fms[j].length ≤ cap) :
    Calls Try.prog 49 #[.pointer (some ⟨G.p, 0, none⟩), .pointer (some ⟨g.ptr, 0, none⟩)] W fun e w' => e = .returned (.tuple #[]) ∧ ∃ G', LaySt W w' B cap M G G' o g := by
  have hlf : L < M.frs.length := by omega
  have h1 : L < G.fss.length := by rw [h.flen]; exact hlf
  have h2 : L < G.fms.length := by rw [h.mlen]; exact hlf
  have hfrn := h.frn
  have c4 := h.cell 4
  simp only [List.getElem?_toArray, List.getElem?_cons_succ, List.getElem?_cons_zero] at c4
  obtain ⟨fb, hfa, _, hfbl, hfc⟩ := h.fv.read.2 (by rw [hfrn]; omega)
  have hzl : L < (M.frs.zip G.fss).length := by rw [List.length_zip]; omega
  obtain ⟨k0, k1⟩ := hfc L hzl
  rw [List.getElem_zip] at k0 k1
  rw [hfa] at c4
  obtain ⟨f, hf⟩ : ∃ f, M.frs[L] = f := ⟨_, rfl⟩
  obtain ⟨sa, sn, sc, hsl⟩ : ∃ sa sn sc, G.fss[L] = (sa, sn, sc) := ⟨_, _, _, rfl⟩
  have hfb6 : G.ρ fb = some (6, 0) := h.rf fb (by rw [hfa]; rfl)
  have hxp : g.ptr ≠ fb := fun e => by have := hs.rp; rw [e, hfb6] at this; simp at this
  have hxG : g.ptr ≠ G.p := fun e => by have := hs.rp; rw [e, h.rm] at this; simp at this
  obtain ⟨hs1, hb1, hkp1⟩ := shell_fr (M := M) hs hb f h.range
  obtain ⟨U, hU⟩ : ∃ U, W.setCell ⟨g.ptr, 0, none⟩ (.int .i64 f) = U := ⟨_, rfl⟩
  rw [hU] at hs1 hb1 hkp1
  have hxl := (h.range _ _ hs.rp)
  have hsz : W.heap.size ≤ U.heap.size := by rw [← hU]; simp [World.setCell]
  have hMU : MemAt U B cap M G := h.keptBut (fun b r hbr hR => hkp1 b r hbr (fun e => by rw [e] at hR; simp at hR)) hsz
  have hoU : Off (dom G.ρ) W U := by rw [← hU]; exact (Off.refl _ W).setCell (p := ⟨g.ptr, 0, none⟩) (.inl ⟨_, hs.rp⟩) _
  have hbU : Below B W U := by rw [← hU]; exact (Below.refl B W).setCell (p := ⟨g.ptr, 0, none⟩) hxl.1 _
  have cx : W.frozen? ⟨g.ptr, 0, none⟩ = false := by simp [World.frozen?, hs.blk]
  have cx0 : W.cell? ⟨g.ptr, 0, none⟩ = some (.int .i64 o.fr) := by simp [World.cell?, hs.blk]
  have u1 : U.cell? ⟨fb, L * 2 + 1, none⟩ = some (.slice sa sn sc) := by
    rw [← hU, World.cell?_setCell_far W ⟨g.ptr, 0, none⟩ ⟨fb, L * 2 + 1, none⟩ _ (fun e => hxp e), k1, hsl]
  have hfml := hfl L h2
  obtain ⟨hfo, hrole⟩ := hMU.fo L h1 h2
  have HOW : RowKit.Hid (OwnsPt U B (.slice sa sn sc) G.fms[L]) := Lib.hid (by have := hfo; simp only [hsl] at this; exact this)
  have HLZ : RowKit.Hid ((G.fms[L].length + 1) * 8 ≤ 140737488355328) := Lib.hid (by omega)
  have hBU : B ≤ U.heap.size := by omega
  have HLAST : RowKit.Hid (lastFr M = f) := Lib.hid (by rw [last_fr hL, hf])
  have HINC := Lib.hid h.num.inc
  have HPU : RowKit.Hid (∀ (C : Array Value) (ya : Option Addr) (yn yc : Nat) (w1 : World), (U.alloc (.cells C 59)).grownBy w1 (Value.slice sa sn sc).ownBlock → OwnsPt w1 B (.slice ya yn yc) (G.fms[L] ++ [g.ptr]) → (∀ b, (Value.slice ya yn yc).ownBlock = some b → (Value.slice sa sn sc).ownBlock = some b ∨ U.heap.size ≤ b) →
      w1.frozen? ⟨fb, L * 2 + 1, none⟩ = false ∧ w1.cell? ⟨fb, L * 2 + 1, none⟩ = some (.slice sa sn sc) ∧ ∃ G', LaySt W (w1.setCell ⟨fb, L * 2 + 1, none⟩ (.slice ya yn yc)) B cap M G G' o g) := Lib.hid fun C ya yn yc w1 hg1 ho1 hw1 => by
    obtain ⟨p1, p2, p3, p4, p5, p6, p7⟩ := hMU.pushFr hlf h1 h2 (x := g.ptr) hfa (C := C) (w1 := w1) (ya := ya) (yn := yn) (yc := yc) (by simp only [hsl]; exact hg1) ho1 (by simp only [hsl]; exact hw1)
    simp only [hsl] at p2
    refine ⟨p1, p2, _, p7, rfl, rfl, ⟨rfl, rfl, rfl⟩, ?_, ?_, hbU.trans p3, fun hfm => ?_, (Sep.mk hoU (fun b r hr => .inl ⟨r, hr⟩)).trans p4⟩
    · rw [HLAST.out]; exact hs1.kept p5 (by show 2 < 6; omega) p6
    · rw [HLAST.out]; exact hb1.kept hs1 p5 (fun t _ h5 => by show t < 6; omega) p6 (Nat.le_refl _)
    · rw [HLAST.out, ← hf]; exact fm_new hfm HINC.out hlf h2
  have hfn : G.fn = L + 1 := by omega
  rw [hfn] at c4
  rw [hf] at k0
  have HLW2 : RowKit.Hid (wrap64 (L : Int) = (L : Int)) := Lib.hid (by
    have := h.num.frs
    clear HPU HLZ
    unfold wrap64; omega)
  have hL0 : (0 : Int) ≤ (L : Int) := by omega
  have hL1 : (L : Int) < ((L + 1 : Nat) : Int) := by omega
  have hLw2 := HLW2.out
  clear h hs hb hs1 hb1 hkp1 hMU hoU hbU hfc k1 hsl hfo hrole hfl hfrn hfb6 hfn
  clear hL
  have k0b : W.cell? ⟨fb, L * 2, none⟩ = some (.int .i64 f) := k0
  have HBU := Lib.hid hBU
  clear k0 hf hzl hfml hxl hcap hBU hsz HLW2
  go_enter Try.func49, Try.ntmps49
  go_upto_region 4 with fail
  try rw [hU]
  clear hU
  go_wp2_with ((with_reducible refine wpList_append_pt _ rfl rfl _ _ rfl B (.slice sa sn sc) G.fms[L] ?_ ?_ ?_ _ 1 U.heap.size g.ptr ?_ ?_ ?_ ?_ ?_); (next => rfl); (next => exact HOW.out); (next => exact HBU.out); (next => rfl); (next => rfl); (next => rfl); (next => exact HLZ.out); intro ya yn yc w1 ho1 hg1 hw1; have HP := Lib.hid (HPU.out _ ya yn yc w1 hg1 ho1 hw1); have hf1 := HP.out.1; have hc1 := HP.out.2.1; clear ho1 hg1 hw1)
  go_end0
  exact ⟨rfl, HP.out.2.2⟩
/-- A frame takes what is laid in it, whatever frames there are. -/
theorem layOk_any {B cap : Nat} (hcap : cap ≤ 1099511627776) (M : PM) : LayOk B cap M := by
  by_cases h0 : M.frs = []
  · exact layOk_nil h0
  · intro W G o g h hs hb hfm hfr
    have hl : 0 < M.frs.length := List.length_pos_iff.2 h0
    exact lay_fr hcap h (L := M.frs.length - 1) (by omega) hs hb fun j h2 => Nat.le_trans (hfm j (by rw [← h.mlen]; exact h2) h2).1 h.num.objs
end Go.Proofs.Ytgnfinojnmkkkaa

/- Layer 10: package heap's Enter: a frame more. -/
namespace Go.Proofs.Ytgnfinojnmkkkaa
open Go.RowKit (wrap64 intOf Below)
set_option linter.unusedVariables false
set_option linter.unusedSimpArgs false

/-- What Enter does, and answers. -/
def frameM (M : PM) : PM := {M with frs := M.frs ++ [M.entered]}
def enterM (M : PM) : PM × Int := (frameM {M with entered := M.entered + 1}, (M.frs.length : Int) + 2)
theorem gone_frame {M : PM} {o : PO} (h : o.fr ≠ M.entered) : (frameM M).gone o = M.gone o := by
  unfold PM.gone frameM
  simp [h]
section
variable {W w1 : World} {B cap : Nat} {M : PM} {G : GM}
theorem FmAt.frame (hf : FmAt M G) (hml : G.fms.length = M.frs.length) (hob : ∀ o ∈ M.objs, o.fr < M.entered) {ya : Option Addr} {yn yc : Nat} {ρ' : Rho} : FmAt (frameM M) {G with fa := ya, fn := yn, fc := yc, fss := G.fss ++ [(none, 0, 0)], fms := G.fms ++ [[]], ρ := ρ'} := by
  intro j h1 h2
  have h1' : j < (M.frs ++ [M.entered]).length := h1
  have h2' : j < (G.fms ++ [[]]).length := h2
  show ((G.fms ++ [[]])[j]).length ≤ M.objs.length ∧ ∀ x, x ∈ (G.fms ++ [[]])[j] ↔ ∃ i, ∃ (k1 : i < M.objs.length) (k2 : i < G.gos.length), G.gos[i].ptr = x ∧ M.objs[i].fr = (M.frs ++ [M.entered])[j]
  by_cases e : j < M.frs.length
  · rw [List.getElem_append_left (by omega), List.getElem_append_left e]
    exact hf j e (by omega)
  · have e2 : j = M.frs.length := by simp at h1'; omega
    subst e2
    rw [List.getElem_append_right (by omega), List.getElem_append_right (by omega)]
    simp only [hml, Nat.sub_self, List.getElem_cons_zero]
    refine ⟨Nat.zero_le _, fun x => ⟨fun hx => absurd hx (by simp), ?_⟩⟩
    rintro ⟨i, k1, k2, _, h4⟩
    have := hob _ (List.getElem_mem k1)
    omega
theorem MemAt.frame (h : MemAt W B cap M G) (hpos : 0 < M.entered) (hlt : ∀ f ∈ M.frs, f < M.entered) (hob : ∀ o ∈ M.objs, o.fr < M.entered) (hfl : M.frs.length + 1 ≤ cap) {C : Array Value} {ya : Option Addr} {yn yc : Nat}
    (hg : (W.alloc (.cells C 58)).grownBy w1 (Value.slice G.fa G.fn G.fc).ownBlock) (ho : OwnsFr w1 B (.slice ya yn yc) (M.frs.zip G.fss ++ [(M.entered, none, 0, 0)])) (hw : ∀ b, (Value.slice ya yn yc).ownBlock = some b → (Value.slice G.fa G.fn G.fc).ownBlock = some b ∨ W.heap.size ≤ b) :
    w1.cell? ⟨G.p, 5, none⟩ = some (.int .i64 M.entered) ∧ w1.frozen? ⟨G.p, 4, none⟩ = false ∧ w1.cell? ⟨G.p, 4, none⟩ = some (.slice G.fa G.fn G.fc) ∧ Below B W (w1.setCell ⟨G.p, 4, none⟩ (.slice ya yn yc)) ∧ Sep W (w1.setCell ⟨G.p, 4, none⟩ (.slice ya yn yc)) G.ρ (rhoSet G.ρ (.slice ya yn yc) (6, 0)) ∧ MemAt (w1.setCell ⟨G.p, 4, none⟩ (.slice ya yn yc)) B cap (frameM M) {G with fa := ya, fn := yn, fc := yc, fss := G.fss ++ [(none, 0, 0)], fms := G.fms ++ [[]], ρ := rhoSet G.ρ (.slice ya yn yc) (6, 0)} := by
  have hoff : Off (fun b => (Value.slice G.fa G.fn G.fc).ownBlock = some b) W w1 := ((Off.refl _ W).alloc _).grown hg (fun b hb => .inl hb)
  have hplt := h.plt.2
  have hpB := h.plt.1
  have hpne : (Value.slice G.fa G.fn G.fc).ownBlock ≠ some G.p := fun e => by
    have := h.rf _ e; rw [h.rm] at this; simp at this
  have hp1 : w1.heap[G.p]? = _ := (hoff.block G.p hplt hpne).trans h.blk
  have hoff2 : Off (fun b => (Value.slice G.fa G.fn G.fc).ownBlock = some b ∨ b = G.p) W (w1.setCell ⟨G.p, 4, none⟩ (.slice ya yn yc)) := (hoff.mono (fun b _ hb => .inl hb)).setCell (.inl (.inr rfl)) _
  have hex : Ex G.ρ (rhoSet G.ρ (.slice ya yn yc) (6, 0)) := rhoSet_ex h.range h.rf hw
  have hkp : Kp G.ρ (fun r => r ≠ (0, 0) ∧ r ≠ (6, 0)) W (w1.setCell ⟨G.p, 4, none⟩ (.slice ya yn yc)) := kp_of_off h.range hoff2 fun b r hx hbr hR => by
    rcases hx with hx | hx
    · have := h.rf _ hx; rw [hbr] at this; exact hR.2 (Option.some.inj this)
    · rw [hx, h.rm] at hbr; exact hR.1 (Option.some.inj hbr).symm
  have hyp : ∀ b, (Value.slice ya yn yc).ownBlock = some b → b ≠ G.p := fun b hb e => by
    rcases hw b hb with h1 | h1
    · exact hpne (e ▸ h1)
    · omega
  have hbel : Below B W (w1.setCell ⟨G.p, 4, none⟩ (.slice ya yn yc)) := hoff2.below (by omega) fun b hb => by
    rcases hb with hb | hb
    · exact (h.range _ _ (h.rf b hb)).1
    · rw [hb]; exact hpB
  have hgo : ∀ i (h1 : i < M.objs.length), (frameM M).gone M.objs[i] = M.gone M.objs[i] := fun i h1 => gone_frame (by have := hob _ (List.getElem_mem h1); omega)
  refine ⟨by simp [World.cell?, hp1], by simp [World.frozen?, hp1], by simp [World.cell?, hp1], hbel, ⟨hoff2.mono (fun b _ hb => hb.elim (fun h' => ⟨_, h.rf b h'⟩) (fun h' => ⟨(0, 0), by rw [h']; exact h.rm⟩)), fun b r hbr => (rhoSet_new h.rf hw hbr).imp (fun h' => ⟨r, h'⟩) (fun h' => h'.1)⟩, fun b r hbr => ?_, hex _ _ h.rm, ?_, row_kept h.ov h.ro hkp (by simp), h.ro.ex hex, ⟨h.objs.len, fun i k1 k2 => (h.objs.shell i k1 k2).kept hkp (by simp) hex, fun i k1 k2 hgn => (h.objs.body i k1 k2 ((hgo i k1).symm.trans hgn)).kept (h.objs.shell i k1 k2) hkp (fun t h3 h5 => ⟨by simp; omega, by simp; omega⟩) hex (Nat.le_refl _)⟩, ?_, rhoSet_role _ _ _, by simp [frameM, h.flen], by simp [frameM, h.mlen], fun j k1 k2 => ?_, ?_⟩
  · rcases rhoSet_new h.rf hw hbr with h1 | ⟨h1, h2⟩
    · have := h.range b r h1; have := hbel.size; omega
    · have := (ho.lt b h2).2
      simp [World.setCell]
      omega
  · rw [heap_setCell_same w1 G.p 4 _ _ _ hp1]; rfl
  · show OwnsFr _ B _ ((M.frs ++ [M.entered]).zip (G.fss ++ [(none, 0, 0)]))
    rw [List.zip_append h.flen.symm]
    refine ⟨ho.1, ?_⟩
    rcases ho.2 with hn | ⟨gg, cp, cur, e, hB, hgg, rest⟩
    · exact .inl hn
    · exact .inr ⟨gg, cp, cur, e, hB, (Below.heap_setCell _ _ _ _ (hyp gg (by rw [e]; rfl))).trans hgg, rest⟩
  · have k1' : j < (G.fss ++ [(none, 0, 0)]).length := k1
    have k2' : j < (G.fms ++ [[]]).length := k2
    show OwnsPt _ B (.slice (G.fss ++ [(none, 0, 0)])[j].1 (G.fss ++ [(none, 0, 0)])[j].2.1 (G.fss ++ [(none, 0, 0)])[j].2.2) (G.fms ++ [[]])[j] ∧ RoleS _ (.slice (G.fss ++ [(none, 0, 0)])[j].1 (G.fss ++ [(none, 0, 0)])[j].2.1 (G.fss ++ [(none, 0, 0)])[j].2.2) (7, j)
    by_cases e : j < G.fss.length
    · rw [List.getElem_append_left e, List.getElem_append_left (by rw [h.mlen, ← h.flen]; exact e)]
      have k := h.fo j e (by rw [h.mlen, ← h.flen]; exact e)
      exact ⟨row_kept k.1 k.2 hkp (by simp), k.2.ex hex⟩
    · have e2 : j = G.fss.length := by simp at k1'; omega
      have e3 : j = G.fms.length := by rw [h.mlen, ← h.flen]; exact e2
      rw [List.getElem_append_right (by omega), List.getElem_append_right (by omega)]
      simp only [← e2, ← e3, Nat.sub_self, List.getElem_cons_zero]
      exact ⟨World.ownsRow_nil _ _ _ 1, fun b hb => by cases hb⟩
  · have n := h.num
    refine ⟨n.limit, n.used, n.makes, n.entered, n.objs, by simp [frameM]; exact hfl, ?_, fun f hf => ?_, n.fr⟩
    · show (M.frs ++ [M.entered]).Pairwise (· < ·)
      rw [List.pairwise_append]
      exact ⟨n.inc, by simp, fun a ha b hb => by rw [List.mem_singleton] at hb; rw [hb]; exact hlt a ha⟩
    · have hf' : f ∈ M.frs ++ [M.entered] := hf
      rcases List.mem_append.1 hf' with h1 | h1
      · exact n.pos f h1
      · rw [List.mem_singleton] at h1; subst h1; exact ⟨hpos, Int.le_refl _⟩
end
theorem info_fr : (Try.prog.info? 58).map (fun i => (i.zero, i.size, i.bytes)) = some (some (.agg #[.int .i64 0, .slice none 0 0]), 2, 32) := by kernel_rfl
/-- 'append(l, f)' of a frame, as a step of a region. -/
theorem step_append_fr {u : World} {ops : Array Oper} {o : Oper} {a : Act} {K : Act → World → Prop} {Q : Exit → Act → World → Prop} {E : Prop} (hgd : Region.wanted o (yielded ops a.tmps) = true) (s x : Operand)
    (ho : o.op = .call { callee := .builtin .append, args := #[s, x], argTypes := #[44, 44] })
    (B : Nat) (v : Value) (l : List (Int × Option Addr × Nat × Nat)) (hs : a.eval s = v) (hown : OwnsFr u B v l) (hB : B ≤ u.heap.size)
    (C : Array Value) (c g : Nat) (z : Int × Option Addr × Nat × Nat) (hx : a.eval x = .slice (some ⟨g, 0, none⟩) 1 c) (hg : g = u.heap.size) (hC : C = #[.int .i64 z.1, .slice z.2.1 z.2.2.1 z.2.2.2])
    (hlen : (l.length + 1) * 32 ≤ 140737488355328)
    (h : ∀ va vn vc w', OwnsFr w' B (.slice va vn vc) (l ++ [z]) → (u.alloc (.cells C 58)).grownBy w' v.ownBlock → (∀ k, (Value.slice va vn vc).ownBlock = some k → v.ownBlock = some k ∨ u.heap.size ≤ k) → K (a.put o.dst (.slice va vn vc)) w') :
    if Region.wanted o (yielded ops a.tmps) = true then Oper.wp Try.prog o a (u.alloc (.cells C 58)) K Q else E := by
  rw [if_pos hgd]
  obtain ⟨i0, hi, hz0, hz1, hz2⟩ := info_parts info_fr
  subst hC hg
  obtain ⟨v', w', hrun, r1, r2, _, r3⟩ := run_append_own_at (P := Try.prog) (u.alloc (.cells #[.int .i64 z.1, .slice z.2.1 z.2.2.1 z.2.2.2] 58)) B 44 o.type 58 i0 (.agg #[.int .i64 0, .slice none 0 0]) 2 32 Try.underlying44 hi hz0 hz1 hz2 rfl (by decide) v l.length (flatFr l) (World.ownsRow.alloc hown _) ⟨u.heap.size, 0, none⟩ 1 c [.int .i64 z.1, .slice z.2.1 z.2.2.1 z.2.2.2] rfl (fun j y hu => by
    rw [addr_plain, Nat.zero_add, World.cell?_alloc_mark]
    simpa using hu) (by intro y hu; simp at hu; rcases hu with rfl | rfl <;> rfl) (by unfold maxLen; omega) (by omega) (by simp; omega)
  have h2 : OwnsFr w' B v' (l ++ [z]) := by
    show w'.ownsRow B _ 2 v' (l ++ [z]).length (flatFr (l ++ [z]))
    rw [show flatFr (l ++ [z]) = flatFr l ++ [.int .i64 z.1, .slice z.2.1 z.2.2.1 z.2.2.2] by simp [flatFr], List.length_append]
    exact r1
  obtain ⟨va, vn, vc, rfl⟩ : ∃ va vn vc, v' = .slice va vn vc := by
    rcases h2.2 with ⟨e, _⟩ | ⟨_, _, _, e, _⟩
    · exact ⟨_, _, _, e⟩
    · exact ⟨_, _, _, e⟩
  have hk := h va vn vc w' h2 r2 (fun k hk => by
      rcases r3 with e' | e'
      · exact .inl (e' ▸ hk)
      · rw [e'] at hk; cases hk; simp)
  unfold Oper.wp
  simp only [execOp, ho, resolve, invoke, builtin, List.map_toArray, List.map_cons, List.map_nil, hs, hx, Sem.run_bind, Sem.run_pure, Result.andThen_ok, hrun]
  exact hk
def EnterPost (W : World) (B cap : Nat) (M : PM) (G : GM) (e : Ending) (w' : World) : Prop := e = .returned (.int .i64 (enterM M).2) ∧ ∃ G', MemAt w' B (cap + 1) (enterM M).1 G' ∧ G'.p = G.p ∧ Below B W w' ∧ (FmAt M G → FmAt (enterM M).1 G') ∧ Sep W w' G.ρ G'.ρ
set_option maxRecDepth 100000 in
set_option maxHeartbeats 1000000 in
theorem enter_any {W : World} {B cap : Nat} {M : PM} {G : GM} (h : MemAt W B cap M G) (hcap : cap ≤ 1099511627776) :
    Calls Try.prog 12 #[.pointer (some ⟨G.p, 0, none⟩)] W (EnterPost W B cap M G) := by
  have n := h.num
  have c5 : W.cell? ⟨G.p, 5, none⟩ = some (.int .i64 M.entered) := by
    have := h.cell 5
    simp only [List.getElem?_toArray, List.getElem?_cons_succ, List.getElem?_cons_zero] at this
    exact this
  have f5 := h.free 5
  have hwe : wrap64 (M.entered + 1) = M.entered + 1 := by have := n.entered; unfold wrap64; omega
  have hn1 : NumAt (cap + 1) {M with entered := M.entered + 1} := ⟨n.limit, n.used, ⟨n.makes.1, by have := n.makes.2; show M.makes ≤ _; simp at this ⊢; omega⟩, ⟨by have := n.entered.1; show 0 ≤ M.entered + 1; omega, by have := n.entered.2; show M.entered + 1 ≤ _; simp at this ⊢; omega⟩, Nat.le_succ_of_le n.objs, Nat.le_succ_of_le n.frs, n.inc, fun f hf => ⟨(n.pos f hf).1, by have := (n.pos f hf).2; show f ≤ M.entered + 1; omega⟩, fun o ho => ⟨(n.fr o ho).1, by have := (n.fr o ho).2; show o.fr ≤ M.entered + 1; omega⟩⟩
  have HM1 : RowKit.Hid (MemAt (W.setCell ⟨G.p, 5, none⟩ (.int .i64 (M.entered + 1))) B (cap + 1) {M with entered := M.entered + 1} G) := Lib.hid (h.head (a := M.limit) (b := M.used) (c := M.makes) (d := M.entered + 1) (h.kpSet 5 _) (by simp [World.setCell]) (by rw [heap_setCell_same W G.p 5 _ _ _ h.blk]; rfl) (Nat.le_succ _) hn1)
  have HB1 : RowKit.Hid (Below B W (W.setCell ⟨G.p, 5, none⟩ (.int .i64 (M.entered + 1)))) := Lib.hid ((Below.refl B W).setCell (p := ⟨G.p, 5, none⟩) h.plt.1 _)
  have HO1 : RowKit.Hid (Off (dom G.ρ) W (W.setCell ⟨G.p, 5, none⟩ (.int .i64 (M.entered + 1)))) := Lib.hid ((Off.refl _ W).setCell (p := ⟨G.p, 5, none⟩) (.inl ⟨_, h.rm⟩) _)
  obtain ⟨U, hU⟩ : ∃ U, W.setCell ⟨G.p, 5, none⟩ (.int .i64 (M.entered + 1)) = U := ⟨_, rfl⟩
  rw [hU] at HM1 HB1 HO1
  have HMD : RowKit.Hid (MemAt U.drew B (cap + 1) {M with entered := M.entered + 1} G) := Lib.hid (HM1.out.since (Below.refl _ _).drew)
  have k4 : U.drew.cell? ⟨G.p, 4, none⟩ = some (.slice G.fa G.fn G.fc) := by
    have := HMD.out.cell 4
    simp only [List.getElem?_toArray, List.getElem?_cons_succ, List.getElem?_cons_zero] at this
    exact this
  have k5 : U.drew.cell? ⟨G.p, 5, none⟩ = some (.int .i64 (M.entered + 1)) := by
    have := HMD.out.cell 5
    simp only [List.getElem?_toArray, List.getElem?_cons_succ, List.getElem?_cons_zero] at this
    exact this
  have HOF : RowKit.Hid (OwnsFr U.drew B (.slice G.fa G.fn G.fc) (M.frs.zip G.fss)) := Lib.hid HMD.out.fv
  have hplt := HMD.out.plt
  have HBU : RowKit.Hid (B ≤ U.drew.heap.size) := Lib.hid (by omega)
  have hzl : (M.frs.zip G.fss).length = M.frs.length := by rw [List.length_zip, h.flen]; exact Nat.min_self _
  have HZL := Lib.hid hzl
  have HLZ : RowKit.Hid (((M.frs.zip G.fss).length + 1) * 32 ≤ 140737488355328) := Lib.hid (by have := n.frs; rw [hzl]; omega)
  have HNL := Lib.hid n.frs
  have HPU : RowKit.Hid (∀ (C : Array Value) (ya : Option Addr) (yn yc : Nat) (w1 : World), (U.drew.alloc (.cells C 58)).grownBy w1 (Value.slice G.fa G.fn G.fc).ownBlock → OwnsFr w1 B (.slice ya yn yc) (M.frs.zip G.fss ++ [(M.entered + 1, none, 0, 0)]) → (∀ b, (Value.slice ya yn yc).ownBlock = some b → (Value.slice G.fa G.fn G.fc).ownBlock = some b ∨ U.drew.heap.size ≤ b) → _) := Lib.hid fun C ya yn yc w1 hg1 ho1 hw1 => HMD.out.frame (by have := n.entered.1; show 0 < M.entered + 1; omega) (fun f hf => by have := (n.pos f hf).2; show f < M.entered + 1; omega) (fun o ho => by have := (n.fr o ho).2; show o.fr < M.entered + 1; omega) (Nat.succ_le_succ n.frs) (C := C) (w1 := w1) (ya := ya) (yn := yn) (yc := yc) hg1 ho1 hw1
  have k4a : ∀ X, (U.drew.alloc X).cell? ⟨G.p, 4, none⟩ = some (.slice G.fa G.fn G.fc) := fun X => ((Below.refl _ U.drew).alloc (Nat.le_refl _) X |>.cell (p := ⟨G.p, 4, none⟩) hplt.2).trans k4
  have k5a : ∀ X, (U.drew.alloc X).cell? ⟨G.p, 5, none⟩ = some (.int .i64 (M.entered + 1)) := fun X => ((Below.refl _ U.drew).alloc (Nat.le_refl _) X |>.cell (p := ⟨G.p, 5, none⟩) hplt.2).trans k5
  have HFM : RowKit.Hid (FmAt M G → ∀ (ya : Option Addr) (yn yc : Nat) (ρ' : Rho), FmAt (enterM M).1 {G with fa := ya, fn := yn, fc := yc, fss := G.fss ++ [(none, 0, 0)], fms := G.fms ++ [[]], ρ := ρ'}) := Lib.hid fun hf ya yn yc ρ' => FmAt.frame (M := {M with entered := M.entered + 1}) hf h.mlen (fun o ho => by have := (n.fr o ho).2; show o.fr < M.entered + 1; omega)
  clear h n hn1 hplt hzl
  go_enter Try.func12, Try.ntmps12
  go_wp2_with fail
  try rw [hU]
  clear hU c5 f5
  refine wp_region_Z (S := (fun u : World => u.cell? ⟨G.p, 4, none⟩ = some (.slice G.fa G.fn G.fc) ∧ u.cell? ⟨G.p, 5, none⟩ = some (.int .i64 (M.entered + 1)))) 14 (by kernel_rfl) ⟨k4, k5⟩ (fun hHeld => ?_)
  refine wpAnyZ_take (i := 0) (oi := ⟨some 10, _, _, _, _, _⟩) (v := ?_) rfl (by kernel_rfl) (by kernel_rfl) (by kernel_rfl) (by kernel_rfl) (fun _ _ _ h => h) (Or.inl ⟨by rfl, ?_⟩) (by assumption) ?_
  rotate_left
  · ((intro w hSw; (try dsimp only at hSw); go_simp); try with_reducible rfl)
  (try simp only [Act.put, List.setIfInBounds_toArray, List.set_cons_zero, List.set_cons_succ])
  refine wpAnyZ_take (i := 1) (oi := ⟨some 11, _, _, _, _, _⟩) (v := ?_) rfl (by kernel_rfl) (by kernel_rfl) (by kernel_rfl) (by kernel_rfl) (fun _ _ _ h => h) (Or.inl ⟨by rfl, ?_⟩) (by assumption) ?_
  rotate_left
  · ((intro w hSw; (try dsimp only at hSw); go_simp); try with_reducible rfl)
  (try simp only [Act.put, List.setIfInBounds_toArray, List.set_cons_zero, List.set_cons_succ])
  refine wpAnyZ_take (i := 2) (oi := ⟨some 12, _, _, _, _, _⟩) (v := ?_) rfl (by kernel_rfl) (by kernel_rfl) (by kernel_rfl) (by kernel_rfl) (fun _ _ _ h => h) (Or.inl ⟨by rfl, ?_⟩) (by assumption) ?_
  rotate_left
  · ((intro w hSw; (try dsimp only at hSw); go_simp); try with_reducible rfl)
  (try simp only [Act.put, List.setIfInBounds_toArray, List.set_cons_zero, List.set_cons_succ])
  refine wpAnyZ_take (i := 3) (oi := ⟨some 13, _, _, _, _, _⟩) (v := ?_) rfl (by kernel_rfl) (by kernel_rfl) (by kernel_rfl) (by kernel_rfl) (fun _ _ _ h => h) (Or.inl ⟨by rfl, ?_⟩) (by assumption) ?_
  rotate_left
  · ((intro w hSw; (try dsimp only at hSw); go_simp); try with_reducible rfl)
  (try simp only [Act.put, List.setIfInBounds_toArray, List.set_cons_zero, List.set_cons_succ])
  refine wpAnyZ_take (i := 4) (oi := ⟨some 14, _, _, _, _, _⟩) (v := ?_) rfl (by kernel_rfl) (by kernel_rfl) (by kernel_rfl) (by kernel_rfl) (fun _ _ _ h => h) (Or.inl ⟨by rfl, ?_⟩) (by assumption) ?_
  rotate_left
  · ((intro w hSw; (try dsimp only at hSw); go_simp); try with_reducible rfl)
  (try simp only [Act.put, List.setIfInBounds_toArray, List.set_cons_zero, List.set_cons_succ])
  refine wpAnyZ_take (i := 5) (oi := ⟨some 15, _, _, _, _, _⟩) (v := ?_) rfl (by kernel_rfl) (by kernel_rfl) (by kernel_rfl) (by kernel_rfl) (fun _ _ _ h => h) (Or.inl ⟨by rfl, ?_⟩) (by assumption) ?_
  rotate_left
  · ((intro w hSw; (try dsimp only at hSw); go_simp); try with_reducible rfl)
  (try simp only [Act.put, List.setIfInBounds_toArray, List.set_cons_zero, List.set_cons_succ])
  refine wpAnyZ_take (i := 6) (oi := ⟨some 16, _, _, _, _, _⟩) (v := ?_) rfl (by kernel_rfl) (by kernel_rfl) (by kernel_rfl) (by kernel_rfl) (fun _ _ _ h => h) (Or.inl ⟨by rfl, ?_⟩) (by assumption) ?_
  rotate_left
  · ((intro w hSw; (try dsimp only at hSw); go_simp); try with_reducible rfl)
  (try simp only [Act.put, List.setIfInBounds_toArray, List.set_cons_zero, List.set_cons_succ])
  refine wpAnyZ_take (i := 7) (oi := ⟨some 17, _, _, _, _, _⟩) (v := ?_) rfl (by kernel_rfl) (by kernel_rfl) (by kernel_rfl) (by kernel_rfl) (fun _ _ _ h => h) (Or.inl ⟨by rfl, ?_⟩) (by assumption) ?_
  rotate_left
  · ((intro w hSw; (try dsimp only at hSw); go_simp); try with_reducible rfl)
  (try simp only [Act.put, List.setIfInBounds_toArray, List.set_cons_zero, List.set_cons_succ])
  refine wpAnyZ_take (i := 8) (oi := ⟨some 18, _, _, _, _, _⟩) (v := ?_) rfl (by kernel_rfl) (by kernel_rfl) (by kernel_rfl) (by kernel_rfl) (fun _ _ _ h => h) (Or.inl ⟨by rfl, ?_⟩) (by assumption) ?_
  rotate_left
  · ((intro w hSw; (try dsimp only at hSw); go_simp); try with_reducible rfl)
  (try simp only [Act.put, List.setIfInBounds_toArray, List.set_cons_zero, List.set_cons_succ])
  refine wpAnyZ_take (i := 9) (oi := ⟨some 19, _, _, _, _, _⟩) (v := ?_) rfl (by kernel_rfl) (by kernel_rfl) (by kernel_rfl) (by kernel_rfl) (fun _ _ _ h => h) (Or.inl ⟨by rfl, ?_⟩) (by assumption) ?_
  rotate_left
  · ((intro w hSw; (try dsimp only at hSw); go_simp); try with_reducible rfl)
  (try simp only [Act.put, List.setIfInBounds_toArray, List.set_cons_zero, List.set_cons_succ])
  refine wpAnyZ_one (i := 10) (by kernel_rfl) rfl (fun K hK => ?_)
  rw [if_pos (by rfl)]
  go_simp
  refine hK.out _ _ ⟨k4a _, k5a _⟩ (fun hHeld => ?_)
  clear hK K
  (try simp only [Act.put, List.setIfInBounds_toArray, List.set_cons_zero, List.set_cons_succ])
  refine wpAnyZ_one (i := 11) (by kernel_rfl) rfl (fun K hK => ?_)
  refine step_append_fr (u := U.drew) (by rfl) _ _ (by rfl) B (.slice G.fa G.fn G.fc) (M.frs.zip G.fss) (by rfl) HOF.out HBU.out _ 1 _ (M.entered + 1, none, 0, 0) (by rfl) rfl rfl HLZ.out ?_; intro ya yn yc w1 ho1 hg1 hw1; have HP := Lib.hid (HPU.out _ ya yn yc w1 hg1 ho1 hw1); have HYN := Lib.hid (OwnsFr.read ho1).1; clear ho1 hg1 hw1
  refine hK.out _ _ ⟨HP.out.2.2.1, HP.out.1⟩ (fun hHeld => ?_)
  clear hK K
  (try simp only [Act.put, List.setIfInBounds_toArray, List.set_cons_zero, List.set_cons_succ])
  refine wpAnyZ_one (i := 12) (by kernel_rfl) rfl (fun K hK => ?_)
  rw [if_pos (by rfl)]
  go_simp
  refine hK.out _ _ ⟨HP.out.2.2.1, HP.out.1⟩ (fun hHeld => ?_)
  clear hK K
  (try simp only [Act.put, List.setIfInBounds_toArray, List.set_cons_zero, List.set_cons_succ])
  refine wpAnyZ_one (i := 13) (by kernel_rfl) rfl (fun K hK => ?_)
  rw [if_pos (by rfl)]
  go_simp
  refine hK.out _ _ ⟨HP.out.2.2.1, HP.out.1⟩ (fun hHeld => ?_)
  clear hK K
  (try simp only [Act.put, List.setIfInBounds_toArray, List.set_cons_zero, List.set_cons_succ])
  have hf1 := HP.out.2.1
  have hc1 := HP.out.2.2.1
  refine wpAnyZ_last (by kernel_rfl) rfl (by kernel_rfl) (fun K hK => ?_)
  rw [if_pos (by rfl)]
  go_simp
  refine hK.out _ _ ?_
  clear hK K
  (try simp only [Act.put, List.setIfInBounds_toArray, List.set_cons_zero, List.set_cons_succ])
  have hy : yn = M.frs.length + 1 := by rw [HYN.out, List.length_append, HZL.out]; rfl
  subst hy
  have hwl : wrap64 (1 + ((M.frs.length : Int) + 1)) = (M.frs.length : Int) + 2 := by have := HNL.out; unfold wrap64; omega
  have c4 : (w1.setCell ⟨G.p, 4, none⟩ (.slice ya (M.frs.length + 1) yc)).cell? ⟨G.p, 4, none⟩ = some (.slice ya (M.frs.length + 1) yc) := by
    have := HP.out.2.2.2.2.2.cell 4
    simp only [List.getElem?_toArray, List.getElem?_cons_succ, List.getElem?_cons_zero] at this
    exact this
  clear k4 k5 k4a k5a hHeld hf1 hc1
  go_wp2_with fail
  go_ret
  refine ⟨by show Ending.returned (.int .i64 (wrap64 (1 + ((M.frs.length : Int) + 1)))) = _; rw [hwl]; rfl, _, HP.out.2.2.2.2.2, rfl, HB1.out.trans ((Below.refl B U).drew.trans HP.out.2.2.2.1), fun hf => HFM.out hf _ _ _ _, (Sep.mk HO1.out (fun b r hr => .inl ⟨r, hr⟩)).trans (Sep.trans (Sep.since (Below.refl _ U).drew) HP.out.2.2.2.2.1)⟩
end Go.Proofs.Ytgnfinojnmkkkaa

/- Layer 10: package heap's row, its get, and Get. -/
namespace Go.Proofs.Ytgnfinojnmkkkaa
open Go.RowKit (wrap64 intOf Below)
set_option linter.unusedVariables false
set_option linter.unusedSimpArgs false

def rowRes (M : PM) (G : GM) (r i : Int) : Value := if ansR M r i = 0 then ptrV (G.body r) else .pointer none
set_option maxRecDepth 100000 in
theorem row_any {W : World} {B cap : Nat} {M : PM} {G : GM} (h : MemAt W B cap M G) (hcap : cap ≤ 1099511627776) (r j : Int) (hr : -9223372036854775808 ≤ r ∧ r ≤ 9223372036854775807) :
    Calls Try.prog 43 #[.pointer (some ⟨G.p, 0, none⟩), .int .i64 r, .int .i64 j] W fun e w' => e = .returned (.tuple #[rowRes M G r j, .int .i64 (ansR M r j)]) ∧ Below W.heap.size W w' := by
  have CO := Lib.hid (object_any h r hr)
  cases ho : M.obj r with
  | none =>
    have HA : RowKit.Hid (rowRes M G r j = .pointer none ∧ ansR M r j = 6) := Lib.hid (by have h6 : ansR M r j = 6 := (by unfold ansR; rw [ho]); exact ⟨by unfold rowRes; rw [h6]; rfl, h6⟩)
    rw [obj_none ho] at CO
    clear h ho
    go_enter Try.func43, Try.ntmps43
    go_wp2_with (go_at_call 40; refine CO.out.mono ?_; rintro e u ⟨rfl, hu⟩; rw [hu]; clear hu u)
    go_ret2
    exact ⟨two_end HA.out.1 HA.out.2, Below.refl _ _⟩
  | some o =>
    obtain ⟨i, h1, h2, hri, hoi, hob, hbo⟩ := obj_some h.objs.len ho
    obtain ⟨hx, hx0, hx1, hx2⟩ := h.shellCells h1 h2
    have CG := Lib.hid (gone_o_any h hcap i h1 h2)
    rw [hob] at CO
    rw [hoi] at hx1 hx2 CG
    unfold ptrV at CO hx1 hx2
    obtain ⟨x, hxe⟩ : ∃ x, G.gos[i].ptr = x := ⟨_, rfl⟩
    obtain ⟨q, hq⟩ : ∃ q, G.gos[i].q = q := ⟨_, rfl⟩
    rw [hxe] at hx hx1 hx2 CO CG
    rw [hq] at hx1 hbo
    cases ht : o.tab with
    | true =>
      have HA : RowKit.Hid (rowRes M G r j = .pointer none ∧ ansR M r j = 6) := Lib.hid (by have h6 : ansR M r j = 6 := (by unfold ansR; rw [ho]; simp [ht]); exact ⟨by unfold rowRes; rw [h6]; rfl, h6⟩)
      rw [ht] at hx1
      clear h ho hob hbo hoi hx0 hx2 hri hxe hq ht
      simp only [if_true] at hx1
      go_enter Try.func43, Try.ntmps43
      go_wp2_with (go_at_call 40; refine CO.out.mono ?_; rintro e u ⟨rfl, hu⟩; rw [hu]; clear hu u)
      go_ret2
      exact ⟨two_end HA.out.1 HA.out.2, Below.refl _ _⟩
    | false =>
      rw [ht] at hx1
      simp only [if_false, Bool.false_eq_true] at hx1
      cases hg : M.gone o with
      | true =>
        have HA : RowKit.Hid (rowRes M G r j = .pointer none ∧ ansR M r j = 5) := Lib.hid (by have h6 : ansR M r j = 5 := (by unfold ansR; rw [ho]; simp [ht, hg]); exact ⟨by unfold rowRes; rw [h6]; rfl, h6⟩)
        rw [hg] at CG
        clear h ho hob hbo hoi hx0 hx2 hri hxe hq ht hg
        go_enter Try.func43, Try.ntmps43
        go_wp2_with (first
          | (go_at_call 40; refine CO.out.mono ?_; rintro e u ⟨rfl, hu⟩; rw [hu]; clear hu u)
          | (go_at_call 41; refine CG.out.mono ?_; rintro e u ⟨rfl, hb⟩; have HB := Lib.hid hb; clear hb))
        go_ret2
        exact ⟨two_end HA.out.1 HA.out.2, HB.out⟩
      | false =>
        have hbd := h.objs.body i h1 h2 (by rw [hoi]; exact hg)
        unfold BodyAt at hbd
        rw [hoi, ht] at hbd
        simp only [if_false, Bool.false_eq_true] at hbd
        have hbk := RwAt.blk hbd
        rw [hq] at hbk
        have hq0 : W.cell? ⟨q, 0, none⟩ = some (.int .i64 o.size) := by simp [World.cell?, hbk]
        have hql : q < W.heap.size := (Array.getElem?_eq_some_iff.1 hbk).1
        rw [hg] at CG
        by_cases hj0 : j < 0
        · have HA : RowKit.Hid (rowRes M G r j = .pointer none ∧ ansR M r j = 2) := Lib.hid (by have h6 : ansR M r j = 2 := (by unfold ansR; rw [ho]; simp [ht, hg, hj0]); exact ⟨by unfold rowRes; rw [h6]; rfl, h6⟩)
          have hd : decide (j < 0) = true := decide_eq_true hj0
          clear h ho hob hbo hoi hx0 hx2 hri hxe hq ht hg hbd hbk
          go_enter Try.func43, Try.ntmps43
          go_wp2_with (first
            | (go_at_call 40; refine CO.out.mono ?_; rintro e u ⟨rfl, hu⟩; rw [hu]; clear hu u)
            | (go_at_call 41; refine CG.out.mono ?_; rintro e u ⟨rfl, hb⟩; have HB := Lib.hid hb; have hy1 := (hb.cell (p := ⟨x, 1, none⟩) hx).trans hx1; have hyq := (hb.cell (p := ⟨q, 0, none⟩) hql).trans hq0; clear hb))
          go_ret2
          exact ⟨two_end HA.out.1 HA.out.2, HB.out⟩
        · have hd : decide (j < 0) = false := decide_eq_false hj0
          by_cases hjs : o.size ≤ j
          · have HA : RowKit.Hid (rowRes M G r j = .pointer none ∧ ansR M r j = 2) := Lib.hid (by have h6 : ansR M r j = 2 := (by unfold ansR; rw [ho]; simp [ht, hg, hjs]); exact ⟨by unfold rowRes; rw [h6]; rfl, h6⟩)
            have hd2 : decide (o.size ≤ j) = true := decide_eq_true hjs
            clear h ho hob hbo hoi hx0 hx2 hri hxe hq ht hg hbd hbk
            go_enter Try.func43, Try.ntmps43
            go_wp2_with (first
              | (go_at_call 40; refine CO.out.mono ?_; rintro e u ⟨rfl, hu⟩; rw [hu]; clear hu u)
              | (go_at_call 41; refine CG.out.mono ?_; rintro e u ⟨rfl, hb⟩; have HB := Lib.hid hb; have hy1 := (hb.cell (p := ⟨x, 1, none⟩) hx).trans hx1; have hyq := (hb.cell (p := ⟨q, 0, none⟩) hql).trans hq0; clear hb))
            go_ret2
            exact ⟨two_end HA.out.1 HA.out.2, HB.out⟩
          · have HA : RowKit.Hid (rowRes M G r j = .pointer (some ⟨q, 0, none⟩) ∧ ansR M r j = 0) := Lib.hid (by have h6 : ansR M r j = 0 := (by unfold ansR; rw [ho]; simp [ht, hg, hj0, hjs]); exact ⟨by unfold rowRes; rw [if_pos h6, hbo]; rfl, h6⟩)
            have hd2 : decide (o.size ≤ j) = false := decide_eq_false hjs
            clear h ho hob hbo hoi hx0 hx2 hri hxe hq ht hg hbd hbk
            go_enter Try.func43, Try.ntmps43
            go_wp2_with (first
              | (go_at_call 40; refine CO.out.mono ?_; rintro e u ⟨rfl, hu⟩; rw [hu]; clear hu u)
              | (go_at_call 41; refine CG.out.mono ?_; rintro e u ⟨rfl, hb⟩; have HB := Lib.hid hb; have hy1 := (hb.cell (p := ⟨x, 1, none⟩) hx).trans hx1; have hyq := (hb.cell (p := ⟨q, 0, none⟩) hql).trans hq0; clear hb))
            go_ret2
            exact ⟨two_end HA.out.1 HA.out.2, HB.out⟩
end Go.Proofs.Ytgnfinojnmkkkaa

/- Layer 10: package heap's row.get, and Get. -/
namespace Go.Proofs.Ytgnfinojnmkkkaa
open Go.RowKit (wrap64 intOf Below)
set_option linter.unusedVariables false
set_option linter.unusedSimpArgs false

theorem zeroVal (w : World) : (zeroValue 24).run Try.prog w = .ok (vvV zeroVV) w := by kernel_rfl
theorem box_set {w : World} {k : Nat} {a0 b0 c0 : Value} {T : TypeId} (hg : w.heap[k]? = some (.cells #[a0, b0, c0] T (0, 0))) (a b c : Value) : (((w.setCell ⟨k, 0, none⟩ a).setCell ⟨k, 1, none⟩ b).setCell ⟨k, 2, none⟩ c).heap[k]? = some (.cells #[a, b, c] T (0, 0)) := by
  rw [heap_setCell_same _ k 2 _ _ _ (heap_setCell_same _ k 1 _ _ _ (heap_setCell_same _ k 0 _ _ _ hg))]; rfl
theorem box_below {w u : World} {k : Nat} (hb : Below k w u) (a b c : Value) : Below k w (((u.setCell ⟨k, 0, none⟩ a).setCell ⟨k, 1, none⟩ b).setCell ⟨k, 2, none⟩ c) := ((hb.setCell (p := ⟨k, 0, none⟩) (Nat.le_refl _) _).setCell (p := ⟨k, 1, none⟩) (Nat.le_refl _) _).setCell (p := ⟨k, 2, none⟩) (Nat.le_refl _) _
/-- A look-up of a value under its number. -/
theorem wpList_lookup_vv {P : Program} (w : World) {ops : Array Oper} {rest : List Oper} {o : Oper} {a : Act} {Q : Exit → Act → World → Prop} (hP : P = Try.prog) (hg : o.guard = none) (m x : Operand)
    (hop : o.op = Op.lookup 67 m x false) (b n : Nat) (D : DataW Unit) (hm : a.eval m = .map (some b)) (hown : w.ownsMap Try.prog 2 valElem b n D) (k : Int) (hk : -9223372036854775808 ≤ k ∧ k ≤ 9223372036854775807) (hx : a.eval x = .int .i64 k)
    (y1 : Int) (y2 : ByteArray) (y3 : Int) (hat : D.atKey (.int .i64 k) (vvD zeroVV) = vvD (y1, y2, y3)) (hK : wpList P ops Q rest (a.put o.dst (.agg #[.int .i64 y1, .string y2, .int .i64 y3])) w) : wpList P ops Q (o :: rest) a w := by
  subst hP
  refine wpList_plain hg fun K' hK' => ?_
  have h := hown.lookup (t := 67) (e := 24) law64 Try.underlying67 (zeroVal w) (valElem_vv zeroVV) (key64 hk)
  obtain ⟨v, ps, hrun, hv⟩ := h
  rw [hat] at hv
  have := valElem_inv hv
  subst this
  unfold Oper.wp
  simp [execOp, hop, hm, hx, hrun, Result.andThen]
  exact hK' _ _ hK
set_option maxRecDepth 100000 in
theorem rget_any {W : World} {B cap : Nat} {ρ : Rho} {i : Nat} {o : PO} {g : GO} (h : RwAt W B cap ρ i o g) (j : Int) (hj : 0 ≤ j ∧ j < o.size) :
    Calls Try.prog 44 #[.pointer (some ⟨g.q, 0, none⟩), .int .i64 j] W fun e w' => e = .returned (vvV (o.get j)) ∧ Below W.heap.size W w' := by
  have hql : g.q < W.heap.size := (Array.getElem?_eq_some_iff.1 h.blk).1
  have b1 : Below W.heap.size W (W.alloc (.cells #[.int .i64 0, .string ⟨#[]⟩, .int .i64 0] 24)) := (Below.refl _ W).alloc (Nat.le_refl _) _
  have HB := Lib.hid b1
  have c1 : (W.alloc (.cells #[.int .i64 0, .string ⟨#[]⟩, .int .i64 0] 24)).cell? ⟨g.q, 1, none⟩ = some (.slice g.ka g.kn g.kc) := (b1.cell (p := ⟨g.q, 1, none⟩) hql).trans (by simp [World.cell?, h.blk])
  have c2 : (W.alloc (.cells #[.int .i64 0, .string ⟨#[]⟩, .int .i64 0] 24)).cell? ⟨g.q, 2, none⟩ = some (.map (if g.giv then none else some g.mp)) := (b1.cell (p := ⟨g.q, 2, none⟩) hql).trans (by simp [World.cell?, h.blk])
  have hb := h.body
  have hsz := h.size
  obtain ⟨y1, y2, y3, hy⟩ : ∃ y1 y2 y3, o.get j = (y1, y2, y3) := ⟨_, _, _, rfl⟩
  cases hg : g.giv with
  | true =>
    rw [hg] at hb c2
    obtain ⟨hn, hgv⟩ := hb
    obtain ⟨k, rfl⟩ : ∃ k : Nat, j = k := ⟨j.toNat, by omega⟩
    have hkn : k < g.kn := by omega
    obtain ⟨gb, cs, e, _, hh, hc⟩ := hgv (by omega)
    obtain ⟨d0, d1, d2⟩ := hc k hkn
    have hgl : gb < W.heap.size := (Array.getElem?_eq_some_iff.1 hh).1
    have e0 : (W.alloc (.cells #[.int .i64 0, .string ⟨#[]⟩, .int .i64 0] 24)).cell? ⟨gb, k * 3, none⟩ = some (.int .i64 y1) := (b1.cell (p := ⟨gb, k * 3, none⟩) hgl).trans (by simp [World.cell?, hh, d0, hy])
    have e1 : (W.alloc (.cells #[.int .i64 0, .string ⟨#[]⟩, .int .i64 0] 24)).cell? ⟨gb, k * 3 + 1, none⟩ = some (.string y2) := (b1.cell (p := ⟨gb, k * 3 + 1, none⟩) hgl).trans (by simp [World.cell?, hh, d1, hy])
    have e2 : (W.alloc (.cells #[.int .i64 0, .string ⟨#[]⟩, .int .i64 0] 24)).cell? ⟨gb, k * 3 + 2, none⟩ = some (.int .i64 y3) := (b1.cell (p := ⟨gb, k * 3 + 2, none⟩) hgl).trans (by simp [World.cell?, hh, d2, hy])
    have hki : (k : Int) < (g.kn : Int) := by omega
    have hk0 : (0 : Int) ≤ (k : Int) := by omega
    have hd : decide ((k : Int) < (g.kn : Int)) = true := decide_eq_true hki
    rw [hy]
    rw [e] at c1
    clear h b1 hy e hc hgv hh d0 d1 d2 hg hj hn hsz hgl
    go_enter Try.func44, Try.ntmps44
    go_wp2_with fail
    refine bodyPost_ret (results_cell_row rfl _ _ W.heap.size _ _ (0, 0) _ rfl (World.alloc_heap_new _ _) Try.underlying24 rfl (by kernel_rfl)) rfl ?_
    exact ⟨rfl, (Below.refl _ W).alloc (Nat.le_refl _) _⟩
  | false =>
    rw [hg] at hb c2
    obtain ⟨k1, k2, k3, k4, k5, k6⟩ := hb
    rw [k1, k2, k3] at c1
    have hml : g.mp < W.heap.size := by
      obtain ⟨es, clock, he, _⟩ := k5
      exact (Array.getElem?_eq_some_iff.1 he).1
    have HMAP : RowKit.Hid ((W.alloc (.cells #[.int .i64 0, .string ⟨#[]⟩, .int .i64 0] 24)).ownsMap Try.prog 2 valElem g.mp cap g.D) := Lib.hid (map_kept k5 (b1.block _ hml) (Nat.le_refl _))
    have HL := Lib.hid (k6 j)
    have hd : decide (j < 0) = false := decide_eq_false (by omega)
    rw [hy] at HL ⊢
    have HK : RowKit.Hid (-9223372036854775808 ≤ j ∧ j ≤ 9223372036854775807) := Lib.hid (by omega)
    clear h b1 hy hml hj hsz k6 k5 hg
    go_enter Try.func44, Try.ntmps44
    go_wp2_with (at_lookup; refine wpList_lookup_vv _ rfl rfl _ _ rfl g.mp cap g.D rfl HMAP.out j HK.out rfl y1 y2 y3 HL.out ?_)
    refine bodyPost_ret (results_cell_row rfl _ _ W.heap.size _ _ (0, 0) _ rfl (World.alloc_heap_new _ _) Try.underlying24 rfl (by kernel_rfl)) rfl ?_
    exact ⟨rfl, (Below.refl _ W).alloc (Nat.le_refl _) _⟩
end Go.Proofs.Ytgnfinojnmkkkaa

/- Layer 10: package heap's Get. -/
namespace Go.Proofs.Ytgnfinojnmkkkaa
open Go.RowKit (wrap64 intOf Below)
set_option linter.unusedVariables false
set_option linter.unusedSimpArgs false

theorem results_box {P : Program} {fn : Func} {p u : Tmp} {ty : TypeId} (h : fn.results = #[.cell p ty, .tmp u]) (tmps : Array Value) (w : World) (g : Nat) (t : TypeId) (cs : Array Value) (fr : Nat × Nat) (d : TypeDesc)
    (hp : tmps.getD p undef = .pointer (some ⟨g, 0, none⟩)) (hg : w.heap[g]? = some (.cells cs t fr))
    (hu : P.underlying ty = some d) (hd : (match d with | .struct _ | .array _ _ => true | _ => false) = true) (hi : (P.info? ty).map (·.size) = some cs.size) :
    (results fn tmps).run P w = .ok (.tuple #[.agg cs, tmps.getD u undef]) w := by
  rw [results_cell_tmp h, hp]
  simp [asAddr, run_loadVar_row w g t ty cs fr d hg hu hd hi]
/-- A row that can be asked. -/
theorem MemAt.rowOk {W : World} {B cap : Nat} {M : PM} {G : GM} (h : MemAt W B cap M G) {r j : Int} (ha : ansR M r j = 0) : ∃ (i : Nat) (h1 : i < M.objs.length) (h2 : i < G.gos.length), r = (i : Int) + 1 ∧ M.obj r = some M.objs[i] ∧ M.objs[i].tab = false ∧ G.body r = G.gos[i].q ∧ RwAt W B cap G.ρ i M.objs[i] G.gos[i] ∧ G.ρ G.gos[i].q = some (3, i) ∧ rowRes M G r j = .pointer (some ⟨G.gos[i].q, 0, none⟩) ∧ 0 ≤ j ∧ j < M.objs[i].size ∧ M.gone M.objs[i] = false := by
  cases ho : M.obj r with
  | none => unfold ansR at ha; rw [ho] at ha; simp at ha
  | some o =>
    obtain ⟨i, h1, h2, hri, hoi, _, hbo⟩ := obj_some h.objs.len ho
    have ha0 := ha
    unfold ansR at ha
    rw [ho] at ha
    have ht : o.tab = false := by
      cases ht : o.tab with
      | false => rfl
      | true => simp [ht] at ha
    have hg : M.gone o = false := by
      cases hg : M.gone o with
      | false => rfl
      | true => simp [ht, hg] at ha
    have hj : ¬ (j < 0 ∨ o.size ≤ j) := fun hc => by simp [ht, hg, hc] at ha
    have hb := h.objs.body i h1 h2 (by rw [hoi]; exact hg)
    unfold BodyAt at hb
    rw [hoi, ht] at hb
    exact ⟨i, h1, h2, hri, by rw [hoi], by rw [hoi]; exact ht, hbo, by rw [hoi]; exact hb, (h.objs.shell i h1 h2).rq, by unfold rowRes; rw [if_pos ha0, hbo]; rfl, by omega, by rw [hoi]; omega, by rw [hoi]; exact hg⟩
def getM (M : PM) (r j : Int) : VV × Int := if ansR M r j = 0 then ((match M.obj r with | some o => o.get j | none => zeroVV), 0) else (zeroVV, ansR M r j)
theorem box_end {y1 y1' : Int} {y2 y2' : ByteArray} {y3 y3' a a' : Int} (h : (y1, y2, y3) = (y1', y2', y3')) (h2 : a = a') : Ending.returned (.tuple #[.agg #[.int .i64 y1, .string y2, .int .i64 y3], .int .i64 a]) = .returned (.tuple #[vvV (y1', y2', y3'), .int .i64 a']) := by
  cases h; rw [h2]; rfl
set_option maxRecDepth 100000 in
set_option maxHeartbeats 1000000 in
theorem get_any {W : World} {B cap : Nat} {M : PM} {G : GM} (h : MemAt W B cap M G) (hcap : cap ≤ 1099511627776) (r j : Int) (hr : -9223372036854775808 ≤ r ∧ r ≤ 9223372036854775807) :
    Calls Try.prog 24 #[.pointer (some ⟨G.p, 0, none⟩), .int .i64 r, .int .i64 j] W fun e w' => e = .returned (.tuple #[vvV (getM M r j).1, .int .i64 (getM M r j).2]) ∧ Below W.heap.size W w' := by
  have b1 : Below W.heap.size W (W.alloc (.cells #[.int .i64 0, .string ⟨#[]⟩, .int .i64 0] 24)) := (Below.refl _ W).alloc (Nat.le_refl _) _
  have hx1 : (W.alloc (.cells #[.int .i64 0, .string ⟨#[]⟩, .int .i64 0] 24)).heap[W.heap.size]? = _ := World.alloc_heap_new _ _
  have hz1 : (W.alloc (.cells #[.int .i64 0, .string ⟨#[]⟩, .int .i64 0] 24)).heap.size = W.heap.size + 1 := by simp
  have h1 := h.since b1
  obtain ⟨W1, hW1⟩ : ∃ W1, W.alloc (.cells #[.int .i64 0, .string ⟨#[]⟩, .int .i64 0] 24) = W1 := ⟨_, rfl⟩
  rw [hW1] at b1 hx1 hz1 h1
  have HB1 := Lib.hid b1
  have CR := Lib.hid (row_any h1 hcap r j hr)
  have HX : RowKit.Hid (∀ u, Below W1.heap.size W1 u → u.heap[W.heap.size]? = some (.cells #[.int .i64 0, .string ⟨#[]⟩, .int .i64 0] 24 (0, 0))) := Lib.hid fun u hb => (hb.block _ (by omega)).trans hx1
  by_cases ha : ansR M r j = 0
  · obtain ⟨i, k1, k2, hri, ho, ht, hbo, hT, hq, hres, hj0, hj1, hg⟩ := h1.rowOk ha
    have hsz := hT.size
    rw [hres, ha] at CR
    have CG : RowKit.Hid (∀ u, Below W1.heap.size W1 u → Calls Try.prog 44 #[.pointer (some ⟨G.gos[i].q, 0, none⟩), .int .i64 j] u fun e w' => e = .returned (vvV (M.objs[i].get j)) ∧ Below u.heap.size u w') := Lib.hid fun u hb => by
      obtain ⟨i', k1', k2', hri', _, _, _, hT', _, _, _, _, _⟩ := (h1.since hb).rowOk ha
      have e : i' = i := by omega
      subst e
      exact rget_any hT' j (by omega)
    have HL : RowKit.Hid (getM M r j = (M.objs[i].get j, 0)) := Lib.hid (by unfold getM; rw [if_pos ha, ho])
    obtain ⟨y1, y2, y3, hy⟩ : ∃ y1 y2 y3, M.objs[i].get j = (y1, y2, y3) := ⟨_, _, _, rfl⟩
    rw [hy] at CG HL
    unfold vvV at CG
    generalize G.gos[i] = g at *
    clear h h1 ha ho ht hbo hT hq hres hri b1 hx1 hy hj0 hj1 hg hsz
    go_enter Try.func24, Try.ntmps24
    go_wp2_with (first
      | (go_at_call 43; refine CR.out.mono ?_; rintro e u ⟨rfl, hb⟩; have HB := Lib.hid hb; clear hb)
      | (go_at_call 44; refine (CG.out _ HB.out).mono ?_; rintro e u2 ⟨rfl, hb⟩; have HB2 : RowKit.Hid (Below W1.heap.size W1 u2) := Lib.hid (HB.out.trans (hb.mono HB.out.size)); clear hb; have hx2 := Lib.hid (HX.out _ HB2.out); have d0 : ∀ k, u2.cell? ⟨W.heap.size, k, none⟩ = (#[.int .i64 0, .string ⟨#[]⟩, .int .i64 0] : Array Value)[k]? := (fun k => by simp [World.cell?, hx2.out]); have e0 := d0 0; have e1 := d0 1; have e2 := d0 2; simp only [List.getElem?_toArray, List.getElem?_cons_succ, List.getElem?_cons_zero] at e0 e1 e2; have f0 : u2.frozen? ⟨W.heap.size, 0, none⟩ = false := (by simp [World.frozen?, hx2.out]); have f1 : u2.frozen? ⟨W.heap.size, 1, none⟩ = false := (by simp [World.frozen?, hx2.out]); have f2 : u2.frozen? ⟨W.heap.size, 2, none⟩ = false := (by simp [World.frozen?, hx2.out]); clear d0))
    refine bodyPost_ret (results_box rfl _ _ W.heap.size _ _ (0, 0) _ rfl (box_set hx2.out _ _ _) Try.underlying24 rfl (by kernel_rfl)) rfl ?_
    exact ⟨box_end (by rw [HL.out]) (by rw [HL.out]), box_below (HB1.out.trans (HB2.out.mono (by omega))) _ _ _⟩
  · have HL : RowKit.Hid (getM M r j = (zeroVV, ansR M r j)) := Lib.hid (by unfold getM; rw [if_neg ha])
    have HXX : RowKit.Hid (rowRes M G r j = .pointer none) := Lib.hid (by unfold rowRes; rw [if_neg ha])
    rw [HXX.out] at CR
    obtain ⟨x, hx⟩ : ∃ x, ansR M r j = x := ⟨_, rfl⟩
    have hxb : (x != 0) = true := by rw [← hx, bne_iff_ne]; exact ha
    rw [hx] at CR HL
    clear h h1 ha hx b1 hx1
    go_enter Try.func24, Try.ntmps24
    go_wp2_with (go_at_call 43; refine CR.out.mono ?_; rintro e u ⟨rfl, hb⟩; have HB := Lib.hid hb; clear hb; have hx2 := Lib.hid (HX.out _ HB.out); have d0 : ∀ k, u.cell? ⟨W.heap.size, k, none⟩ = (#[.int .i64 0, .string ⟨#[]⟩, .int .i64 0] : Array Value)[k]? := (fun k => by simp [World.cell?, hx2.out]); have e0 := d0 0; have e1 := d0 1; have e2 := d0 2; simp only [List.getElem?_toArray, List.getElem?_cons_succ, List.getElem?_cons_zero] at e0 e1 e2; have f0 : u.frozen? ⟨W.heap.size, 0, none⟩ = false := (by simp [World.frozen?, hx2.out]); have f1 : u.frozen? ⟨W.heap.size, 1, none⟩ = false := (by simp [World.frozen?, hx2.out]); have f2 : u.frozen? ⟨W.heap.size, 2, none⟩ = false := (by simp [World.frozen?, hx2.out]); clear d0)
    refine bodyPost_ret (results_box rfl _ _ W.heap.size _ _ (0, 0) _ rfl (box_set hx2.out _ _ _) Try.underlying24 rfl (by kernel_rfl)) rfl ?_
    exact ⟨box_end (by rw [HL.out]; rfl) (by rw [HL.out]), box_below (HB1.out.trans (HB.out.mono (by omega))) _ _ _⟩
end Go.Proofs.Ytgnfinojnmkkkaa

/- Layer 10: package heap's empty. -/
namespace Go.Proofs.Ytgnfinojnmkkkaa
open Go.RowKit (wrap64 intOf Below)
set_option linter.unusedVariables false
set_option linter.unusedSimpArgs false

theorem box_off {w u : World} {k : Nat} (hb : Off (fun b => b = k) w u) (a b c : Value) : Off (fun b => b = k) w (((u.setCell ⟨k, 0, none⟩ a).setCell ⟨k, 1, none⟩ b).setCell ⟨k, 2, none⟩ c) := ((hb.setCell (p := ⟨k, 0, none⟩) (.inl rfl) _).setCell (p := ⟨k, 1, none⟩) (.inl rfl) _).setCell (p := ⟨k, 2, none⟩) (.inl rfl) _
def Box3 (W : World) (q : Nat) : Prop := ∃ a b c T, W.heap[q]? = some (.cells #[a, b, c] T (0, 0))
set_option maxRecDepth 100000 in
theorem empty_tab {W : World} {x q : Nat} (hx2 : W.cell? ⟨x, 2, none⟩ = some (.pointer (some ⟨q, 0, none⟩))) (hq : Box3 W q) :
    Calls Try.prog 28 #[.pointer (some ⟨x, 0, none⟩)] W fun e w' => e = .returned (.tuple #[]) ∧ Off (fun b => b = q) W w' ∧ Box3 w' q := by
  obtain ⟨a, b, c, T, hg⟩ := hq
  have HG := Lib.hid hg
  have d0 : W.cell? ⟨q, 0, none⟩ = some a := by simp [World.cell?, hg]
  have d1 : W.cell? ⟨q, 1, none⟩ = some b := by simp [World.cell?, hg]
  have d2 : W.cell? ⟨q, 2, none⟩ = some c := by simp [World.cell?, hg]
  have f0 : W.frozen? ⟨q, 0, none⟩ = false := by simp [World.frozen?, hg]
  have f1 : W.frozen? ⟨q, 1, none⟩ = false := by simp [World.frozen?, hg]
  have f2 : W.frozen? ⟨q, 2, none⟩ = false := by simp [World.frozen?, hg]
  clear hg
  go_enter Try.func28, Try.ntmps28
  go_wp2_with fail
  first
    | go_end0
    | ((try simp only [Exit.inBlock, Exit.then]); refine bodyPost_ret (results_none rfl _ _ _) rfl ?_)
  exact ⟨rfl, box_off (Off.refl _ W) _ _ _, _, _, _, _, box_set HG.out _ _ _⟩
set_option maxRecDepth 100000 in
theorem empty_row {W : World} {x q : Nat} (hx2 : W.cell? ⟨x, 2, none⟩ = some (.pointer none)) (hx1 : W.cell? ⟨x, 1, none⟩ = some (.pointer (some ⟨q, 0, none⟩))) (hq : Box3 W q) :
    Calls Try.prog 28 #[.pointer (some ⟨x, 0, none⟩)] W fun e w' => e = .returned (.tuple #[]) ∧ Off (fun b => b = q) W w' ∧ Box3 w' q := by
  obtain ⟨a, b, c, T, hg⟩ := hq
  have HG := Lib.hid hg
  have d0 : W.cell? ⟨q, 0, none⟩ = some a := by simp [World.cell?, hg]
  have d1 : W.cell? ⟨q, 1, none⟩ = some b := by simp [World.cell?, hg]
  have d2 : W.cell? ⟨q, 2, none⟩ = some c := by simp [World.cell?, hg]
  have f0 : W.frozen? ⟨q, 0, none⟩ = false := by simp [World.frozen?, hg]
  have f1 : W.frozen? ⟨q, 1, none⟩ = false := by simp [World.frozen?, hg]
  have f2 : W.frozen? ⟨q, 2, none⟩ = false := by simp [World.frozen?, hg]
  clear hg
  go_enter Try.func28, Try.ntmps28
  go_wp2_with fail
  first
    | go_end0
    | ((try simp only [Exit.inBlock, Exit.then]); refine bodyPost_ret (results_none rfl _ _ _) rfl ?_)
  exact ⟨rfl, box_off (Off.refl _ W) _ _ _, _, _, _, _, box_set HG.out _ _ _⟩
end Go.Proofs.Ytgnfinojnmkkkaa

/- Layer 10: the last frame struck off: slices.Delete. -/
namespace Go.Proofs.Ytgnfinojnmkkkaa
open Go.RowKit (wrap64 intOf Below)
set_option linter.unusedVariables false
set_option linter.unusedSimpArgs false

theorem zeroFr (w : World) : (zeroValue 58).run Try.prog w = .ok (.agg #[.int .i64 0, .slice none 0 0]) w := by kernel_rfl
theorem run_clear_fr (w : World) (ty : TypeId) (g o c : Nat) (hc : ∀ j, j < 2 → (w.cell? ⟨g, o + j, none⟩).isSome = true) (hf : ∀ j, j < 2 → w.frozen? ⟨g, o + j, none⟩ = false) :
    (Builtin.clear_ #[44] ty #[.slice (some ⟨g, o, none⟩) 1 c]).run Try.prog w = .ok (.tuple #[]) (w.setCells g o [.int .i64 0, .slice none 0 0]) := by
  have hzc : (Builtin.zeroCells (Value.agg #[.int .i64 0, .slice none 0 0]).cells 1).toList = [.int .i64 0, .slice none 0 0] := by kernel_rfl
  have hst := run_storeCells_cells (P := Try.prog) g o [.int .i64 0, .slice none 0 0] 0 w (by simpa using hc) (by simpa using hf) (by intro v hv'; simp at hv'; rcases hv' with rfl | rfl <;> rfl)
  simp only [Nat.add_zero] at hst
  simp [Builtin.clear_, run_underlying Try.underlying44, zeroFr, hzc, hst]
/-- 'append(l, none..)': l, and nothing has turned but its spare cells. -/
theorem step_append_fr0 {u : World} {ops : Array Oper} {o : Oper} {a : Act} {K : Act → World → Prop} {Q : Exit → Act → World → Prop} {E : Prop} (hgd : Region.wanted o (yielded ops a.tmps) = true) (s x : Operand)
    (ho : o.op = .call { callee := .builtin .append, args := #[s, x], argTypes := #[44, 44] })
    (B : Nat) (g m c : Nat) (l : List (Int × Option Addr × Nat × Nat)) (hs : a.eval s = .slice (some ⟨g, 0, none⟩) m c) (hown : OwnsFr u B (.slice (some ⟨g, 0, none⟩) m c) l)
    (xa : Option Addr) (c' : Nat) (hx : a.eval x = .slice xa 0 c') (hxa : ∃ ad, xa = some ad)
    (h : ∀ w', OwnsFr w' B (.slice (some ⟨g, 0, none⟩) m c) l → u.grownBy w' (some g) → K (a.put o.dst (.slice (some ⟨g, 0, none⟩) m c)) w') :
    if Region.wanted o (yielded ops a.tmps) = true then Oper.wp Try.prog o a u K Q else E := by
  rw [if_pos hgd]
  obtain ⟨ad, rfl⟩ := hxa
  obtain ⟨i0, hi, hz0, hz1, hz2⟩ := info_parts info_fr
  have hml : m = l.length := (OwnsFr.read hown).1
  have hown0 : u.ownsRow B 58 2 (.slice (some ⟨g, 0, none⟩) m c) m (flatFr l) := by
    have := hown
    unfold OwnsFr at this
    rwa [← hml] at this
  have hmc : m ≤ c := by
    rcases hown0.2 with ⟨e, _⟩ | ⟨g', cap, cur, e, hB, hg, h1, _⟩
    · cases e
    · cases e; exact h1
  obtain ⟨w', hrun, r1, r2⟩ := run_append_own_spare (P := Try.prog) u B 44 o.type 58 i0 2 Try.underlying44 hi hz1 g m c (flatFr l) hown0 ad 0 c' [] (by simp) (by intro j y hu; simp at hu) (by intro y hu; cases hu) (by omega)
  have hk := h w' (by unfold OwnsFr; rw [← hml]; simpa using r1) r2
  unfold Oper.wp
  simp only [Nat.add_zero] at hrun
  simp only [execOp, ho, resolve, invoke, builtin, List.map_toArray, List.map_cons, List.map_nil, hs, hx, Sem.run_bind, Sem.run_pure, Result.andThen_ok, hrun]
  exact hk
theorem OwnsFr.pop {w : World} {B g c : Nat} {l : List (Int × Option Addr × Nat × Nat)} {z : Int × Option Addr × Nat × Nat} (h : OwnsFr w B (.slice (some ⟨g, 0, none⟩) (l.length + 1) c) (l ++ [z])) : OwnsFr w B (.slice (some ⟨g, 0, none⟩) l.length c) l := by
  unfold OwnsFr at h ⊢
  have e : flatFr (l ++ [z]) = flatFr l ++ [.int .i64 z.1, .slice z.2.1 z.2.2.1 z.2.2.2] := by simp [flatFr]
  rw [e, List.length_append] at h
  exact ownsRow_pop (by rw [flatFr_len]) h
theorem OwnsFr.blk {w : World} {B g m c : Nat} {l : List (Int × Option Addr × Nat × Nat)} (h : OwnsFr w B (.slice (some ⟨g, 0, none⟩) m c) l) : ∃ cur, w.heap[g]? = some (.cells cur 58 (0, 0)) ∧ cur.size = c * 2 ∧ m ≤ c := by
  rcases h.2 with ⟨e, _⟩ | ⟨g', cap, cur, e, hB, hg, h1, _, h3, _⟩
  · cases e
  · have hml := (OwnsFr.read h).1
    cases e; exact ⟨cur, hg, h3, by omega⟩
set_option maxRecDepth 100000 in
set_option maxHeartbeats 1000000 in
theorem delete_any {W : World} {B g c : Nat} {l : List (Int × Option Addr × Nat × Nat)} {z : Int × Option Addr × Nat × Nat} (h : OwnsFr W B (.slice (some ⟨g, 0, none⟩) (l.length + 1) c) (l ++ [z])) (hl : l.length ≤ 1099511627776) :
    Calls Try.prog 29 #[.slice (some ⟨g, 0, none⟩) (l.length + 1) c, .int .i64 (l.length : Int), .int .i64 ((l.length : Int) + 1)] W fun e w' => e = .returned (.slice (some ⟨g, 0, none⟩) l.length c) ∧ OwnsFr w' B (.slice (some ⟨g, 0, none⟩) l.length c) l ∧ Off (fun k => k = g) W w' := by
  obtain ⟨cur, hcur, hcs, hnc⟩ := h.blk
  have HOW : RowKit.Hid (OwnsFr W.drew B (.slice (some ⟨g, 0, none⟩) l.length c) l) := Lib.hid h.pop
  have HLL := Lib.hid hl
  have i1 : (l.length : Int) ≤ (l.length : Int) + 1 := by omega
  have i2 : (l.length : Int) + 1 ≤ (c : Int) := by omega
  have i3 : (l.length : Int) ≤ (c : Int) := by omega
  have i4 : (0 : Int) ≤ (l.length : Int) := by omega
  have i6 : (0 : Int) ≤ (l.length : Int) + 1 := by omega
  have i5 : ((l.length : Int) == (l.length : Int) + 1) = false := by rw [beq_eq_false_iff_ne]; omega
  clear h hcur hcs
  go_enter Try.func29, Try.ntmps29
  go_wp2_with fail
  refine wp_region_Z (S := (fun _ : World => True)) 7 (by kernel_rfl) trivial (fun hHeld => ?_)
  refine wpAnyZ_take (i := 0) (oi := ⟨some 20, _, _, _, _, _⟩) (v := ?_) rfl (by kernel_rfl) (by kernel_rfl) (by kernel_rfl) (by kernel_rfl) (fun _ _ _ h => h) (Or.inl ⟨by rfl, ?_⟩) (by assumption) ?_
  rotate_left
  · ((intro w hSw; (try dsimp only at hSw); go_simp); try with_reducible rfl)
  (try simp only [Act.put, List.setIfInBounds_toArray, List.set_cons_zero, List.set_cons_succ])
  refine wpAnyZ_take (i := 1) (oi := ⟨some 21, _, _, _, _, _⟩) (v := ?_) rfl (by kernel_rfl) (by kernel_rfl) (by kernel_rfl) (by kernel_rfl) (fun _ _ _ h => h) (Or.inl ⟨by rfl, ?_⟩) (by assumption) ?_
  rotate_left
  · ((intro w hSw; (try dsimp only at hSw); go_simp); try with_reducible rfl)
  (try simp only [Act.put, List.setIfInBounds_toArray, List.set_cons_zero, List.set_cons_succ])
  refine wpAnyZ_take (i := 2) (oi := ⟨some 22, _, _, _, _, _⟩) (v := ?_) rfl (by kernel_rfl) (by kernel_rfl) (by kernel_rfl) (by kernel_rfl) (fun _ _ _ h => h) (Or.inl ⟨by rfl, ?_⟩) (by assumption) ?_
  rotate_left
  · ((intro w hSw; (try dsimp only at hSw); go_simp); try with_reducible rfl)
  (try simp only [Act.put, List.setIfInBounds_toArray, List.set_cons_zero, List.set_cons_succ])
  refine wpAnyZ_take (i := 3) (oi := ⟨some 23, _, _, _, _, _⟩) (v := ?_) rfl (by kernel_rfl) (by kernel_rfl) (by kernel_rfl) (by kernel_rfl) (fun _ _ _ h => h) (Or.inl ⟨by rfl, ?_⟩) (by assumption) ?_
  rotate_left
  · ((intro w hSw; (try dsimp only at hSw); go_simp); try with_reducible rfl)
  (try simp only [Act.put, List.setIfInBounds_toArray, List.set_cons_zero, List.set_cons_succ])
  refine wpAnyZ_take (i := 4) (oi := ⟨some 24, _, _, _, _, _⟩) (v := ?_) rfl (by kernel_rfl) (by kernel_rfl) (by kernel_rfl) (by kernel_rfl) (fun _ _ _ h => h) (Or.inl ⟨by rfl, ?_⟩) (by assumption) ?_
  rotate_left
  · ((intro w hSw; (try dsimp only at hSw); go_simp); try with_reducible rfl)
  (try simp only [Act.put, List.setIfInBounds_toArray, List.set_cons_zero, List.set_cons_succ])
  refine wpAnyZ_take (i := 5) (oi := ⟨some 25, _, _, _, _, _⟩) (v := ?_) rfl (by kernel_rfl) (by kernel_rfl) (by kernel_rfl) (by kernel_rfl) (fun _ _ _ h => h) (Or.inl ⟨by rfl, ?_⟩) (by assumption) ?_
  rotate_left
  · ((intro w hSw; (try dsimp only at hSw); go_simp); try with_reducible rfl)
  (try simp only [Act.put, List.setIfInBounds_toArray, List.set_cons_zero, List.set_cons_succ])
  refine wpAnyZ_one (i := 6) (by kernel_rfl) rfl (fun K hK => ?_)
  refine step_append_fr0 (u := W.drew) (by rfl) _ _ (by rfl) B g l.length c l (by rfl) HOW.out _ _ (by rfl) (by split <;> exact ⟨_, rfl⟩) ?_; intro w1 ho1 hg1; have HO1 := Lib.hid ho1; have HG1 := Lib.hid hg1; clear ho1 hg1
  refine hK.out _ _ trivial (fun hHeld => ?_)
  clear hK K
  (try simp only [Act.put, List.setIfInBounds_toArray, List.set_cons_zero, List.set_cons_succ])
  refine wpAnyZ_last (by kernel_rfl) rfl (by kernel_rfl) (fun K hK => ?_)
  rw [if_pos (by rfl)]
  go_simp
  refine hK.out _ _ ?_
  clear hK K
  (try simp only [Act.put, List.setIfInBounds_toArray, List.set_cons_zero, List.set_cons_succ])
  obtain ⟨cur1, hcur1, hcs1, _⟩ := HO1.out.blk
  have hcl : ∀ ty, (Builtin.clear_ #[44] ty #[.slice (some ⟨g, l.length * 2, none⟩) 1 (c - l.length)]).run Try.prog w1 = .ok (.tuple #[]) (w1.setCells g (l.length * 2) [.int .i64 0, .slice none 0 0]) := fun ty => run_clear_fr w1 ty g (l.length * 2) (c - l.length) (fun j hj => by simp [World.cell?, hcur1]; omega) (fun j hj => by simp [World.frozen?, hcur1])
  have i7 : ¬ (c = l.length) := by omega
  have HEND : RowKit.Hid (OwnsFr (w1.setCells g (l.length * 2) [.int .i64 0, .slice none 0 0]) B (.slice (some ⟨g, 0, none⟩) l.length c) l ∧ Off (fun k => k = g) W (w1.setCells g (l.length * 2) [.int .i64 0, .slice none 0 0])) := Lib.hid (by
    refine ⟨?_, ?_⟩
    · show OwnsFr ((w1.setCell ⟨g, l.length * 2, none⟩ (.int .i64 0)).setCell ⟨g, l.length * 2 + 1, none⟩ (.slice none 0 0)) B (.slice (some ⟨g, 0, none⟩) l.length c) l
      have k1 := (World.ownsRow.stored HO1.out (l.length * 2) (.int .i64 0)).1
      rw [List.set_eq_of_length_le (by rw [flatFr_len]; omega)] at k1
      have k2 := (World.ownsRow.stored k1 (l.length * 2 + 1) (.slice none 0 0)).1
      rw [List.set_eq_of_length_le (by rw [flatFr_len]; omega)] at k2
      exact k2
    · have o1 : Off (fun k => k = g) W w1 := (Off.refl _ W).drew.grown HG1.out (fun b hb => .inl (Option.some.inj hb).symm)
      exact (o1.setCell (p := ⟨g, l.length * 2, none⟩) (.inl rfl) _).setCell (p := ⟨g, l.length * 2 + 1, none⟩) (.inl rfl) _)
  clear hcur1 hcs1 hHeld
  go_wp2_with fail
  all_goals go_ret
  all_goals first
    | exact ⟨rfl, HEND.out.1, HEND.out.2⟩
    | (have hc : c = l.length + 1 := (by assumption); subst hc; exact ⟨rfl, HEND.out.1, HEND.out.2⟩)
end Go.Proofs.Ytgnfinojnmkkkaa

/- Layer 10: a frame less. -/
namespace Go.Proofs.Ytgnfinojnmkkkaa
open Go.RowKit (wrap64 intOf Below)
set_option linter.unusedVariables false
set_option linter.unusedSimpArgs false

def lessM (M : PM) (L : Nat) : PM := {M with frs := M.frs.take L}
def lessG (G : GM) (L : Nat) : GM := {G with fn := L, fss := G.fss.take L, fms := G.fms.take L}
/-- What Leave turns ahead of its store: the bodies of what goes, and the frames' row. -/
def LvX (M : PM) (G : GM) (f : Int) (b : Nat) : Prop := (∃ i, ∃ (h1 : i < M.objs.length) (h2 : i < G.gos.length), M.objs[i].fr = f ∧ b = G.gos[i].q) ∨ (Value.slice G.fa G.fn G.fc).ownBlock = some b
section
variable {W w1 : World} {B cap : Nat} {M : PM} {G : GM}
theorem last_not (hinc : M.frs.Pairwise (· < ·)) {L : Nat} (hL : L < M.frs.length) : M.frs[L] ∉ M.frs.take L := fun hm => by
  obtain ⟨i, hi, e⟩ := List.getElem_of_mem hm
  rw [List.length_take] at hi
  rw [List.getElem_take] at e
  have := List.pairwise_iff_getElem.1 hinc i L (by omega) hL (by omega)
  omega
theorem FmAt.less (hf : FmAt M G) (L : Nat) : FmAt (lessM M L) (lessG G L) := by
  intro j h1 h2
  have h1' : j < (M.frs.take L).length := h1
  have h2' : j < (G.fms.take L).length := h2
  rw [List.length_take] at h1' h2'
  have k := hf j (by omega) (by omega)
  have e1 : (lessG G L).fms[j] = G.fms[j]'(by omega) := List.getElem_take
  have e2 : (lessM M L).frs[j] = M.frs[j]'(by omega) := List.getElem_take
  rw [e1, e2]
  exact k
theorem MemAt.less (h : MemAt W B cap M G) {L : Nat} (hL : L + 1 = M.frs.length) {f : Int} (hf : M.frs[L]'(by omega) = f) (hoff : Off (LvX M G f) W w1)
    (ho : OwnsFr w1 B (.slice G.fa L G.fc) ((M.frs.take L).zip (G.fss.take L))) :
    w1.frozen? ⟨G.p, 4, none⟩ = false ∧ w1.cell? ⟨G.p, 4, none⟩ = some (.slice G.fa G.fn G.fc) ∧ Below B W (w1.setCell ⟨G.p, 4, none⟩ (.slice G.fa L G.fc)) ∧ Sep W (w1.setCell ⟨G.p, 4, none⟩ (.slice G.fa L G.fc)) G.ρ G.ρ ∧ MemAt (w1.setCell ⟨G.p, 4, none⟩ (.slice G.fa L G.fc)) B cap (lessM M L) (lessG G L) := by
  have hplt := h.plt.2
  have hpB := h.plt.1
  have hrl : ∀ b, LvX M G f b → ∃ r, G.ρ b = some r ∧ (r = (6, 0) ∨ (r.1 = 3 ∧ ∃ h1 : r.2 < M.objs.length, M.objs[r.2].fr = f)) := fun b hb => by
    rcases hb with ⟨i, h1, h2, h3, rfl⟩ | hb
    · exact ⟨(3, i), (h.objs.shell i h1 h2).rq, .inr ⟨rfl, h1, h3⟩⟩
    · exact ⟨(6, 0), h.rf b hb, .inl rfl⟩
  have hpne : ¬ LvX M G f G.p := fun e => by
    obtain ⟨r, h1, h2⟩ := hrl _ e
    rw [h.rm] at h1
    cases h1
    rcases h2 with h2 | ⟨h2, _⟩
    · simp at h2
    · simp at h2
  have hp1 : w1.heap[G.p]? = _ := (hoff.block G.p hplt hpne).trans h.blk
  have hoff2 : Off (fun b => LvX M G f b ∨ b = G.p) W (w1.setCell ⟨G.p, 4, none⟩ (.slice G.fa L G.fc)) := (hoff.mono (fun b _ hb => .inl hb)).setCell (.inl (.inr rfl)) _
  have hkp : Kp G.ρ (fun r => r ≠ (0, 0) ∧ r ≠ (6, 0) ∧ ¬ (r.1 = 3 ∧ ∃ h1 : r.2 < M.objs.length, M.objs[r.2].fr = f)) W (w1.setCell ⟨G.p, 4, none⟩ (.slice G.fa L G.fc)) := kp_of_off h.range hoff2 fun b r hx hbr hR => by
    rcases hx with hx | hx
    · obtain ⟨r', h1, h2⟩ := hrl b hx
      rw [hbr] at h1
      cases h1
      exact h2.elim hR.2.1 hR.2.2
    · rw [hx, h.rm] at hbr; exact hR.1 (Option.some.inj hbr).symm
  have hbel : Below B W (w1.setCell ⟨G.p, 4, none⟩ (.slice G.fa L G.fc)) := hoff2.below (by omega) fun b hb => by
    rcases hb with hb | hb
    · obtain ⟨r, h1, _⟩ := hrl b hb; exact (h.range _ _ h1).1
    · rw [hb]; exact hpB
  have hyp : ∀ b, (Value.slice G.fa L G.fc).ownBlock = some b → b ≠ G.p := fun b hb e => hpne (.inr (by rw [← e]; cases hfa : G.fa with
    | none => rw [hfa] at hb; cases hb
    | some a => rw [hfa] at hb; exact hb))
  have n := h.num
  have hfl : L < M.frs.length := by omega
  refine ⟨by simp [World.frozen?, hp1], by simp [World.cell?, hp1], hbel, ⟨hoff2.mono (fun b _ hb => hb.elim (fun h' => by obtain ⟨r, h1, _⟩ := hrl b h'; exact ⟨r, h1⟩) (fun h' => ⟨(0, 0), by rw [h']; exact h.rm⟩)), fun b r hbr => .inl ⟨r, hbr⟩⟩, fun b r hbr => ⟨(h.range b r hbr).1, Nat.lt_of_lt_of_le (h.range b r hbr).2 hoff2.size⟩, h.rm, ?_, row_kept h.ov h.ro hkp (by simp), h.ro, ⟨h.objs.len, fun i k1 k2 => (h.objs.shell i k1 k2).kept hkp (by simp) (Ex.refl _), fun i k1 k2 hgn => ?_⟩, ?_, fun b hb => h.rf b (by cases hfa : G.fa with
    | none => have hb' : (Value.slice G.fa L G.fc).ownBlock = some b := hb; rw [hfa] at hb'; cases hb'
    | some a => have hb' : (Value.slice G.fa L G.fc).ownBlock = some b := hb; rw [hfa] at hb'; exact hb'), by simp [lessM, lessG, h.flen], by simp [lessM, lessG, h.mlen], fun j k1 k2 => ?_, ?_⟩
  · show (w1.setCell ⟨G.p, 4, none⟩ (.slice G.fa L G.fc)).heap[G.p]? = _
    rw [heap_setCell_same w1 G.p 4 _ _ _ hp1]; rfl
  · have k1' : i < M.objs.length := k1
    have k2' : i < G.gos.length := k2
    have hgn' : decide (M.objs[i].fr ≠ 0 ∧ M.objs[i].fr ∉ M.frs.take L) = false := hgn
    have hgn2 := of_decide_eq_false hgn'
    have hne : M.objs[i].fr ≠ f := fun e => hgn2 ⟨by rw [e, ← hf]; have := (n.pos _ (List.getElem_mem hfl)).1; omega, by rw [e, ← hf]; exact last_not n.inc hfl⟩
    have hg0 : M.gone M.objs[i] = false := decide_eq_false fun hc => hgn2 ⟨hc.1, fun hm => hc.2 (List.mem_of_mem_take hm)⟩
    exact (h.objs.body i k1' k2' hg0).kept (h.objs.shell i k1' k2') hkp (fun t h3 h5 => ⟨by simp; omega, by simp; omega, fun hc => hne hc.2.2⟩) (Ex.refl _) (Nat.le_refl _)
  · show OwnsFr _ B (.slice G.fa L G.fc) ((M.frs.take L).zip (G.fss.take L))
    refine ⟨ho.1, ?_⟩
    rcases ho.2 with hn | ⟨gg, cp, cur, e, hB, hgg, rest⟩
    · exact .inl hn
    · exact .inr ⟨gg, cp, cur, e, hB, (Below.heap_setCell _ _ _ _ (hyp gg (by rw [e]; rfl))).trans hgg, rest⟩
  · have k1' : j < (G.fss.take L).length := k1
    have k2' : j < (G.fms.take L).length := k2
    show OwnsPt _ B (.slice (G.fss.take L)[j].1 (G.fss.take L)[j].2.1 (G.fss.take L)[j].2.2) (G.fms.take L)[j] ∧ RoleS _ (.slice (G.fss.take L)[j].1 (G.fss.take L)[j].2.1 (G.fss.take L)[j].2.2) (7, j)
    rw [List.getElem_take, List.getElem_take]
    rw [List.length_take] at k1' k2'
    have k := h.fo j (by omega) (by omega)
    exact ⟨row_kept k.1 k.2 hkp (by simp), k.2⟩
  · exact ⟨n.limit, n.used, n.makes, n.entered, n.objs, by simp [lessM]; have := n.frs; omega, n.inc.sublist (List.take_sublist L M.frs), fun x hx => n.pos x (List.mem_of_mem_take hx), n.fr⟩
end
end Go.Proofs.Ytgnfinojnmkkkaa

/- Layer 10: package heap's Leave. -/
namespace Go.Proofs.Ytgnfinojnmkkkaa
open Go.RowKit (wrap64 intOf Below)
set_option linter.unusedVariables false
set_option linter.unusedSimpArgs false

def LvQ (M : PM) (G : GM) (f : Int) (b : Nat) : Prop := ∃ i, ∃ (h1 : i < M.objs.length) (h2 : i < G.gos.length), M.objs[i].fr = f ∧ b = G.gos[i].q
/-- Where the emptying of what goes stands. -/
def LvSt (W : World) (M : PM) (G : GM) (f : Int) (u : World) : Prop := Off (LvQ M G f) W u ∧ ∀ i (h1 : i < M.objs.length) (h2 : i < G.gos.length), M.objs[i].fr = f → Box3 u G.gos[i].q
section
variable {W u : World} {B cap : Nat} {M : PM} {G : GM}
theorem box3_body (h : MemAt W B cap M G) {L : Nat} (hL : L < M.frs.length) {f : Int} (hf : M.frs[L] = f) : LvSt W M G f W := by
  refine ⟨Off.refl _ _, fun i h1 h2 hfr => ?_⟩
  have hg : M.gone M.objs[i] = false := decide_eq_false fun hc => hc.2 (by rw [hfr, ← hf]; exact List.getElem_mem hL)
  have hb := h.objs.body i h1 h2 hg
  unfold BodyAt at hb
  cases ht : M.objs[i].tab with
  | true => rw [ht] at hb; exact ⟨_, _, _, _, TabAt.blk hb⟩
  | false => rw [ht] at hb; exact ⟨_, _, _, _, RwAt.blk hb⟩
theorem lvq_role (h : MemAt W B cap M G) {f : Int} {b : Nat} (hb : LvQ M G f b) : ∃ i, G.ρ b = some (3, i) := by
  obtain ⟨i, h1, h2, _, rfl⟩ := hb
  exact ⟨i, (h.objs.shell i h1 h2).rq⟩
theorem lvq_not (h : MemAt W B cap M G) {f : Int} {b : Nat} {r : Nat × Nat} (hr : G.ρ b = some r) (h3 : r.1 ≠ 3) : ¬ LvQ M G f b := fun hb => by
  obtain ⟨i, hi⟩ := lvq_role h hb
  rw [hr] at hi
  cases hi
  exact h3 rfl
theorem leave_one (h : MemAt W B cap M G) (hfm : FmAt M G) {L : Nat} (hL : L < M.frs.length) (hm : L < G.fms.length) {f : Int} (hf : M.frs[L] = f) {k : Nat} (hk : k < G.fms[L].length) (hst : LvSt W M G f u) :
    Calls Try.prog 28 #[.pointer (some ⟨G.fms[L][k], 0, none⟩)] u fun e w' => e = .returned (.tuple #[]) ∧ LvSt W M G f w' := by
  obtain ⟨i, k1, k2, hp, hfr⟩ := ((hfm L hL hm).2 _).1 (List.getElem_mem hk)
  rw [hf] at hfr
  have hs := h.objs.shell i k1 k2
  have hxl := (h.range _ _ hs.rp).2
  have hub : u.heap[G.gos[i].ptr]? = _ := (hst.1.block _ hxl (lvq_not h hs.rp (by simp))).trans hs.blk
  have c1 : u.cell? ⟨G.gos[i].ptr, 1, none⟩ = some (if M.objs[i].tab then .pointer none else ptrV G.gos[i].q) := by simp [World.cell?, hub]
  have c2 : u.cell? ⟨G.gos[i].ptr, 2, none⟩ = some (if M.objs[i].tab then ptrV G.gos[i].q else .pointer none) := by simp [World.cell?, hub]
  have hbx := hst.2 i k1 k2 hfr
  have done : ∀ w', Off (fun b => b = G.gos[i].q) u w' → Box3 w' G.gos[i].q → LvSt W M G f w' := fun w' ho hb => by
    refine ⟨hst.1.trans (ho.mono fun b _ hb => ⟨i, k1, k2, hfr, hb⟩), fun j j1 j2 hj => ?_⟩
    by_cases e : G.gos[j].q = G.gos[i].q
    · rw [e]; exact hb
    · obtain ⟨a, b, c, T, hg⟩ := hst.2 j j1 j2 hj
      exact ⟨a, b, c, T, (ho.block _ (Array.getElem?_eq_some_iff.1 hg).1 e).trans hg⟩
  rw [← hp]
  cases ht : M.objs[i].tab with
  | true =>
    rw [ht] at c2
    exact (empty_tab c2 hbx).mono fun e w' ⟨he, h1, h2⟩ => ⟨he, done w' h1 h2⟩
  | false =>
    rw [ht] at c1 c2
    exact (empty_row c2 c1 hbx).mono fun e w' ⟨he, h1, h2⟩ => ⟨he, done w' h1 h2⟩
end
theorem wrapL {L cap : Nat} (h : L + 1 ≤ cap) (hc : cap ≤ 1099511627776) : wrap64 (L : Int) = (L : Int) ∧ wrap64 ((L : Int) + 1 - 1) = (L : Int) ∧ wrap64 ((L : Int) + 1) = (L : Int) + 1 ∧ decide ((L : Int) < 0) = false :=
  ⟨by unfold wrap64; omega, by unfold wrap64; omega, by unfold wrap64; omega, decide_eq_false (by omega)⟩
def leaveM (M : PM) : PM × Bool := if M.frs = [] then (M, false) else (lessM M (M.frs.length - 1), true)
def LeavePost (W : World) (B cap : Nat) (M : PM) (G : GM) (e : Ending) (w' : World) : Prop := e = .returned (.bool (leaveM M).2) ∧ ∃ G', MemAt w' B cap (leaveM M).1 G' ∧ G'.p = G.p ∧ Below B W w' ∧ FmAt (leaveM M).1 G' ∧ Sep W w' G.ρ G'.ρ
set_option maxRecDepth 100000 in
theorem leave_none {W : World} {B cap : Nat} {M : PM} {G : GM} (h : MemAt W B cap M G) (hfm : FmAt M G) (h0 : M.frs = []) :
    Calls Try.prog 14 #[.pointer (some ⟨G.p, 0, none⟩)] W (LeavePost W B cap M G) := by
  have HR : RowKit.Hid (leaveM M = (M, false)) := Lib.hid (by unfold leaveM; rw [if_pos h0])
  have HM := Lib.hid (And.intro h hfm)
  have c4 := h.cell 4
  simp only [List.getElem?_toArray, List.getElem?_cons_succ, List.getElem?_cons_zero] at c4
  have hfn : G.fn = 0 := by rw [h.frn, h0]; rfl
  rw [hfn] at c4
  clear h h0 hfm hfn
  go_enter Try.func14, Try.ntmps14
  go_wp2_with fail
  go_ret
  exact ⟨by rw [HR.out]; rfl, G, by rw [HR.out]; exact HM.out.1, rfl, Below.refl _ _, by rw [HR.out]; exact HM.out.2, Sep.since (Below.refl _ _)⟩
set_option maxRecDepth 100000 in
set_option maxHeartbeats 1000000 in
theorem leave_some {W : World} {B cap : Nat} {M : PM} {G : GM} (hcap : cap ≤ 1099511627776) (h : MemAt W B cap M G) (hfm : FmAt M G) {L : Nat} (hL : L + 1 = M.frs.length) :
    Calls Try.prog 14 #[.pointer (some ⟨G.p, 0, none⟩)] W (LeavePost W B cap M G) := by
  have hlf : L < M.frs.length := by omega
  have h1 : L < G.fss.length := by rw [h.flen]; exact hlf
  have h2 : L < G.fms.length := by rw [h.mlen]; exact hlf
  have HR : RowKit.Hid (leaveM M = (lessM M L, true)) := Lib.hid (by unfold leaveM; rw [if_neg (by intro e; rw [e] at hlf; simp at hlf), show M.frs.length - 1 = L by omega])
  have hfrn := h.frn
  have hfn : G.fn = L + 1 := by omega
  have c4 := h.cell 4
  simp only [List.getElem?_toArray, List.getElem?_cons_succ, List.getElem?_cons_zero] at c4
  obtain ⟨fb, hfa, _, hfbl, hfc⟩ := h.fv.read.2 (by rw [hfrn]; omega)
  have hzl : L < (M.frs.zip G.fss).length := by rw [List.length_zip]; omega
  obtain ⟨k0, k1⟩ := hfc L hzl
  rw [List.getElem_zip] at k0 k1
  rw [hfa, hfn] at c4
  obtain ⟨f, hf⟩ : ∃ f, M.frs[L] = f := ⟨_, rfl⟩
  obtain ⟨sa, sn, sc, hsl⟩ : ∃ sa sn sc, G.fss[L] = (sa, sn, sc) := ⟨_, _, _, rfl⟩
  rw [hsl] at k1
  replace k1 : W.cell? ⟨fb, L * 2 + 1, none⟩ = some (.slice sa sn sc) := k1
  obtain ⟨hfo, hrole⟩ := h.fo L h1 h2
  simp only [hsl] at hfo hrole
  obtain ⟨hsn, hsr⟩ := hfo.read
  have hnum := h.num
  have hfl := (hfm L hlf h2).1
  have hLi : (L : Int) < ((L + 1 : Nat) : Int) := Int.ofNat_lt.2 (Nat.lt_succ_self L)
  have hL0 : (0 : Int) ≤ (L : Int) := Int.natCast_nonneg L
  have hfb6 : G.ρ fb = some (6, 0) := h.rf fb (by rw [hfa]; rfl)
  have HS0 := Lib.hid (box3_body h hlf hf)
  -- a round
  have HRND : RowKit.Hid (∀ u k, LvSt W M G f u → k < sn → ∃ ga x, sa = some ⟨ga, 0, none⟩ ∧ u.cell? ⟨ga, k, none⟩ = some (.pointer (some ⟨x, 0, none⟩)) ∧ Calls Try.prog 28 #[.pointer (some ⟨x, 0, none⟩)] u fun e w' => e = .returned (.tuple #[]) ∧ LvSt W M G f w') := Lib.hid fun u k hst hk => by
    obtain ⟨ga, hsa, _, hgl, hcs⟩ := hsr (by omega)
    have hkl : k < G.fms[L].length := by omega
    refine ⟨ga, G.fms[L][k], hsa, ?_, leave_one h hfm hlf h2 hf hkl hst⟩
    exact (hst.1.cell (p := ⟨ga, k, none⟩) hgl (lvq_not h (hrole ga (by rw [hsa]; rfl)) (by simp))).trans (hcs k hkl)
  -- the end
  have hzz : M.frs.zip G.fss = (M.frs.take L).zip (G.fss.take L) ++ [(f, sa, sn, sc)] := by
    have e1 : M.frs.take L ++ [f] = M.frs := by rw [← hf, ← List.take_succ_eq_append_getElem hlf, List.take_of_length_le (by omega)]
    have e2 : G.fss.take L ++ [(sa, sn, sc)] = G.fss := by rw [← hsl, ← List.take_succ_eq_append_getElem h1, List.take_of_length_le (by have := h.flen; omega)]
    have e3 : (M.frs.take L ++ [f]).zip (G.fss.take L ++ [(sa, sn, sc)]) = (M.frs.take L).zip (G.fss.take L) ++ [(f, sa, sn, sc)] := by
      rw [List.zip_append (by rw [List.length_take, List.length_take]; omega)]; rfl
    rw [e1, e2] at e3
    exact e3
  have hll : ((M.frs.take L).zip (G.fss.take L)).length = L := by rw [List.length_zip, List.length_take, List.length_take]; omega
  have HEND : RowKit.Hid (∀ u, LvSt W M G f u → u.cell? ⟨G.p, 4, none⟩ = some (.slice (some ⟨fb, 0, none⟩) (L + 1) G.fc) ∧ Calls Try.prog 29 #[.slice (some ⟨fb, 0, none⟩) (L + 1) G.fc, .int .i64 (L : Int), .int .i64 ((L : Int) + 1)] u fun e w1 => e = .returned (.slice (some ⟨fb, 0, none⟩) L G.fc) ∧ w1.frozen? ⟨G.p, 4, none⟩ = false ∧ w1.cell? ⟨G.p, 4, none⟩ = some (.slice (some ⟨fb, 0, none⟩) (L + 1) G.fc) ∧ LeavePost W B cap M G (.returned (.bool true)) (w1.setCell ⟨G.p, 4, none⟩ (.slice (some ⟨fb, 0, none⟩) L G.fc))) := Lib.hid fun u hst => by
    refine ⟨(hst.1.cell (p := ⟨G.p, 4, none⟩) h.plt.2 (lvq_not h h.rm (by simp))).trans c4, ?_⟩
    have hown : OwnsFr u B (.slice (some ⟨fb, 0, none⟩) (((M.frs.take L).zip (G.fss.take L)).length + 1) G.fc) ((M.frs.take L).zip (G.fss.take L) ++ [(f, sa, sn, sc)]) := by
      rw [← hzz, hll, ← hfn, ← hfa]
      refine ⟨h.fv.1, ?_⟩
      rcases h.fv.2 with hn | ⟨gg, cp, cur, e, hB, hgg, rest⟩
      · exact .inl hn
      · have e2 : gg = fb := by
          have h9 : (Value.slice G.fa G.fn G.fc).ownBlock = some gg := by rw [e]; rfl
          rw [hfa] at h9
          exact (Option.some.inj h9).symm
        exact .inr ⟨gg, cp, cur, e, hB, (hst.1.block gg (by rw [e2]; exact hfbl) (by rw [e2]; exact lvq_not h hfb6 (by simp))).trans hgg, rest⟩
    have hdel := delete_any hown (by rw [hll]; have := hnum.frs; omega)
    rw [hll] at hdel
    refine hdel.mono fun e w1 ⟨he, ho, hoff⟩ => ⟨he, ?_⟩
    rw [← hfa] at ho
    have hX : Off (LvX M G f) W w1 := (hst.1.mono (fun b _ hb => .inl hb)).trans (hoff.mono (fun b _ hb => .inr (by rw [hb, hfa]; rfl)))
    have hless := h.less hL hf hX ho
    rw [hfa, hfn] at hless
    obtain ⟨p1, p2, p3, p4, p5⟩ := hless
    exact ⟨p1, p2, by rw [HR.out], lessG G L, by rw [HR.out]; exact p5, rfl, p3, by rw [HR.out]; exact hfm.less L, p4⟩
  obtain ⟨hLw2, hLw3, hLw4, hd0⟩ := wrapL (Nat.le_trans (Nat.le_of_eq hL) hnum.frs) hcap
  clear h hfm hfrn hfc hzl k0 hfo hrole hsr hzz hll hfb6 hsl hf hfbl HR
  have hsb : sn ≤ 1099511627776 := by rw [hsn]; exact Nat.le_trans hfl (Nat.le_trans hnum.objs hcap)
  clear hfl hnum hsn h1 h2 hlf hfn hL hcap
  go_enter Try.func14, Try.ntmps14
  go_wp2_with fail
  try simp only [hLw2]
  go_loopw [23] (fun v23 wr => ∃ k : Nat, k ≤ sn ∧ v23 = .int .i64 (k : Int) ∧ RowKit.Hid (LvSt W M G f wr)) (fun v23 _ => sn - (intOf v23).toNat)
  case atStart => exact ⟨0, Nat.zero_le _, rfl, HS0⟩
  case round =>
    obtain ⟨k, hk, rfl, HI⟩ := hrel
    clear HS0
    obtain ⟨wo, hwo⟩ : ∃ u, u = wr := ⟨_, rfl⟩
    rw [← hwo] at HI ⊢
    clear hwo
    by_cases hlt : k < sn
    · obtain ⟨ga, x, rfl, hcx, hce⟩ := HRND.out wo k HI.out hlt
      have CE := Lib.hid hce
      have hki : (k : Int) < (sn : Int) := by omega
      have hk0 : (0 : Int) ≤ (k : Int) := by omega
      clear hce
      go_wp2_with (go_at_call 28; refine CE.out.mono ?_; rintro e u ⟨rfl, hst⟩; have HN := Lib.hid hst; clear hst)
      go_roundw
      case rel =>
        first
          | exact ⟨k + 1, hlt, by go_num, HN⟩
          | (refine ⟨_, _, _, _, _, _, _, _, ⟨k + 1, hlt, ?_, HN⟩, rfl⟩; go_num)
      case measure => simp [intOf]; omega
    · obtain rfl : k = sn := by omega
      obtain ⟨hc4, hcd⟩ := HEND.out wo HI.out
      have CD := Lib.hid hcd
      clear hcd c4 k1 HRND HEND
      go_wp2_with (go_at_call 29; refine CD.out.mono ?_; rintro e w1 ⟨rfl, hf1, hc1, hp⟩; have HP := Lib.hid hp; clear hp)
      go_ret
      exact HP.out
theorem leave_any {W : World} {B cap : Nat} {M : PM} {G : GM} (hcap : cap ≤ 1099511627776) (h : MemAt W B cap M G) (hfm : FmAt M G) :
    Calls Try.prog 14 #[.pointer (some ⟨G.p, 0, none⟩)] W (LeavePost W B cap M G) := by
  by_cases h0 : M.frs = []
  · exact leave_none h hfm h0
  · have hl : 0 < M.frs.length := List.length_pos_iff.2 h0
    exact leave_some hcap h hfm (L := M.frs.length - 1) (by omega)
end Go.Proofs.Ytgnfinojnmkkkaa

/- Layer 10: what the law HeapFrames goes through, plainly. -/
namespace Go.Proofs.Ytgnfinojnmkkkaa
open Go.RowKit (wrap64 intOf Below)
set_option linter.unusedVariables false
set_option linter.unusedSimpArgs false

/-- n frames entered, a row of one laid in each. -/
def phiM (n : Nat) : PM := { limit := 0, used := 0, makes := 0, entered := n, objs := (List.range n).map (fun (i : Nat) => withFr (newRow 1) ((i : Int) + 1)), frs := (List.range n).map (fun (i : Nat) => (i : Int) + 1) }
theorem phi_zero : newM 0 = phiM 0 := rfl
theorem phi_step (n : Nat) : sliceM (enterM (phiM n)).1 1 true = (phiM (n + 1), (n : Int) + 1, 0) := by
  have hl : lastFr (enterM (phiM n)).1 = (n : Int) + 1 := by
    unfold lastFr enterM frameM phiM
    simp
  unfold sliceM
  rw [if_neg (by omega)]
  unfold addM
  rw [if_pos rfl, hl]
  simp [enterM, frameM, phiM, pushM, List.range_succ]
/-- The same, with the frames from the L-th on left. -/
def psiM (n L : Nat) : PM := lessM (phiM n) L
theorem psi_all (n : Nat) : psiM n n = phiM n := by
  unfold psiM lessM
  have e : (phiM n).frs.take n = (phiM n).frs := List.take_of_length_le (by simp [phiM])
  rw [e]
theorem psi_len {n L : Nat} (h : L ≤ n) : (psiM n L).frs.length = L := by simp [psiM, lessM, phiM]; omega
theorem psi_leave {n L : Nat} (h : L + 1 ≤ n) : leaveM (psiM n (L + 1)) = (psiM n L, true) := by
  unfold leaveM
  rw [if_neg (by intro e; have := psi_len h; rw [e] at this; simp at this), psi_len h]
  simp [psiM, lessM, List.take_take]
/-- m frames more, entered behind that. -/
def chiM (n L m : Nat) : PM := {psiM n L with entered := (n : Int) + m, frs := (psiM n L).frs ++ (List.range m).map (fun (i : Nat) => (n : Int) + i + 1)}
theorem chi_zero (n L : Nat) : chiM n L 0 = psiM n L := by simp [chiM, psiM, lessM, phiM]
theorem chi_enter (n L m : Nat) : (enterM (chiM n L m)).1 = chiM n L (m + 1) := by
  simp [enterM, frameM, chiM, List.range_succ]
  omega
/-- What Get answers then. -/
theorem chi_get {n L m i : Nat} (hL : L ≤ n) (hi : i < n) : (getM (chiM n L m) ((i : Int) + 1) 0).2 = if L ≤ i then 5 else 0 := by
  have ho : (chiM n L m).obj ((i : Int) + 1) = some (withFr (newRow 1) ((i : Int) + 1)) := by
    unfold PM.obj
    rw [if_pos (by omega)]
    simp [chiM, psiM, lessM, phiM, hi]
  have hg : (chiM n L m).gone (withFr (newRow 1) ((i : Int) + 1)) = decide (L ≤ i) := by
    unfold PM.gone
    rw [decide_eq_decide]
    show ((i : Int) + 1 ≠ 0 ∧ (i : Int) + 1 ∉ ((phiM n).frs.take L) ++ (List.range m).map (fun (i : Nat) => (n : Int) + i + 1)) ↔ L ≤ i
    have e : (phiM n).frs.take L = (List.range L).map (fun (i : Nat) => (i : Int) + 1) := by
      show ((List.range n).map (fun (i : Nat) => (i : Int) + 1)).take L = _
      rw [← List.map_take, List.take_range, Nat.min_eq_left hL]
    rw [e]
    simp only [List.mem_append, List.mem_map, List.mem_range, not_or, not_exists, not_and]
    constructor
    · rintro ⟨_, h1, _⟩
      rcases Nat.lt_or_ge i L with h2 | h2
      · exact absurd rfl (h1 i h2)
      · exact h2
    · intro h
      exact ⟨by omega, fun j hj => by omega, fun j hj => by omega⟩
  have ha : ansR (chiM n L m) ((i : Int) + 1) 0 = if L ≤ i then 5 else 0 := by
    unfold ansR
    rw [ho]
    show (if (chiM n L m).gone (withFr (newRow 1) ((i : Int) + 1)) = true then (5 : Int) else if (0 : Int) < 0 ∨ (1 : Int) ≤ 0 then 2 else 0) = _
    rw [hg]
    simp
  unfold getM
  rw [ha]
  by_cases h : L ≤ i
  · simp [h]
  · simp [h]
end Go.Proofs.Ytgnfinojnmkkkaa

/- Layer 10: the living call of the statements, walked. -/
namespace Go.Proofs.Ytgnfinojnmkkkaa
open Go.RowKit (wrap64 intOf Below)
set_option linter.unusedVariables false
set_option linter.unusedSimpArgs false

def lv0 : PM := newM 100
def lv1 : PM := (sliceM lv0 2 false).1
def lv2 : PM := (sliceM lv1 1 true).1
def lv3 : PM := (tableM lv2 false).1
def lv4 : PM := (putM lv3 3 5 7).1
theorem lv_facts : (sliceM lv0 2 false).2 = (1, 0) ∧ (sliceM lv1 1 true).2 = (2, 0) ∧ (tableM lv2 false).2 = (3, 0) ∧ (putM lv3 3 5 7).2 = 0 ∧ lv4.used = 48 ∧ lv4.makes = 2 ∧ lv0.frs = [] ∧ lv1.frs = [] ∧ lv2.frs = [] := by
  refine ⟨by decide, by decide, by decide, by decide, by decide, by decide, by decide, by decide, by decide⟩
set_option maxRecDepth 100000 in
set_option maxHeartbeats 1000000 in
theorem lives10_any (w : World) : Calls Try.prog 9 #[] w fun e w' => e = .returned (.bool true) ∧ Below w.heap.size w w' := by
  obtain ⟨f1, f2, f3, f4, f5, f6, f7, f8, f9⟩ := lv_facts
  obtain ⟨B, hB⟩ : ∃ B, B = w.heap.size := ⟨_, rfl⟩
  have C0 := Lib.hid (new_any 100 w)
  have C1 : RowKit.Hid (∀ u G p, MemAt u B 0 lv0 G → G.p = p → Calls Try.prog 18 #[.pointer (some ⟨p, 0, none⟩), .int .i64 2, .bool false] u fun e w' => e = .returned (.tuple #[.int .i64 1, .int .i64 0]) ∧ ∃ G', MemAt w' B 1 lv1 G' ∧ G'.p = p ∧ Below B u w') := Lib.hid fun u G p h hp => by subst hp; exact (slice_any h (by omega) 2 false (layOk_nil f7) (fmAt_nil f7)).mono fun e w' ⟨he, G', h1, h2, h3, _⟩ => ⟨by rw [he, f1], G', h1, h2, h3⟩
  have C2 : RowKit.Hid (∀ u G p, MemAt u B 1 lv1 G → G.p = p → Calls Try.prog 18 #[.pointer (some ⟨p, 0, none⟩), .int .i64 1, .bool true] u fun e w' => e = .returned (.tuple #[.int .i64 2, .int .i64 0]) ∧ ∃ G', MemAt w' B 2 lv2 G' ∧ G'.p = p ∧ Below B u w') := Lib.hid fun u G p h hp => by subst hp; exact (slice_any h (by omega) 1 true (layOk_nil f8) (fmAt_nil f8)).mono fun e w' ⟨he, G', h1, h2, h3, _⟩ => ⟨by rw [he, f2], G', h1, h2, h3⟩
  have C3 : RowKit.Hid (∀ u G p, MemAt u B 2 lv2 G → G.p = p → Calls Try.prog 20 #[.pointer (some ⟨p, 0, none⟩), .bool false] u fun e w' => e = .returned (.tuple #[.int .i64 3, .int .i64 0]) ∧ ∃ G', MemAt w' B 3 lv3 G' ∧ G'.p = p ∧ Below B u w') := Lib.hid fun u G p h hp => by subst hp; exact (mtable_any h (by omega) false (layOk_nil f9) (fmAt_nil f9)).mono fun e w' ⟨he, G', h1, h2, h3, _⟩ => ⟨by rw [he, f3], G', h1, h2, h3⟩
  have C4 : RowKit.Hid (∀ u G p, MemAt u B 3 lv3 G → G.p = p → Calls Try.prog 27 #[.pointer (some ⟨p, 0, none⟩), .int .i64 3, .int .i64 5, .int .i64 7] u fun e w' => e = .returned (.int .i64 0) ∧ ∃ G', MemAt w' B 4 lv4 G' ∧ G'.p = p ∧ Below B u w') := Lib.hid fun u G p h hp => by subst hp; exact (put_any h (by omega) 3 5 7 (by omega) (by omega) (by omega)).mono fun e w' ⟨he, G', h1, h2, h3, _⟩ => ⟨by rw [he, f4], G', h1, h2, h3⟩
  have C5 : RowKit.Hid (∀ u G p, MemAt u B 4 lv4 G → G.p = p → Calls Try.prog 10 #[.pointer (some ⟨p, 0, none⟩)] u fun e w' => e = .returned (.int .i64 48) ∧ w' = u) := Lib.hid fun u G p h hp => by subst hp; have := used_any h; rw [f5] at this; exact this
  have C6 : RowKit.Hid (∀ u G p, MemAt u B 4 lv4 G → G.p = p → Calls Try.prog 11 #[.pointer (some ⟨p, 0, none⟩)] u fun e w' => e = .returned (.int .i64 2) ∧ w' = u) := Lib.hid fun u G p h hp => by subst hp; have := makes_any h; rw [f6] at this; exact this
  rw [← hB] at C0 ⊢
  clear f1 f2 f3 f4 f5 f6 f7 f8 f9 hB
  go_enter Try.func9, Try.ntmps9
  go_wp2_with (first
    | (go_at_call 5; refine C0.out.mono ?_; rintro e u0 ⟨G0, rfl, hm, hb⟩; obtain ⟨p, hp⟩ : ∃ p, G0.p = p := ⟨_, rfl⟩; have HM0 : RowKit.Hid (MemAt u0 B 0 lv0 G0 ∧ G0.p = p) := Lib.hid ⟨hm, hp⟩; have HB0 := Lib.hid hb; rw [hp]; clear hm hb hp C0)
    | (go_at_call 18; (with_reducible refine (C1.out u0 G0 p HM0.out.1 HM0.out.2).mono ?_); rintro e u1 ⟨rfl, G1, hm, hp, hb⟩; have HM1 : RowKit.Hid (MemAt u1 B 1 lv1 G1 ∧ G1.p = p) := Lib.hid ⟨hm, hp⟩; have HB1 := Lib.hid hb; clear hm hb hp C1)
    | (go_at_call 18; (with_reducible refine (C2.out u1 G1 p HM1.out.1 HM1.out.2).mono ?_); rintro e u2 ⟨rfl, G2, hm, hp, hb⟩; have HM2 : RowKit.Hid (MemAt u2 B 2 lv2 G2 ∧ G2.p = p) := Lib.hid ⟨hm, hp⟩; have HB2 := Lib.hid hb; clear hm hb hp C2)
    | (go_at_call 20; (with_reducible refine (C3.out u2 G2 p HM2.out.1 HM2.out.2).mono ?_); rintro e u3 ⟨rfl, G3, hm, hp, hb⟩; have HM3 : RowKit.Hid (MemAt u3 B 3 lv3 G3 ∧ G3.p = p) := Lib.hid ⟨hm, hp⟩; have HB3 := Lib.hid hb; clear hm hb hp C3)
    | (go_at_call 27; (with_reducible refine (C4.out u3 G3 p HM3.out.1 HM3.out.2).mono ?_); rintro e u4 ⟨rfl, G4, hm, hp, hb⟩; have HM4 : RowKit.Hid (MemAt u4 B 4 lv4 G4 ∧ G4.p = p) := Lib.hid ⟨hm, hp⟩; have HB4 := Lib.hid hb; clear hm hb hp C4)
    | (go_at_call 10; (with_reducible refine (C5.out u4 G4 p HM4.out.1 HM4.out.2).mono ?_); rintro e u5 ⟨rfl, hu⟩; rw [hu]; clear hu u5)
    | (go_at_call 11; (with_reducible refine (C6.out u4 G4 p HM4.out.1 HM4.out.2).mono ?_); rintro e u6 ⟨rfl, hu⟩; rw [hu]; clear hu u6))
  go_ret
  exact ⟨rfl, ((((HB0.out.trans HB1.out).trans HB2.out).trans HB3.out).trans HB4.out)⟩
end Go.Proofs.Ytgnfinojnmkkkaa

/- Layer 10: the law HeapTables, walked. -/
namespace Go.Proofs.Ytgnfinojnmkkkaa
open Go.RowKit (wrap64 intOf Below)
set_option linter.unusedVariables false
set_option linter.unusedSimpArgs false

/-- A memory of one table on the heap. -/
def tbM (K : List Int) (U : Int → Int) : PM := { limit := 1048576, used := 8 + 16 * (K.length : Int), makes := 1, entered := 0, objs := [{ newTab false with keys := K, under := U }], frs := [] }
def addK (K : List Int) (k : Int) : List Int := if k ∈ K then K else K ++ [k]
theorem tb_new : (tableM (newM 1048576) false).1 = tbM [] (fun _ => 0) ∧ (tableM (newM 1048576) false).2 = (1, 0) := ⟨rfl, by decide⟩
theorem tb_obj (K : List Int) (U : Int → Int) : (tbM K U).obj 1 = some { newTab false with keys := K, under := U } := rfl
theorem tb_ans (K : List Int) (U : Int → Int) : ansT (tbM K U) 1 = 0 := rfl
theorem tb_look (K : List Int) (U : Int → Int) (k : Int) : lookM (tbM K U) 1 k = (U k, 0) := rfl
theorem tb_size (K : List Int) (U : Int → Int) : sizeM (tbM K U) 1 = ((K.length : Int), 0) := rfl
theorem tb_key {K : List Int} {U : Int → Int} {j : Nat} (h : j < K.length) : keyM (tbM K U) 1 (j : Int) = (nth K j, 0) := by
  unfold keyM
  rw [tb_ans, if_pos rfl, tb_obj]
  show (if (j : Int) < 0 ∨ (K.length : Int) ≤ (j : Int) then ((0 : Int), (2 : Int)) else (nth K (j : Int).toNat, 0)) = _
  rw [if_neg (by omega)]
  rfl
theorem tb_keyEnd (K : List Int) (U : Int → Int) : keyM (tbM K U) 1 (K.length : Int) = (0, 2) := by
  unfold keyM
  rw [tb_ans, if_pos rfl, tb_obj]
  show (if (K.length : Int) < 0 ∨ (K.length : Int) ≤ (K.length : Int) then ((0 : Int), (2 : Int)) else _) = _
  rw [if_pos (.inr (Int.le_refl _))]
theorem tb_put {K : List Int} {U : Int → Int} (hK : K.length < 1000) (k n : Int) : putM (tbM K U) 1 k n = (tbM (addK K k) (fun x => if x = k then n else U x), 0) := by
  unfold putM
  rw [tb_ans, if_pos rfl, tb_obj]
  show (if k ∈ K ∨ false = true then _ else _) = _
  by_cases h : k ∈ K
  · rw [if_pos (.inl h)]
    have e : addK K k = K := if_pos h
    rw [e]
    have e2 : keysUp { newTab false with keys := K, under := U } k = K := if_pos h
    show (putO (tbM K U) 0 _ k n, (0 : Int)) = _
    unfold putO tabUp
    rw [e2]
    rfl
  · rw [if_neg (by simp [h])]
    have hf : fits (tbM K U) 16 = true := decide_eq_true (by show 8 + 16 * (K.length : Int) + 16 ≤ 1048576; omega)
    rw [if_pos hf]
    have e : addK K k = K ++ [k] := if_neg h
    have e2 : keysUp { newTab false with keys := K, under := U } k = K ++ [k] := if_neg h
    show (putO (takeM (tbM K U) 16) 0 _ k n, (0 : Int)) = _
    unfold putO takeM tabUp
    rw [if_pos hf, e2, e]
    unfold tbM
    simp only [List.set_cons_zero, List.length_append, List.length_cons, List.length_nil, Prod.mk.injEq, and_true]
    congr 1
theorem addK_len (K : List Int) (k : Int) : (addK K k).length ≤ K.length + 1 := by unfold addK; split <;> simp
theorem own_at10 {W W' : World} {B : Nat} {e : TypeId} {v : Value} {L : List Int} (h : OwnsI W B e v L) (hk : ∀ i, v.ownBlock = some i → W'.heap[i]? = W.heap[i]?) : OwnsI W' B e v L := by
  refine ⟨h.1, ?_⟩
  rcases h.2 with hn | ⟨g, cap, cur, rfl, hB, hg, rest⟩
  · exact .inl hn
  · exact .inr ⟨g, cap, cur, rfl, hB, (hk g rfl).trans hg, rest⟩
/-- Where the law stands. -/
structure TbSt (w : World) (B cap p : Nat) (K KO : List Int) (U : Int → Int) (ya : Option Addr) (yn yc : Nat) (G : GM) (W : World) : Prop where
  mem : MemAt W B cap (tbM K U) G
  p : G.p = p
  own : OwnsI W B 2 (.slice ya yn yc) KO
  ap : ∀ b, (Value.slice ya yn yc).ownBlock = some b → ¬ dom G.ρ b
  bel : Below B w W
section
variable {w W W' : World} {B cap p : Nat} {K KO : List Int} {U : Int → Int} {ya : Option Addr} {yn yc : Nat} {G : GM}
theorem TbSt.since (h : TbSt w B cap p K KO U ya yn yc G W) (hb : Below W.heap.size W W') : TbSt w B cap p K KO U ya yn yc G W' :=
  ⟨h.mem.since hb, h.p, h.own.below hb, h.ap, h.bel.trans (hb.mono (by have := h.mem.plt; omega))⟩
theorem TbSt.put (h : TbSt w B cap p K KO U ya yn yc G W) {K' : List Int} {U' : Int → Int} {G' : GM} (hm : MemAt W' B (cap + 1) (tbM K' U') G') (hp : G'.p = p) (hb : Below B W W') (hs : Sep W W' G.ρ G'.ρ) : TbSt w B (cap + 1) p K' KO U' ya yn yc G' W' :=
  ⟨hm, hp, own_at10 h.own (fun b hk => (hs.free (h.own.lt b hk).2 (h.ap b hk)).1), fun b hk => (hs.free (h.own.lt b hk).2 (h.ap b hk)).2, h.bel.trans hb⟩
theorem TbSt.app {C : Array Value} {va : Option Addr} {vn vc : Nat} {Z : List Int} (h : TbSt w B cap p K KO U ya yn yc G W) (hg : (W.alloc (.cells C 2)).grownBy W' (Value.slice ya yn yc).ownBlock) (ho : OwnsI W' B 2 (.slice va vn vc) Z) (hw : ∀ b, (Value.slice va vn vc).ownBlock = some b → (Value.slice ya yn yc).ownBlock = some b ∨ W.heap.size ≤ b) : TbSt w B cap p K Z U va vn vc G W' := by
  have hoff : Off (fun b => (Value.slice ya yn yc).ownBlock = some b) W W' := ((Off.refl _ W).alloc _).grown hg (fun b hb => .inl hb)
  refine ⟨h.mem.beside hoff h.ap, h.p, ho, fun b hb hd => ?_, h.bel.trans (hoff.below (by have := h.mem.plt; omega) (fun b hb => (h.own.lt b hb).1))⟩
  rcases hw b hb with h1 | h1
  · exact h.ap b h1 hd
  · obtain ⟨r, hr⟩ := hd
    have := (h.mem.range b r hr).2
    omega
end
/-- Whether k is among the first j. -/
def inTake (K : List Int) (k : Int) (j : Nat) : Bool := decide (k ∈ K.take j)
theorem inTake_more {K : List Int} {k : Int} {j : Nat} (h : j < K.length) : inTake K k (j + 1) = (inTake K k j || (nth K j == k)) := by
  unfold inTake
  rw [List.take_succ_eq_append_getElem h, nth_is h, Bool.eq_iff_iff]
  simp only [decide_eq_true_eq, Bool.or_eq_true, List.mem_append, List.mem_singleton, beq_iff_eq]
  exact ⟨fun h => h.imp id (fun e => e.symm), fun h => h.imp id (fun e => e.symm)⟩
end Go.Proofs.Ytgnfinojnmkkkaa

/- Layer 10: where the law HeapFrames stands. -/
namespace Go.Proofs.Ytgnfinojnmkkkaa
open Go.RowKit (wrap64 intOf Below)
set_option linter.unusedVariables false
set_option linter.unusedSimpArgs false

structure FrSt (w : World) (B cap p : Nat) (M : PM) (Z : List Int) (ya : Option Addr) (yn yc : Nat) (G : GM) (W : World) : Prop where
  mem : MemAt W B cap M G
  p : G.p = p
  fm : FmAt M G
  own : OwnsI W B 3 (.slice ya yn yc) Z
  ap : ∀ b, (Value.slice ya yn yc).ownBlock = some b → ¬ dom G.ρ b
  bel : Below B w W
section
variable {w W W' : World} {B cap cap' p : Nat} {M M' : PM} {Z : List Int} {ya : Option Addr} {yn yc : Nat} {G G' : GM}
theorem FrSt.since (h : FrSt w B cap p M Z ya yn yc G W) (hb : Below W.heap.size W W') : FrSt w B cap p M Z ya yn yc G W' :=
  ⟨h.mem.since hb, h.p, h.fm, h.own.below hb, h.ap, h.bel.trans (hb.mono (by have := h.mem.plt; omega))⟩
theorem FrSt.turn (h : FrSt w B cap p M Z ya yn yc G W) (hm : MemAt W' B cap' M' G') (hp : G'.p = G.p) (hf : FmAt M' G') (hb : Below B W W') (hs : Sep W W' G.ρ G'.ρ) : FrSt w B cap' p M' Z ya yn yc G' W' :=
  ⟨hm, hp.trans h.p, hf, own_at10 h.own (fun b hk => (hs.free (h.own.lt b hk).2 (h.ap b hk)).1), fun b hk => (hs.free (h.own.lt b hk).2 (h.ap b hk)).2, h.bel.trans hb⟩
theorem FrSt.app {C : Array Value} {va : Option Addr} {vn vc : Nat} {Z' : List Int} (h : FrSt w B cap p M Z ya yn yc G W) (hg : (W.alloc (.cells C 3)).grownBy W' (Value.slice ya yn yc).ownBlock) (ho : OwnsI W' B 3 (.slice va vn vc) Z') (hw : ∀ b, (Value.slice va vn vc).ownBlock = some b → (Value.slice ya yn yc).ownBlock = some b ∨ W.heap.size ≤ b) : FrSt w B cap p M Z' va vn vc G W' := by
  have hoff : Off (fun b => (Value.slice ya yn yc).ownBlock = some b) W W' := ((Off.refl _ W).alloc _).grown hg (fun b hb => .inl hb)
  refine ⟨h.mem.beside hoff h.ap, h.p, h.fm, ho, fun b hb hd => ?_, h.bel.trans (hoff.below (by have := h.mem.plt; omega) (fun b hb => (h.own.lt b hb).1))⟩
  rcases hw b hb with h1 | h1
  · exact h.ap b h1 hd
  · obtain ⟨r, hr⟩ := hd
    have := (h.mem.range b r hr).2
    omega
/-- Enter, Leave, and Get, where the law stands. -/
theorem FrSt.enter (hcap : cap ≤ 1099511627776) (h : FrSt w B cap p M Z ya yn yc G W) : Calls Try.prog 12 #[.pointer (some ⟨p, 0, none⟩)] W fun e w' => e = .returned (.int .i64 (enterM M).2) ∧ ∃ G', FrSt w B (cap + 1) p (enterM M).1 Z ya yn yc G' w' := by
  have hc := enter_any h.mem hcap
  rw [h.p] at hc
  exact hc.mono fun e w' ⟨he, G', h1, h2, h3, h4, h5⟩ => ⟨he, G', h.turn h1 h2 (h4 h.fm) h3 h5⟩
theorem FrSt.leave (hcap : cap ≤ 1099511627776) (h : FrSt w B cap p M Z ya yn yc G W) : Calls Try.prog 14 #[.pointer (some ⟨p, 0, none⟩)] W fun e w' => e = .returned (.bool (leaveM M).2) ∧ ∃ G', FrSt w B cap p (leaveM M).1 Z ya yn yc G' w' := by
  have hc := leave_any hcap h.mem h.fm
  rw [h.p] at hc
  exact hc.mono fun e w' ⟨he, G', h1, h2, h3, h4, h5⟩ => ⟨he, G', h.turn h1 h2 h4 h3 h5⟩
theorem FrSt.slice (hcap : cap ≤ 1099511627776) (h : FrSt w B cap p M Z ya yn yc G W) (n : Int) (st : Bool) : Calls Try.prog 18 #[.pointer (some ⟨p, 0, none⟩), .int .i64 n, .bool st] W fun e w' => e = .returned (.tuple #[.int .i64 (sliceM M n st).2.1, .int .i64 (sliceM M n st).2.2]) ∧ ∃ G', FrSt w B (cap + 1) p (sliceM M n st).1 Z ya yn yc G' w' := by
  have hc := slice_any h.mem hcap n st (layOk_any hcap M) h.fm
  rw [h.p] at hc
  exact hc.mono fun e w' ⟨he, G', h1, h2, h3, h4, h5⟩ => ⟨he, G', h.turn h1 h2 (h4 h.fm) h3 h5⟩
theorem FrSt.get (hcap : cap ≤ 1099511627776) (h : FrSt w B cap p M Z ya yn yc G W) (r j : Int) (hr : -9223372036854775808 ≤ r ∧ r ≤ 9223372036854775807) : Calls Try.prog 24 #[.pointer (some ⟨p, 0, none⟩), .int .i64 r, .int .i64 j] W fun e w' => e = .returned (.tuple #[vvV (getM M r j).1, .int .i64 (getM M r j).2]) ∧ FrSt w B cap p M Z ya yn yc G w' := by
  have hc := get_any h.mem hcap r j hr
  rw [h.p] at hc
  exact hc.mono fun e w' ⟨he, hb⟩ => ⟨he, h.since hb⟩
end
end Go.Proofs.Ytgnfinojnmkkkaa

/- Layer 10: the document's memory in plain words, and when a memory means the same. -/
namespace Go.Proofs.Ytgnfinojnmkkkaa
open Go.RowKit (wrap64 intOf Below)
set_option linter.unusedVariables false
set_option linter.unusedSimpArgs false

structure RT where
  kind : Int
  V : List VV
  keys : List Int
  under : List Int
  frame : Int
  gone : Bool
structure RM where
  L : List RT
  frames : Int
  limit : Int
  used : Int
  makes : Int
def newR (l : Int) : RM := ⟨[], 1, min (max l 0) 16777216, 0, 0⟩
def enterR (R : RM) : RM × Int := ({R with frames := R.frames + 1}, R.frames + 1)
def goneT (f : Int) (t : RT) : RT := if t.frame = f then {t with gone := true} else t
def leaveR (R : RM) : RM × Bool := if R.frames = 1 then (R, false) else ({R with L := R.L.map (goneT R.frames), frames := R.frames - 1}, true)
def pushR (R : RM) (t : RT) : RM := {R with L := R.L ++ [t]}
def makeR (R : RM) (t : RT) (st : Bool) : RM × Int × Int :=
  if st then (pushR R {t with frame := R.frames}, (R.L.length : Int) + 1, 0)
  else if R.used + (8 + 8 * (t.V.length : Int)) ≤ R.limit then (pushR {R with used := R.used + (8 + 8 * (t.V.length : Int)), makes := R.makes + 1} t, (R.L.length : Int) + 1, 0)
  else (R, 0, 4)
def rowT (l : List VV) : RT := ⟨0, l, [], [], 0, false⟩
def tabT : RT := ⟨1, [], [], [], 0, false⟩
def sliceR (R : RM) (n : Int) (st : Bool) : RM × Int × Int := if n < 0 ∨ 1024 < n then (R, 0, 2) else makeR R (rowT (List.replicate n.toNat zeroVV)) st
def RM.obj (R : RM) (r : Int) : Option RT := if 1 ≤ r then R.L[(r - 1).toNat]? else none
def whyR (R : RM) (r k : Int) : Int := match R.obj r with | none => 6 | some t => if t.kind = k then (if t.gone then 5 else 0) else 6
def getR (R : RM) (r i : Int) : VV × Int := match R.obj r with
  | none => (zeroVV, 6)
  | some t => if t.kind = 0 then (if t.gone then (zeroVV, 5) else (if i < 0 ∨ (t.V.length : Int) ≤ i then (zeroVV, 2) else (t.V.getD i.toNat zeroVV, 0))) else (zeroVV, 6)
def setT (t : RT) (i : Nat) (v : VV) : RT := {t with V := t.V.set i v}
def setR (R : RM) (r i : Int) (v : VV) : RM × Int := if (getR R r i).2 = 0 then (match R.obj r with | none => (R, 0) | some t => ({R with L := R.L.set (r - 1).toNat (setT t i.toNat v)}, 0)) else (R, (getR R r i).2)
def sizeR (R : RM) (r : Int) : Int × Int := match R.obj r with | none => (0, 6) | some t => if t.gone then (0, 5) else ((t.V.length : Int) + (t.keys.length : Int), 0)
def findL : List Int → Int → Int
  | [], _ => -1
  | x :: l, k => if x = k then 0 else (if findL l k < 0 then -1 else findL l k + 1)
def putT (t : RT) (k n : Int) : RT := if 0 ≤ findL t.keys k then {t with under := t.under.set (findL t.keys k).toNat n} else {t with keys := t.keys ++ [k], under := t.under ++ [n]}
def putR (R : RM) (r k n : Int) : RM × Int := match R.obj r with
  | none => (R, 6)
  | some t => if t.kind = 1 then (if t.gone then (R, 5) else
      (if 0 ≤ findL t.keys k ∨ t.frame ≠ 0 then ({R with L := R.L.set (r - 1).toNat (putT t k n)}, 0)
       else (if R.used + 16 ≤ R.limit then ({R with used := R.used + 16, L := R.L.set (r - 1).toNat (putT t k n)}, 0) else (R, 4)))) else (R, 6)
def lookT (t : RT) (k : Int) : Int := if 0 ≤ findL t.keys k then nth t.under (findL t.keys k).toNat else 0
def lookR (R : RM) (r k : Int) : Int × Int := match R.obj r with | none => (0, 6) | some t => if t.kind = 1 then (if t.gone then (0, 5) else (lookT t k, 0)) else (0, 6)
def keyR (R : RM) (r i : Int) : Int × Int := match R.obj r with | none => (0, 6) | some t => if t.kind = 1 then (if t.gone then (0, 5) else (if i < 0 ∨ (t.keys.length : Int) ≤ i then (0, 2) else (nth t.keys i.toNat, 0))) else (0, 6)
/-! ## The same, told twice -/
structure Alike1 (M : PM) (o : PO) (t : RT) : Prop where
  kind : t.kind = if o.tab then 1 else 0
  gone : t.gone = M.gone o
  stack : o.tab = true → (o.stack = true ↔ t.frame ≠ 0)
  fr : M.gone o = false → (o.fr = 0 ∧ 0 ≤ t.frame ∧ t.frame ≤ 1) ∨ ∃ j, ∃ h : j < M.frs.length, o.fr = M.frs[j] ∧ t.frame = (j : Int) + 2
  row : M.gone o = false → o.tab = false → o.size = t.V.length ∧ t.keys = [] ∧ ∀ k : Nat, k < t.V.length → o.get k = t.V.getD k zeroVV
  tabl : M.gone o = false → o.tab = true → t.V = [] ∧ t.keys = o.keys ∧ t.under.length = t.keys.length ∧ ∀ k, lookT t k = o.under k
structure Alike (M : PM) (R : RM) : Prop where
  limit : R.limit = M.limit
  used : R.used = M.used
  makes : R.makes = M.makes
  frames : R.frames = (M.frs.length : Int) + 1
  len : R.L.length = M.objs.length
  one : ∀ i (h1 : i < M.objs.length) (h2 : i < R.L.length), Alike1 M M.objs[i] R.L[i]
section
variable {M M' : PM} {R R' : RM} {cap : Nat}
theorem new_alike (l : Int) : Alike (newM l) (newR l) := ⟨rfl, rfl, rfl, rfl, rfl, fun i h1 => absurd h1 (by simp [newM])⟩
/-- What neither names of frames nor numbers turn. -/
theorem Alike1.same {o : PO} {t : RT} (h : Alike1 M o t) (hf : M'.frs = M.frs) : Alike1 M' o t := by
  have hg : M'.gone o = M.gone o := by unfold PM.gone; rw [hf]
  exact ⟨h.kind, by rw [hg]; exact h.gone, h.stack, fun hx => (h.fr (hg ▸ hx)).imp id (fun ⟨j, hj, h1, h2⟩ => ⟨j, by rw [hf]; exact hj, by simp only [hf]; exact h1, h2⟩), fun hx => h.row (hg ▸ hx), fun hx => h.tabl (hg ▸ hx)⟩
theorem enter_alike (h : Alike M R) (hn : NumAt cap M) : Alike (enterM M).1 (enterR R).1 ∧ (enterM M).2 = (enterR R).2 := by
  have hg : ∀ o ∈ M.objs, (enterM M).1.gone o = M.gone o := fun o ho => by
    have := (hn.fr o ho).2
    unfold PM.gone enterM frameM
    simp only [List.mem_append, List.mem_singleton]
    apply decide_eq_decide.2
    constructor
    · exact fun ⟨h1, h2⟩ => ⟨h1, fun hc => h2 (.inl hc)⟩
    · exact fun ⟨h1, h2⟩ => ⟨h1, fun hc => hc.elim h2 (fun e => by omega)⟩
  have hfe : (enterM M).1.frs = M.frs ++ [M.entered + 1] := rfl
  refine ⟨⟨h.limit, h.used, h.makes, by show R.frames + 1 = ((M.frs ++ [M.entered + 1]).length : Int) + 1; rw [h.frames, List.length_append]; simp, h.len, fun i h1 h2 => ?_⟩, by show (M.frs.length : Int) + 2 = R.frames + 1; rw [h.frames]; omega⟩
  have h1' : i < M.objs.length := h1
  have h2' : i < R.L.length := h2
  have k := h.one i h1' h2'
  have hgo := hg _ (List.getElem_mem h1')
  show Alike1 _ M.objs[i] R.L[i]
  exact ⟨k.kind, by rw [hgo]; exact k.gone, k.stack, fun hx => (k.fr (hgo ▸ hx)).imp id (fun ⟨j, hj, h3, h4⟩ => ⟨j, by rw [hfe, List.length_append]; simp; omega, by simp only [hfe]; rw [List.getElem_append_left hj]; exact h3, h4⟩), fun hx => k.row (hgo ▸ hx), fun hx => k.tabl (hgo ▸ hx)⟩
theorem leave_alike (h : Alike M R) (hn : NumAt cap M) : Alike (leaveM M).1 (leaveR R).1 ∧ (leaveM M).2 = (leaveR R).2 := by
  unfold leaveM leaveR
  by_cases h0 : M.frs = []
  · rw [if_pos h0, if_pos (by rw [h.frames, h0]; rfl)]
    exact ⟨h, rfl⟩
  · have hpos : 0 < M.frs.length := List.length_pos_iff.2 h0
    obtain ⟨L, hL⟩ : ∃ L, M.frs.length = L + 1 := ⟨M.frs.length - 1, by omega⟩
    rw [if_neg h0, if_neg (by rw [h.frames]; omega)]
    refine ⟨?_, rfl⟩
    rw [show M.frs.length - 1 = L by omega]
    have hgo : ∀ o ∈ M.objs, (lessM M L).gone o = (M.gone o || decide (o.fr = M.frs[L]'(by omega))) := fun o ho => by
      have hpf := (hn.pos _ (List.getElem_mem (show L < M.frs.length by omega))).1
      have hmem : o.fr ∈ M.frs ↔ (o.fr ∈ M.frs.take L ∨ o.fr = M.frs[L]'(by omega)) := by
        have e1 : M.frs.take L ++ [M.frs[L]'(by omega)] = M.frs := by rw [← List.take_succ_eq_append_getElem (by omega), List.take_of_length_le (by omega)]
        have e2 : o.fr ∈ M.frs ↔ o.fr ∈ M.frs.take L ++ [M.frs[L]'(by omega)] := by rw [e1]
        rw [e2, List.mem_append, List.mem_singleton]
      have hnl := last_not hn.inc (show L < M.frs.length by omega)
      unfold PM.gone lessM
      rw [Bool.eq_iff_iff]
      simp only [Bool.or_eq_true, decide_eq_true_eq]
      constructor
      · rintro ⟨h1, h2⟩
        by_cases e : o.fr = M.frs[L]'(by omega)
        · exact .inr e
        · exact .inl ⟨h1, fun hc => (hmem.1 hc).elim h2 e⟩
      · rintro (⟨h1, h2⟩ | e)
        · exact ⟨h1, fun hc => h2 (hmem.2 (.inl hc))⟩
        · exact ⟨by rw [e]; omega, by rw [e]; exact hnl⟩
    refine ⟨h.limit, h.used, h.makes, by show R.frames - 1 = ((M.frs.take L).length : Int) + 1; rw [h.frames, List.length_take]; omega, by simp [lessM, h.len], fun i h1 h2 => ?_⟩
    have h1' : i < M.objs.length := h1
    have h2' : i < R.L.length := by simpa using h2
    have k := h.one i h1' h2'
    have hg := hgo _ (List.getElem_mem h1')
    show Alike1 (lessM M L) M.objs[i] (R.L.map (goneT R.frames))[i]
    rw [List.getElem_map]
    have hkeep : (goneT R.frames R.L[i]).kind = R.L[i].kind ∧ (goneT R.frames R.L[i]).frame = R.L[i].frame ∧ (goneT R.frames R.L[i]).V = R.L[i].V ∧ (goneT R.frames R.L[i]).keys = R.L[i].keys ∧ (goneT R.frames R.L[i]).under = R.L[i].under := by
      unfold goneT; split <;> exact ⟨rfl, rfl, rfl, rfl, rfl⟩
    obtain ⟨k1, k2, k3, k4, k5⟩ := hkeep
    have hgone : (goneT R.frames R.L[i]).gone = (R.L[i].gone || decide (R.L[i].frame = R.frames)) := by
      unfold goneT
      by_cases e : R.L[i].frame = R.frames
      · rw [if_pos e, decide_eq_true e, Bool.or_true]
      · rw [if_neg e, decide_eq_false e, Bool.or_false]
    have hlook : ∀ x, lookT (goneT R.frames R.L[i]) x = lookT R.L[i] x := fun x => by unfold lookT; rw [k4, k5]
    have hinc : ∀ (a b : Nat) (ha : a < M.frs.length) (hb : b < M.frs.length), M.frs[a] = M.frs[b] → a = b := fun a b ha hb e => by
      rcases Nat.lt_trichotomy a b with hl | hl | hl
      · have := List.pairwise_iff_getElem.1 hn.inc a b ha hb hl; omega
      · exact hl
      · have := List.pairwise_iff_getElem.1 hn.inc b a hb ha hl; omega
    have hfl : M.gone M.objs[i] = false → (decide (M.objs[i].fr = M.frs[L]'(by omega)) = decide (R.L[i].frame = R.frames)) := fun hx => by
      apply decide_eq_decide.2
      have hpf := (hn.pos _ (List.getElem_mem (show L < M.frs.length by omega))).1
      rcases k.fr hx with ⟨e1, e2, e3⟩ | ⟨j, hj, e1, e2⟩
      · rw [e1, h.frames]; constructor
        · intro e; omega
        · intro e; omega
      · rw [e1, e2, h.frames]; constructor
        · intro e; have := hinc j L hj (by omega) e; omega
        · intro e; have : j = L := by omega
          subst this; rfl
    refine ⟨by rw [k1]; exact k.kind, ?_, by rw [k2]; exact k.stack, fun hx => ?_, fun hx => ?_, fun hx => ?_⟩
    · rw [hgone, hg, k.gone]
      cases hx : M.gone M.objs[i] with
      | true => rfl
      | false => rw [hfl hx]
    · rw [hg, Bool.or_eq_false_iff] at hx
      rw [k2]
      refine (k.fr hx.1).imp id (fun ⟨j, hj, e1, e2⟩ => ?_)
      have hne : j ≠ L := fun e => by subst e; exact (of_decide_eq_false hx.2) e1
      exact ⟨j, by show j < (M.frs.take L).length; rw [List.length_take]; omega, by show _ = (M.frs.take L)[j]'_; rw [List.getElem_take]; exact e1, e2⟩
    · rw [hg, Bool.or_eq_false_iff] at hx
      rw [k3, k4]; exact k.row hx.1
    · rw [hg, Bool.or_eq_false_iff] at hx
      intro ht
      obtain ⟨e1, e2, e3, e4⟩ := k.tabl hx.1 ht
      exact ⟨by rw [k3]; exact e1, by rw [k4]; exact e2, by rw [k4, k5]; exact e3, fun x => by rw [hlook]; exact e4 x⟩
end
end Go.Proofs.Ytgnfinojnmkkkaa

/- Layer 10: what is made, asked and set, told of both memories. -/
namespace Go.Proofs.Ytgnfinojnmkkkaa
open Go.RowKit (wrap64 intOf Below)
set_option linter.unusedVariables false
set_option linter.unusedSimpArgs false

def newObj (l : List VV) : PO := { fr := 0, tab := false, stack := false, size := l.length, get := fun k => l.getD k.toNat zeroVV, keys := [], under := fun _ => 0 }
def objectM (M : PM) (l : List VV) (st : Bool) : PM × Int × Int := addM M (newObj l) st
def rowUp (o : PO) (i : Int) (v : VV) : PO := {o with get := fun x => if x = i then v else o.get x}
def setM (M : PM) (r i : Int) (v : VV) : PM × Int := if ansR M r i = 0 then (match M.obj r with | none => (M, 0) | some o => ({M with objs := M.objs.set (r - 1).toNat (rowUp o i v)}, 0)) else (M, ansR M r i)
section
variable {M M' : PM} {R R' : RM} {cap : Nat}
/-- What is new means the same. -/
structure Fresh (o : PO) (t : RT) (st : Bool) : Prop where
  kind : t.kind = if o.tab then 1 else 0
  stack : o.tab = true → o.stack = st
  fr : o.fr = 0
  frame : t.frame = 0
  gone : t.gone = false
  keys : t.keys = [] ∧ o.keys = [] ∧ t.under = [] ∧ ∀ k, o.under k = 0
  size : osz o = t.V.length
  row : o.tab = false → ∀ k : Nat, k < t.V.length → o.get k = t.V.getD k zeroVV
  tabl : o.tab = true → t.V = []
theorem fresh_row (l : List VV) (st : Bool) : Fresh (newObj l) (rowT l) st := ⟨rfl, (fun h => by cases h), rfl, rfl, rfl, ⟨rfl, rfl, rfl, fun _ => rfl⟩, rfl, fun _ k _ => by show l.getD (k : Int).toNat zeroVV = _; rw [Int.toNat_natCast]; rfl, fun h => by cases h⟩
theorem fresh_zero (n : Int) (hn : 0 ≤ n) (st : Bool) : Fresh (newRow n) (rowT (List.replicate n.toNat zeroVV)) st := ⟨rfl, (fun h => by cases h), rfl, rfl, rfl, ⟨rfl, rfl, rfl, fun _ => rfl⟩, by show n = _; simp [rowT]; omega, fun _ k hk => by
  have hk' : k < n.toNat := by simpa [rowT] using hk
  show zeroVV = _
  rw [List.getD_eq_getElem?_getD]
  simp [rowT, hk'], fun h => by cases h⟩
theorem fresh_tab (st : Bool) : Fresh (newTab st) tabT st := ⟨rfl, fun _ => rfl, rfl, rfl, rfl, ⟨rfl, rfl, rfl, fun _ => rfl⟩, rfl, (fun h => by cases h), fun _ => rfl⟩
theorem push_alike (h : Alike M R) {o : PO} {t : RT} (ho : Alike1 M o t) : Alike (pushM M o) (pushR R t) := by
  refine ⟨h.limit, h.used, h.makes, h.frames, by simp [pushM, pushR, h.len], fun i h1 h2 => ?_⟩
  have h1' : i < (M.objs ++ [o]).length := h1
  have h2' : i < (R.L ++ [t]).length := h2
  show Alike1 (pushM M o) (M.objs ++ [o])[i] (R.L ++ [t])[i]
  by_cases e : i < M.objs.length
  · rw [List.getElem_append_left e, List.getElem_append_left (by rw [h.len]; exact e)]
    exact (h.one i e (by rw [h.len]; exact e)).same rfl
  · have e2 : i = M.objs.length := by simp at h1'; omega
    subst e2
    rw [List.getElem_append_right (by omega), List.getElem_append_right (by rw [h.len]; omega)]
    simp only [Nat.sub_self, h.len, List.getElem_cons_zero]
    exact ho.same rfl
theorem osz_fr (o : PO) (f : Int) : osz (withFr o f) = osz o := rfl
theorem add_alike (h : Alike M R) (hn : NumAt cap M) {o : PO} {t : RT} {st : Bool} (hf : Fresh o t st) : Alike (addM M o st).1 (makeR R t st).1 ∧ (addM M o st).2 = (makeR R t st).2 := by
  have hlen : (M.objs.length : Int) = R.L.length := by rw [h.len]
  have row : ∀ (f : Int), o.tab = false → osz o = t.V.length → (withFr o f).size = t.V.length := fun f ht he => by unfold osz at he; rw [ht] at he; exact he
  cases st with
  | true =>
    have hl := lastFr_range hn
    have hg : M.gone (withFr o (lastFr M)) = false := by
      unfold PM.gone withFr
      refine decide_eq_false fun hc => ?_
      have h1 := hc.1
      have h2 := hc.2
      simp only at h1 h2
      unfold lastFr at h1 h2
      cases hq : M.frs.getLast? with
      | none => rw [hq] at h1; exact h1 rfl
      | some x => rw [hq] at h2; exact h2 (List.mem_of_getLast? hq)
    refine ⟨?_, by unfold addM makeR; simp [hlen]⟩
    unfold addM makeR
    simp only [if_true]
    refine push_alike h ⟨hf.kind, by show t.gone = _; rw [hg]; exact hf.gone, fun ht => ⟨fun _ => by show R.frames ≠ 0; rw [h.frames]; omega, fun _ => hf.stack ht⟩, fun _ => ?_, fun _ ht => ⟨row _ ht hf.size, hf.keys.1, hf.row ht⟩, fun _ ht => ⟨hf.tabl ht, by show t.keys = o.keys; rw [hf.keys.1, hf.keys.2.1], by show t.under.length = t.keys.length; rw [hf.keys.1, hf.keys.2.2.1], fun k => by show lookT t k = o.under k; rw [hf.keys.2.2.2]; unfold lookT; rw [hf.keys.1]; rfl⟩⟩
    by_cases h0 : M.frs = []
    · exact .inl ⟨by show lastFr M = 0; unfold lastFr; rw [h0]; rfl, by show 0 ≤ R.frames; rw [h.frames]; omega, by show R.frames ≤ 1; rw [h.frames, h0]; simp⟩
    · have hpos : 0 < M.frs.length := List.length_pos_iff.2 h0
      refine .inr ⟨M.frs.length - 1, by omega, ?_, by show R.frames = _; rw [h.frames]; omega⟩
      exact last_fr (L := M.frs.length - 1) (by omega)
  | false =>
    have hfit : fits M (8 + 8 * osz o) = decide (R.used + (8 + 8 * (t.V.length : Int)) ≤ R.limit) := by unfold fits; rw [hf.size, h.used, h.limit]
    unfold addM makeR
    simp only [Bool.false_eq_true, if_false]
    by_cases hx : R.used + (8 + 8 * (t.V.length : Int)) ≤ R.limit
    · rw [if_pos (by rw [hfit]; exact decide_eq_true hx), if_pos hx]
      have htk : takeM M (8 + 8 * osz o) = {M with used := M.used + (8 + 8 * osz o)} := by unfold takeM; rw [if_pos (by rw [hfit]; exact decide_eq_true hx)]
      rw [htk]
      refine ⟨push_alike (M := {M with used := M.used + (8 + 8 * osz o), makes := M.makes + 1}) (R := {R with used := R.used + (8 + 8 * (t.V.length : Int)), makes := R.makes + 1}) ⟨h.limit, by show R.used + _ = M.used + _; rw [h.used, hf.size], by show R.makes + 1 = M.makes + 1; rw [h.makes], h.frames, h.len, fun i h1 h2 => (h.one i h1 h2).same rfl⟩ ?_, by simp [hlen]⟩
      have hg : PM.gone {M with used := M.used + (8 + 8 * osz o), makes := M.makes + 1} o = false := decide_eq_false fun hc => hc.1 hf.fr
      exact ⟨hf.kind, by rw [hg]; exact hf.gone, fun ht => ⟨fun hs => (by rw [hf.stack ht] at hs; cases hs), fun hs => absurd hf.frame hs⟩, fun _ => .inl ⟨hf.fr, by rw [hf.frame]; omega, by rw [hf.frame]; omega⟩, fun _ ht => ⟨row 0 ht hf.size, hf.keys.1, hf.row ht⟩, fun _ ht => ⟨hf.tabl ht, by rw [hf.keys.1, hf.keys.2.1], by rw [hf.keys.1, hf.keys.2.2.1], fun k => by rw [hf.keys.2.2.2]; unfold lookT; rw [hf.keys.1]; rfl⟩⟩
    · rw [if_neg (by rw [hfit]; simpa using hx), if_neg hx]
      exact ⟨h, rfl⟩
theorem slice_alike (h : Alike M R) (hn : NumAt cap M) (n : Int) (st : Bool) : Alike (sliceM M n st).1 (sliceR R n st).1 ∧ (sliceM M n st).2 = (sliceR R n st).2 := by
  unfold sliceM sliceR
  by_cases hc : n < 0 ∨ 1024 < n
  · rw [if_pos hc, if_pos hc]; exact ⟨h, rfl⟩
  · rw [if_neg hc, if_neg hc]; exact add_alike h hn (fresh_zero n (by omega) st)
theorem obj_alike (h : Alike M R) (r : Int) : (M.obj r = none ∧ R.obj r = none) ∨ ∃ (i : Nat) (h1 : i < M.objs.length) (h2 : i < R.L.length), r = (i : Int) + 1 ∧ M.obj r = some M.objs[i] ∧ R.obj r = some R.L[i] ∧ Alike1 M M.objs[i] R.L[i] := by
  unfold PM.obj RM.obj
  by_cases h1 : 1 ≤ r
  · rw [if_pos h1, if_pos h1]
    by_cases h2 : (r - 1).toNat < M.objs.length
    · have h3 : (r - 1).toNat < R.L.length := by rw [h.len]; exact h2
      exact .inr ⟨(r - 1).toNat, h2, h3, by omega, List.getElem?_eq_getElem h2, List.getElem?_eq_getElem h3, h.one _ h2 h3⟩
    · exact .inl ⟨List.getElem?_eq_none_iff.2 (by omega), List.getElem?_eq_none_iff.2 (by rw [h.len]; omega)⟩
  · rw [if_neg h1, if_neg h1]; exact .inl ⟨rfl, rfl⟩
theorem get_alike (h : Alike M R) (r j : Int) : getM M r j = getR R r j ∧ (getM M r j).2 = ansR M r j := by
  refine ⟨?_, (by
    unfold getM
    split
    · rename_i hx; exact hx.symm
    · rfl)⟩
  unfold getM getR ansR
  rcases obj_alike h r with ⟨e1, e2⟩ | ⟨i, h1, h2, hr, e1, e2, k⟩
  · rw [e1, e2]; rfl
  · rw [e1, e2]
    simp only [k.kind, k.gone]
    cases ht : M.objs[i].tab with
    | true => simp
    | false =>
      cases hg : M.gone M.objs[i] with
      | true => simp
      | false =>
        obtain ⟨q1, q2, q3⟩ := k.row hg ht
        simp only [Bool.false_eq_true, if_false, if_true, q1]
        by_cases hj : j < 0 ∨ (R.L[i].V.length : Int) ≤ j
        · simp [hj]
        · simp only [hj, if_false, if_true]
          obtain ⟨n, rfl⟩ : ∃ n : Nat, j = n := ⟨j.toNat, by omega⟩
          rw [q3 n (by omega), Int.toNat_natCast]
theorem size_alike (h : Alike M R) (r : Int) : sizeM M r = sizeR R r := by
  unfold sizeM sizeR
  rcases obj_alike h r with ⟨e1, e2⟩ | ⟨i, h1, h2, hr, e1, e2, k⟩
  · rw [e1, e2]
  · rw [e1, e2]
    simp only [k.gone]
    cases hg : M.gone M.objs[i] with
    | true => rfl
    | false =>
      cases ht : M.objs[i].tab with
      | true =>
        obtain ⟨q1, q2, _, _⟩ := k.tabl hg ht
        simp [q1, q2]
      | false =>
        obtain ⟨q1, q2, _⟩ := k.row hg ht
        simp [q1, q2]
theorem why_alike (h : Alike M R) (r : Int) : ansT M r = whyR R r 1 := by
  unfold ansT whyR
  rcases obj_alike h r with ⟨e1, e2⟩ | ⟨i, h1, h2, hr, e1, e2, k⟩
  · rw [e1, e2]
  · rw [e1, e2]
    simp only [k.kind, k.gone]
    cases ht : M.objs[i].tab with
    | true => simp
    | false => simp
theorem look_alike (h : Alike M R) (r x : Int) : lookM M r x = lookR R r x := by
  unfold lookM lookR
  rw [why_alike h]
  unfold whyR
  rcases obj_alike h r with ⟨e1, e2⟩ | ⟨i, h1, h2, hr, e1, e2, k⟩
  · rw [e1, e2]; rfl
  · rw [e1, e2]
    simp only [k.kind, k.gone]
    cases ht : M.objs[i].tab with
    | false => simp
    | true =>
      cases hg : M.gone M.objs[i] with
      | true => simp
      | false => simp [(k.tabl hg ht).2.2.2 x]
theorem key_alike (h : Alike M R) (r j : Int) : keyM M r j = keyR R r j := by
  unfold keyM keyR
  rw [why_alike h]
  unfold whyR
  rcases obj_alike h r with ⟨e1, e2⟩ | ⟨i, h1, h2, hr, e1, e2, k⟩
  · rw [e1, e2]; rfl
  · rw [e1, e2]
    simp only [k.kind, k.gone]
    cases ht : M.objs[i].tab with
    | false => simp
    | true =>
      cases hg : M.gone M.objs[i] with
      | true => simp
      | false => simp [(k.tabl hg ht).2.1]
theorem findL_range (l : List Int) (k : Int) : -1 ≤ findL l k ∧ findL l k < l.length := by
  induction l with
  | nil => simp [findL]
  | cons x l ih =>
    unfold findL
    rw [List.length_cons]
    split
    · omega
    · split <;> omega
theorem findL_mem (l : List Int) (k : Int) : 0 ≤ findL l k ↔ k ∈ l := by
  induction l with
  | nil => simp [findL]
  | cons x l ih =>
    unfold findL
    have := findL_range l k
    by_cases e : x = k
    · simp [e]
    · rw [if_neg e]
      split
      · rename_i hx; constructor
        · intro hh; omega
        · intro hh; rcases List.mem_cons.1 hh with h1 | h1
          · exact absurd h1.symm e
          · have := ih.2 h1; omega
      · rename_i hx; exact ⟨fun _ => List.mem_cons_of_mem _ (ih.1 (by omega)), fun _ => by omega⟩
theorem findL_app (l : List Int) (k x : Int) (hk : findL l k < 0) : findL (l ++ [k]) x = if x = k then (l.length : Int) else findL l x := by
  induction l with
  | nil => unfold findL; simp only [List.nil_append]; unfold findL; by_cases e : x = k
           · simp [e]
           · rw [if_neg (fun e' => e e'.symm), if_neg e]; rfl
  | cons y l ih =>
    have hky : y ≠ k := fun e => by unfold findL at hk; rw [if_pos e] at hk; omega
    have hkl : findL l k < 0 := by
      unfold findL at hk; rw [if_neg hky] at hk
      by_cases h0 : findL l k < 0
      · exact h0
      · rw [if_neg h0] at hk; omega
    rw [List.cons_append]
    unfold findL
    rw [ih hkl]
    by_cases e : x = k
    · subst e
      rw [if_neg hky, if_pos rfl, if_neg (by omega), if_pos rfl]; simp
    · rw [if_neg e, if_neg e]
theorem findL_inj (l : List Int) (x k : Int) (h : 0 ≤ findL l x) (e : findL l x = findL l k) : x = k := by
  induction l with
  | nil => unfold findL at h; omega
  | cons y l ih =>
    unfold findL at h e
    by_cases e1 : y = x <;> by_cases e2 : y = k
    · omega
    · rw [if_pos e1, if_neg e2] at e; split at e <;> omega
    · rw [if_neg e1, if_pos e2] at e; split at e <;> omega
    · rw [if_neg e1] at h e; rw [if_neg e2] at e
      by_cases h3 : findL l x < 0
      · rw [if_pos h3] at h; omega
      · rw [if_neg h3] at h e
        by_cases h4 : findL l k < 0
        · rw [if_pos h4] at e; omega
        · rw [if_neg h4] at e
          exact ih (by omega) (by omega)
end
end Go.Proofs.Ytgnfinojnmkkkaa

/- Layer 10: what is set and put, told of both memories. -/
namespace Go.Proofs.Ytgnfinojnmkkkaa
open Go.RowKit (wrap64 intOf Below)
set_option linter.unusedVariables false
set_option linter.unusedSimpArgs false

section
variable {M M' : PM} {R R' : RM} {cap : Nat}
theorem put_one (h : Alike M R) {i : Nat} {o : PO} {t : RT} (ho : Alike1 M o t) : Alike {M with objs := M.objs.set i o} {R with L := R.L.set i t} := by
  refine ⟨h.limit, h.used, h.makes, h.frames, by simp [h.len], fun j h1 h2 => ?_⟩
  have h1' : j < M.objs.length := by simpa using h1
  have h2' : j < R.L.length := by simpa using h2
  show Alike1 _ (M.objs.set i o)[j] (R.L.set i t)[j]
  by_cases e : i = j
  · subst e
    rw [List.getElem_set_self, List.getElem_set_self]; exact ho.same rfl
  · rw [List.getElem_set_ne e, List.getElem_set_ne e]; exact (h.one j h1' h2').same rfl
theorem set_alike (h : Alike M R) (r j : Int) (v : VV) : Alike (setM M r j v).1 (setR R r j v).1 ∧ (setM M r j v).2 = (setR R r j v).2 := by
  obtain ⟨g1, g2⟩ := get_alike h r j
  have ha : ansR M r j = (getR R r j).2 := by rw [← g1, g2]
  unfold setM setR
  rw [← ha]
  by_cases h0 : ansR M r j = 0
  · rw [if_pos h0, if_pos h0]
    rcases obj_alike h r with ⟨e1, e2⟩ | ⟨i, h1, h2, hr, e1, e2, k⟩
    · rw [e1, e2]; exact ⟨h, rfl⟩
    · rw [e1, e2]
      refine ⟨?_, rfl⟩
      unfold ansR at h0
      rw [e1] at h0
      cases ht : M.objs[i].tab with
      | true => simp [ht] at h0
      | false =>
        cases hg : M.gone M.objs[i] with
        | true => simp [ht, hg] at h0
        | false =>
          have hj : ¬ (j < 0 ∨ M.objs[i].size ≤ j) := fun hc => by simp [ht, hg, hc] at h0
          have hgg : M.gone (rowUp M.objs[i] j v) = M.gone M.objs[i] := rfl
          refine put_one h ⟨k.kind, k.gone, k.stack, k.fr, fun _ _ => ?_, fun _ ht' => ?_⟩
          · obtain ⟨q1, q2, q3⟩ := k.row hg ht
            refine ⟨by show M.objs[i].size = ((R.L[i].V.set j.toNat v).length : Int); rw [List.length_set]; exact q1, q2, fun n hn => ?_⟩
            have hn' : n < R.L[i].V.length := by simpa [setT] using hn
            show (if (n : Int) = j then v else M.objs[i].get n) = (R.L[i].V.set j.toNat v).getD n zeroVV
            rw [List.getD_eq_getElem?_getD, List.getElem?_set]
            by_cases e : (n : Int) = j
            · rw [if_pos e, if_pos (by omega), if_pos (by omega)]; rfl
            · rw [if_neg e, if_neg (by omega), ← List.getD_eq_getElem?_getD]; exact q3 n hn'
          · have : M.objs[i].tab = true := ht'
            rw [ht] at this; cases this
  · rw [if_neg h0, if_neg h0]; exact ⟨h, rfl⟩
theorem lookT_put (t : RT) (k n x : Int) (hl : t.under.length = t.keys.length) : lookT (putT t k n) x = if x = k then n else lookT t x := by
  unfold putT lookT
  have hr := findL_range t.keys x
  have hrk := findL_range t.keys k
  by_cases hk : 0 ≤ findL t.keys k
  · rw [if_pos hk]
    show (if 0 ≤ findL t.keys x then nth (t.under.set (findL t.keys k).toNat n) (findL t.keys x).toNat else 0) = _
    by_cases e : x = k
    · subst e
      rw [if_pos hk, if_pos rfl]
      unfold nth
      rw [List.getD_eq_getElem?_getD, List.getElem?_set_self (by omega)]; rfl
    · rw [if_neg e]
      by_cases hx : 0 ≤ findL t.keys x
      · rw [if_pos hx, if_pos hx]
        unfold nth
        rw [List.getD_eq_getElem?_getD, List.getElem?_set_ne, ← List.getD_eq_getElem?_getD]
        intro e2
        exact e (findL_inj t.keys x k hx (by omega))
      · rw [if_neg hx, if_neg hx]
  · rw [if_neg hk]
    show (if 0 ≤ findL (t.keys ++ [k]) x then nth (t.under ++ [n]) (findL (t.keys ++ [k]) x).toNat else 0) = _
    rw [findL_app _ _ _ (by omega)]
    by_cases e : x = k
    · rw [if_pos e, if_pos e, if_pos (by omega)]
      unfold nth
      rw [List.getD_eq_getElem?_getD, List.getElem?_append_right (by omega)]
      simp [hl]
    · rw [if_neg e, if_neg e]
      by_cases hx : 0 ≤ findL t.keys x
      · rw [if_pos hx, if_pos hx]
        unfold nth
        rw [List.getD_eq_getElem?_getD, List.getElem?_append_left (by omega), ← List.getD_eq_getElem?_getD]
      · rw [if_neg hx, if_neg hx]
theorem putT_keys (t : RT) (o : PO) (k n : Int) (h : t.keys = o.keys) : (putT t k n).keys = keysUp o k := by
  unfold putT keysUp
  have := findL_mem t.keys k
  by_cases hk : 0 ≤ findL t.keys k
  · rw [if_pos hk, if_pos (by rw [← h]; exact this.1 hk)]; exact h
  · rw [if_neg hk, if_neg (by rw [← h]; exact fun hc => hk (this.2 hc))]; show t.keys ++ [k] = _; rw [h]
theorem putT_len (t : RT) (k n : Int) (hl : t.under.length = t.keys.length) : (putT t k n).under.length = (putT t k n).keys.length := by
  unfold putT; split
  · show (t.under.set _ n).length = _; rw [List.length_set]; exact hl
  · show (t.under ++ [n]).length = (t.keys ++ [k]).length; simp [hl]
theorem putT_same (t : RT) (k n : Int) : (putT t k n).kind = t.kind ∧ (putT t k n).V = t.V ∧ (putT t k n).frame = t.frame ∧ (putT t k n).gone = t.gone := by unfold putT; split <;> exact ⟨rfl, rfl, rfl, rfl⟩
theorem put_tab {o : PO} {t : RT} (h : Alike1 M o t) (hg : M.gone o = false) (ht : o.tab = true) (k n : Int) : Alike1 M (tabUp o k n) (putT t k n) := by
  obtain ⟨e1, e2, e3, e4⟩ := putT_same t k n
  obtain ⟨q1, q2, q3, q4⟩ := h.tabl hg ht
  refine ⟨by rw [e1]; exact h.kind, by rw [e4]; exact h.gone, by rw [e3]; exact h.stack, by rw [e3]; exact h.fr, fun _ ht' => ?_, fun _ _ => ⟨by rw [e2]; exact q1, putT_keys t o k n q2, putT_len t k n q3, fun x => ?_⟩⟩
  · have : o.tab = false := ht'
    rw [ht] at this; cases this
  · rw [lookT_put t k n x q3]
    show _ = if x = k then n else o.under x
    rw [q4]
theorem put_alike (h : Alike M R) (r k n : Int) : Alike (putM M r k n).1 (putR R r k n).1 ∧ (putM M r k n).2 = (putR R r k n).2 := by
  unfold putM putR
  rw [why_alike h]
  unfold whyR
  rcases obj_alike h r with ⟨e1, e2⟩ | ⟨i, h1, h2, hr, e1, e2, q⟩
  · rw [e1, e2]; exact ⟨h, rfl⟩
  · rw [e1, e2]
    simp only [q.kind, q.gone]
    cases ht : M.objs[i].tab with
    | false => simp; exact h
    | true =>
      cases hg : M.gone M.objs[i] with
      | true => simp; exact h
      | false =>
        obtain ⟨q1, q2, q3, q4⟩ := q.tabl hg ht
        have hm := findL_mem R.L[i].keys k
        rw [q2] at hm
        have hc : (k ∈ M.objs[i].keys ∨ M.objs[i].stack = true) ↔ (0 ≤ findL R.L[i].keys k ∨ R.L[i].frame ≠ 0) := by rw [q2, hm, q.stack ht]
        have hi : (r - 1).toNat = i := by omega
        have hft : fits M 16 = decide (R.used + 16 ≤ R.limit) := by unfold fits; rw [h.used, h.limit]
        simp only [if_true, Bool.false_eq_true, if_false, hi]
        by_cases hcc : 0 ≤ findL R.L[i].keys k ∨ R.L[i].frame ≠ 0
        · rw [if_pos (hc.2 hcc), if_pos hcc]
          exact ⟨put_one h (put_tab q hg ht k n), rfl⟩
        · rw [if_neg (fun hx => hcc (hc.1 hx)), if_neg hcc]
          by_cases hf : R.used + 16 ≤ R.limit
          · rw [if_pos (by rw [hft]; exact decide_eq_true hf), if_pos hf]
            have htk : takeM M 16 = {M with used := M.used + 16} := by unfold takeM; rw [if_pos (by rw [hft]; exact decide_eq_true hf)]
            rw [htk]
            refine ⟨?_, rfl⟩
            exact put_one (M := {M with used := M.used + 16}) (R := {R with used := R.used + 16}) ⟨h.limit, by show R.used + 16 = M.used + 16; rw [h.used], h.makes, h.frames, h.len, fun j j1 j2 => (h.one j j1 j2).same rfl⟩ ((put_tab q hg ht k n).same rfl)
          · rw [if_neg (by rw [hft]; simpa using hf), if_neg hf]
            exact ⟨h, rfl⟩
end
end Go.Proofs.Ytgnfinojnmkkkaa

/- Layer 10: where the document's memory lies. -/
namespace Go.Proofs.Ytgnfinojnmkkkaa
open Go.RowKit (wrap64 intOf Below)
set_option linter.unusedVariables false
set_option linter.unusedSimpArgs false

section
variable {α : Type} {f : α → List Value} {k : Nat}
theorem flat_len (hk : ∀ x, (f x).length = k) : ∀ (l : List α), (l.flatMap f).length = l.length * k := by
  intro l
  induction l with
  | nil => simp
  | cons x l ih => rw [List.flatMap_cons, List.length_append, hk, ih, List.length_cons, Nat.succ_mul, Nat.add_comm]
theorem flat_get (hk : ∀ x, (f x).length = k) : ∀ (l : List α) (i : Nat) (h : i < l.length) (j : Nat), j < k → (l.flatMap f)[i * k + j]? = (f l[i])[j]? := by
  intro l
  induction l with
  | nil => intro i h; exact absurd h (by simp)
  | cons x l ih =>
    intro i h j hj
    rw [List.flatMap_cons]
    cases i with
    | zero => rw [Nat.zero_mul, Nat.zero_add, List.getElem?_append_left (by rw [hk]; exact hj)]; rfl
    | succ i =>
      rw [List.getElem?_append_right (by rw [hk, Nat.succ_mul]; omega), hk, show (i + 1) * k + j - k = i * k + j by rw [Nat.succ_mul]; omega]
      exact ih i (by simpa using h) j hj
theorem flat_set (hk : ∀ x, (f x).length = k) : ∀ (l : List α) (i : Nat) (h : i < l.length) (j : Nat) (v : Value) (y : α), j < k → f y = (f l[i]).set j v → (l.flatMap f).set (i * k + j) v = (l.set i y).flatMap f := by
  intro l
  induction l with
  | nil => intro i h; exact absurd h (by simp)
  | cons x l ih =>
    intro i h j v y hj hy
    cases i with
    | zero => rw [Nat.zero_mul, Nat.zero_add, List.flatMap_cons, List.set_cons_zero, List.flatMap_cons, List.set_append_left _ _ (by rw [hk]; exact hj)]; rw [hy]; rfl
    | succ i =>
      rw [List.flatMap_cons, List.set_cons_succ, List.flatMap_cons, List.set_append_right _ _ (by rw [hk, Nat.succ_mul]; omega), hk, show (i + 1) * k + j - k = i * k + j by rw [Nat.succ_mul]; omega]
      rw [ih i (by simpa using h) j v y hj hy]
end
/-- A row of structs, of the call's own: its cells. -/
theorem row_cells {W : World} {B e k : Nat} {a : Option Addr} {n c m : Nat} {xs : List Value} (h : W.ownsRow B e k (.slice a n c) m xs) : n = m ∧ (0 < n → ∃ g, a = some ⟨g, 0, none⟩ ∧ B ≤ g ∧ g < W.heap.size ∧ ∀ j v, xs[j]? = some v → W.cell? ⟨g, j, none⟩ = some v) := by
  have h0 := h
  rcases h.2 with ⟨e1, h1⟩ | ⟨g, cap, cur, e1, hB, hh, _⟩
  · cases e1
    exact ⟨h1.symm, fun hp => by omega⟩
  · cases e1
    refine ⟨rfl, fun _ => ⟨g, rfl, hB, (Array.getElem?_eq_some_iff.1 hh).1, fun j v hv => ?_⟩⟩
    have c1 := World.ownsRow.cells h0 rfl _ _ hv
    rwa [addr_plain, Nat.zero_add] at c1
structure GT where
  V : Option Addr × Nat × Nat
  K : Option Addr × Nat × Nat
  U : Option Addr × Nat × Nat
structure GR where
  p : Nat
  la : Option Addr
  ln : Nat
  lc : Nat
  gts : List GT
  ρ : Rho
def sv (x : Option Addr × Nat × Nat) : Value := .slice x.1 x.2.1 x.2.2
def vvL (x : VV) : List Value := [.int .i64 x.1, .string x.2.1, .int .i64 x.2.2]
def OwnsV (W : World) (B : Nat) (v : Value) (l : List VV) : Prop := W.ownsRow B 24 3 v l.length (l.flatMap vvL)
def thV (x : RT × GT) : List Value := [.int .i64 x.1.kind, sv x.2.V, sv x.2.K, sv x.2.U, .int .i64 x.1.frame, .bool x.1.gone]
def OwnsTh (W : World) (B : Nat) (v : Value) (l : List (RT × GT)) : Prop := W.ownsRow B 63 6 v l.length (l.flatMap thV)
structure ThAt (W : World) (B : Nat) (ρ : Rho) (i : Nat) (t : RT) (g : GT) : Prop where
  V : OwnsV W B (sv g.V) t.V
  rv : RoleS ρ (sv g.V) (2, i)
  K : OwnsI W B 2 (sv g.K) t.keys
  rk : RoleS ρ (sv g.K) (3, i)
  U : OwnsI W B 2 (sv g.U) t.under
  ru : RoleS ρ (sv g.U) (4, i)
structure TNum (cap : Nat) (t : RT) : Prop where
  kind : t.kind = 0 ∨ t.kind = 1
  V : t.V.length ≤ 1048576
  keys : t.keys.length ≤ cap
  under : t.under.length = t.keys.length
  frame : 0 ≤ t.frame ∧ t.frame ≤ cap + 1
structure RNum (cap : Nat) (R : RM) : Prop where
  frames : 1 ≤ R.frames ∧ R.frames ≤ cap + 1
  limit : 0 ≤ R.limit ∧ R.limit ≤ 16777216
  used : 0 ≤ R.used ∧ R.used ≤ R.limit
  makes : 0 ≤ R.makes ∧ R.makes ≤ cap
  len : R.L.length ≤ cap
  one : ∀ t ∈ R.L, TNum cap t
structure RefAt (W : World) (B cap : Nat) (R : RM) (G : GR) : Prop where
  range : ∀ k r, G.ρ k = some r → B ≤ k ∧ k < W.heap.size
  rm : G.ρ G.p = some (0, 0)
  blk : W.heap[G.p]? = some (.cells #[.slice G.la G.ln G.lc, .int .i64 R.frames, .int .i64 R.limit, .int .i64 R.used, .int .i64 R.makes] 35 (0, 0))
  lv : OwnsTh W B (.slice G.la G.ln G.lc) (R.L.zip G.gts)
  rl : RoleS G.ρ (.slice G.la G.ln G.lc) (1, 0)
  glen : G.gts.length = R.L.length
  th : ∀ i (h1 : i < R.L.length) (h2 : i < G.gts.length), ThAt W B G.ρ i R.L[i] G.gts[i]
  num : RNum cap R
section
variable {W W' : World} {B cap cap' : Nat} {R : RM} {G : GR} {ρ ρ' : Rho} {i : Nat} {t : RT} {g : GT}
theorem thV_len (x : RT × GT) : (thV x).length = 6 := rfl
theorem vvL_len (x : VV) : (vvL x).length = 3 := rfl
theorem ThAt.kept {Q : Nat × Nat → Prop} (h : ThAt W B ρ i t g) (hk : Kp ρ Q W W') (hQ : ∀ k, 2 ≤ k → k ≤ 4 → Q (k, i)) (he : Ex ρ ρ') : ThAt W' B ρ' i t g :=
  ⟨row_kept h.V h.rv hk (hQ 2 (by omega) (by omega)), h.rv.ex he, row_kept h.K h.rk hk (hQ 3 (by omega) (by omega)), h.rk.ex he, row_kept h.U h.ru hk (hQ 4 (by omega) (by omega)), h.ru.ex he⟩
theorem TNum.mono (h : TNum cap t) (hc : cap ≤ cap') : TNum cap' t := ⟨h.kind, h.V, Nat.le_trans h.keys hc, h.under, h.frame.1, by have := h.frame.2; omega⟩
theorem RNum.mono (h : RNum cap R) (hc : cap ≤ cap') : RNum cap' R := ⟨⟨h.frames.1, by have := h.frames.2; omega⟩, h.limit, h.used, ⟨h.makes.1, by have := h.makes.2; omega⟩, Nat.le_trans h.len hc, fun t ht => (h.one t ht).mono hc⟩
theorem RefAt.plt (h : RefAt W B cap R G) : B ≤ G.p ∧ G.p < W.heap.size := h.range _ _ h.rm
theorem RefAt.cell (h : RefAt W B cap R G) (j : Nat) : W.cell? ⟨G.p, j, none⟩ = (#[.slice G.la G.ln G.lc, .int .i64 R.frames, .int .i64 R.limit, .int .i64 R.used, .int .i64 R.makes] : Array Value)[j]? := by simp [World.cell?, h.blk]
theorem RefAt.free (h : RefAt W B cap R G) (j : Nat) : W.frozen? ⟨G.p, j, none⟩ = false := by simp [World.frozen?, h.blk]
theorem RefAt.ln (h : RefAt W B cap R G) : G.ln = R.L.length := by
  have := (row_cells h.lv).1
  rw [this, List.length_zip, h.glen]; exact Nat.min_self _
/-- Nothing of it has turned. -/
theorem RefAt.kept (h : RefAt W B cap R G) (hk : Kp G.ρ (fun _ => True) W W') (hs : W.heap.size ≤ W'.heap.size) : RefAt W' B cap R G :=
  ⟨fun k r hkr => ⟨(h.range k r hkr).1, Nat.lt_of_lt_of_le (h.range k r hkr).2 hs⟩, h.rm, (hk _ _ h.rm trivial).trans h.blk, row_kept h.lv h.rl hk trivial, h.rl, h.glen, fun i h1 h2 => (h.th i h1 h2).kept hk (fun _ _ _ => trivial) (Ex.refl _), h.num⟩
theorem RefAt.since (h : RefAt W B cap R G) (hb : Below W.heap.size W W') : RefAt W' B cap R G := h.kept (kp_of_below h.range hb (fun _ => True)) hb.size
theorem RefAt.beside (h : RefAt W B cap R G) {X : Nat → Prop} (hb : Off X W W') (hX : ∀ b, X b → ¬ dom G.ρ b) : RefAt W' B cap R G :=
  h.kept (fun k r hkr _ => hb.block k (h.range k r hkr).2 (fun hx => hX k hx ⟨r, hkr⟩)) hb.size
theorem RefAt.mono (h : RefAt W B cap R G) (hc : cap ≤ cap') : RefAt W B cap' R G := ⟨h.range, h.rm, h.blk, h.lv, h.rl, h.glen, h.th, h.num.mono hc⟩
/-- The memory's own numbers are told anew. -/
theorem RefAt.head (h : RefAt W B cap R G) {a b c d : Int} (hk : Kp G.ρ (fun r => r ≠ (0, 0)) W W') (hs : W.heap.size ≤ W'.heap.size)
    (hb : W'.heap[G.p]? = some (.cells #[.slice G.la G.ln G.lc, .int .i64 a, .int .i64 b, .int .i64 c, .int .i64 d] 35 (0, 0)))
    (hn : RNum cap' {R with frames := a, limit := b, used := c, makes := d}) : RefAt W' B cap' {R with frames := a, limit := b, used := c, makes := d} G :=
  ⟨fun k r hkr => ⟨(h.range k r hkr).1, Nat.lt_of_lt_of_le (h.range k r hkr).2 hs⟩, h.rm, hb, row_kept h.lv h.rl hk (by simp), h.rl, h.glen, fun i h1 h2 => (h.th i h1 h2).kept hk (fun k h2 _ => by simp; omega) (Ex.refl _), hn⟩
theorem RefAt.kpSet (h : RefAt W B cap R G) (j : Nat) (v : Value) : Kp G.ρ (fun r => r ≠ (0, 0)) W (W.setCell ⟨G.p, j, none⟩ v) := fun k r hkr hne => Below.heap_setCell _ _ _ _ (fun e => by
  have e' : k = G.p := e
  rw [e', h.rm] at hkr
  exact hne (Option.some.inj hkr).symm)
/-- The cells of thing i. -/
theorem RefAt.thing (h : RefAt W B cap R G) {i : Nat} (h1 : i < R.L.length) (h2 : i < G.gts.length) : ∃ lb, G.la = some ⟨lb, 0, none⟩ ∧ lb < W.heap.size ∧ B ≤ lb ∧ G.ρ lb = some (1, 0) ∧
    W.cell? ⟨lb, i * 6, none⟩ = some (.int .i64 R.L[i].kind) ∧ W.cell? ⟨lb, i * 6 + 1, none⟩ = some (sv G.gts[i].V) ∧ W.cell? ⟨lb, i * 6 + 2, none⟩ = some (sv G.gts[i].K) ∧ W.cell? ⟨lb, i * 6 + 3, none⟩ = some (sv G.gts[i].U) ∧ W.cell? ⟨lb, i * 6 + 4, none⟩ = some (.int .i64 R.L[i].frame) ∧ W.cell? ⟨lb, i * 6 + 5, none⟩ = some (.bool R.L[i].gone) := by
  obtain ⟨lb, e, hB, hl, hc⟩ := (row_cells h.lv).2 (by rw [h.ln]; omega)
  have hz : i < (R.L.zip G.gts).length := by rw [List.length_zip]; omega
  have key : ∀ j, j < 6 → ∀ v, (thV ((R.L.zip G.gts)[i]))[j]? = some v → W.cell? ⟨lb, i * 6 + j, none⟩ = some v := fun j hj v hv => hc _ _ ((flat_get thV_len _ i hz j hj).trans hv)
  rw [List.getElem_zip] at key
  exact ⟨lb, e, hl, hB, h.rl lb (by rw [e]; rfl), key 0 (by omega) _ rfl, key 1 (by omega) _ rfl, key 2 (by omega) _ rfl, key 3 (by omega) _ rfl, key 4 (by omega) _ rfl, key 5 (by omega) _ rfl⟩
/-- A cell of a row of values. -/
theorem OwnsV.cells {a : Option Addr} {n c : Nat} {l : List VV} (h : OwnsV W B (.slice a n c) l) : n = l.length ∧ (0 < n → ∃ g, a = some ⟨g, 0, none⟩ ∧ g < W.heap.size ∧ B ≤ g ∧ ∀ k (hk : k < l.length), W.cell? ⟨g, k * 3, none⟩ = some (.int .i64 l[k].1) ∧ W.cell? ⟨g, k * 3 + 1, none⟩ = some (.string l[k].2.1) ∧ W.cell? ⟨g, k * 3 + 2, none⟩ = some (.int .i64 l[k].2.2)) := by
  refine ⟨(row_cells h).1, fun hp => ?_⟩
  obtain ⟨g, e, hB, hl, hc⟩ := (row_cells h).2 hp
  have key : ∀ k (hk : k < l.length) j, j < 3 → ∀ v, (vvL l[k])[j]? = some v → W.cell? ⟨g, k * 3 + j, none⟩ = some v := fun k hk j hj v hv => hc _ _ ((flat_get vvL_len _ k hk j hj).trans hv)
  exact ⟨g, e, hl, hB, fun k hk => ⟨key k hk 0 (by omega) _ rfl, key k hk 1 (by omega) _ rfl, key k hk 2 (by omega) _ rfl⟩⟩
end
theorem new_ref_at {w : World} (l : Int) (v : Int) (hv : v = min (max l 0) 16777216) {w' : World} (hw : w.alloc (.cells #[.slice none 0 0, .int .i64 1, .int .i64 v, .int .i64 0, .int .i64 0] 35) = w') {B : Nat} (hB : B ≤ w.heap.size) :
    ∃ G : GR, G.p = w.heap.size ∧ RefAt w' B 0 (newR l) G ∧ Below w.heap.size w w' ∧ ∀ b, dom G.ρ b → b = w.heap.size := by
  subst hw hv
  refine ⟨⟨w.heap.size, none, 0, 0, [], fun k => if k = w.heap.size then some (0, 0) else none⟩, rfl, ?_, (Below.refl _ w).alloc (Nat.le_refl _) _, fun b ⟨r, hr⟩ => ?_⟩
  · refine ⟨fun k r hkr => ?_, by simp, World.alloc_heap_new _ _, World.ownsRow_nil _ _ _ 6, (fun k hk => by cases hk), rfl, fun i h1 => absurd h1 (by simp [newR]), ?_⟩
    · by_cases e : k = w.heap.size
      · subst e; simp; exact hB
      · simp [e] at hkr
    · refine ⟨by simp [newR], by simp only [newR]; omega, by simp only [newR]; omega, by simp [newR], by simp [newR], by simp [newR]⟩
  · by_cases e : b = w.heap.size
    · exact e
    · simp [e] at hr
set_option maxRecDepth 100000 in
theorem refnew_any (l : Int) (w : World) {B : Nat} (hB : B ≤ w.heap.size) : Calls Try.prog 6 #[.int .i64 l] w fun e w' => ∃ G : GR, e = .returned (.pointer (some ⟨G.p, 0, none⟩)) ∧ RefAt w' B 0 (newR l) G ∧ Below w.heap.size w w' ∧ ∀ b, dom G.ρ b → b = w.heap.size := by
  have HM : RowKit.Hid (∀ v : Int, v = min (max l 0) 16777216 → ∀ w', w.alloc (.cells #[.slice none 0 0, .int .i64 1, .int .i64 v, .int .i64 0, .int .i64 0] 35) = w' → ∃ G : GR, G.p = w.heap.size ∧ RefAt w' B 0 (newR l) G ∧ Below w.heap.size w w' ∧ ∀ b, dom G.ρ b → b = w.heap.size) := Lib.hid fun v hv w' hw => new_ref_at l v hv hw hB
  clear hB
  go_enter Try.func6, Try.ntmps6
  go_wp2_with fail
  all_goals (go_ret; first
    | (obtain ⟨G, hp, h1⟩ := HM.out 0 (by omega) _ rfl; exact ⟨G, by rw [hp]; rfl, h1⟩)
    | (obtain ⟨G, hp, h1⟩ := HM.out 16777216 (by omega) _ rfl; exact ⟨G, by rw [hp]; rfl, h1⟩)
    | (obtain ⟨G, hp, h1⟩ := HM.out l (by omega) _ rfl; exact ⟨G, by rw [hp]; rfl, h1⟩))
def REnterPost (W : World) (B cap : Nat) (R : RM) (p : Nat) (ρ : Rho) (v : Value) (e : Ending) (w' : World) : Prop := e = .returned v ∧ ∃ G', RefAt w' B cap R G' ∧ G'.p = p ∧ Below B W w' ∧ Sep W w' ρ G'.ρ
set_option maxRecDepth 100000 in
theorem refenter_any {W : World} {B cap : Nat} {R : RM} {G : GR} (h : RefAt W B cap R G) (hcap : cap ≤ 1099511627776) :
    Calls Try.prog 13 #[.pointer (some ⟨G.p, 0, none⟩)] W (REnterPost W B (cap + 1) (enterR R).1 G.p G.ρ (.int .i64 (enterR R).2)) := by
  have c1 := h.cell 1
  have f1 := h.free 1
  simp only [List.getElem?_toArray, List.getElem?_cons_succ, List.getElem?_cons_zero] at c1
  have n := h.num
  have hf := n.frames
  have hw : wrap64 (R.frames + 1) = R.frames + 1 := by unfold wrap64; omega
  have HM : RowKit.Hid (REnterPost W B (cap + 1) (enterR R).1 G.p G.ρ (.int .i64 (enterR R).2) (.returned (.int .i64 (R.frames + 1))) (W.setCell ⟨G.p, 1, none⟩ (.int .i64 (R.frames + 1)))) := Lib.hid ⟨rfl, G, h.head (a := R.frames + 1) (b := R.limit) (c := R.used) (d := R.makes) (h.kpSet 1 _) (by simp [World.setCell]) (by rw [heap_setCell_same W G.p 1 _ _ _ h.blk]; rfl) ⟨⟨by show 1 ≤ R.frames + 1; omega, by show R.frames + 1 ≤ _; simp; omega⟩, n.limit, n.used, ⟨n.makes.1, by have := n.makes.2; show R.makes ≤ _; simp; omega⟩, Nat.le_succ_of_le n.len, fun t ht => (n.one t ht).mono (Nat.le_succ _)⟩, rfl, (Below.refl B W).setCell (p := ⟨G.p, 1, none⟩) h.plt.1 _, (Off.refl _ W).setCell (p := ⟨G.p, 1, none⟩) (.inl ⟨_, h.rm⟩) _, fun b r hr => .inl ⟨r, hr⟩⟩
  clear h n hf
  go_enter Try.func13, Try.ntmps13
  go_wp2_with fail
  go_ret
  exact HM.out
end Go.Proofs.Ytgnfinojnmkkkaa
