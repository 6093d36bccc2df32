/- Layer 10: the document's Object, Slice and Table. -/
import Derived.Test.YtgnfinojnmkkkaaQHeapRH

namespace Go.Proofs.Ytgnfinojnmkkkaa
open Go.RowKit (wrap64 intOf Below)
set_option linter.unusedVariables false
set_option linter.unusedSimpArgs false

theorem refmake_any {W : World} {B cap : Nat} {R : RM} {G : GR} (h : RefAt W B cap R G) (hcap : cap ≤ 1099511627776) {t : RT} {v : Option Addr × Nat × Nat} (hn : NewTh W B G.ρ t v) (hg0 : t.gone = false) (hf0 : t.frame = 0) (st : Bool) :
    Calls Try.prog 32 #[.pointer (some ⟨G.p, 0, none⟩), .agg #[.int .i64 t.kind, .slice v.1 v.2.1 v.2.2, .slice none 0 0, .slice none 0 0, .int .i64 0, .bool false], .bool st] W (MakePost W B cap G v (makeR R t st)) := by
  cases st with
  | true => exact refmake_stack h hcap hn hg0 hf0
  | false => exact refmake_heap h hcap hn hg0 hf0
def RPost (W : World) (B cap : Nat) (G : GR) (X : RM × Int × Int) (e : Ending) (w' : World) : Prop := e = .returned (.tuple #[.int .i64 X.2.1, .int .i64 X.2.2]) ∧ ∃ G', RefAt w' B (cap + 1) X.1 G' ∧ G'.p = G.p ∧ Below B W w' ∧ Sep W w' G.ρ G'.ρ
theorem OwnsV.mono {W : World} {B B' : Nat} {v : Value} {l : List VV} (h : OwnsV W B v l) (hB : B' ≤ B) : OwnsV W B' v l := by
  refine ⟨h.1, ?_⟩
  rcases h.2 with h1 | ⟨g, cp, cur, e, hb, rest⟩
  · exact .inl h1
  · exact .inr ⟨g, cp, cur, e, Nat.le_trans hB hb, rest⟩
section
variable {W u w' : World} {B cap : Nat} {R : RM} {G : GR} {v : Option Addr × Nat × Nat} {X : RM × Int × Int} {e : Ending}
theorem MakePost.toR (h : MakePost u B cap G v X e w') (hB : B ≤ W.heap.size) (hu : Below W.heap.size W u) (hv : ∀ b, (sv v).ownBlock = some b → W.heap.size ≤ b) : RPost W B cap G X e w' := by
  obtain ⟨h1, G', h2, h3, h4, h5, h6⟩ := h
  refine ⟨h1, G', h2, h3, (hu.mono hB).trans h4, (Off.since hu).trans h5, fun b r hr => ?_⟩
  rcases h6 b r hr with k | k | k
  · exact .inl k
  · exact .inr (by have := hu.size; omega)
  · exact .inr (hv b k)
theorem new_row (h : RefAt W B cap R G) (hu : Below W.heap.size W u) {l : List VV} (ho : OwnsV u W.heap.size (sv v) l) (hl : l.length ≤ 1048576) : NewTh u B G.ρ (rowT l) v :=
  ⟨ho.mono (by have := h.plt; omega), fun b hb ⟨r, hr⟩ => by have := (ho.lt b hb).1; have := (h.range b r hr).2; omega, ⟨rfl, rfl⟩, .inl rfl, hl⟩
theorem new_tab (h : RefAt W B cap R G) : NewTh W B G.ρ tabT (none, 0, 0) := ⟨World.ownsRow_nil _ _ _ 3, (fun b hb => by cases hb), ⟨rfl, rfl⟩, .inr rfl, Nat.zero_le _⟩
end
set_option maxRecDepth 100000 in
theorem reftable_any {W : World} {B cap : Nat} {R : RM} {G : GR} (h : RefAt W B cap R G) (hcap : cap ≤ 1099511627776) (st : Bool) :
    Calls Try.prog 21 #[.pointer (some ⟨G.p, 0, none⟩), .bool st] W (RPost W B cap G (makeR R tabT st)) := by
  have CM : RowKit.Hid (Calls Try.prog 32 #[.pointer (some ⟨G.p, 0, none⟩), .agg #[.int .i64 1, .slice none 0 0, .slice none 0 0, .slice none 0 0, .int .i64 0, .bool false], .bool st] W (RPost W B cap G (makeR R tabT st))) := Lib.hid ((refmake_any h hcap (new_tab h) rfl rfl st).mono fun e w' hp => hp.toR (by have := h.plt; omega) (Below.refl _ _) (fun b hb => by cases hb))
  clear h
  go_enter Try.func21, Try.ntmps21
  go_wp2_with (go_at_call 32; refine CM.out.mono ?_; rintro e w' ⟨rfl, hG⟩; have HG := Lib.hid hG; clear hG)
  go_ret2
  exact ⟨rfl, HG.out⟩
set_option maxRecDepth 100000 in
theorem refobject_any {W : World} {B cap : Nat} {R : RM} {G : GR} (h : RefAt W B cap R G) (hcap : cap ≤ 1099511627776) (st : Bool) {g n c : Nat} {l : List VV} (hv : ValsAt W g l) (hn : l.length = n) (hl : l.length ≤ 1048576) :
    Calls Try.prog 17 #[.pointer (some ⟨G.p, 0, none⟩), .slice (some ⟨g, 0, none⟩) n c, .bool st] W (RPost W B cap G (makeR R (rowT l) st)) := by
  have CM : RowKit.Hid (∀ u ya yn yc, Below W.heap.size W u → OwnsV u W.heap.size (.slice ya yn yc) l → Calls Try.prog 32 #[.pointer (some ⟨G.p, 0, none⟩), .agg #[.int .i64 0, .slice ya yn yc, .slice none 0 0, .slice none 0 0, .int .i64 0, .bool false], .bool st] u (RPost W B cap G (makeR R (rowT l) st))) := Lib.hid fun u ya yn yc hu ho => (refmake_any (v := (ya, yn, yc)) (h.since hu) hcap (new_row h hu ho hl) rfl rfl st).mono fun e w' hp => hp.toR (by have := h.plt; omega) hu (fun b hb => (ho.lt b hb).1)
  have HO := Lib.hid (vals_lit W (Nat.le_refl _))
  have HC : RowKit.Hid (ValsAt (W.alloc (.cells #[] 24)) g l) := Lib.hid (hv.since ((Below.refl _ W).alloc (Nat.le_refl _) _))
  have HN : RowKit.Hid (l.length = n ∧ (0 + n) * 32 ≤ 140737488355328) := Lib.hid ⟨hn, by omega⟩
  have HZ : RowKit.Hid (W.heap.size ≤ (W.alloc (.cells #[] 24)).heap.size) := Lib.hid (by simp)
  clear h hv hn hl
  go_enter Try.func17, Try.ntmps17
  go_wp2_with (first
    | ((with_reducible refine wpList_append_vals _ rfl rfl _ _ rfl W.heap.size (.slice (some ⟨W.heap.size, 0, none⟩) 0 0) [] ?_ ?_ ?_ ⟨g, 0, none⟩ n c l ?_ ?_ ?_ ?_ ?_); (next => rfl); (next => exact HO.out); (next => exact HZ.out); (next => rfl); (next => exact HN.out.1); (next => (intro j y hy; rw [addr_plain, Nat.zero_add]; exact HC.out j y hy)); (next => exact HN.out.2); intro ya yn yc w1 ho1 hg1 hw1; have HA : RowKit.Hid (OwnsV w1 W.heap.size (.slice ya yn yc) l ∧ Below W.heap.size W w1) := Lib.hid ⟨ho1, Below.grown ((Below.refl _ W).alloc (Nat.le_refl _) _) hg1 HZ.out (fun k hk => (by cases hk; exact Nat.le_refl _))⟩; clear ho1 hg1 hw1)
    | (go_at_call 32; refine (CM.out _ _ _ _ HA.out.2 HA.out.1).mono ?_; rintro e w' ⟨rfl, hG⟩; have HG := Lib.hid hG; clear hG))
  go_ret2
  exact ⟨rfl, HG.out⟩
theorem zeros_more (i : Nat) : List.replicate i zeroVV ++ [zeroVV] = List.replicate (i + 1) zeroVV := by rw [List.replicate_succ']
set_option maxRecDepth 100000 in
set_option maxHeartbeats 1000000 in
theorem refslice_any {W : World} {B cap : Nat} {R : RM} {G : GR} (h : RefAt W B cap R G) (hcap : cap ≤ 1099511627776) (st : Bool) (n : Int) :
    Calls Try.prog 19 #[.pointer (some ⟨G.p, 0, none⟩), .int .i64 n, .bool st] W (RPost W B cap G (sliceR R n st)) := by
  have HB0 : RowKit.Hid (B ≤ W.heap.size) := Lib.hid (by have := h.plt; omega)
  by_cases h0 : n < 0
  · have HR : RowKit.Hid (RPost W B cap G (sliceR R n st) (.returned (.tuple #[.int .i64 0, .int .i64 2])) W) := Lib.hid (by unfold sliceR; rw [if_pos (.inl h0)]; exact ⟨rfl, G, h.mono (Nat.le_succ _), rfl, Below.refl _ _, Sep.since (Below.refl _ _)⟩)
    have hd : decide (n < 0) = true := decide_eq_true h0
    clear h
    go_enter Try.func19, Try.ntmps19
    go_wp2_with fail
    go_ret2
    exact HR.out
  · have hd : decide (n < 0) = false := decide_eq_false h0
    by_cases h1 : 1024 < n
    · have HR : RowKit.Hid (RPost W B cap G (sliceR R n st) (.returned (.tuple #[.int .i64 0, .int .i64 2])) W) := Lib.hid (by unfold sliceR; rw [if_pos (.inr h1)]; exact ⟨rfl, G, h.mono (Nat.le_succ _), rfl, Below.refl _ _, Sep.since (Below.refl _ _)⟩)
      have hd2 : decide (1024 < n) = true := decide_eq_true h1
      clear h
      go_enter Try.func19, Try.ntmps19
      go_wp2_with fail
      go_ret2
      exact HR.out
    · have hd2 : decide (1024 < n) = false := decide_eq_false h1
      obtain ⟨m, rfl⟩ : ∃ m : Nat, n = m := ⟨n.toNat, by omega⟩
      have HR : RowKit.Hid (sliceR R (m : Int) st = makeR R (rowT (List.replicate m zeroVV)) st) := Lib.hid (by unfold sliceR; rw [if_neg (by omega), Int.toNat_natCast])
      have CM : RowKit.Hid (∀ u ya yn yc, Below W.heap.size W u → OwnsV u W.heap.size (.slice ya yn yc) (List.replicate m zeroVV) → Calls Try.prog 32 #[.pointer (some ⟨G.p, 0, none⟩), .agg #[.int .i64 0, .slice ya yn yc, .slice none 0 0, .slice none 0 0, .int .i64 0, .bool false], .bool st] u (RPost W B cap G (sliceR R (m : Int) st))) := Lib.hid fun u ya yn yc hu ho => by
        rw [HR.out]
        exact (refmake_any (v := (ya, yn, yc)) (h.since hu) hcap (new_row h hu ho (by rw [List.length_replicate]; omega)) rfl rfl st).mono fun e w' hp => hp.toR (by have := h.plt; omega) hu (fun b hb => (ho.lt b hb).1)
      have HS0 : RowKit.Hid (OwnsV (W.alloc (.cells #[] 24)) W.heap.size (.slice (some ⟨W.heap.size, 0, none⟩) 0 0) (List.replicate 0 zeroVV) ∧ Below W.heap.size W (W.alloc (.cells #[] 24))) := Lib.hid ⟨vals_lit W (Nat.le_refl _), (Below.refl _ W).alloc (Nat.le_refl _) _⟩
      clear h
      go_enter Try.func19, Try.ntmps19
      go_wp2_with fail
      go_loopw [8, 9] (fun v8 v9 wr => ∃ (i : Nat) (ya : Option Addr) (yn yc : Nat), i ≤ m ∧ v8 = .slice ya yn yc ∧ v9 = .int .i64 (i : Int) ∧ RowKit.Hid (OwnsV wr W.heap.size (.slice ya yn yc) (List.replicate i zeroVV) ∧ Below W.heap.size W wr)) (fun _ v9 _ => m - (intOf v9).toNat)
      case atStart => exact ⟨0, _, _, _, Nat.zero_le _, rfl, rfl, HS0⟩
      case round =>
        obtain ⟨i, ya, yn, yc, hi, rfl, rfl, HI⟩ := hrel
        clear HS0
        obtain ⟨wo, hwo⟩ : ∃ u, u = wr := ⟨_, rfl⟩
        rw [← hwo] at HI ⊢
        clear hwo
        have HW : RowKit.Hid (wrap64 ((i : Int) + 1) = (i : Int) + 1) := Lib.hid (by unfold wrap64; omega)
        by_cases hlt : i < m
        · have hin : (i : Int) < (m : Int) := by omega
          have HO : RowKit.Hid (OwnsV (wo.alloc (.cells #[.int .i64 0, .string ⟨#[]⟩, .int .i64 0] 24)) W.heap.size (.slice ya yn yc) (List.replicate i zeroVV)) := Lib.hid (World.ownsRow.alloc HI.out.1 _)
          have HZ : RowKit.Hid (W.heap.size ≤ (wo.alloc (.cells #[.int .i64 0, .string ⟨#[]⟩, .int .i64 0] 24)).heap.size) := Lib.hid (by have := HI.out.2.size; simp; omega)
          have HL : RowKit.Hid (((List.replicate i zeroVV).length + 1) * 32 ≤ 140737488355328) := Lib.hid (by rw [List.length_replicate]; omega)
          have HC : RowKit.Hid (∀ j y, ([zeroVV].flatMap vvL)[j]? = some y → (wo.alloc (.cells #[.int .i64 0, .string ⟨#[]⟩, .int .i64 0] 24)).cell? ((⟨wo.heap.size, 0, none⟩ : Addr).add j) = some y) := Lib.hid fun j y hy => by
            rw [addr_plain, Nat.zero_add, World.cell?_alloc_mark]
            simpa [vvL, zeroVV] using hy
          go_wp2_with ((with_reducible refine wpList_append_vals _ rfl rfl _ _ rfl W.heap.size (.slice ya yn yc) (List.replicate i zeroVV) ?_ ?_ ?_ ⟨wo.heap.size, 0, none⟩ 1 1 [zeroVV] ?_ ?_ ?_ ?_ ?_); (next => rfl); (next => exact HO.out); (next => exact HZ.out); (next => rfl); (next => rfl); (next => exact HC.out); (next => exact HL.out); intro za zn zc w1 ho1 hg1 hw1; have HA : RowKit.Hid (OwnsV w1 W.heap.size (.slice za zn zc) (List.replicate (i + 1) zeroVV) ∧ Below W.heap.size W w1) := Lib.hid ⟨(by rw [← zeros_more]; exact ho1), Below.grown (HI.out.2.alloc HI.out.2.size _) hg1 HZ.out (fun k hk => (HI.out.1.lt k hk).1)⟩; clear ho1 hg1 hw1)
          go_roundw
          case rel => exact ⟨i + 1, za, zn, zc, hlt, rfl, by go_num, HA⟩
          case measure => simp [intOf, HW.out]; omega
        · obtain rfl : i = m := by omega
          go_wp2_with (go_at_call 32; refine (CM.out _ _ _ _ HI.out.2 HI.out.1).mono ?_; rintro e w' ⟨rfl, hG⟩; have HG := Lib.hid hG; clear hG)
          go_ret2
          exact ⟨rfl, HG.out⟩
end Go.Proofs.Ytgnfinojnmkkkaa
