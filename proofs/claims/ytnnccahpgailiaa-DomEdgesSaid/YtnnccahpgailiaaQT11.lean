/- Layer 8: the living call of the statements; a function cut to its first fourteen blocks. -/
import Derived.Test.YtnnccahpgailiaaQDomY
import Derived.Test.YtnnccahpgailiaaQT2

namespace Go.Proofs.Ytnnccahpgailiaa
open Go.RowKit (wrap64 intOf Below)
set_option linter.unusedVariables false
set_option linter.unusedSimpArgs false

def fewF8 (f : FuncD) : FuncD := { f with blocks := f.blocks.take 14 }
def fewN8 (n : Nat) : Nat := if 14 < n then 14 else n
theorem fewN8_le (n : Nat) : fewN8 n ≤ 14 := by unfold fewN8; split <;> omega
theorem fewF8_len {f : FuncD} {n : Nat} (h : f.blocks.length = n) : (fewF8 f).blocks.length = fewN8 n := by
  unfold fewF8 fewN8
  simp only [List.length_take, h]
  split <;> omega
theorem RowV.few8 {f : FuncD} {W : World} {a : Option Addr} {n c : Nat} (h : RowV BlockQ 8 W (.slice a n c) f.blocks) : RowV BlockQ 8 W (.slice a (fewN8 n) c) (fewF8 f).blocks := by
  have hl : f.blocks.length = n := by obtain ⟨_, _, _, e, h', _⟩ := h; cases e; exact h'
  have e : (fewF8 f).blocks = f.blocks.take (fewN8 n) := by
    unfold fewF8 fewN8
    simp only
    split
    · rfl
    · rw [List.take_of_length_le (by omega), List.take_of_length_le (by omega)]
  rw [e]
  exact h.take (by unfold fewN8; split <;> omega)
set_option maxRecDepth 100000 in
theorem few8_any (r : Int) (a : Option Addr) (n c : Nat) (w : World) (hn : n ≤ 140737488355328) (hnc : n ≤ c) (hc : c ≤ 9223372036854775807) :
    Calls Try.prog 9 #[.agg #[.int .i64 r, .slice a n c]] w fun e w' => e = .returned (.agg #[.int .i64 r, .slice a (fewN8 n) c]) ∧ Below w.heap.size w w' := by
  by_cases h : 14 < n
  · have HF : RowKit.Hid (fewN8 n = 14) := Lib.hid (by unfold fewN8; rw [if_pos h])
    have hi : (14 : Int) < n := by omega
    have hc60 : 14 ≤ c := by omega
    have hci : (14 : Int) ≤ c := by omega
    go_enter Try.func9, Try.ntmps9
    go_wp2_with fail
    refine bodyPost_ret (v := .agg #[.int .i64 r, .slice a 14 c]) (by simp [results, Try.results9, go_sem]) rfl ⟨by rw [HF.out], ((Below.refl w.heap.size w).alloc (Nat.le_refl _) _).alloc (by simp) _⟩
  · have HF : RowKit.Hid (fewN8 n = n) := Lib.hid (by unfold fewN8; rw [if_neg h])
    have hi : ¬ (14 : Int) < n := by omega
    go_enter Try.func9, Try.ntmps9
    go_wp2_with fail
    refine bodyPost_ret (v := .agg #[.int .i64 r, .slice a n c]) (by simp [results, Try.results9, go_sem]) rfl ⟨by rw [HF.out], ((Below.refl w.heap.size w).alloc (Nat.le_refl _) _).alloc (by simp) _⟩
/-- Where a single met block goes to b, that one is next over it. -/
theorem up_single2 {f : FuncD} {n m : Nat} {UP : List Int} (hs : Settled (EdgeF f) (MetF f) (plF f) n UP m) {a b : Nat} (hb : MetF f b) (hb0 : b ≠ 0) (hone : ∀ p, MetF f p → EdgeF f p b → p = a) : upOf n UP b = (a : Int) := by
  have h0 : 0 < f.blocks.length := by have := met_lt hb; omega
  have hR := rpo_of f h0
  obtain ⟨c, hc⟩ := Int.eq_ofNat_of_zero_le ((hs.tree.known b hb hb0).2 (hs.all b hb))
  obtain ⟨u, hu, he, _⟩ := hR.fwd b hb hb0
  have hua := hone u hu he
  subst hua
  have h1 := hs.fix b c hb hc u hu he
  have h2 := hs.tree.mono b c hb hc u fun p hp he' _ => by rw [hone p hp he']; exact .refl _
  rw [hc, on_anti hs.tree h2 h1]
def live8F : FuncD := ⟨0, [⟨[], [], ⟨0, 0, 1, 0, [], []⟩⟩, ⟨[], [], ⟨1, 0, 1, 2, [], []⟩⟩, ⟨[], [], ⟨2, 0, 0, 0, [], []⟩⟩]⟩
abbrev live8C : Array Value := #[.slice none 0 0, .slice none 0 0, .int .i64 0, .int .i64 0, .int .i64 1, .int .i64 0, .slice none 0 0, .slice none 0 0, .slice none 0 0, .slice none 0 0, .int .i64 1, .int .i64 0, .int .i64 1, .int .i64 2, .slice none 0 0, .slice none 0 0, .slice none 0 0, .slice none 0 0, .int .i64 2, .int .i64 0, .int .i64 0, .int .i64 0, .slice none 0 0, .slice none 0 0]
theorem live8_row {U : World} {g : Nat} (hg : g < U.heap.size) (hC : ∀ j, U.cell? ⟨g, j, none⟩ = live8C[j]?) : RowV BlockQ 8 U (.slice (some ⟨g, 0, none⟩) 3 3) live8F.blocks := by
  refine ⟨some ⟨g, 0, none⟩, 3, 3, rfl, rfl, (fun h => by cases h), by omega, fun _ => ⟨g, 0, rfl, hg, fun i hi => ?_⟩⟩
  have hi' : i < 3 := hi
  match i, hi with
    | 0, _ => exact ⟨[.slice none 0 0, .slice none 0 0, .int .i64 0, .int .i64 0, .int .i64 1, .int .i64 0, .slice none 0 0, .slice none 0 0], rfl, fun j hj => by
        rw [hC]
        have hj' : j < 8 := hj
        have : j = 0 ∨ j = 1 ∨ j = 2 ∨ j = 3 ∨ j = 4 ∨ j = 5 ∨ j = 6 ∨ j = 7 := by omega
        rcases this with rfl | rfl | rfl | rfl | rfl | rfl | rfl | rfl <;> rfl, _, _, _, rfl, nums_nil U, ops_nil U, _, _, rfl, (show InR 0 from ⟨by decide, by decide⟩), (show InR 0 from ⟨by decide, by decide⟩), (show InR 1 from ⟨by decide, by decide⟩), (show InR 0 from ⟨by decide, by decide⟩), nums_nil U, nums_nil U⟩
    | 1, _ => exact ⟨[.slice none 0 0, .slice none 0 0, .int .i64 1, .int .i64 0, .int .i64 1, .int .i64 2, .slice none 0 0, .slice none 0 0], rfl, fun j hj => by
        rw [hC]
        have hj' : j < 8 := hj
        have : j = 0 ∨ j = 1 ∨ j = 2 ∨ j = 3 ∨ j = 4 ∨ j = 5 ∨ j = 6 ∨ j = 7 := by omega
        rcases this with rfl | rfl | rfl | rfl | rfl | rfl | rfl | rfl <;> rfl, _, _, _, rfl, nums_nil U, ops_nil U, _, _, rfl, (show InR 1 from ⟨by decide, by decide⟩), (show InR 0 from ⟨by decide, by decide⟩), (show InR 1 from ⟨by decide, by decide⟩), (show InR 2 from ⟨by decide, by decide⟩), nums_nil U, nums_nil U⟩
    | 2, _ => exact ⟨[.slice none 0 0, .slice none 0 0, .int .i64 2, .int .i64 0, .int .i64 0, .int .i64 0, .slice none 0 0, .slice none 0 0], rfl, fun j hj => by
        rw [hC]
        have hj' : j < 8 := hj
        have : j = 0 ∨ j = 1 ∨ j = 2 ∨ j = 3 ∨ j = 4 ∨ j = 5 ∨ j = 6 ∨ j = 7 := by omega
        rcases this with rfl | rfl | rfl | rfl | rfl | rfl | rfl | rfl <;> rfl, _, _, _, rfl, nums_nil U, ops_nil U, _, _, rfl, (show InR 2 from ⟨by decide, by decide⟩), (show InR 0 from ⟨by decide, by decide⟩), (show InR 0 from ⟨by decide, by decide⟩), (show InR 0 from ⟨by decide, by decide⟩), nums_nil U, nums_nil U⟩
theorem live8_order : orderL live8F = [0, 1, 2] := by decide
theorem live8_met (v : Nat) : MetF live8F v ↔ v < 3 := by
  unfold MetF
  rw [live8_order]
  simp only [List.mem_cons, List.not_mem_nil, or_false]
  omega
theorem live8_up {UP : List Int} {m : Nat} (hs : Settled (EdgeF live8F) (MetF live8F) (plF live8F) 3 UP m) : upOf 3 UP 0 = -1 ∧ upOf 3 UP 1 = 0 ∧ upOf 3 UP 2 = 1 := by
  refine ⟨hs.tree.none 0 (by simp), ?_, ?_⟩
  · obtain ⟨c, hc⟩ := Int.eq_ofNat_of_zero_le ((hs.tree.known 1 ((live8_met 1).2 (by omega)) (by omega)).2 (hs.all 1 ((live8_met 1).2 (by omega))))
    have hlt := hs.tree.lt 1 c hc
    have h1 : plF live8F 1 = 1 := by unfold plF; rw [live8_order]; decide
    have h2 : plF live8F c = 0 := by omega
    have h3 := ((rpo_of live8F (by decide)).pl0 c hlt.1).1 h2
    rw [hc, h3]; rfl
  · refine up_single2 hs ((live8_met 2).2 (by omega)) (by omega) fun p hp he => ?_
    have hp3 := (live8_met p).1 hp
    have h3 : p = 0 ∨ p = 1 ∨ p = 2 := by omega
    have he1 := he.1
    rcases h3 with rfl | rfl | rfl
    · exact absurd he1 (by decide)
    · rfl
    · exact absurd he1 (by decide)
theorem live8_above {UP : List Int} {m : Nat} (hs : Settled (EdgeF live8F) (MetF live8F) (plF live8F) 3 UP m) (hl : UP.length = 3) : UP = [-1, 0, 1] := by
  obtain ⟨h0, h1, h2⟩ := live8_up hs
  rw [upOf_lt (by omega)] at h0 h1 h2
  match UP, hl with
  | [x, y, z], _ => simp only [nth, List.getD_cons_zero, List.getD_cons_succ] at h0 h1 h2; rw [h0, h1, h2]
theorem live8_over {UP : List Int} {m : Nat} (hs : Settled (EdgeF live8F) (MetF live8F) (plF live8F) 3 UP m) : overB live8F 1 0 = false ∧ overB live8F 1 1 = true ∧ overB live8F 2 1 = false := by
  obtain ⟨h0, h1, h2⟩ := live8_up hs
  have hn : ∀ x y : Int, ¬ OverF live8F x y → overB live8F x y = false := fun x y h => by
    cases e : overB live8F x y with
    | false => rfl
    | true => exact absurd (overB_iff.1 e) h
  refine ⟨hn _ _ fun h => ?_, overB_iff.2 ((over_nat hs 1 1).2 ⟨(live8_met 1).2 (by omega), (live8_met 1).2 (by omega), .refl _⟩), hn _ _ fun h => ?_⟩
  · obtain ⟨_, _, ho⟩ := (over_nat hs 1 0).1 h
    cases ho with
    | step e _ => rw [h0] at e; omega
  · obtain ⟨_, _, ho⟩ := (over_nat hs 2 1).1 h
    cases ho with
    | step e h' =>
      rw [h1] at e
      have e' := Int.ofNat.inj e
      subst e'
      cases h' with
      | step e _ => rw [h0] at e; omega
theorem live8_loops {UP : List Int} {m : Nat} (hs : Settled (EdgeF live8F) (MetF live8F) (plF live8F) 3 UP m) : loopsL live8F 3 3 = [(1, [1])] := by
  obtain ⟨o1, o2, o3⟩ := live8_over hs
  have a0 : ahL live8F 3 (0 : Nat) = [] := by decide
  have a1 : ahL live8F 3 (1 : Nat) = [0, 1] := by decide
  have a2 : ahL live8F 3 (2 : Nat) = [1] := by decide
  have b0 : backL live8F 3 0 = [] := by unfold backL; rw [a0]; rfl
  have b1 : backL live8F 3 1 = [1] := by
    unfold backL
    rw [a1]
    simp only [List.filter_cons, List.filter_nil]
    rw [show overB live8F ((1 : Nat) : Int) 0 = false from o1, show overB live8F ((1 : Nat) : Int) 1 = true from o2]
    rfl
  have b2 : backL live8F 3 2 = [] := by
    unfold backL
    rw [a2]
    simp only [List.filter_cons, List.filter_nil]
    rw [show overB live8F ((2 : Nat) : Int) 1 = false from o3]
    rfl
  have i0 : ¬ InLoop live8F 3 1 0 := by
    rintro (h | ⟨_, p, hp, v, hv, k, hk, _, hw⟩)
    · omega
    · rw [b1] at hp
      simp at hp
      have := way_edge hw
      have h2 := hw.last
      omega
  have i2 : ¬ InLoop live8F 3 1 2 := by
    rintro (h | ⟨_, p, hp, v, hv, k, hk, _, hw⟩)
    · omega
    · rw [b1] at hp
      simp at hp
      have h2 := hw.last
      omega
  have l1 : loopB live8F 3 3 1 = [1] := by
    rw [loopB_more, loopB_more, loopB_more, if_neg i0, if_pos (.inl rfl), if_neg i2]
    rfl
  rw [loopsL_more, loopsL_more, loopsL_more, if_pos b0, if_neg (by rw [b1]; simp), if_pos b2, l1]
  rfl
end Go.Proofs.Ytnnccahpgailiaa

/- Layer 8: the living call of the statements, walked. -/
namespace Go.Proofs.Ytnnccahpgailiaa
open Go.RowKit (wrap64 intOf Below)
set_option linter.unusedVariables false
set_option linter.unusedSimpArgs false

theorem loops_one {W : World} {N : Nat} {va : Option Addr} {vn vc : Nat} {l : List TgV} {h x : Int} (hl : OwnsLp W N (.slice va vn vc) l) (hc : Cops W N l [(h, [x])]) :
    ∃ g qa qc, va = some ⟨g, 0, none⟩ ∧ vn = 1 ∧ W.cell? ⟨g, 0, none⟩ = some (.int .i64 h) ∧ W.cell? ⟨g, 1, none⟩ = some (.slice qa 1 qc) ∧ NumsAt W qa 1 [x] := by
  match l, hc with
  | [(h', qa, qn, qc)], ⟨⟨hh, hq⟩, _⟩ =>
    obtain rfl : h' = h := hh
    have hq0 : OwnsI W N 3 (.slice qa qn qc) [x] := hq
    have hqn : NumsAt W qa qn [x] := hq0.read
    obtain rfl : qn = 1 := by simpa using hqn.1.symm
    have hl' := hl
    rcases hl.2 with ⟨e, h0⟩ | ⟨g, cap, cur, e, hB, hg, _⟩
    · cases h0
    · cases e
      have c0 := World.ownsRow.cells hl' (g := g) rfl 0 (.int .i64 h') rfl
      have c1 := World.ownsRow.cells hl' (g := g) rfl 1 (.slice qa 1 qc) rfl
      rw [addr_plain] at c0 c1
      exact ⟨g, qa, qc, rfl, rfl, c0, c1, hqn⟩
set_option maxRecDepth 100000 in
set_option maxHeartbeats 2000000 in
theorem lives8_any (w : World) : Calls Try.prog 13 #[] w fun e w' => e = .returned (.bool true) ∧ Below w.heap.size w w' := by
  go_enter Try.func13, Try.ntmps13
  go_upto_region 2 with fail
  obtain ⟨U, hU⟩ : ∃ U, ((w.alloc (.cells live8C 82)).alloc (.cells #[.int .i64 0, .slice (some ⟨w.heap.size, 0, none⟩) 3 3] 24)) = U := ⟨_, rfl⟩
  have hz : U.heap.size = w.heap.size + 2 := by rw [← hU]; simp
  have hC : ∀ j, U.cell? ⟨w.heap.size, j, none⟩ = live8C[j]? := by
    intro j
    rw [← hU, World.cell?_of_block (a := ⟨w.heap.size, j, none⟩) ((World.grownBy_alloc (w.alloc (.cells live8C 82)) _ none).block w.heap.size (by simp) (fun e => by cases e))]
    exact World.cell?_alloc_mark _ _ _ _ _
  have hF : ∀ j, U.cell? ⟨w.heap.size + 1, j, none⟩ = (#[.int .i64 0, .slice (some ⟨w.heap.size, 0, none⟩) 3 3] : Array Value)[j]? := by
    intro j
    rw [← hU, show w.heap.size + 1 = (w.alloc (.cells live8C 82)).heap.size by simp]
    exact World.cell?_alloc_mark _ _ _ _ _
  have hB : Below w.heap.size w U := by rw [← hU]; exact ((Below.refl w.heap.size w).alloc (Nat.le_refl _) _).alloc (by simp) _
  have HROW := Lib.hid (live8_row (by omega) hC)
  have hc0 : U.cell? ⟨w.heap.size + 1, 0, none⟩ = some (.int .i64 0) := hF 0
  have hc1 : U.cell? ⟨w.heap.size + 1, 1, none⟩ = some (.slice (some ⟨w.heap.size, 0, none⟩) 3 3) := hF 1
  have HF := Lib.hid hF
  have HB := Lib.hid hB
  have HO1 : RowKit.Hid (sameB [-1, 0, 1] [-1, 0, 1] = true) := Lib.hid (by decide)
  have HO2 : RowKit.Hid (sameB [1] [1] = true) := Lib.hid (by decide)
  rw [hU]
  clear hU hC hF hB
  go_wp2_with (first
    | (go_at_call 14; refine (loops_any 0 (some ⟨w.heap.size, 0, none⟩) 3 3 live8F U HROW.out (by omega)).mono ?_; rintro e w1 ⟨va, vn, vc, l, rfl, ho, hcp, hb⟩; have HL := Lib.hid (And.intro ho hcp); have HB1 := Lib.hid hb; have e0 := (hb.cell (p := ⟨w.heap.size + 1, 0, none⟩) (show w.heap.size + 1 < U.heap.size by omega)).trans (HF.out 0); have e1 := (hb.cell (p := ⟨w.heap.size + 1, 1, none⟩) (show w.heap.size + 1 < U.heap.size by omega)).trans (HF.out 1); have HR1 := Lib.hid (HROW.out.since BlockQ.lasts hb); clear ho hcp hb hc0 hc1)
    | (go_at_call 38; refine (above_any 0 (some ⟨w.heap.size, 0, none⟩) 3 3 live8F w1 HR1.out (by omega)).mono ?_; rintro e w2 ⟨g, UP, m, rfl, ho, hs, hb⟩; obtain ⟨g1, qa, qc, rfl, rfl, c0, c1, hq⟩ := loops_one (HL.out.1) (live8_loops hs ▸ HL.out.2); have hup : UP = [-1, 0, 1] := (live8_above hs ho.read.1); subst hup; have HQ := Lib.hid (And.intro hq (And.intro c0 c1)); have HB2 := Lib.hid hb; have HI1 := Lib.hid (ints_any (some ⟨g, 0, none⟩) (some ⟨w2.heap.size, 0, none⟩) 3 3 3 3 [-1, 0, 1] [-1, 0, 1] (w2.alloc (.cells #[.int .i64 (-1), .int .i64 0, .int .i64 1] 3)) (ho.read.since ((Below.refl w2.heap.size w2).alloc (Nat.le_refl _) _)) (lit_nums (Z := [-1, 0, 1]) rfl) (by omega) (by omega)); clear ho hs hb hq c0 c1)
    | (go_at_call 11; refine HI1.out.mono ?_; rintro e w3 ⟨rfl, q, rfl⟩; rw [HO1.out]; have HB3 : RowKit.Hid (Below w1.heap.size w1 ((w2.alloc (.cells #[.int .i64 (-1), .int .i64 0, .int .i64 1] 3)).drewN q)) := Lib.hid (below_drewN q (HB2.out.alloc HB2.out.size _)); clear HI1; generalize ((w2.alloc (.cells #[.int .i64 (-1), .int .i64 0, .int .i64 1] 3)).drewN q) = W3 at *; have hg1 : g1 < w1.heap.size := (HL.out.1.lt (k := g1) rfl).2; have d0 := (HB3.out.cell (p := ⟨g1, 0, none⟩) hg1).trans HQ.out.2.1; have d1 := (HB3.out.cell (p := ⟨g1, 1, none⟩) hg1).trans HQ.out.2.2; have HI2 := Lib.hid (ints_any qa (some ⟨W3.heap.size, 0, none⟩) 1 1 qc 1 [1] [1] (W3.alloc (.cells #[.int .i64 1] 3)) (HQ.out.1.since (HB3.out.alloc HB3.out.size _)) (lit_nums (Z := [1]) rfl) (by omega) (by omega)); clear HQ)
    | (go_at_call 11; refine HI2.out.mono ?_; rintro e w4 ⟨rfl, q4, rfl⟩; rw [HO2.out]))
  go_ret
  exact ⟨rfl, HB.out.trans ((below_drewN q4 ((HB1.out.trans (HB3.out.mono HB1.out.size)).alloc (Nat.le_trans HB1.out.size HB3.out.size) _)).mono (by omega))⟩
end Go.Proofs.Ytnnccahpgailiaa
