/- Layer 13: the statements' own living call (mk_ulive.py): a value that is told and ends. -/
import Derived.Test.YtdchhfdmingnaaaDoorWCfgB
import Derived.Test.YtdchhfdmingnaaaDoorWT2
import Derived.Test.YtdchhfdmingnaaaDoorWT5
import Derived.Test.YtdchhfdmingnaaaDoorWT6
import Derived.Test.YtdchhfdmingnaaaDoorWUsesO
import Derived.Test.YtdchhfdmingnaaaDoorWUsesT

namespace Go.Proofs.YtdchhfdmingnaaaDoor
open Go.RowKit (wrap64 intOf Below)
set_option linter.unusedVariables false
set_option linter.unusedSimpArgs false
def liveU : FuncD := ⟨0, [⟨[], [⟨0, 0, 0, 0, 0, ⟨#[]⟩, [], false⟩], ⟨0, 0, 1, 0, [], []⟩⟩, ⟨[], [⟨25, 0, 0, 0, 0, ⟨#[]⟩, [], false⟩], ⟨3, 0, 0, 0, [], []⟩⟩]⟩
theorem liveU_val : valU liveU = 2 := by decide
theorem liveU_len : (usesU liveU).length ≤ 900000 := by decide +kernel
theorem liveU_of : (ofL 0 (usesU liveU)).length = 2 := by decide +kernel
theorem liveU_sm : SmU liveU := by
  refine ⟨by decide, by rw [liveU_val]; omega, fun p => ?_, fun p => ?_⟩ <;>
  · match p with
    | 0 => decide
    | 1 => decide
    | p + 2 => show 0 ≤ 100000; omega
theorem liveU_nx0 : nxF liveU 0 = [1] := by decide +kernel
theorem liveU_need1 (v : Nat) (hv : v < 2) : NeedU liveU v 1 ↔ v = 0 := by
  constructor
  · intro h
    have := h.not
    by_cases h1 : v = 1
    · subst h1; exact absurd (by decide +kernel) this
    · omega
  · rintro rfl
    exact .here 1 (by decide) (by decide +kernel) ⟨0, by decide, by decide +kernel⟩
theorem liveU_need0 (v : Nat) (hv : v < 2) : ¬ NeedU liveU v 0 := by
  intro h
  have hm := h.not
  have h1 : v = 1 := by
    by_cases h0 : v = 0
    · subst h0; exact absurd (by decide +kernel) hm
    · omega
  subst h1
  cases h with
  | here _ hb hm hu =>
    obtain ⟨k, hk, hin⟩ := hu
    have hk' : k = 0 ∨ k = 1 := by
      have : lenU liveU 0 = 1 := by decide
      omega
    rcases hk' with rfl | rfl
    · exact absurd hin (by decide +kernel)
    · exact absurd hin (by decide +kernel)
  | on _ c hb hm hn hc =>
    rw [liveU_nx0] at hn
    have : c = 1 := by have h9 : (c : Int) = 1 := by simpa using hn
                       omega
    subst this
    have := (liveU_need1 1 (by omega)).1 hc
    omega
theorem liveU_n0 : neededU liveU 0 = [] := by
  unfold neededU risingU
  rw [liveU_val]
  have h : ∀ v, v < 2 → needB liveU (v : Nat) 0 = false := fun v hv => by
    rcases hh : needB liveU (v : Nat) 0 with _ | _
    · rfl
    · exact absurd (need_iff.1 hh) (liveU_need0 v hv)
  have h0 := h 0 (by omega)
  have h1 := h 1 (by omega)
  simp only [List.range_succ, List.range_zero, List.nil_append, List.cons_append, List.filter_cons, List.filter_nil, h0, h1]
  rfl
theorem liveU_n1 : neededU liveU 1 = [0] := by
  unfold neededU risingU
  rw [liveU_val]
  have h0 : needB liveU ((0 : Nat) : Int) 1 = true := need_iff.2 ((liveU_need1 0 (by omega)).2 rfl)
  have h1 : needB liveU ((1 : Nat) : Int) 1 = false := by
    rcases hh : needB liveU ((1 : Nat) : Int) 1 with _ | _
    · rfl
    · have := (liveU_need1 1 (by omega)).1 (need_iff.1 hh)
      omega
  simp only [List.range_succ, List.range_zero, List.nil_append, List.cons_append, List.filter_cons, List.filter_nil, h0, h1]
  rfl
structure LiveU (w W : World) : Prop where
  bel : Below w.heap.size w W
  size : W.heap.size = w.heap.size + 4
  func : FuncQ W [.int .i64 0, .slice (some ⟨w.heap.size + 1 + 1, 0, none⟩) 2 2] liveU
  b3 : W.heap[w.heap.size + 1 + 1 + 1]? = some (.cells #[.int .i64 0, .slice (some ⟨w.heap.size + 1 + 1, 0, none⟩) 2 2] 30 (0, 0))
theorem liveU_laid (w : World) : LiveU w ((((w.alloc (.cells #[.int .i64 0, .int .i64 0, .int .i64 0, .int .i64 0, .int .i64 0, .string ⟨#[]⟩, .slice none 0 0, .bool false] 52)).alloc (.cells #[.int .i64 25, .int .i64 0, .int .i64 0, .int .i64 0, .int .i64 0, .string ⟨#[]⟩, .slice none 0 0, .bool false] 52)).alloc (.cells #[.slice none 0 0, .slice (some ⟨w.heap.size, 0, none⟩) 1 1, .int .i64 0, .int .i64 0, .int .i64 1, .int .i64 0, .slice none 0 0, .slice none 0 0, .slice none 0 0, .slice (some ⟨w.heap.size + 1, 0, none⟩) 1 1, .int .i64 3, .int .i64 0, .int .i64 0, .int .i64 0, .slice none 0 0, .slice none 0 0] 57)).alloc (.cells #[.int .i64 0, .slice (some ⟨w.heap.size + 1 + 1, 0, none⟩) 2 2] 30)) := by
  have hbel : Below w.heap.size w ((((w.alloc (.cells #[.int .i64 0, .int .i64 0, .int .i64 0, .int .i64 0, .int .i64 0, .string ⟨#[]⟩, .slice none 0 0, .bool false] 52)).alloc (.cells #[.int .i64 25, .int .i64 0, .int .i64 0, .int .i64 0, .int .i64 0, .string ⟨#[]⟩, .slice none 0 0, .bool false] 52)).alloc (.cells #[.slice none 0 0, .slice (some ⟨w.heap.size, 0, none⟩) 1 1, .int .i64 0, .int .i64 0, .int .i64 1, .int .i64 0, .slice none 0 0, .slice none 0 0, .slice none 0 0, .slice (some ⟨w.heap.size + 1, 0, none⟩) 1 1, .int .i64 3, .int .i64 0, .int .i64 0, .int .i64 0, .slice none 0 0, .slice none 0 0] 57)).alloc (.cells #[.int .i64 0, .slice (some ⟨w.heap.size + 1 + 1, 0, none⟩) 2 2] 30)) := ((((Below.refl _ _).alloc (Nat.le_refl _) _).alloc (by simp) _).alloc (by simp <;> omega) _).alloc (by simp <;> omega) _
  have h3 : ((((w.alloc (.cells #[.int .i64 0, .int .i64 0, .int .i64 0, .int .i64 0, .int .i64 0, .string ⟨#[]⟩, .slice none 0 0, .bool false] 52)).alloc (.cells #[.int .i64 25, .int .i64 0, .int .i64 0, .int .i64 0, .int .i64 0, .string ⟨#[]⟩, .slice none 0 0, .bool false] 52)).alloc (.cells #[.slice none 0 0, .slice (some ⟨w.heap.size, 0, none⟩) 1 1, .int .i64 0, .int .i64 0, .int .i64 1, .int .i64 0, .slice none 0 0, .slice none 0 0, .slice none 0 0, .slice (some ⟨w.heap.size + 1, 0, none⟩) 1 1, .int .i64 3, .int .i64 0, .int .i64 0, .int .i64 0, .slice none 0 0, .slice none 0 0] 57)).alloc (.cells #[.int .i64 0, .slice (some ⟨w.heap.size + 1 + 1, 0, none⟩) 2 2] 30)).heap[w.heap.size + 1 + 1 + 1]? = some (.cells #[.int .i64 0, .slice (some ⟨w.heap.size + 1 + 1, 0, none⟩) 2 2] 30 (0, 0)) := by
    have := heap_alloc_new (((w.alloc (.cells #[.int .i64 0, .int .i64 0, .int .i64 0, .int .i64 0, .int .i64 0, .string ⟨#[]⟩, .slice none 0 0, .bool false] 52)).alloc (.cells #[.int .i64 25, .int .i64 0, .int .i64 0, .int .i64 0, .int .i64 0, .string ⟨#[]⟩, .slice none 0 0, .bool false] 52)).alloc (.cells #[.slice none 0 0, .slice (some ⟨w.heap.size, 0, none⟩) 1 1, .int .i64 0, .int .i64 0, .int .i64 1, .int .i64 0, .slice none 0 0, .slice none 0 0, .slice none 0 0, .slice (some ⟨w.heap.size + 1, 0, none⟩) 1 1, .int .i64 3, .int .i64 0, .int .i64 0, .int .i64 0, .slice none 0 0, .slice none 0 0] 57)) (.cells #[.int .i64 0, .slice (some ⟨w.heap.size + 1 + 1, 0, none⟩) 2 2] 30)
    simpa using this
  generalize hW : ((((w.alloc (.cells #[.int .i64 0, .int .i64 0, .int .i64 0, .int .i64 0, .int .i64 0, .string ⟨#[]⟩, .slice none 0 0, .bool false] 52)).alloc (.cells #[.int .i64 25, .int .i64 0, .int .i64 0, .int .i64 0, .int .i64 0, .string ⟨#[]⟩, .slice none 0 0, .bool false] 52)).alloc (.cells #[.slice none 0 0, .slice (some ⟨w.heap.size, 0, none⟩) 1 1, .int .i64 0, .int .i64 0, .int .i64 1, .int .i64 0, .slice none 0 0, .slice none 0 0, .slice none 0 0, .slice (some ⟨w.heap.size + 1, 0, none⟩) 1 1, .int .i64 3, .int .i64 0, .int .i64 0, .int .i64 0, .slice none 0 0, .slice none 0 0] 57)).alloc (.cells #[.int .i64 0, .slice (some ⟨w.heap.size + 1 + 1, 0, none⟩) 2 2] 30)) = W at hbel h3 ⊢
  have hs : W.heap.size = w.heap.size + 4 := by rw [← hW]; simp
  have h0 : W.heap[w.heap.size]? = some (.cells #[.int .i64 0, .int .i64 0, .int .i64 0, .int .i64 0, .int .i64 0, .string ⟨#[]⟩, .slice none 0 0, .bool false] 52 (0, 0)) := by
    rw [← hW]
    exact (heap_alloc_old _ _ (by simp <;> omega)).trans ((heap_alloc_old _ _ (by simp <;> omega)).trans ((heap_alloc_old _ _ (by simp)).trans (heap_alloc_new w _)))
  have h1 : W.heap[w.heap.size + 1]? = some (.cells #[.int .i64 25, .int .i64 0, .int .i64 0, .int .i64 0, .int .i64 0, .string ⟨#[]⟩, .slice none 0 0, .bool false] 52 (0, 0)) := by
    rw [← hW]
    exact (heap_alloc_old _ _ (by simp <;> omega)).trans ((heap_alloc_old _ _ (by simp)).trans (by
      have := heap_alloc_new (w.alloc (.cells #[.int .i64 0, .int .i64 0, .int .i64 0, .int .i64 0, .int .i64 0, .string ⟨#[]⟩, .slice none 0 0, .bool false] 52)) (.cells #[.int .i64 25, .int .i64 0, .int .i64 0, .int .i64 0, .int .i64 0, .string ⟨#[]⟩, .slice none 0 0, .bool false] 52)
      simpa using this))
  have h2 : W.heap[w.heap.size + 1 + 1]? = some (.cells #[.slice none 0 0, .slice (some ⟨w.heap.size, 0, none⟩) 1 1, .int .i64 0, .int .i64 0, .int .i64 1, .int .i64 0, .slice none 0 0, .slice none 0 0, .slice none 0 0, .slice (some ⟨w.heap.size + 1, 0, none⟩) 1 1, .int .i64 3, .int .i64 0, .int .i64 0, .int .i64 0, .slice none 0 0, .slice none 0 0] 57 (0, 0)) := by
    rw [← hW]
    exact (heap_alloc_old _ _ (by simp)).trans (by
      have := heap_alloc_new ((w.alloc (.cells #[.int .i64 0, .int .i64 0, .int .i64 0, .int .i64 0, .int .i64 0, .string ⟨#[]⟩, .slice none 0 0, .bool false] 52)).alloc (.cells #[.int .i64 25, .int .i64 0, .int .i64 0, .int .i64 0, .int .i64 0, .string ⟨#[]⟩, .slice none 0 0, .bool false] 52)) (.cells #[.slice none 0 0, .slice (some ⟨w.heap.size, 0, none⟩) 1 1, .int .i64 0, .int .i64 0, .int .i64 1, .int .i64 0, .slice none 0 0, .slice none 0 0, .slice none 0 0, .slice (some ⟨w.heap.size + 1, 0, none⟩) 1 1, .int .i64 3, .int .i64 0, .int .i64 0, .int .i64 0, .slice none 0 0, .slice none 0 0] 57)
      simpa using this)
  clear hW
  have nil : ∀ (v : Value), v = .slice none 0 0 → NumsV W v [] := fun v hv => ⟨none, 0, 0, hv, NumsAt.nil _ _, fun _ => rfl, by decide, fun z hz => (by cases hz)⟩
  have one : ∀ {b : Nat} {T : TypeId} {cur : Array Value} {x : OpD}, W.heap[b]? = some (.cells cur T (0, 0)) → cur.size = 8 → OpQ W cur.toList x → RowV OpQ 8 W (.slice (some ⟨b, 0, none⟩) 1 1) [x] := by
    intro b T cur x hb hk hq
    refine ⟨_, 1, 1, rfl, rfl, fun h => (by cases h), by decide, fun _ => ⟨b, 0, rfl, (Array.getElem?_eq_some_iff.1 hb).1, fun i hi => ?_⟩⟩
    have hi0 : i = 0 := by simpa using hi
    subst hi0
    refine ⟨cur.toList, by simpa using hk, fun j hj => ?_, hq⟩
    simp only [World.cell?, hb, Nat.zero_mul, Nat.zero_add]
    simp at hj ⊢
  have z0 : InR 0 := ⟨by decide, by decide⟩
  have hC : ∀ j, W.cell? ⟨w.heap.size + 1 + 1, j, none⟩ = (#[.slice none 0 0, .slice (some ⟨w.heap.size, 0, none⟩) 1 1, .int .i64 0, .int .i64 0, .int .i64 1, .int .i64 0, .slice none 0 0, .slice none 0 0, .slice none 0 0, .slice (some ⟨w.heap.size + 1, 0, none⟩) 1 1, .int .i64 3, .int .i64 0, .int .i64 0, .int .i64 0, .slice none 0 0, .slice none 0 0] : Array Value)[j]? := fun j => by simp [World.cell?, h2]
  have hf : FuncQ W [.int .i64 0, .slice (some ⟨w.heap.size + 1 + 1, 0, none⟩) 2 2] liveU := by
    refine ⟨_, rfl, z0, some ⟨w.heap.size + 1 + 1, 0, none⟩, 2, 2, rfl, rfl, (fun h => by cases h), by omega, fun _ => ⟨w.heap.size + 1 + 1, 0, rfl, by omega, fun i hi => ?_⟩⟩
    have hi' : i < 2 := hi
    match i, hi with
    | 0, _ => exact ⟨[.slice none 0 0, .slice (some ⟨w.heap.size, 0, none⟩) 1 1, .int .i64 0, .int .i64 0, .int .i64 1, .int .i64 0, .slice none 0 0, .slice none 0 0], rfl, fun j hj => by
        rw [hC]
        have hj' : j < 8 := hj
        have : j = 0 ∨ j = 1 ∨ j = 2 ∨ j = 3 ∨ j = 4 ∨ j = 5 ∨ j = 6 ∨ j = 7 := by omega
        rcases this with rfl | rfl | rfl | rfl | rfl | rfl | rfl | rfl <;> rfl, _, _, _, rfl, nil _ rfl, one h0 rfl ⟨_, rfl, z0, z0, z0, z0, z0, Nat.zero_le _, nil _ rfl⟩, _, _, rfl, z0, z0, (show InR 1 from ⟨by decide, by decide⟩), z0, nil _ rfl, nil _ rfl⟩
    | 1, _ => exact ⟨[.slice none 0 0, .slice (some ⟨w.heap.size + 1, 0, none⟩) 1 1, .int .i64 3, .int .i64 0, .int .i64 0, .int .i64 0, .slice none 0 0, .slice none 0 0], rfl, fun j hj => by
        rw [hC]
        have hj' : j < 8 := hj
        have : j = 0 ∨ j = 1 ∨ j = 2 ∨ j = 3 ∨ j = 4 ∨ j = 5 ∨ j = 6 ∨ j = 7 := by omega
        rcases this with rfl | rfl | rfl | rfl | rfl | rfl | rfl | rfl <;> rfl, _, _, _, rfl, nil _ rfl, one h1 rfl ⟨_, rfl, (show InR 25 from ⟨by decide, by decide⟩), z0, z0, z0, z0, Nat.zero_le _, nil _ rfl⟩, _, _, rfl, (show InR 3 from ⟨by decide, by decide⟩), z0, z0, z0, nil _ rfl, nil _ rfl⟩
  exact ⟨hbel, hs, hf, h3⟩
set_option maxRecDepth 100000 in
set_option maxHeartbeats 4000000 in
theorem ulives_any (w : World) (hft : FT w) : Calls Tryd.prog 8 #[] w fun e w' => e = .returned (.bool true) ∧ Below w.heap.size w w' := by
  have HA := Lib.hid (liveU_laid w)
  have HFT := Lib.hid hft
  clear hft
  go_enter Tryd.func8, Tryd.ntmps8
  go_upto_region 2 with fail
  generalize hW : ((((w.alloc (.cells #[.int .i64 0, .int .i64 0, .int .i64 0, .int .i64 0, .int .i64 0, .string ⟨#[]⟩, .slice none 0 0, .bool false] 52)).alloc (.cells #[.int .i64 25, .int .i64 0, .int .i64 0, .int .i64 0, .int .i64 0, .string ⟨#[]⟩, .slice none 0 0, .bool false] 52)).alloc (.cells #[.slice none 0 0, .slice (some ⟨w.heap.size, 0, none⟩) 1 1, .int .i64 0, .int .i64 0, .int .i64 1, .int .i64 0, .slice none 0 0, .slice none 0 0, .slice none 0 0, .slice (some ⟨w.heap.size + 1, 0, none⟩) 1 1, .int .i64 3, .int .i64 0, .int .i64 0, .int .i64 0, .slice none 0 0, .slice none 0 0] 57)).alloc (.cells #[.int .i64 0, .slice (some ⟨w.heap.size + 1 + 1, 0, none⟩) 2 2] 30)) = W at HA ⊢
  clear hW
  have HB := Lib.hid HA.out.bel
  have HF1 := Lib.hid (HFT.out.below HA.out.bel HFT.out.lt)
  have HFQ := Lib.hid HA.out.func
  have hb3 : w.heap.size + 1 + 1 + 1 < W.heap.size := by have := HA.out.size; omega
  have HFC : RowKit.Hid (∀ U, Below W.heap.size W U → U.cell? ⟨w.heap.size + 1 + 1 + 1, 0, none⟩ = some (.int .i64 0) ∧ U.cell? ⟨w.heap.size + 1 + 1 + 1, 1, none⟩ = some (.slice (some ⟨w.heap.size + 1 + 1, 0, none⟩) 2 2)) := Lib.hid fun U hU => ⟨(hU.cell (p := ⟨w.heap.size + 1 + 1 + 1, 0, none⟩) hb3).trans (by simp [World.cell?, HA.out.b3]), (hU.cell (p := ⟨w.heap.size + 1 + 1 + 1, 1, none⟩) hb3).trans (by simp [World.cell?, HA.out.b3])⟩
  have CN : RowKit.Hid (Calls Tryd.prog 14 #[.agg #[.int .i64 0, .slice (some ⟨w.heap.size + 1 + 1, 0, none⟩) 2 2]] W fun e w' => ∃ g a0 c0 a1 c1, e = .returned (.slice (some ⟨g, 0, none⟩) 2 2) ∧ g < w'.heap.size ∧ w'.cell? ⟨g, 0, none⟩ = some (.slice a0 0 c0) ∧ w'.cell? ⟨g, 1, none⟩ = some (.slice a1 1 c1) ∧ NumsAt w' a1 1 [0] ∧ Below W.heap.size W w') := Lib.hid (by
    refine (needed_any 0 (some ⟨w.heap.size + 1 + 1, 0, none⟩) 2 2 liveU W HFQ.out HF1.out liveU_sm liveU_len).mono ?_
    rintro e w' ⟨B, bx, g, vs, rfl, hS, hb⟩
    obtain ⟨cur, hcur, _⟩ := hS.blk
    have hl := hS.len
    have e0 : ((List.range 2).map (neededU liveU)) = [[], [0]] := by
      simp [List.range_succ, liveU_n0, liveU_n1]
    have hrow := hS.row
    rw [e0] at hrow
    have c0 := hrow.cell (i := 0) (by omega)
    have c1 := hrow.cell (i := 1) (by omega)
    have o0 := hrow.own 0 (by omega) (by decide)
    have o1 := hrow.own 1 (by omega) (by decide)
    simp only [List.getElem_cons_zero, List.getElem_cons_succ] at o0 o1
    obtain ⟨a0, n0, k0, h0, r0⟩ := o0.nums
    obtain ⟨a1, n1, k1, h1, r1⟩ := o1.nums
    rw [h0] at c0
    rw [h1] at c1
    obtain rfl : n0 = 0 := by have := r0.1; simpa using this.symm
    obtain rfl : n1 = 1 := by have := r1.1; simpa using this.symm
    exact ⟨g, a0, k0, a1, k1, rfl, (Array.getElem?_eq_some_iff.1 hcur).1, c0, c1, r1, hb⟩)
  have CO : RowKit.Hid (∀ U, Below W.heap.size W U → Calls Tryd.prog 11 #[.agg #[.int .i64 0, .slice (some ⟨w.heap.size + 1 + 1, 0, none⟩) 2 2], .int .i64 0] U fun e w' => ∃ va vc, e = .returned (.slice va 2 vc) ∧ Below W.heap.size W w') := Lib.hid fun U hU => by
    refine (of_any 0 (some ⟨w.heap.size + 1 + 1, 0, none⟩) 2 2 liveU 0 U (FuncQ.lasts _ _ _ _ hU HFQ.out) (HF1.out.since hU) liveU_sm liveU_len).mono ?_
    rintro e w' ⟨va, vc, rfl, _, hb⟩
    rw [liveU_of]
    exact ⟨va, vc, rfl, hU.trans (hb.mono hU.size)⟩
  obtain ⟨f0, f1⟩ := HFC.out W (Below.refl _ _)
  clear hb3 HA HFT HF1 HFQ
  go_wp2_with (first
    | (go_at_call 14; (with_reducible refine CN.out.mono ?_); rintro e w1 ⟨g, a0, k0, a1, k1, rfl, hg, d0, d1, hn, hb⟩; have HB1 := Lib.hid hb; have HG := Lib.hid hg; have HI := Lib.hid ((ints_any a1 (some ⟨w1.heap.size, 0, none⟩) 1 1 k1 1 [0] [0] (w1.alloc (.cells #[.int .i64 0] 3)) (hn.since ((Below.refl w1.heap.size w1).alloc (Nat.le_refl _) _)) (lit_nums (Z := [0]) rfl) (by omega) (by omega))); clear hb hn hg CN f0 f1)
    | ((go_at_call 16; refine HI.out.mono ?_); rintro e w2 ⟨rfl, q, rfl⟩; rw [show sameB [0] [0] = true by decide]; clear HI; have HB2 : RowKit.Hid (Below W.heap.size W ((w1.alloc (.cells #[.int .i64 0] 3)).drewN q)) := Lib.hid (HB1.out.trans (below_drewN q (((Below.refl W.heap.size w1).alloc HB1.out.size _)))); generalize ((w1.alloc (.cells #[.int .i64 0] 3)).drewN q) = W2 at *; clear d0 d1; obtain ⟨f0, f1⟩ := HFC.out W2 HB2.out)
    | (go_at_call 11; (with_reducible refine (CO.out _ HB2.out).mono ?_); rintro e w3 ⟨va, vc, rfl, hb⟩; have HB3 := Lib.hid hb; clear hb))
  go_ret
  exact ⟨rfl, HB.out.trans (HB3.out.mono HB.out.size)⟩
end Go.Proofs.YtdchhfdmingnaaaDoor

/- Layer 13: the document's Of and Count: where, and how often, a value is used. -/
namespace Go.Proofs.YtdchhfdmingnaaaDoor
open Go.RowKit (wrap64 intOf Below)
set_option linter.unusedVariables false
set_option linter.unusedSimpArgs false
theorem lenU_le {f : FuncD} {i : Nat} (hi : i < f.blocks.length) : fstU f i + lenU f i ≤ fstU f (i + 1) := by
  rw [fstU_more hi]
  show _ + (blkU f i).ops.length ≤ _
  rw [blkU_at hi]
  omega
theorem refPart_len (f : FuncD) (v : Int) (i m : Nat) : (refPart f v i m).length ≤ m := by
  unfold refPart
  rw [List.length_map]
  exact Nat.le_trans (List.length_filter_le _ _) (by simp)
theorem refAll_len (f : FuncD) (v : Int) : ∀ m, m ≤ f.blocks.length → (refAll f v m).length ≤ fstU f m + m
  | 0, _ => by simp [refAll]
  | m + 1, h => by
    rw [refAll_more, List.length_append]
    have h1 := refAll_len f v m (by omega)
    have h2 := refPart_len f v m (lenU f m + 1)
    have h3 := lenU_le (show m < f.blocks.length from h)
    omega
theorem ref_bound {f : FuncD} (h : SmU f) (v : Int) {i k : Nat} (hi : i < f.blocks.length) (hk : k ≤ lenU f i) : (refAll f v i ++ refPart f v i k).length ≤ 900000 := by
  rw [List.length_append]
  have h1 := refAll_len f v i (by omega)
  have h2 := refPart_len f v i k
  have h3 := lenU_le hi
  have h4 := fstU_le f (i + 1)
  have h5 := fstU_le f i
  have h6 := h.vals
  have h7 := h.blocks
  omega
theorem atU_len {r : Int} {a : Option Addr} {n c : Nat} {f : FuncD} {i k : Nat} {w : World} (hq : FuncQ w [.int .i64 r, .slice a n c] f) (hsm : SmU f) (hi : i < n) (hk : k ≤ lenU f i) : (atU f i k).length ≤ 140737488355328 := by
  obtain ⟨bv, he, _, hr⟩ := hq
  simp only [List.cons.injEq, Value.int.injEq, true_and, and_true] at he
  obtain ⟨_, rfl⟩ := he
  obtain ⟨g, off, pa, pn, pc, oa, on, oc, la, ln, lc, ma, mn, mc, rfl, hg, hblk, hops, hla, hma⟩ := block_atO hr hi
  have hon : on = lenU f i := by obtain ⟨_, _, _, e, h, _⟩ := hops; cases e; exact h.symm
  by_cases hlk : k < on
  · obtain ⟨hx, go, oo, ka, kn, kc, rfl, hgo, hoc, hka⟩ := op_atO hops hlk
    rw [atU_op hx]
    have h1 := usesL_len (blkU f i).ops[k].K (blkU f i).ops[k].A (blkU f i).ops[k].B (blkU f i).ops[k].C (blkU f i).ops[k].L
    have h2 := hka.2.2
    have h3 : (blkU f i).ops[k].L.length = kn := hka.1.1
    show (usesL _ _ _ _ _).length ≤ _
    omega
  · rw [atU_end f i k (by show lenU f i ≤ k; omega), blkU_end]
    have := endU_len f.ret (hsm.l i) (hsm.m i)
    omega
theorem wpList_append_si (w : World) {ops : Array Oper} {rest : List Oper} {o : Oper} {a : Act} {Q : Exit → Act → World → Prop} (hgd : o.guard = none) (s x : Operand)
    (ho : o.op = .call { callee := .builtin .append, args := #[s, x], argTypes := #[37, 37] })
    (B : Nat) (v : Value) (l : List SiteU) (hs : a.eval s = v) (hown : OwnsSi w B v l) (hB : B ≤ w.heap.size)
    (C : Array Value) (c g : Nat) (z : SiteU) (hx : a.eval x = .slice (some ⟨g, 0, none⟩) 1 c) (hg : g = w.heap.size) (hC : C = #[.int .i64 0, .int .i64 (z.1 : Int), .int .i64 (z.2 : Int)])
    (hlen : l.length ≤ 1000000)
    (h : ∀ va vn vc w', OwnsSi w' B (.slice va vn vc) (l ++ [z]) → Below B w w' → wpList Tryd.prog ops Q rest (a.put o.dst (.slice va vn vc)) w') : wpList Tryd.prog ops Q (o :: rest) a (w.alloc (.cells C 41)) := by
  obtain ⟨i0, hi, hz0, hz1, hz2⟩ := info_parts info_site
  subst hC hg
  refine wpList_append_own _ hgd s x 37 ho B 41 i0 (.agg #[.int .i64 0, .int .i64 0, .int .i64 0]) 3 24 Tryd.underlying37 hi hz0 hz1 hz2 rfl (by decide) v l.length (flatSi l) hs (World.ownsRow.alloc hown _) ⟨w.heap.size, 0, none⟩ 1 c [.int .i64 0, .int .i64 (z.1 : Int), .int .i64 (z.2 : Int)] hx rfl (fun j u hu => ?_) (by intro u hu; simp at hu; rcases hu with rfl | rfl | rfl <;> rfl) (by unfold maxLen; omega) (by omega) (by simp; omega) ?_
  · rw [addr_plain, Nat.zero_add, World.cell?_alloc_mark]
    simpa using hu
  · intro v' w' hown' hgrow _
    have h2 : OwnsSi w' B v' (l ++ [z]) := by
      show w'.ownsRow B _ 3 v' (l ++ [z]).length (flatSi (l ++ [z]))
      rw [flatSi_more, List.length_append]
      exact hown'
    obtain ⟨va, vc, rfl⟩ := h2.slice
    exact h va _ vc w' h2 (Below.grown ((Below.refl B w).alloc hB _) hgrow (by simp; omega) (fun k hk => (World.ownsRow.lt hown k hk).1))
theorem OwnsSi.below {w w' : World} {B : Nat} {v : Value} {l : List SiteU} (h : OwnsSi w B v l) (hb : Below w.heap.size w w') : OwnsSi w' B v l := by
  refine ⟨h.1, ?_⟩
  rcases h.2 with hn | ⟨g, cap, cur, rfl, hB, hg, rest⟩
  · exact .inl hn
  · refine .inr ⟨g, cap, cur, rfl, hB, ?_, rest⟩
    rw [hb.block g (Array.getElem?_eq_some_iff.1 hg).1]
    exact hg
theorem OwnsSi.mono {w : World} {B B' : Nat} {v : Value} {l : List SiteU} (h : OwnsSi w B v l) (hB : B' ≤ B) : OwnsSi w B' v l := by
  refine ⟨h.1, ?_⟩
  rcases h.2 with hn | ⟨g, cap, cur, rfl, hg, rest⟩
  · exact .inl hn
  · exact .inr ⟨g, cap, cur, rfl, Nat.le_trans hB hg, rest⟩
structure SiSt (w : World) (r : Int) (a : Option Addr) (n c : Nat) (v : Value) (l : List SiteU) (W : World) : Prop where
  bel : Below w.heap.size w W
  siz : w.heap.size + 1 ≤ W.heap.size
  c0 : W.cell? ⟨w.heap.size, 0, none⟩ = some (.int .i64 r)
  c1 : W.cell? ⟨w.heap.size, 1, none⟩ = some (.slice a n c)
  own : OwnsSi W (w.heap.size + 1) v l
section
variable {w W W' : World} {r : Int} {a : Option Addr} {n c : Nat} {v v' : Value} {l l' : List SiteU}
theorem SiSt.since (h : SiSt w r a n c v l W) (hb : Below W.heap.size W W') : SiSt w r a n c v l W' :=
  ⟨h.bel.trans (hb.mono h.bel.size), Nat.le_trans h.siz hb.size, (hb.cell (p := ⟨w.heap.size, 0, none⟩) h.siz).trans h.c0, (hb.cell (p := ⟨w.heap.size, 1, none⟩) h.siz).trans h.c1, h.own.below hb⟩
theorem SiSt.push (h : SiSt w r a n c v l W) (hb : Below (w.heap.size + 1) W W') (ho : OwnsSi W' (w.heap.size + 1) v' l') : SiSt w r a n c v' l' W' :=
  ⟨h.bel.trans (hb.mono (by omega)), Nat.le_trans h.siz hb.size, (hb.cell (p := ⟨w.heap.size, 0, none⟩) (Nat.lt_succ_self _)).trans h.c0, (hb.cell (p := ⟨w.heap.size, 1, none⟩) (Nat.lt_succ_self _)).trans h.c1, ho⟩
end
theorem si_enter (w : World) (r : Int) (a : Option Addr) (n c : Nat) : SiSt w r a n c (.slice (some ⟨w.heap.size + 1, 0, none⟩) 0 0) [] ((w.alloc (.cells #[.int .i64 r, .slice a n c] 30)).alloc (.cells #[] 41)) := by
  have hc : ∀ j, (w.alloc (.cells #[.int .i64 r, .slice a n c] 30)).cell? ⟨w.heap.size, j, none⟩ = (#[.int .i64 r, .slice a n c] : Array Value)[j]? := fun j => World.cell?_alloc_mark _ _ _ _ _
  have hb : Below (w.heap.size + 1) (w.alloc (.cells #[.int .i64 r, .slice a n c] 30)) ((w.alloc (.cells #[.int .i64 r, .slice a n c] 30)).alloc (.cells #[] 41)) := (Below.refl _ _).alloc (by simp) _
  have hz : (w.alloc (.cells #[.int .i64 r, .slice a n c] 30)).heap.size = w.heap.size + 1 := by simp
  refine ⟨((Below.refl w.heap.size w).alloc (Nat.le_refl _) _).alloc (by simp) _, by simp, (hb.cell (p := ⟨w.heap.size, 0, none⟩) (Nat.lt_succ_self _)).trans (hc 0), (hb.cell (p := ⟨w.heap.size, 1, none⟩) (Nat.lt_succ_self _)).trans (hc 1), ?_⟩
  have h2 := World.ownsRow_made (w.alloc (.cells #[.int .i64 r, .slice a n c] 30)) (base := w.heap.size + 1) (e := 41) (size := 3) #[] 0 (by simp) (by decide) rfl
  rw [hz] at h2
  exact h2
set_option maxRecDepth 100000 in
set_option maxHeartbeats 4000000 in
theorem refof_any (r : Int) (a : Option Addr) (n c : Nat) (f : FuncD) (x : Int) (w : World) (hq : FuncQ w [.int .i64 r, .slice a n c] f) (hsm : SmU f) :
    Calls Tryd.prog 12 #[.agg #[.int .i64 r, .slice a n c], .int .i64 x] w (SitesPost (refOf f x) w) := by
  have HQ := Lib.hid hq
  have HSM := Lib.hid hsm
  have HRW : RowKit.Hid (RowV BlockQ 8 w (.slice a n c) f.blocks) := Lib.hid (by
    obtain ⟨bv, he, _, hr⟩ := hq
    simp only [List.cons.injEq, and_true] at he
    obtain ⟨_, rfl⟩ := he
    exact hr)
  have HN : RowKit.Hid (n = f.blocks.length) := Lib.hid (by obtain ⟨_, _, _, e, h, _⟩ := HRW.out; cases e; exact h.symm)
  have hnb : n ≤ 100000 := by rw [HN.out]; exact hsm.blocks
  have hvb : valU f ≤ 100000 := hsm.vals
  obtain ⟨V, hV⟩ : ∃ V, V = valU f := ⟨_, rfl⟩
  rw [← hV] at hvb
  have HV := Lib.hid hV
  have CV : RowKit.Hid (∀ u, Below w.heap.size w u → Calls Tryd.prog 10 #[.agg #[.int .i64 r, .slice a n c]] u fun e w' => e = .returned (.int .i64 (V : Int)) ∧ Below u.heap.size u w') := Lib.hid fun u hu => by
    refine (ref_values r a n c f u (FuncQ.lasts _ _ _ _ hu HQ.out)).mono ?_
    rintro e w' ⟨rfl, hb⟩
    rw [valuesOf_small (by have := HSM.out.vals; omega), ← HV.out]
    exact ⟨rfl, hb⟩
  have CA : RowKit.Hid (∀ u (i k : Nat), Below w.heap.size w u → i < n → k ≤ lenU f i → Calls Tryd.prog 26 #[.agg #[.int .i64 r, .slice a n c], .int .i64 (i : Int), .int .i64 (k : Int)] u (ListPostU (atU f i k) u)) := Lib.hid fun u i k hu hi hk => refat_any r a n c f i k u (FuncQ.lasts _ _ _ _ hu HQ.out) HSM.out hi hk
  have HAL : RowKit.Hid (∀ i k, i < n → k ≤ lenU f i → (atU f i k).length ≤ 140737488355328) := Lib.hid fun i k hi hk => atU_len HQ.out HSM.out hi hk
  clear hq hsm hV
  obtain ⟨W0, hW0⟩ : ∃ u, u = ((w.alloc (.cells #[.int .i64 r, .slice a n c] 30)).alloc (.cells #[] 41)) := ⟨_, rfl⟩
  have HS0 : RowKit.Hid (SiSt w r a n c (.slice (some ⟨w.heap.size + 1, 0, none⟩) 0 0) [] W0) := Lib.hid (by rw [hW0]; exact si_enter w r a n c)
  go_enter Tryd.func12, Tryd.ntmps12
  go_upto_region 2 with fail
  rw [← hW0]
  clear hW0
  by_cases hx0 : 0 ≤ x
  · by_cases hxV : x < (V : Int)
    · have HR : RowKit.Hid (refOf f x = refAll f x n) := Lib.hid (by unfold refOf; rw [if_pos (show inU (valU f) x = true from decide_eq_true ⟨hx0, by rw [← HV.out]; exact hxV⟩), ← HN.out])
      go_wp2_with fail
      go_loopw [5, 6] (fun v5 v6 wr => ∃ i : Nat, i ≤ n ∧ v6 = .int .i64 (i : Int) ∧ ∃ xa xn xc, v5 = .slice xa xn xc ∧ RowKit.Hid (SiSt w r a n c (.slice xa xn xc) (refAll f x i) wr)) (fun _ v6 _ => n - (intOf v6).toNat)
      case atStart => exact ⟨0, Nat.zero_le _, rfl, _, _, _, rfl, Lib.hid (by simpa [refAll] using HS0.out)⟩
      case round =>
        obtain ⟨i, hi, rfl, xa, xn, xc, rfl, HI⟩ := hrel
        clear HS0
        obtain ⟨wp, hwp⟩ : ∃ u, u = wr := ⟨_, rfl⟩
        rw [← hwp] at HI ⊢
        clear hwp
        have f0 := HI.out.c0
        have f1 := HI.out.c1
        by_cases hlt : i < n
        · have hltz : (i : Int) < (n : Int) := by omega
          obtain ⟨g, off, pa, pn, pc, oa, on, oc, la, ln, lc, ma, mn, mc, rfl, hg, hblk, hops, hla, hma⟩ := block_atO HRW.out hlt
          have HON : RowKit.Hid (on = lenU f i) := Lib.hid (by obtain ⟨_, _, _, e, h, _⟩ := hops; cases e; exact h.symm)
          have hob : on ≤ 100000 := by have h1 := HON.out; have h2 := lenU_le (f := f) (i := i) (by have := HN.out; omega); have h3 := fstU_le f (i + 1); have h4 := HSM.out.vals; omega
          have HBK : RowKit.Hid (∀ u, Below w.heap.size w u → u.cell? ⟨g, off + i * 8 + 1, none⟩ = some (.slice oa on oc)) := Lib.hid fun u hu => by
            obtain ⟨_, b1, _⟩ := hblk u hu
            exact b1
          clear hblk hops hla hma hg
          go_upto_region 5 with (go_at_call 10; (with_reducible refine (CV.out _ HI.out.bel).mono ?_); rintro e w1 ⟨rfl, hb⟩; have HI1 := Lib.hid (HI.out.since hb); clear hb f0 f1; have f0 := HI1.out.c0; have f1 := HI1.out.c1)
          go_wp2_with fail
          clear f0 f1
          go_loopw [5, 7] (fun v5 v7 wr => ∃ k : Nat, k ≤ on + 1 ∧ v7 = .int .i64 (k : Int) ∧ ∃ ya yn yc, v5 = .slice ya yn yc ∧ RowKit.Hid (SiSt w r (some ⟨g, off, none⟩) n c (.slice ya yn yc) (refAll f x i ++ refPart f x i k) wr)) (fun _ v7 _ => on + 1 - (intOf v7).toNat)
          case atStart => exact ⟨0, Nat.zero_le _, rfl, _, _, _, rfl, Lib.hid (by simpa [refPart] using HI1.out)⟩
          case round =>
            obtain ⟨k, hk, rfl, ya, yn, yc, rfl, HK⟩ := hrel
            clear HI HI1
            obtain ⟨wq, hwq⟩ : ∃ u, u = wr := ⟨_, rfl⟩
            rw [← hwq] at HK ⊢
            clear hwq
            have f0 := HK.out.c0
            have f1 := HK.out.c1
            have b1 := HBK.out wq HK.out.bel
            by_cases hlk : k ≤ on
            · have hlkz : (k : Int) ≤ (on : Int) := by omega
              have HKL : RowKit.Hid (k ≤ lenU f i) := Lib.hid (by rw [← HON.out]; exact hlk)
              have HMORE := Lib.hid (refPart_more f x i k)
              have HBD : RowKit.Hid ((refAll f x i ++ refPart f x i k).length ≤ 1000000) := Lib.hid (by have := ref_bound HSM.out x (i := i) (k := k) (by have := HN.out; omega) HKL.out; omega)
              have HNM : RowKit.Hid (∀ u ua un uc, NumsAt u ua un (atU f i k) → Calls Tryd.prog 20 #[.slice ua un uc, .int .i64 x] u fun e w' => e = .returned (.bool (decide (x ∈ atU f i k))) ∧ u = w') := Lib.hid fun u ua un uc h => chas_any ua un uc (atU f i k) x u h (by have h1 := h.1; have h2 := HAL.out i k hlt HKL.out; omega)
              cases hin : decide (x ∈ atU f i k) with
              | true =>
                have HIN : RowKit.Hid (refAll f x i ++ refPart f x i (k + 1) = refAll f x i ++ refPart f x i k ++ [(i, k)]) := Lib.hid (by rw [HMORE.out, if_pos (of_decide_eq_true hin), List.append_assoc])
                rw [hin] at HNM
                clear hin
                go_wp2_with (first
                  | (go_at_call 26; (with_reducible refine (CA.out _ i k HK.out.bel hlt HKL.out).mono ?_); rintro e w5 ⟨ua, un, uc, rfl, ho5, hb5⟩; have HK5 := Lib.hid (HK.out.since hb5); have HO5 := Lib.hid ho5; clear ho5 hb5)
                  | (go_at_call 20; (with_reducible refine (HNM.out _ _ _ _ HO5.out.read).mono ?_); rintro e u ⟨rfl, rfl⟩; clear f0 f1 b1)
                  | (at_builtin; (with_reducible refine wpList_append_si _ rfl _ _ rfl (w.heap.size + 1) (.slice ya yn yc) (refAll f x i ++ refPart f x i k) ?_ ?_ ?_ _ 1 w5.heap.size (i, k) ?_ ?_ ?_ ?_ ?_); (next => rfl); (next => exact HK5.out.own); (next => exact HK5.out.siz); (next => rfl); (next => rfl); (next => rfl); (next => exact HBD.out); intro va vn vc w6 ho6 hb6; have HK6 := Lib.hid (HK5.out.push hb6 ho6); clear ho6 hb6))
                go_roundw
                case rel => exact ⟨k + 1, by omega, by go_num, _, _, _, rfl, Lib.hid (by rw [HIN.out]; exact HK6.out)⟩
                case measure => simp [intOf]; omega
              | false =>
                have HIN : RowKit.Hid (refAll f x i ++ refPart f x i (k + 1) = refAll f x i ++ refPart f x i k) := Lib.hid (by rw [HMORE.out, if_neg (of_decide_eq_false hin), List.append_nil])
                rw [hin] at HNM
                clear hin
                go_wp2_with (first
                  | (go_at_call 26; (with_reducible refine (CA.out _ i k HK.out.bel hlt HKL.out).mono ?_); rintro e w5 ⟨ua, un, uc, rfl, ho5, hb5⟩; have HK5 := Lib.hid (HK.out.since hb5); have HO5 := Lib.hid ho5; clear ho5 hb5)
                  | (go_at_call 20; (with_reducible refine (HNM.out _ _ _ _ HO5.out.read).mono ?_); rintro e u ⟨rfl, rfl⟩; clear f0 f1 b1))
                go_roundw
                case rel => exact ⟨k + 1, by omega, by go_num, _, _, _, rfl, Lib.hid (by rw [HIN.out]; exact HK5.out)⟩
                case measure => simp [intOf]; omega
            · have hkz : ¬ ((k : Int) ≤ (on : Int)) := by omega
              have HE : RowKit.Hid (refAll f x i ++ refPart f x i k = refAll f x (i + 1)) := Lib.hid (by rw [refAll_more, ← HON.out, show k = on + 1 by omega])
              go_wp2_with fail
              go_roundw
              case rel => exact ⟨i + 1, by omega, by go_num, _, _, _, rfl, Lib.hid (by rw [← HE.out]; exact HK.out)⟩
              case measure => simp [intOf]; omega
        · obtain rfl : i = n := by omega
          have hge : ¬ ((i : Int) < (i : Int)) := by omega
          go_wp2_with (go_at_call 10; (with_reducible refine (CV.out _ HI.out.bel).mono ?_); rintro e w1 ⟨rfl, hb⟩; have HI1 := Lib.hid (HI.out.since hb); clear hb f0 f1; have f0 := HI1.out.c0; have f1 := HI1.out.c1)
          go_ret
          obtain ⟨va, vc, hv⟩ := HI1.out.own.slice
          cases hv
          exact ⟨xa, xc, by rw [HR.out]; rfl, by rw [HR.out]; exact HI1.out.own.mono (by omega), HI1.out.bel⟩
    · have HR : RowKit.Hid (refOf f x = []) := Lib.hid (by unfold refOf; rw [if_neg]; intro h; exact hxV (by rw [HV.out]; exact (of_decide_eq_true h).2))
      go_wp2_with fail
      go_loopw [5, 6] (fun v5 v6 wr => v6 = .int .i64 0 ∧ v5 = .slice (some ⟨w.heap.size + 1, 0, none⟩) 0 0 ∧ RowKit.Hid (SiSt w r a n c (.slice (some ⟨w.heap.size + 1, 0, none⟩) 0 0) [] wr)) (fun _ _ _ => 0)
      case atStart => exact ⟨rfl, rfl, HS0⟩
      case round =>
        obtain ⟨rfl, rfl, HI⟩ := hrel
        clear HS0
        have f0 := HI.out.c0
        have f1 := HI.out.c1
        go_wp2_with (go_at_call 10; (with_reducible refine (CV.out _ HI.out.bel).mono ?_); rintro e w1 ⟨rfl, hb⟩; have HI1 := Lib.hid (HI.out.since hb); clear hb f0 f1)
        go_ret
        exact ⟨some ⟨w.heap.size + 1, 0, none⟩, 0, by rw [HR.out]; rfl, by rw [HR.out]; exact HI1.out.own.mono (by omega), HI1.out.bel⟩
  · have HR : RowKit.Hid (refOf f x = []) := Lib.hid (by unfold refOf; rw [if_neg]; intro h; exact hx0 (of_decide_eq_true h).1)
    have hx1 : ¬ (0 ≤ x) := hx0
    go_wp2_with fail
    go_loopw [5, 6] (fun v5 v6 wr => v6 = .int .i64 0 ∧ v5 = .slice (some ⟨w.heap.size + 1, 0, none⟩) 0 0 ∧ RowKit.Hid (SiSt w r a n c (.slice (some ⟨w.heap.size + 1, 0, none⟩) 0 0) [] wr)) (fun _ _ _ => 0)
    case atStart => exact ⟨rfl, rfl, HS0⟩
    case round =>
      obtain ⟨rfl, rfl, HI⟩ := hrel
      clear HS0
      go_wp2_with fail
      go_ret
      exact ⟨some ⟨w.heap.size + 1, 0, none⟩, 0, by rw [HR.out]; rfl, by rw [HR.out]; exact HI.out.own.mono (by omega), HI.out.bel⟩
end Go.Proofs.YtdchhfdmingnaaaDoor
