/- Layer 13: package uses' Needed and Left. -/
import Derived.Test.YtdchhfdmingnaaaDoorFT2
import Derived.Test.YtdchhfdmingnaaaDoorFT5
import Derived.Test.YtdchhfdmingnaaaDoorFT6
import Derived.Test.YtdchhfdmingnaaaDoorFUsesL

namespace Go.Proofs.YtdchhfdmingnaaaDoor
open Go.RowKit (wrap64 intOf Below)
set_option linter.unusedVariables false
set_option linter.unusedSimpArgs false
def RowsPost (n : Nat) (Zs : List (List Int)) (w : World) (e : Ending) (w' : World) : Prop := ∃ B bx g vs, e = .returned (.slice (some ⟨g, 0, none⟩) n n) ∧ SetU B bx g n w' vs Zs ∧ Below w.heap.size w w'
set_option maxRecDepth 100000 in
theorem needed_any (r : Int) (a : Option Addr) (n c : Nat) (f : FuncD) (w : World) (hq : FuncQ w [.int .i64 r, .slice a n c] f) (hft : FT w) (hsm : SmU f) (hN : (usesU f).length ≤ 900000) :
    Calls Tryd.prog 14 #[.agg #[.int .i64 r, .slice a n c]] w (RowsPost n ((List.range n).map (neededU f)) w) := by
  obtain ⟨wf, hwf⟩ : ∃ u, u = w.alloc (.cells #[.int .i64 r, .slice a n c] 30) := ⟨_, rfl⟩
  have HB : RowKit.Hid (Below w.heap.size w wf) := Lib.hid (by rw [hwf]; exact (Below.refl _ w).alloc (Nat.le_refl _) _)
  have CS := Lib.hid (spread_any r a n c f wf (FuncQ.lasts _ _ _ _ HB.out hq) (hft.since HB.out) hsm hN)
  clear hq hft hsm hN
  go_enter Tryd.func14, Tryd.ntmps14
  go_upto_region 1 with fail
  try rw [← hwf]
  have d0 : wf.cell? ⟨w.heap.size, 0, none⟩ = some (.int .i64 r) := by rw [hwf]; exact World.cell?_alloc_mark _ _ _ _ _
  have d1 : wf.cell? ⟨w.heap.size, 1, none⟩ = some (.slice a n c) := by rw [hwf]; exact World.cell?_alloc_mark _ _ _ _ _
  clear hwf
  go_wp2_with (go_at_call 27; refine CS.out.mono ?_; rintro e w1 ⟨Bn, bn, gn, Bl, bl, gl, vsN, vsL, rfl, h1, h2, h3⟩; have H1 := Lib.hid h1; have H3 := Lib.hid h3; clear h1 h2 h3)
  go_ret
  exact ⟨_, _, _, _, rfl, H1.out, HB.out.trans (H3.out.mono HB.out.size)⟩
end Go.Proofs.YtdchhfdmingnaaaDoor

/- Layer 13: the statements' own living call (mk_ulive.py): a value that is told and ends. -/
namespace Go.Proofs.YtdchhfdmingnaaaDoor
open Go.RowKit (wrap64 intOf Below)
set_option linter.unusedVariables false
set_option linter.unusedSimpArgs false
def liveU : FuncD := ⟨0, [⟨[], [⟨0, 0, 0, 0, 0, ⟨#[]⟩, [], false⟩], ⟨0, 0, 1, 0, [], []⟩⟩, ⟨[], [⟨25, 0, 0, 0, 0, ⟨#[]⟩, [], false⟩], ⟨3, 0, 0, 0, [], []⟩⟩]⟩
theorem liveU_val : valU liveU = 2 := by decide
theorem liveU_len : (usesU liveU).length ≤ 900000 := by decide +kernel
theorem liveU_of : (ofL 0 (usesU liveU)).length = 2 := by decide +kernel
theorem liveU_sm : SmU liveU := by
  refine ⟨by decide, by rw [liveU_val]; omega, fun p => ?_, fun p => ?_⟩ <;>
  · match p with
    | 0 => decide
    | 1 => decide
    | p + 2 => show 0 ≤ 100000; omega
theorem liveU_nx0 : nxF liveU 0 = [1] := by decide +kernel
theorem liveU_need1 (v : Nat) (hv : v < 2) : NeedU liveU v 1 ↔ v = 0 := by
  constructor
  · intro h
    have := h.not
    by_cases h1 : v = 1
    · subst h1; exact absurd (by decide +kernel) this
    · omega
  · rintro rfl
    exact .here 1 (by decide) (by decide +kernel) ⟨0, by decide, by decide +kernel⟩
theorem liveU_need0 (v : Nat) (hv : v < 2) : ¬ NeedU liveU v 0 := by
  intro h
  have hm := h.not
  have h1 : v = 1 := by
    by_cases h0 : v = 0
    · subst h0; exact absurd (by decide +kernel) hm
    · omega
  subst h1
  cases h with
  | here _ hb hm hu =>
    obtain ⟨k, hk, hin⟩ := hu
    have hk' : k = 0 ∨ k = 1 := by
      have : lenU liveU 0 = 1 := by decide
      omega
    rcases hk' with rfl | rfl
    · exact absurd hin (by decide +kernel)
    · exact absurd hin (by decide +kernel)
  | on _ c hb hm hn hc =>
    rw [liveU_nx0] at hn
    have : c = 1 := by have h9 : (c : Int) = 1 := by simpa using hn
                       omega
    subst this
    have := (liveU_need1 1 (by omega)).1 hc
    omega
theorem liveU_n0 : neededU liveU 0 = [] := by
  unfold neededU risingU
  rw [liveU_val]
  have h : ∀ v, v < 2 → needB liveU (v : Nat) 0 = false := fun v hv => by
    rcases hh : needB liveU (v : Nat) 0 with _ | _
    · rfl
    · exact absurd (need_iff.1 hh) (liveU_need0 v hv)
  have h0 := h 0 (by omega)
  have h1 := h 1 (by omega)
  simp only [List.range_succ, List.range_zero, List.nil_append, List.cons_append, List.filter_cons, List.filter_nil, h0, h1]
  rfl
theorem liveU_n1 : neededU liveU 1 = [0] := by
  unfold neededU risingU
  rw [liveU_val]
  have h0 : needB liveU ((0 : Nat) : Int) 1 = true := need_iff.2 ((liveU_need1 0 (by omega)).2 rfl)
  have h1 : needB liveU ((1 : Nat) : Int) 1 = false := by
    rcases hh : needB liveU ((1 : Nat) : Int) 1 with _ | _
    · rfl
    · have := (liveU_need1 1 (by omega)).1 (need_iff.1 hh)
      omega
  simp only [List.range_succ, List.range_zero, List.nil_append, List.cons_append, List.filter_cons, List.filter_nil, h0, h1]
  rfl
structure LiveU (w W : World) : Prop where
  bel : Below w.heap.size w W
  size : W.heap.size = w.heap.size + 4
  func : FuncQ W [.int .i64 0, .slice (some ⟨w.heap.size + 1 + 1, 0, none⟩) 2 2] liveU
  b3 : W.heap[w.heap.size + 1 + 1 + 1]? = some (.cells #[.int .i64 0, .slice (some ⟨w.heap.size + 1 + 1, 0, none⟩) 2 2] 30 (0, 0))
theorem liveU_laid (w : World) : LiveU w ((((w.alloc (.cells #[.int .i64 0, .int .i64 0, .int .i64 0, .int .i64 0, .int .i64 0, .string ⟨#[]⟩, .slice none 0 0, .bool false] 52)).alloc (.cells #[.int .i64 25, .int .i64 0, .int .i64 0, .int .i64 0, .int .i64 0, .string ⟨#[]⟩, .slice none 0 0, .bool false] 52)).alloc (.cells #[.slice none 0 0, .slice (some ⟨w.heap.size, 0, none⟩) 1 1, .int .i64 0, .int .i64 0, .int .i64 1, .int .i64 0, .slice none 0 0, .slice none 0 0, .slice none 0 0, .slice (some ⟨w.heap.size + 1, 0, none⟩) 1 1, .int .i64 3, .int .i64 0, .int .i64 0, .int .i64 0, .slice none 0 0, .slice none 0 0] 57)).alloc (.cells #[.int .i64 0, .slice (some ⟨w.heap.size + 1 + 1, 0, none⟩) 2 2] 30)) := by
  have hbel : Below w.heap.size w ((((w.alloc (.cells #[.int .i64 0, .int .i64 0, .int .i64 0, .int .i64 0, .int .i64 0, .string ⟨#[]⟩, .slice none 0 0, .bool false] 52)).alloc (.cells #[.int .i64 25, .int .i64 0, .int .i64 0, .int .i64 0, .int .i64 0, .string ⟨#[]⟩, .slice none 0 0, .bool false] 52)).alloc (.cells #[.slice none 0 0, .slice (some ⟨w.heap.size, 0, none⟩) 1 1, .int .i64 0, .int .i64 0, .int .i64 1, .int .i64 0, .slice none 0 0, .slice none 0 0, .slice none 0 0, .slice (some ⟨w.heap.size + 1, 0, none⟩) 1 1, .int .i64 3, .int .i64 0, .int .i64 0, .int .i64 0, .slice none 0 0, .slice none 0 0] 57)).alloc (.cells #[.int .i64 0, .slice (some ⟨w.heap.size + 1 + 1, 0, none⟩) 2 2] 30)) := ((((Below.refl _ _).alloc (Nat.le_refl _) _).alloc (by simp) _).alloc (by simp <;> omega) _).alloc (by simp <;> omega) _
  have h3 : ((((w.alloc (.cells #[.int .i64 0, .int .i64 0, .int .i64 0, .int .i64 0, .int .i64 0, .string ⟨#[]⟩, .slice none 0 0, .bool false] 52)).alloc (.cells #[.int .i64 25, .int .i64 0, .int .i64 0, .int .i64 0, .int .i64 0, .string ⟨#[]⟩, .slice none 0 0, .bool false] 52)).alloc (.cells #[.slice none 0 0, .slice (some ⟨w.heap.size, 0, none⟩) 1 1, .int .i64 0, .int .i64 0, .int .i64 1, .int .i64 0, .slice none 0 0, .slice none 0 0, .slice none 0 0, .slice (some ⟨w.heap.size + 1, 0, none⟩) 1 1, .int .i64 3, .int .i64 0, .int .i64 0, .int .i64 0, .slice none 0 0, .slice none 0 0] 57)).alloc (.cells #[.int .i64 0, .slice (some ⟨w.heap.size + 1 + 1, 0, none⟩) 2 2] 30)).heap[w.heap.size + 1 + 1 + 1]? = some (.cells #[.int .i64 0, .slice (some ⟨w.heap.size + 1 + 1, 0, none⟩) 2 2] 30 (0, 0)) := by
    have := heap_alloc_new (((w.alloc (.cells #[.int .i64 0, .int .i64 0, .int .i64 0, .int .i64 0, .int .i64 0, .string ⟨#[]⟩, .slice none 0 0, .bool false] 52)).alloc (.cells #[.int .i64 25, .int .i64 0, .int .i64 0, .int .i64 0, .int .i64 0, .string ⟨#[]⟩, .slice none 0 0, .bool false] 52)).alloc (.cells #[.slice none 0 0, .slice (some ⟨w.heap.size, 0, none⟩) 1 1, .int .i64 0, .int .i64 0, .int .i64 1, .int .i64 0, .slice none 0 0, .slice none 0 0, .slice none 0 0, .slice (some ⟨w.heap.size + 1, 0, none⟩) 1 1, .int .i64 3, .int .i64 0, .int .i64 0, .int .i64 0, .slice none 0 0, .slice none 0 0] 57)) (.cells #[.int .i64 0, .slice (some ⟨w.heap.size + 1 + 1, 0, none⟩) 2 2] 30)
    simpa using this
  generalize hW : ((((w.alloc (.cells #[.int .i64 0, .int .i64 0, .int .i64 0, .int .i64 0, .int .i64 0, .string ⟨#[]⟩, .slice none 0 0, .bool false] 52)).alloc (.cells #[.int .i64 25, .int .i64 0, .int .i64 0, .int .i64 0, .int .i64 0, .string ⟨#[]⟩, .slice none 0 0, .bool false] 52)).alloc (.cells #[.slice none 0 0, .slice (some ⟨w.heap.size, 0, none⟩) 1 1, .int .i64 0, .int .i64 0, .int .i64 1, .int .i64 0, .slice none 0 0, .slice none 0 0, .slice none 0 0, .slice (some ⟨w.heap.size + 1, 0, none⟩) 1 1, .int .i64 3, .int .i64 0, .int .i64 0, .int .i64 0, .slice none 0 0, .slice none 0 0] 57)).alloc (.cells #[.int .i64 0, .slice (some ⟨w.heap.size + 1 + 1, 0, none⟩) 2 2] 30)) = W at hbel h3 ⊢
  have hs : W.heap.size = w.heap.size + 4 := by rw [← hW]; simp
  have h0 : W.heap[w.heap.size]? = some (.cells #[.int .i64 0, .int .i64 0, .int .i64 0, .int .i64 0, .int .i64 0, .string ⟨#[]⟩, .slice none 0 0, .bool false] 52 (0, 0)) := by
    rw [← hW]
    exact (heap_alloc_old _ _ (by simp <;> omega)).trans ((heap_alloc_old _ _ (by simp <;> omega)).trans ((heap_alloc_old _ _ (by simp)).trans (heap_alloc_new w _)))
  have h1 : W.heap[w.heap.size + 1]? = some (.cells #[.int .i64 25, .int .i64 0, .int .i64 0, .int .i64 0, .int .i64 0, .string ⟨#[]⟩, .slice none 0 0, .bool false] 52 (0, 0)) := by
    rw [← hW]
    exact (heap_alloc_old _ _ (by simp <;> omega)).trans ((heap_alloc_old _ _ (by simp)).trans (by
      have := heap_alloc_new (w.alloc (.cells #[.int .i64 0, .int .i64 0, .int .i64 0, .int .i64 0, .int .i64 0, .string ⟨#[]⟩, .slice none 0 0, .bool false] 52)) (.cells #[.int .i64 25, .int .i64 0, .int .i64 0, .int .i64 0, .int .i64 0, .string ⟨#[]⟩, .slice none 0 0, .bool false] 52)
      simpa using this))
  have h2 : W.heap[w.heap.size + 1 + 1]? = some (.cells #[.slice none 0 0, .slice (some ⟨w.heap.size, 0, none⟩) 1 1, .int .i64 0, .int .i64 0, .int .i64 1, .int .i64 0, .slice none 0 0, .slice none 0 0, .slice none 0 0, .slice (some ⟨w.heap.size + 1, 0, none⟩) 1 1, .int .i64 3, .int .i64 0, .int .i64 0, .int .i64 0, .slice none 0 0, .slice none 0 0] 57 (0, 0)) := by
    rw [← hW]
    exact (heap_alloc_old _ _ (by simp)).trans (by
      have := heap_alloc_new ((w.alloc (.cells #[.int .i64 0, .int .i64 0, .int .i64 0, .int .i64 0, .int .i64 0, .string ⟨#[]⟩, .slice none 0 0, .bool false] 52)).alloc (.cells #[.int .i64 25, .int .i64 0, .int .i64 0, .int .i64 0, .int .i64 0, .string ⟨#[]⟩, .slice none 0 0, .bool false] 52)) (.cells #[.slice none 0 0, .slice (some ⟨w.heap.size, 0, none⟩) 1 1, .int .i64 0, .int .i64 0, .int .i64 1, .int .i64 0, .slice none 0 0, .slice none 0 0, .slice none 0 0, .slice (some ⟨w.heap.size + 1, 0, none⟩) 1 1, .int .i64 3, .int .i64 0, .int .i64 0, .int .i64 0, .slice none 0 0, .slice none 0 0] 57)
      simpa using this)
  clear hW
  have nil : ∀ (v : Value), v = .slice none 0 0 → NumsV W v [] := fun v hv => ⟨none, 0, 0, hv, NumsAt.nil _ _, fun _ => rfl, by decide, fun z hz => (by cases hz)⟩
  have one : ∀ {b : Nat} {T : TypeId} {cur : Array Value} {x : OpD}, W.heap[b]? = some (.cells cur T (0, 0)) → cur.size = 8 → OpQ W cur.toList x → RowV OpQ 8 W (.slice (some ⟨b, 0, none⟩) 1 1) [x] := by
    intro b T cur x hb hk hq
    refine ⟨_, 1, 1, rfl, rfl, fun h => (by cases h), by decide, fun _ => ⟨b, 0, rfl, (Array.getElem?_eq_some_iff.1 hb).1, fun i hi => ?_⟩⟩
    have hi0 : i = 0 := by simpa using hi
    subst hi0
    refine ⟨cur.toList, by simpa using hk, fun j hj => ?_, hq⟩
    simp only [World.cell?, hb, Nat.zero_mul, Nat.zero_add]
    simp at hj ⊢
  have z0 : InR 0 := ⟨by decide, by decide⟩
  have hC : ∀ j, W.cell? ⟨w.heap.size + 1 + 1, j, none⟩ = (#[.slice none 0 0, .slice (some ⟨w.heap.size, 0, none⟩) 1 1, .int .i64 0, .int .i64 0, .int .i64 1, .int .i64 0, .slice none 0 0, .slice none 0 0, .slice none 0 0, .slice (some ⟨w.heap.size + 1, 0, none⟩) 1 1, .int .i64 3, .int .i64 0, .int .i64 0, .int .i64 0, .slice none 0 0, .slice none 0 0] : Array Value)[j]? := fun j => by simp [World.cell?, h2]
  have hf : FuncQ W [.int .i64 0, .slice (some ⟨w.heap.size + 1 + 1, 0, none⟩) 2 2] liveU := by
    refine ⟨_, rfl, z0, some ⟨w.heap.size + 1 + 1, 0, none⟩, 2, 2, rfl, rfl, (fun h => by cases h), by omega, fun _ => ⟨w.heap.size + 1 + 1, 0, rfl, by omega, fun i hi => ?_⟩⟩
    have hi' : i < 2 := hi
    match i, hi with
    | 0, _ => exact ⟨[.slice none 0 0, .slice (some ⟨w.heap.size, 0, none⟩) 1 1, .int .i64 0, .int .i64 0, .int .i64 1, .int .i64 0, .slice none 0 0, .slice none 0 0], rfl, fun j hj => by
        rw [hC]
        have hj' : j < 8 := hj
        have : j = 0 ∨ j = 1 ∨ j = 2 ∨ j = 3 ∨ j = 4 ∨ j = 5 ∨ j = 6 ∨ j = 7 := by omega
        rcases this with rfl | rfl | rfl | rfl | rfl | rfl | rfl | rfl <;> rfl, _, _, _, rfl, nil _ rfl, one h0 rfl ⟨_, rfl, z0, z0, z0, z0, z0, Nat.zero_le _, nil _ rfl⟩, _, _, rfl, z0, z0, (show InR 1 from ⟨by decide, by decide⟩), z0, nil _ rfl, nil _ rfl⟩
    | 1, _ => exact ⟨[.slice none 0 0, .slice (some ⟨w.heap.size + 1, 0, none⟩) 1 1, .int .i64 3, .int .i64 0, .int .i64 0, .int .i64 0, .slice none 0 0, .slice none 0 0], rfl, fun j hj => by
        rw [hC]
        have hj' : j < 8 := hj
        have : j = 0 ∨ j = 1 ∨ j = 2 ∨ j = 3 ∨ j = 4 ∨ j = 5 ∨ j = 6 ∨ j = 7 := by omega
        rcases this with rfl | rfl | rfl | rfl | rfl | rfl | rfl | rfl <;> rfl, _, _, _, rfl, nil _ rfl, one h1 rfl ⟨_, rfl, (show InR 25 from ⟨by decide, by decide⟩), z0, z0, z0, z0, Nat.zero_le _, nil _ rfl⟩, _, _, rfl, (show InR 3 from ⟨by decide, by decide⟩), z0, z0, z0, nil _ rfl, nil _ rfl⟩
  exact ⟨hbel, hs, hf, h3⟩
set_option maxRecDepth 100000 in
set_option maxHeartbeats 4000000 in
theorem ulives_any (w : World) (hft : FT w) : Calls Tryd.prog 8 #[] w fun e w' => e = .returned (.bool true) ∧ Below w.heap.size w w' := by
  have HA := Lib.hid (liveU_laid w)
  have HFT := Lib.hid hft
  clear hft
  go_enter Tryd.func8, Tryd.ntmps8
  go_upto_region 2 with fail
  generalize hW : ((((w.alloc (.cells #[.int .i64 0, .int .i64 0, .int .i64 0, .int .i64 0, .int .i64 0, .string ⟨#[]⟩, .slice none 0 0, .bool false] 52)).alloc (.cells #[.int .i64 25, .int .i64 0, .int .i64 0, .int .i64 0, .int .i64 0, .string ⟨#[]⟩, .slice none 0 0, .bool false] 52)).alloc (.cells #[.slice none 0 0, .slice (some ⟨w.heap.size, 0, none⟩) 1 1, .int .i64 0, .int .i64 0, .int .i64 1, .int .i64 0, .slice none 0 0, .slice none 0 0, .slice none 0 0, .slice (some ⟨w.heap.size + 1, 0, none⟩) 1 1, .int .i64 3, .int .i64 0, .int .i64 0, .int .i64 0, .slice none 0 0, .slice none 0 0] 57)).alloc (.cells #[.int .i64 0, .slice (some ⟨w.heap.size + 1 + 1, 0, none⟩) 2 2] 30)) = W at HA ⊢
  clear hW
  have HB := Lib.hid HA.out.bel
  have HF1 := Lib.hid (HFT.out.below HA.out.bel HFT.out.lt)
  have HFQ := Lib.hid HA.out.func
  have hb3 : w.heap.size + 1 + 1 + 1 < W.heap.size := by have := HA.out.size; omega
  have HFC : RowKit.Hid (∀ U, Below W.heap.size W U → U.cell? ⟨w.heap.size + 1 + 1 + 1, 0, none⟩ = some (.int .i64 0) ∧ U.cell? ⟨w.heap.size + 1 + 1 + 1, 1, none⟩ = some (.slice (some ⟨w.heap.size + 1 + 1, 0, none⟩) 2 2)) := Lib.hid fun U hU => ⟨(hU.cell (p := ⟨w.heap.size + 1 + 1 + 1, 0, none⟩) hb3).trans (by simp [World.cell?, HA.out.b3]), (hU.cell (p := ⟨w.heap.size + 1 + 1 + 1, 1, none⟩) hb3).trans (by simp [World.cell?, HA.out.b3])⟩
  have CN : RowKit.Hid (Calls Tryd.prog 14 #[.agg #[.int .i64 0, .slice (some ⟨w.heap.size + 1 + 1, 0, none⟩) 2 2]] W fun e w' => ∃ g a0 c0 a1 c1, e = .returned (.slice (some ⟨g, 0, none⟩) 2 2) ∧ g < w'.heap.size ∧ w'.cell? ⟨g, 0, none⟩ = some (.slice a0 0 c0) ∧ w'.cell? ⟨g, 1, none⟩ = some (.slice a1 1 c1) ∧ NumsAt w' a1 1 [0] ∧ Below W.heap.size W w') := Lib.hid (by
    refine (needed_any 0 (some ⟨w.heap.size + 1 + 1, 0, none⟩) 2 2 liveU W HFQ.out HF1.out liveU_sm liveU_len).mono ?_
    rintro e w' ⟨B, bx, g, vs, rfl, hS, hb⟩
    obtain ⟨cur, hcur, _⟩ := hS.blk
    have hl := hS.len
    have e0 : ((List.range 2).map (neededU liveU)) = [[], [0]] := by
      simp [List.range_succ, liveU_n0, liveU_n1]
    have hrow := hS.row
    rw [e0] at hrow
    have c0 := hrow.cell (i := 0) (by omega)
    have c1 := hrow.cell (i := 1) (by omega)
    have o0 := hrow.own 0 (by omega) (by decide)
    have o1 := hrow.own 1 (by omega) (by decide)
    simp only [List.getElem_cons_zero, List.getElem_cons_succ] at o0 o1
    obtain ⟨a0, n0, k0, h0, r0⟩ := o0.nums
    obtain ⟨a1, n1, k1, h1, r1⟩ := o1.nums
    rw [h0] at c0
    rw [h1] at c1
    obtain rfl : n0 = 0 := by have := r0.1; simpa using this.symm
    obtain rfl : n1 = 1 := by have := r1.1; simpa using this.symm
    exact ⟨g, a0, k0, a1, k1, rfl, (Array.getElem?_eq_some_iff.1 hcur).1, c0, c1, r1, hb⟩)
  have CO : RowKit.Hid (∀ U, Below W.heap.size W U → Calls Tryd.prog 11 #[.agg #[.int .i64 0, .slice (some ⟨w.heap.size + 1 + 1, 0, none⟩) 2 2], .int .i64 0] U fun e w' => ∃ va vc, e = .returned (.slice va 2 vc) ∧ Below W.heap.size W w') := Lib.hid fun U hU => by
    refine (of_any 0 (some ⟨w.heap.size + 1 + 1, 0, none⟩) 2 2 liveU 0 U (FuncQ.lasts _ _ _ _ hU HFQ.out) (HF1.out.since hU) liveU_sm liveU_len).mono ?_
    rintro e w' ⟨va, vc, rfl, _, hb⟩
    rw [liveU_of]
    exact ⟨va, vc, rfl, hU.trans (hb.mono hU.size)⟩
  obtain ⟨f0, f1⟩ := HFC.out W (Below.refl _ _)
  clear hb3 HA HFT HF1 HFQ
  go_wp2_with (first
    | (go_at_call 14; (with_reducible refine CN.out.mono ?_); rintro e w1 ⟨g, a0, k0, a1, k1, rfl, hg, d0, d1, hn, hb⟩; have HB1 := Lib.hid hb; have HG := Lib.hid hg; have HI := Lib.hid ((ints_any a1 (some ⟨w1.heap.size, 0, none⟩) 1 1 k1 1 [0] [0] (w1.alloc (.cells #[.int .i64 0] 3)) (hn.since ((Below.refl w1.heap.size w1).alloc (Nat.le_refl _) _)) (lit_nums (Z := [0]) rfl) (by omega) (by omega))); clear hb hn hg CN f0 f1)
    | ((go_at_call 16; refine HI.out.mono ?_); rintro e w2 ⟨rfl, q, rfl⟩; rw [show sameB [0] [0] = true by decide]; clear HI; have HB2 : RowKit.Hid (Below W.heap.size W ((w1.alloc (.cells #[.int .i64 0] 3)).drewN q)) := Lib.hid (HB1.out.trans (below_drewN q (((Below.refl W.heap.size w1).alloc HB1.out.size _)))); generalize ((w1.alloc (.cells #[.int .i64 0] 3)).drewN q) = W2 at *; clear d0 d1; obtain ⟨f0, f1⟩ := HFC.out W2 HB2.out)
    | (go_at_call 11; (with_reducible refine (CO.out _ HB2.out).mono ?_); rintro e w3 ⟨va, vc, rfl, hb⟩; have HB3 := Lib.hid hb; clear hb))
  go_ret
  exact ⟨rfl, HB.out.trans (HB3.out.mono HB.out.size)⟩
end Go.Proofs.YtdchhfdmingnaaaDoor
