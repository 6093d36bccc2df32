/- Layer 4, P4.3, P4.4: for whatever program, step and types the statement KindResults returns true: which steps can be, of values of which types, and of which type what comes is. No condition; the table of fields that the program reads is that of the program's text (the card's tie). -/
import Derived.Test.YtgkcbaakdphigaaDoorRenSt
import Derived.Test.YtgkcbaakdphigaaDoorKindPlainW
import Derived.Test.YtgkcbaakdphigaaDoorKindSign
import Derived.Test.YtgkcbaakdphigaaDoorKindRow
import Derived.Test.YtgkcbaakdphigaaDoorKindRow2
import Derived.Test.YtgkcbaakdphigaaDoorKindDecl
import Derived.Test.YtgkcbaakdphigaaDoorKindDeclA
import Derived.Test.YtgkcbaakdphigaaDoorKindRefRes
import Derived.Test.YtgkcbaakdphigaaDoorKindRefResB
import Derived.Test.YtgkcbaakdphigaaDoorKindRefRes2
import Derived.Test.YtgkcbaakdphigaaDoorKindRefRes3
import Derived.Test.YtgkcbaakdphigaaDoorKindRefRes3B
import Derived.Test.YtgkcbaakdphigaaDoorKindRefRes3C
import Derived.Test.YtgkcbaakdphigaaDoorKindRefRes3D
import Derived.Test.YtgkcbaakdphigaaDoorKindRefRes3E
import Derived.Test.YtgkcbaakdphigaaDoorKindRefRes4
import Derived.Test.YtgkcbaakdphigaaDoorKindFlagsL
import Derived.Test.YtgkcbaakdphigaaDoorKindUses
import Derived.Test.YtgkcbaakdphigaaDoorKindLives
import Derived.Deep.RegionHeld3
import Derived.Test.YtgkcbaakdphigaaDoorDeepAt
import Derived.Test.YtgkcbaakdphigaaDoorOps
import Derived.Test.YtgkcbaakdphigaaDoorKindTab
import Derived.Test.YtgkcbaakdphigaaDoorRows
import Derived.Lib.LaidTab
import Derived.Deep.DeepHandedRow
import Derived.Test.YtgkcbaakdphigaaDoorLiftO
import Derived.Test.YtgkcbaakdphigaaDoorLiftB
import Derived.WalkKit
import Derived.ProofKit
import Derived.OpenShut
import Derived.SizedLaws
import Derived.ShutString
import Derived.Test.YtgkcbaakdphigaaDoorLift
import Derived.Test.YtgkcbaakdphigaaDoorCards
import Derived.Test.YtgkcbaakdphigaaDoorTie
namespace Go.Proofs.YtgkcbaakdphigaaDoor
open Go.RowKit
set_option linter.unusedVariables false
theorem Box.putObj {u : World} {g l : Nat} {P : Array Value} (h : Box u g P) (o : Obj) (hl : g ≠ l) : Box (u.putObj l o) g P :=
  ⟨fun j => by simp only [World.cell?, World.putObj_heap_other hl]; exact h.1 j, fun j => by simp only [World.frozen?, World.putObj_heap_other hl]; exact h.2 j⟩
attribute [local go_sem] Oper.semAt_some

/-- Whether all values that a step is of are among so many. -/
def usesB (K A B C : Int) (L : List Int) (m : Int) : Bool := (usesL K A B C L).all fun v => inB v m
structure AllSt (w W : World) (O : Array Value) (m : Int) : Prop where
  inb : Box W w.heap.size O
  many : Box W (w.heap.size + 1) #[.int .i64 m]
  res : Box W (w.heap.size + 2) #[.bool false]
  bel : Below w.heap.size w W
  siz : w.heap.size + 4 ≤ W.heap.size
theorem AllSt.grown {w W W' : World} {O : Array Value} {m : Int} {row : Option Nat} (h : AllSt w W O m) (hg : W.grownBy W' row) (hr : ∀ r, row = some r → w.heap.size + 4 ≤ r) : AllSt w W' O m :=
  have hb : Below (w.heap.size + 4) W W' := Below.grown (Below.refl _ W) hg h.siz hr
  ⟨h.inb.below hb (by omega), h.many.below hb (by omega), h.res.below hb (by omega), h.bel.trans (hb.mono (by omega)), Nat.le_trans h.siz hb.size⟩
theorem AllSt.drew {w W : World} {O : Array Value} {m : Int} (h : AllSt w W O m) : AllSt w W.drew O m := ⟨h.inb, h.many, h.res, h.bel.drew, h.siz⟩

theorem AllSt.put {w W : World} {O : Array Value} {m : Int} (h : AllSt w W O m) : AllSt w (W.setCell ⟨w.heap.size + 1 + 1, 0, none⟩ (.bool false)) O m :=
  ⟨h.inb.other (by omega) _ _, h.many.other (by omega) _ _, h.res.set (g := w.heap.size + 2) 0 _ (by simp) (by simp), h.bel.setCell (by show w.heap.size ≤ w.heap.size + 1 + 1; omega) _, by rw [setCell_size]; exact h.siz⟩
theorem Kept.drew (Bo b : Nat) (W : World) : Kept Bo b W W.drew := ⟨(KeepsOthers.drew W).walks, rfl, rfl⟩
set_option maxRecDepth 100000 in
set_option maxHeartbeats 4000000 in
theorem all_uses (K A B C N : Int) (S : ByteArray) (la : Option Addr) (ln lc : Nat) (T : Bool) (L : List Int) (m : Int) (w : World) (hft : FT w) (hat : NumsAt w la ln L) (hn : ln ≤ 17592186044000) :
    Calls Tryd.prog 31 #[.agg #[.int .i64 K, .int .i64 A, .int .i64 B, .int .i64 C, .int .i64 N, .string S, .slice la ln lc, .bool T], .int .i64 m] w
      fun e w' => e = .returned (.bool (usesB K A B C L m)) ∧ Below w.heap.size w w' := by
  obtain ⟨g, off, hla⟩ : ∃ g off, 0 < ln → la = some ⟨g, off, none⟩ := by
    by_cases h : 0 < ln
    · obtain ⟨g, off, e, _⟩ := hat.2 h
      exact ⟨g, off, fun _ => e⟩
    · exact ⟨0, 0, fun h' => absurd h' h⟩
  have HA := Lib.hid hat
  have HFT := Lib.hid hft
  have HLA := Lib.hid hla
  have hmix : Tryd.prog.follows .mixedOrders = true := by kernel_rfl
  clear hat hft hla
  refine (callsIn_wide (n := 9)).1 ?_
  refine callsIn_of_wp_marks Tryd.func31 rfl trivial ?_ rfl
  simp only [Tryd.ntmps31, List.size_toArray, List.length_cons, List.length_nil, Nat.reduceAdd, Nat.reduceSub, Array.replicate_succ, Array.replicate_zero, List.push_toArray, List.append_toArray, List.nil_append, List.cons_append]
  gi_wp2_with (refine ⟨trivial, ?_⟩; gi_at_call 28; refine (callsIn_wide.2 (places_any _ _)).mono ?_; rintro e w' ⟨rfl, rfl⟩)
  have HS0 : RowKit.Hid (AllSt w ((((w.alloc (.cells #[.int .i64 K, .int .i64 A, .int .i64 B, .int .i64 C, .int .i64 N, .string S, .slice la ln lc, .bool T] 24)).alloc (.cells #[.int .i64 m] 3)).alloc (.cells #[.bool false] 4)).alloc (.cells #[.pointer (some ⟨w.heap.size, 0, none⟩)] 52)) #[.int .i64 K, .int .i64 A, .int .i64 B, .int .i64 C, .int .i64 N, .string S, .slice la ln lc, .bool T] m) :=
    Lib.hid ⟨(((Box.new w _ _ rfl).alloc (by simp) _).alloc (by simp <;> omega) _).alloc (by simp <;> omega) _, ((Box.new _ _ _ (by simp)).alloc (by simp) _).alloc (by simp <;> omega) _, (Box.new _ _ _ (by simp)).alloc (by simp) _, ((((Below.refl w.heap.size w).alloc (Nat.le_refl _) _).alloc (by simp) _).alloc (by simp <;> omega) _).alloc (by simp <;> omega) _, by simp⟩
  have hcB : ((((w.alloc (.cells #[.int .i64 K, .int .i64 A, .int .i64 B, .int .i64 C, .int .i64 N, .string S, .slice la ln lc, .bool T] 24)).alloc (.cells #[.int .i64 m] 3)).alloc (.cells #[.bool false] 4)).alloc (.cells #[.pointer (some ⟨w.heap.size, 0, none⟩)] 52)).cell? ⟨w.heap.size + 1 + 1 + 1, 0, none⟩ = some (.pointer (some ⟨w.heap.size, 0, none⟩)) := by
    rw [show w.heap.size + 1 + 1 + 1 = (((w.alloc (.cells #[.int .i64 K, .int .i64 A, .int .i64 B, .int .i64 C, .int .i64 N, .string S, .slice la ln lc, .bool T] 24)).alloc (.cells #[.int .i64 m] 3)).alloc (.cells #[.bool false] 4)).heap.size by simp]
    exact World.cell?_alloc_mark _ _ _ _ _
  obtain ⟨W0, hW0⟩ : ∃ W0, ((((w.alloc (.cells #[.int .i64 K, .int .i64 A, .int .i64 B, .int .i64 C, .int .i64 N, .string S, .slice la ln lc, .bool T] 24)).alloc (.cells #[.int .i64 m] 3)).alloc (.cells #[.bool false] 4)).alloc (.cells #[.pointer (some ⟨w.heap.size, 0, none⟩)] 52)) = W0 := ⟨_, rfl⟩
  have hz0 : W0.heap.size = w.heap.size + 4 := by rw [← hW0]; simp
  rw [hW0] at HS0 hcB ⊢
  clear hW0
  have hs0 := HS0.out
  have hst := places_stops K (w.heap.size + 1 + 1 + 1) w.heap.size g off ln lc la HLA.out (by omega) 8 W0 (HFT.out.since hs0.bel) hcB (by rw [hs0.inb.1]; rfl) (by rw [hs0.inb.1]; rfl)
  clear hs0
  have HV := Lib.hid (vals_all (b := w.heap.size) (g := g) (off := off) (K := K) (A := A) (B := B) (C := C) HA.out.1)
  refine wpIn_rangeFunc_ownF rfl (by omega) (gf := 34) (lb := #[.pointer (some ⟨w.heap.size + 1 + 1 + 1, 0, none⟩)]) rfl trivial (enters_of Tryd.func34 (by kernel_rfl) rfl) hst Kept.trans ?hKb (Below.refl _ _) (fun _ => rfl)
    (fun pre W => AllSt w W #[.int .i64 K, .int .i64 A, .int .i64 B, .int .i64 C, .int .i64 N, .string S, .slice la ln lc, .bool T] m ∧ ∀ i ∈ pre, inB (valF w.heap.size g off ln K A B C L i) m = true)
    (fun c pre W => c = .ret ∧ AllSt w W #[.int .i64 K, .int .i64 A, .int .i64 B, .int .i64 C, .int .i64 N, .string S, .slice la ln lc, .bool T] m ∧ ∃ i, inB (valF w.heap.size g off ln K A B C L i) m = false) ?hI ?hIx ⟨HS0.out, fun i h => by cases h⟩
    (fun i => { tmps := #[.agg #[.int .i64 K, .int .i64 A, .int .i64 B, .int .i64 C, .int .i64 N, .string S, .slice la ln lc, .bool T], .int .i64 m, .pointer (some ⟨w.heap.size, 0, none⟩), .pointer (some ⟨w.heap.size + 1, 0, none⟩), .pointer (some ⟨w.heap.size + 1 + 1, 0, none⟩), .pointer (some (placeF w.heap.size g off ln K i)), .func (.func 34) #[] #[.pointer (some ⟨w.heap.size + 1 + 1 + 1, 0, none⟩)], .pointer (some (placeF w.heap.size g off ln K i)), undef, undef, undef, undef, undef, undef], defers := [] }) ?assign ?body ?done ?stop
  case hKb => exact kept_putObj (n0 := W0.heap.size) (by omega) (by omega)
  case hI => rintro pre W W' row ⟨hS, hp⟩ hg hr; exact ⟨hS.grown hg (fun r e => by rw [← hz0]; exact (hr r e).1), hp⟩
  case hIx => rintro c pre W W' row ⟨hc, hS, hp⟩ hg hr; exact ⟨hc, hS.grown hg (fun r e => by rw [← hz0]; exact (hr r e).1), hp⟩
  case assign =>
    intro l x W K hK
    gi_wp2
    exact hK
  case body =>
    rintro l pre x W ⟨hS, hp⟩ hlen
    have HS := Lib.hid hS
    have HP := Lib.hid hp
    have hcx : W.cell? (placeF w.heap.size g off ln K x) = some (numV (valF w.heap.size g off ln K A B C L x)) := pairs_cells HA.out.1 HLA.out hS.inb.1 (HA.out.since hS.bel) _ (pair_mem x)
    have hcm := hS.many.1
    have hcr : ∀ j, W.cell? ⟨w.heap.size + 1 + 1, j, none⟩ = _ := hS.res.1
    have hfr : ∀ j, W.frozen? ⟨w.heap.size + 1 + 1, j, none⟩ = false := hS.res.2
    obtain ⟨ad, had⟩ : ∃ ad, placeF w.heap.size g off ln K x = ad := ⟨_, rfl⟩
    obtain ⟨z, hz⟩ : ∃ z, valF w.heap.size g off ln K A B C L x = z := ⟨_, rfl⟩
    rw [had, hz] at hcx
    rw [had]
    unfold numV at hcx
    have HZ := Lib.hid hz
    clear hS hp hz had
    obtain ⟨b, hb⟩ : ∃ b, inB z m = b := ⟨_, rfl⟩
    cases b with
    | true =>
      gi_wp2
      gi_region_with_o (refine ⟨trivial, ?_⟩; gi_at_call 36; refine (CallsIn.inRound l (callsIn_wide.2 (among_any z m _))).mono ?_; rintro e w' ⟨rfl, rfl⟩; rw [hb])
      all_goals gi_wp2
      all_goals exact ⟨KeepsOthers.drew W, Kept.drew _ _ W, HS.out.drew, fun i hi => by
        rcases List.mem_append.1 hi with h | h
        · exact HP.out i h
        · rw [List.mem_singleton.1 h, HZ.out, hb]⟩
    | false =>
      gi_wp2
      gi_region_with_o (refine ⟨trivial, ?_⟩; gi_at_call 36; refine (CallsIn.inRound l (callsIn_wide.2 (among_any z m _))).mono ?_; rintro e w' ⟨rfl, rfl⟩; rw [hb])
      all_goals gi_wp2
      all_goals exact ⟨(KeepsOthers.drew W).trans (KeepsOthers.setCell _ _ _), rfl, HS.out.drew.put, x, by rw [HZ.out, hb]⟩
  case done =>
    rintro D ys W hD rfl ⟨hS, hp⟩ hK
    have HS := Lib.hid hS
    have hcr : ∀ j, W.cell? ⟨w.heap.size + 1 + 1, j, none⟩ = _ := hS.res.1
    have hfr : ∀ j, W.frozen? ⟨w.heap.size + 1 + 1, j, none⟩ = false := hS.res.2
    have HE : RowKit.Hid (usesB K A B C L m = true) := Lib.hid (by
      unfold usesB
      rw [← HV.out, List.all_eq_true]
      intro v hv
      obtain ⟨i, hi, rfl⟩ := List.mem_map.1 hv
      exact hp i hi)
    clear hS hp
    gi_wp2
    have hK2 := (KeepsOthers.setCell W ⟨w.heap.size + 1 + 1, 0, none⟩ (.bool true)).same D _ hK rfl
    refine ⟨by simp, .inl ⟨_, _, rfl, run_takeDeferred hK2, ?_⟩⟩
    have hbx : Box ((W.setCell ⟨w.heap.size + 1 + 1, 0, none⟩ (.bool true)).putObj D (.deferred none)) (w.heap.size + 2) #[.bool true] := (HS.out.res.set 0 (.bool true) (by simp) (by simp)).putObj (.deferred none) (by omega)
    have HBW := Lib.hid (((HS.out.bel).setCell (p := ⟨w.heap.size + 1 + 1, 0, none⟩) (by show w.heap.size ≤ w.heap.size + 1 + 1; omega) (.bool true)).trans (belowK_b (w := w) (Nat.le_refl _) _ D _ (.deferred none) (by omega) hK2 rfl rfl))
    clear hcr hfr hK2
    revert hbx HBW
    generalize World.putObj _ D (.deferred none) = W3
    intro hbx HBW
    have hc3 : ∀ j, W3.cell? ⟨w.heap.size + 1 + 1, j, none⟩ = _ := hbx.1
    exact ⟨.bool true, (by simp [results, Tryd.results31, go_sem, hc3]), by rw [HE.out], HBW.out⟩
  case stop =>
    rintro D c pre W hD _ ⟨rfl, hS, i, hi⟩ hK
    have HS := Lib.hid hS
    have HE : RowKit.Hid (usesB K A B C L m = false) := Lib.hid (by
      unfold usesB
      rw [← HV.out, List.all_eq_false]
      exact ⟨_, List.mem_map.2 ⟨i, by unfold firsts; rw [List.take_of_length_le (by simp)]; exact List.mem_finRange i, rfl⟩, by rw [hi]; simp⟩)
    clear hS hi
    gi_wp2
    refine ⟨by simp, .inl ⟨_, _, rfl, run_takeDeferred hK, ?_⟩⟩
    have hbx : Box (W.putObj D (.deferred none)) (w.heap.size + 2) #[.bool false] := HS.out.res.putObj (.deferred none) (by omega)
    have HBW := Lib.hid (HS.out.bel.trans (belowK_b (w := w) (Nat.le_refl _) W D _ (.deferred none) (by omega) hK rfl rfl))
    revert hbx HBW
    generalize World.putObj _ D (.deferred none) = W3
    intro hbx HBW
    have hc3 : ∀ j, W3.cell? ⟨w.heap.size + 1 + 1, j, none⟩ = _ := hbx.1
    exact ⟨.bool false, (by simp [results, Tryd.results31, go_sem, hc3]), by rw [HE.out], HBW.out⟩
end Go.Proofs.YtgkcbaakdphigaaDoor

namespace Go.Proofs.YtgkcbaakdphigaaDoor
open Go.RowKit (wrap64 intOf Below)
set_option linter.unusedVariables false

theorem rowS_none {P : ProgD} {K N : Int} {S : ByteArray} {l : List Int} (h : K < 0 ∨ 25 < K) : rowS P K N S l = (-1, false) := by
  unfold rowS
  repeat rw [if_neg (by omega)]
set_option maxRecDepth 100000 in
theorem decl_none (g : Nat) {sa : Option Addr} {sn sc : Nat} {ca : Option Addr} {cn cc : Nat} {fa : Option Addr} {fn fc : Nat} {P : ProgD} (K : Int) (h : K < 0 ∨ 25 < K) (A B C N : Int) (S : ByteArray) (la : Option Addr) (ln lc : Nat) (T : Bool) (L : List Int) (ta : Option Addr) (tn tc : Nat) (ts : List Int) (w : World)
    (hP : ProgAt w g sa sn sc ca cn cc fa fn fc P) (hat : NumsAt w la ln L) (hln : ln ≤ 17592186044000) (ht : NumsAt w ta tn ts) (htn : tn ≤ 140737488355328) (hr : ∀ z ∈ ts, InR z) (hN : InR N) (ham : Among (usesL K A B C L) tn) :
    Calls Tryd.prog 39 #[.pointer (some ⟨g, 0, none⟩), .agg #[.int .i64 K, .int .i64 A, .int .i64 B, .int .i64 C, .int .i64 N, .string S, .slice la ln lc, .bool T], .slice ta tn tc] w (RowPost (rowS P K N S ((usesL K A B C L).map (tyAt ts))) w) := by
  rw [rowS_none h]
  clear hP hat ht ham hr hN
  rcases h with h | h
  all_goals
    go_enter Tryd.func39, Tryd.ntmps39
    go_wp2
    exact bodyPost_ret (v := .tuple #[.int .i64 (-1), .bool false]) (by simp [results, Tryd.results39, go_sem]) rfl ⟨-1, rfl, (fun h => by cases h), below1 _ _ _⟩

set_option maxRecDepth 100000 in
theorem row_9 (g : Nat) {sa : Option Addr} {sn sc : Nat} {ca : Option Addr} {cn cc : Nat} {fa : Option Addr} {fn fc : Nat} {P : ProgD} (A B C N : Int) (S : ByteArray) (la : Option Addr) (ln lc : Nat) (T : Bool) (L : List Int) (ta : Option Addr) (tn tc : Nat) (ts : List Int) (w : World)
    (hP : ProgAt w g sa sn sc ca cn cc fa fn fc P) (hat : NumsAt w la ln L) (hln : ln ≤ 17592186044000) (ht : NumsAt w ta tn ts) (htn : tn ≤ 140737488355328) (hr : ∀ z ∈ ts, InR z) (hN : InR N) (ham : Among (usesL 9 A B C L) tn) :
    Calls Tryd.prog 32 #[.pointer (some ⟨g, 0, none⟩), .agg #[.int .i64 9, .int .i64 A, .int .i64 B, .int .i64 C, .int .i64 N, .string S, .slice la ln lc, .bool T], .slice ta tn tc] w (RowPost (rowS P 9 N S ((usesL 9 A B C L).map (tyAt ts))) w) := by
  have HD := Lib.hid (decl_9 g A B C N S la ln lc T L ta tn tc ts (w.alloc (.cells #[.int .i64 9, .int .i64 A, .int .i64 B, .int .i64 C, .int .i64 N, .string S, .slice la ln lc, .bool T] 24)) (hP.since (below1 _ _ _)) (hat.since (below1 _ _ _)) hln (ht.since (below1 _ _ _)) htn hr hN ham)
  clear hP hat ht ham hr hN
  go_enter Tryd.func32, Tryd.ntmps32
  go_wp2_with (go_at_call 39; (with_reducible refine (HD.out).mono ?_); rintro e w' ⟨t, rfl, hx, hb⟩)
  exact bodyPost_ret (v := .tuple #[.int .i64 t, .bool _]) (by simp [results, Tryd.results32, go_sem]) rfl ⟨t, rfl, hx, (below1 _ _ _).trans (hb.mono (by simp))⟩

set_option maxRecDepth 100000 in
theorem row_10 (g : Nat) {sa : Option Addr} {sn sc : Nat} {ca : Option Addr} {cn cc : Nat} {fa : Option Addr} {fn fc : Nat} {P : ProgD} (A B C N : Int) (S : ByteArray) (la : Option Addr) (ln lc : Nat) (T : Bool) (L : List Int) (ta : Option Addr) (tn tc : Nat) (ts : List Int) (w : World)
    (hP : ProgAt w g sa sn sc ca cn cc fa fn fc P) (hat : NumsAt w la ln L) (hln : ln ≤ 17592186044000) (ht : NumsAt w ta tn ts) (htn : tn ≤ 140737488355328) (hr : ∀ z ∈ ts, InR z) (hN : InR N) (ham : Among (usesL 10 A B C L) tn) :
    Calls Tryd.prog 32 #[.pointer (some ⟨g, 0, none⟩), .agg #[.int .i64 10, .int .i64 A, .int .i64 B, .int .i64 C, .int .i64 N, .string S, .slice la ln lc, .bool T], .slice ta tn tc] w (RowPost (rowS P 10 N S ((usesL 10 A B C L).map (tyAt ts))) w) := by
  have HD := Lib.hid (decl_10 g A B C N S la ln lc T L ta tn tc ts (w.alloc (.cells #[.int .i64 10, .int .i64 A, .int .i64 B, .int .i64 C, .int .i64 N, .string S, .slice la ln lc, .bool T] 24)) (hP.since (below1 _ _ _)) (hat.since (below1 _ _ _)) hln (ht.since (below1 _ _ _)) htn hr hN ham)
  clear hP hat ht ham hr hN
  go_enter Tryd.func32, Tryd.ntmps32
  go_wp2_with (go_at_call 39; (with_reducible refine (HD.out).mono ?_); rintro e w' ⟨t, rfl, hx, hb⟩)
  exact bodyPost_ret (v := .tuple #[.int .i64 t, .bool _]) (by simp [results, Tryd.results32, go_sem]) rfl ⟨t, rfl, hx, (below1 _ _ _).trans (hb.mono (by simp))⟩

set_option maxRecDepth 100000 in
theorem row_11 (g : Nat) {sa : Option Addr} {sn sc : Nat} {ca : Option Addr} {cn cc : Nat} {fa : Option Addr} {fn fc : Nat} {P : ProgD} (A B C N : Int) (S : ByteArray) (la : Option Addr) (ln lc : Nat) (T : Bool) (L : List Int) (ta : Option Addr) (tn tc : Nat) (ts : List Int) (w : World)
    (hP : ProgAt w g sa sn sc ca cn cc fa fn fc P) (hat : NumsAt w la ln L) (hln : ln ≤ 17592186044000) (ht : NumsAt w ta tn ts) (htn : tn ≤ 140737488355328) (hr : ∀ z ∈ ts, InR z) (hN : InR N) (ham : Among (usesL 11 A B C L) tn) :
    Calls Tryd.prog 32 #[.pointer (some ⟨g, 0, none⟩), .agg #[.int .i64 11, .int .i64 A, .int .i64 B, .int .i64 C, .int .i64 N, .string S, .slice la ln lc, .bool T], .slice ta tn tc] w (RowPost (rowS P 11 N S ((usesL 11 A B C L).map (tyAt ts))) w) := by
  have HD := Lib.hid (decl_11 g A B C N S la ln lc T L ta tn tc ts (w.alloc (.cells #[.int .i64 11, .int .i64 A, .int .i64 B, .int .i64 C, .int .i64 N, .string S, .slice la ln lc, .bool T] 24)) (hP.since (below1 _ _ _)) (hat.since (below1 _ _ _)) hln (ht.since (below1 _ _ _)) htn hr hN ham)
  clear hP hat ht ham hr hN
  go_enter Tryd.func32, Tryd.ntmps32
  go_wp2_with (go_at_call 39; (with_reducible refine (HD.out).mono ?_); rintro e w' ⟨t, rfl, hx, hb⟩)
  exact bodyPost_ret (v := .tuple #[.int .i64 t, .bool _]) (by simp [results, Tryd.results32, go_sem]) rfl ⟨t, rfl, hx, (below1 _ _ _).trans (hb.mono (by simp))⟩

set_option maxRecDepth 100000 in
theorem row_22 (g : Nat) {sa : Option Addr} {sn sc : Nat} {ca : Option Addr} {cn cc : Nat} {fa : Option Addr} {fn fc : Nat} {P : ProgD} (A B C N : Int) (S : ByteArray) (la : Option Addr) (ln lc : Nat) (T : Bool) (L : List Int) (ta : Option Addr) (tn tc : Nat) (ts : List Int) (w : World)
    (hP : ProgAt w g sa sn sc ca cn cc fa fn fc P) (hat : NumsAt w la ln L) (hln : ln ≤ 17592186044000) (ht : NumsAt w ta tn ts) (htn : tn ≤ 140737488355328) (hr : ∀ z ∈ ts, InR z) (hN : InR N) (ham : Among (usesL 22 A B C L) tn) :
    Calls Tryd.prog 32 #[.pointer (some ⟨g, 0, none⟩), .agg #[.int .i64 22, .int .i64 A, .int .i64 B, .int .i64 C, .int .i64 N, .string S, .slice la ln lc, .bool T], .slice ta tn tc] w (RowPost (rowS P 22 N S ((usesL 22 A B C L).map (tyAt ts))) w) := by
  have HD := Lib.hid (decl_22 g A B C N S la ln lc T L ta tn tc ts (w.alloc (.cells #[.int .i64 22, .int .i64 A, .int .i64 B, .int .i64 C, .int .i64 N, .string S, .slice la ln lc, .bool T] 24)) (hP.since (below1 _ _ _)) (hat.since (below1 _ _ _)) hln (ht.since (below1 _ _ _)) htn hr hN ham)
  clear hP hat ht ham hr hN
  go_enter Tryd.func32, Tryd.ntmps32
  go_wp2_with (go_at_call 39; (with_reducible refine (HD.out).mono ?_); rintro e w' ⟨t, rfl, hx, hb⟩)
  exact bodyPost_ret (v := .tuple #[.int .i64 t, .bool _]) (by simp [results, Tryd.results32, go_sem]) rfl ⟨t, rfl, hx, (below1 _ _ _).trans (hb.mono (by simp))⟩

set_option maxRecDepth 100000 in
theorem row_23 (g : Nat) {sa : Option Addr} {sn sc : Nat} {ca : Option Addr} {cn cc : Nat} {fa : Option Addr} {fn fc : Nat} {P : ProgD} (A B C N : Int) (S : ByteArray) (la : Option Addr) (ln lc : Nat) (T : Bool) (L : List Int) (ta : Option Addr) (tn tc : Nat) (ts : List Int) (w : World)
    (hP : ProgAt w g sa sn sc ca cn cc fa fn fc P) (hat : NumsAt w la ln L) (hln : ln ≤ 17592186044000) (ht : NumsAt w ta tn ts) (htn : tn ≤ 140737488355328) (hr : ∀ z ∈ ts, InR z) (hN : InR N) (ham : Among (usesL 23 A B C L) tn) :
    Calls Tryd.prog 32 #[.pointer (some ⟨g, 0, none⟩), .agg #[.int .i64 23, .int .i64 A, .int .i64 B, .int .i64 C, .int .i64 N, .string S, .slice la ln lc, .bool T], .slice ta tn tc] w (RowPost (rowS P 23 N S ((usesL 23 A B C L).map (tyAt ts))) w) := by
  have HD := Lib.hid (decl_23 g A B C N S la ln lc T L ta tn tc ts (w.alloc (.cells #[.int .i64 23, .int .i64 A, .int .i64 B, .int .i64 C, .int .i64 N, .string S, .slice la ln lc, .bool T] 24)) (hP.since (below1 _ _ _)) (hat.since (below1 _ _ _)) hln (ht.since (below1 _ _ _)) htn hr hN ham)
  clear hP hat ht ham hr hN
  go_enter Tryd.func32, Tryd.ntmps32
  go_wp2_with (go_at_call 39; (with_reducible refine (HD.out).mono ?_); rintro e w' ⟨t, rfl, hx, hb⟩)
  exact bodyPost_ret (v := .tuple #[.int .i64 t, .bool _]) (by simp [results, Tryd.results32, go_sem]) rfl ⟨t, rfl, hx, (below1 _ _ _).trans (hb.mono (by simp))⟩

set_option maxRecDepth 100000 in
theorem row_24 (g : Nat) {sa : Option Addr} {sn sc : Nat} {ca : Option Addr} {cn cc : Nat} {fa : Option Addr} {fn fc : Nat} {P : ProgD} (A B C N : Int) (S : ByteArray) (la : Option Addr) (ln lc : Nat) (T : Bool) (L : List Int) (ta : Option Addr) (tn tc : Nat) (ts : List Int) (w : World)
    (hP : ProgAt w g sa sn sc ca cn cc fa fn fc P) (hat : NumsAt w la ln L) (hln : ln ≤ 17592186044000) (ht : NumsAt w ta tn ts) (htn : tn ≤ 140737488355328) (hr : ∀ z ∈ ts, InR z) (hN : InR N) (ham : Among (usesL 24 A B C L) tn) :
    Calls Tryd.prog 32 #[.pointer (some ⟨g, 0, none⟩), .agg #[.int .i64 24, .int .i64 A, .int .i64 B, .int .i64 C, .int .i64 N, .string S, .slice la ln lc, .bool T], .slice ta tn tc] w (RowPost (rowS P 24 N S ((usesL 24 A B C L).map (tyAt ts))) w) := by
  have HD := Lib.hid (decl_24 g A B C N S la ln lc T L ta tn tc ts (w.alloc (.cells #[.int .i64 24, .int .i64 A, .int .i64 B, .int .i64 C, .int .i64 N, .string S, .slice la ln lc, .bool T] 24)) (hP.since (below1 _ _ _)) (hat.since (below1 _ _ _)) hln (ht.since (below1 _ _ _)) htn hr hN ham)
  clear hP hat ht ham hr hN
  go_enter Tryd.func32, Tryd.ntmps32
  go_wp2_with (go_at_call 39; (with_reducible refine (HD.out).mono ?_); rintro e w' ⟨t, rfl, hx, hb⟩)
  exact bodyPost_ret (v := .tuple #[.int .i64 t, .bool _]) (by simp [results, Tryd.results32, go_sem]) rfl ⟨t, rfl, hx, (below1 _ _ _).trans (hb.mono (by simp))⟩

set_option maxRecDepth 100000 in
theorem row_none (g : Nat) {sa : Option Addr} {sn sc : Nat} {ca : Option Addr} {cn cc : Nat} {fa : Option Addr} {fn fc : Nat} {P : ProgD} (K : Int) (h : K < 0 ∨ 25 < K) (A B C N : Int) (S : ByteArray) (la : Option Addr) (ln lc : Nat) (T : Bool) (L : List Int) (ta : Option Addr) (tn tc : Nat) (ts : List Int) (w : World)
    (hP : ProgAt w g sa sn sc ca cn cc fa fn fc P) (hat : NumsAt w la ln L) (hln : ln ≤ 17592186044000) (ht : NumsAt w ta tn ts) (htn : tn ≤ 140737488355328) (hr : ∀ z ∈ ts, InR z) (hN : InR N) (ham : Among (usesL K A B C L) tn) :
    Calls Tryd.prog 32 #[.pointer (some ⟨g, 0, none⟩), .agg #[.int .i64 K, .int .i64 A, .int .i64 B, .int .i64 C, .int .i64 N, .string S, .slice la ln lc, .bool T], .slice ta tn tc] w (RowPost (rowS P K N S ((usesL K A B C L).map (tyAt ts))) w) := by
  have HD := Lib.hid (decl_none g K h A B C N S la ln lc T L ta tn tc ts (w.alloc (.cells #[.int .i64 K, .int .i64 A, .int .i64 B, .int .i64 C, .int .i64 N, .string S, .slice la ln lc, .bool T] 24)) (hP.since (below1 _ _ _)) (hat.since (below1 _ _ _)) hln (ht.since (below1 _ _ _)) htn hr hN ham)
  clear hP hat ht ham hr hN
  rcases h with h | h
  all_goals
    go_enter Tryd.func32, Tryd.ntmps32
    go_wp2_with (go_at_call 39; (with_reducible refine (HD.out).mono ?_); rintro e w' ⟨t, rfl, hx, hb⟩)
    exact bodyPost_ret (v := .tuple #[.int .i64 t, .bool _]) (by simp [results, Tryd.results32, go_sem]) rfl ⟨t, rfl, hx, (below1 _ _ _).trans (hb.mono (by simp))⟩

theorem row_any (g : Nat) {sa : Option Addr} {sn sc : Nat} {ca : Option Addr} {cn cc : Nat} {fa : Option Addr} {fn fc : Nat} {P : ProgD} (K : Int) (A B C N : Int) (S : ByteArray) (la : Option Addr) (ln lc : Nat) (T : Bool) (L : List Int) (ta : Option Addr) (tn tc : Nat) (ts : List Int) (w : World)
    (hP : ProgAt w g sa sn sc ca cn cc fa fn fc P) (hat : NumsAt w la ln L) (hln : ln ≤ 17592186044000) (ht : NumsAt w ta tn ts) (htn : tn ≤ 140737488355328) (hr : ∀ z ∈ ts, InR z) (hN : InR N) (ham : Among (usesL K A B C L) tn) :
    Calls Tryd.prog 32 #[.pointer (some ⟨g, 0, none⟩), .agg #[.int .i64 K, .int .i64 A, .int .i64 B, .int .i64 C, .int .i64 N, .string S, .slice la ln lc, .bool T], .slice ta tn tc] w (RowPost (rowS P K N S ((usesL K A B C L).map (tyAt ts))) w) := by
  rcases kinds K with h | h
  · rcases h with rfl | rfl | rfl | rfl | rfl | rfl | rfl | rfl | rfl | rfl | rfl | rfl | rfl | rfl | rfl | rfl | rfl | rfl | rfl | rfl | rfl | rfl | rfl | rfl | rfl | rfl
    · exact row_0 _ P A B C N S la ln lc T L ta tn tc ts w ht htn ham
    · exact row_1 _ P A B C N S la ln lc T L ta tn tc ts w ht htn ham
    · exact row_2 _ P A B C N S la ln lc T L ta tn tc ts w ht htn ham
    · exact row_3 _ P A B C N S la ln lc T L ta tn tc ts w ht htn ham
    · exact row_4 _ P A B C N S la ln lc T L ta tn tc ts w ht htn ham
    · exact row_5 _ P A B C N S la ln lc T L ta tn tc ts w ht htn ham
    · exact row_6 _ P A B C N S la ln lc T L ta tn tc ts w ht htn ham
    · exact row_7 _ P A B C N S la ln lc T L ta tn tc ts w ht htn ham
    · exact row_8 _ P A B C N S la ln lc T L ta tn tc ts w ht htn ham
    · exact row_9 g A B C N S la ln lc T L ta tn tc ts w hP hat hln ht htn hr hN ham
    · exact row_10 g A B C N S la ln lc T L ta tn tc ts w hP hat hln ht htn hr hN ham
    · exact row_11 g A B C N S la ln lc T L ta tn tc ts w hP hat hln ht htn hr hN ham
    · exact row_12 _ P A B C N S la ln lc T L ta tn tc ts w ht htn ham
    · exact row_13 _ P A B C N S la ln lc T L ta tn tc ts w ht htn ham
    · exact row_14 _ P A B C N S la ln lc T L ta tn tc ts w ht htn ham
    · exact row_15 _ P A B C N S la ln lc T L ta tn tc ts w ht htn ham
    · exact row_16 _ P A B C N S la ln lc T L ta tn tc ts w ht htn ham
    · exact row_17 _ P A B C N S la ln lc T L ta tn tc ts w ht htn ham
    · exact row_18 _ P A B C N S la ln lc T L ta tn tc ts w ht htn ham
    · exact row_19 _ P A B C N S la ln lc T L ta tn tc ts w ht htn ham
    · exact row_20 _ P A B C N S la ln lc T L ta tn tc ts w ht htn ham
    · exact row_21 _ P A B C N S la ln lc T L ta tn tc ts w ht htn ham
    · exact row_22 g A B C N S la ln lc T L ta tn tc ts w hP hat hln ht htn hr hN ham
    · exact row_23 g A B C N S la ln lc T L ta tn tc ts w hP hat hln ht htn hr hN ham
    · exact row_24 g A B C N S la ln lc T L ta tn tc ts w hP hat hln ht htn hr hN ham
    · exact row_25 _ P A B C N S la ln lc T L ta tn tc ts w ht htn ham
  · exact row_none g K h A B C N S la ln lc T L ta tn tc ts w hP hat hln ht htn hr hN ham
end Go.Proofs.YtgkcbaakdphigaaDoor

namespace Go.Proofs.YtgkcbaakdphigaaDoor
open Go.RowKit (wrap64 intOf Below)
set_option linter.unusedVariables false

/-- What the chapter says of a step: the type of what it comes to, and whether it can be. -/
def resS (P : ProgD) (K A B C N : Int) (S : ByteArray) (L ts : List Int) : Int × Bool :=
  if usesB K A B C L ts.length = true then (if (rowS P K N S ((usesL K A B C L).map (tyAt ts))).2 = true then ((rowS P K N S ((usesL K A B C L).map (tyAt ts))).1, true) else (-1, false)) else (-1, false)
def ResPost (r : Int × Bool) (w : World) (e : Ending) (w' : World) : Prop := e = .returned (.tuple #[.int .i64 r.1, .bool r.2]) ∧ Below w.heap.size w w'
theorem among_of {K A B C : Int} {L : List Int} {n : Nat} (h : usesB K A B C L n = true) : Among (usesL K A B C L) n := fun v hv => by
  unfold usesB at h
  exact of_decide_eq_true (List.all_eq_true.1 h v hv)

set_option maxRecDepth 100000 in
theorem kresult_any (g : Nat) {sa : Option Addr} {sn sc : Nat} {ca : Option Addr} {cn cc : Nat} {fa : Option Addr} {fn fc : Nat} {P : ProgD} (K A B C N : Int) (S : ByteArray) (la : Option Addr) (ln lc : Nat) (T : Bool) (L : List Int) (ta : Option Addr) (tn tc : Nat) (ts : List Int) (w : World)
    (hft : FT w) (hP : ProgAt w g sa sn sc ca cn cc fa fn fc P) (hat : NumsAt w la ln L) (hln : ln ≤ 17592186044000) (ht : NumsAt w ta tn ts) (htn : tn ≤ 140737488355328) (hr : ∀ z ∈ ts, InR z) (hN : InR N) :
    Calls Tryd.prog 23 #[.pointer (some ⟨g, 0, none⟩), .agg #[.int .i64 K, .int .i64 A, .int .i64 B, .int .i64 C, .int .i64 N, .string S, .slice la ln lc, .bool T], .slice ta tn tc] w (ResPost (resS P K A B C N S L ts) w) := by
  obtain ⟨W0, hW0⟩ : ∃ W0, W0 = w.alloc (.cells #[.int .i64 K, .int .i64 A, .int .i64 B, .int .i64 C, .int .i64 N, .string S, .slice la ln lc, .bool T] 24) := ⟨_, rfl⟩
  have hw0 : ∀ u, Below (w.heap.size + 1) W0 u → Below w.heap.size w u := fun u hu => by rw [hW0] at hu; exact first_below hu
  have H2 : RowKit.Hid (Below (w.heap.size + 1) W0 W0) := Lib.hid (Below.refl _ _)
  have HZ : RowKit.Hid (w.heap.size + 1 ≤ W0.heap.size) := Lib.hid (by rw [hW0]; simp)
  have hlt := ht.1
  have HAL := Lib.hid (all_uses K A B C N S la ln lc T L (tn : Int) W0 (hft.since (hw0 _ H2.out)) (hat.since (hw0 _ H2.out)) hln)
  have HC : RowKit.Hid (∀ u, Below (w.heap.size + 1) W0 u → ∀ j, u.cell? ⟨w.heap.size, j, none⟩ = (#[.int .i64 K, .int .i64 A, .int .i64 B, .int .i64 C, .int .i64 N, .string S, .slice la ln lc, .bool T] : Array Value)[j]?) := Lib.hid (fun u hu => by rw [hW0] at hu; exact cell_first hu)
  have HW := Lib.hid hw0
  cases hu : usesB K A B C L (tn : Int) with
  | false =>
    have HR : RowKit.Hid (resS P K A B C N S L ts = (-1, false)) := Lib.hid (by unfold resS; rw [hlt, hu]; rfl)
    rw [hu] at HAL
    clear hft hP hat ht hr hN hw0 hu hlt
    go_enter Tryd.func23, Tryd.ntmps23
    go_wp2_with fail
    rw [← hW0]
    clear hW0
    refine (HAL.out).mono ?_
    rintro e w1 ⟨rfl, hb1⟩
    have HB1 := Lib.hid (keepN H2.out HZ.out hb1)
    clear hb1
    go_wp2_with fail
    refine bodyPost_ret (v := .tuple #[.int .i64 (-1), .bool false]) (by simp [results, Tryd.results23, go_sem]) rfl ⟨by rw [HR.out], HW.out _ HB1.out⟩
  | true =>
    have HRW := Lib.hid (fun u hu' => row_any g K A B C N S la ln lc T L ta tn tc ts u (hP.since (hw0 u hu')) (hat.since (hw0 u hu')) hln (ht.since (hw0 u hu')) htn hr hN (among_of hu))
    have hrs : resS P K A B C N S L ts = (if (rowS P K N S ((usesL K A B C L).map (tyAt ts))).2 = true then ((rowS P K N S ((usesL K A B C L).map (tyAt ts))).1, true) else (-1, false)) := by unfold resS; rw [hlt, if_pos hu]
    obtain ⟨r1, r2, hrr⟩ : ∃ r1 r2, rowS P K N S ((usesL K A B C L).map (tyAt ts)) = (r1, r2) := ⟨_, _, rfl⟩
    rw [hrr] at hrs HRW
    rw [hu] at HAL
    clear hft hP hat ht hr hN hw0 hu hlt hrr
    cases r2 with
    | false =>
      have HR : RowKit.Hid (resS P K A B C N S L ts = (-1, false)) := Lib.hid hrs
      clear hrs
      go_enter Tryd.func23, Tryd.ntmps23
      go_wp2_with fail
      rw [← hW0]
      clear hW0
      refine (HAL.out).mono ?_
      rintro e w1 ⟨rfl, hb1⟩
      have HB1 := Lib.hid (keepN H2.out HZ.out hb1)
      have hcc := HC.out _ HB1.out
      clear hb1
      go_wp2_with fail
      refine (HRW.out _ HB1.out).mono ?_
      rintro e w2 ⟨t, rfl, _, hb2⟩
      have HB2 := Lib.hid (keepN HB1.out HZ.out hb2)
      clear hb2
      go_wp2_with fail
      refine bodyPost_ret (v := .tuple #[.int .i64 (-1), .bool false]) (by simp [results, Tryd.results23, go_sem]) rfl ⟨by rw [HR.out], HW.out _ HB2.out⟩
    | true =>
      have HR : RowKit.Hid (resS P K A B C N S L ts = (r1, true)) := Lib.hid hrs
      clear hrs
      go_enter Tryd.func23, Tryd.ntmps23
      go_wp2_with fail
      rw [← hW0]
      clear hW0
      refine (HAL.out).mono ?_
      rintro e w1 ⟨rfl, hb1⟩
      have HB1 := Lib.hid (keepN H2.out HZ.out hb1)
      have hcc := HC.out _ HB1.out
      clear hb1
      go_wp2_with fail
      refine (HRW.out _ HB1.out).mono ?_
      rintro e w2 ⟨t, rfl, ht1, hb2⟩
      have HB2 := Lib.hid (keepN HB1.out HZ.out hb2)
      have HT1 := Lib.hid (ht1 rfl)
      clear hb2 ht1
      go_wp2_with fail
      refine bodyPost_ret (v := .tuple #[.int .i64 t, .bool true]) (by simp [results, Tryd.results23, go_sem]) rfl ⟨by rw [HR.out, HT1.out], HW.out _ HB2.out⟩
end Go.Proofs.YtgkcbaakdphigaaDoor

namespace Go.Proofs.YtgkcbaakdphigaaDoor
open Go.RowKit (wrap64 intOf Below)
set_option linter.unusedVariables false

theorem rkinds (K : Int) : (K = 0 ∨ K = 1 ∨ K = 2 ∨ K = 3 ∨ K = 4 ∨ K = 5 ∨ K = 6 ∨ K = 7 ∨ K = 8 ∨ K = 9 ∨ K = 10 ∨ K = 11 ∨ K = 12 ∨ K = 13 ∨ K = 14 ∨ K = 15 ∨ K = 16 ∨ K = 17 ∨ K = 18 ∨ K = 19 ∨ K = 20 ∨ K = 21 ∨ K = 22 ∨ K = 23 ∨ K = 24 ∨ K = 25) ∨ (K < 0 ∨ 25 < K) := by omega
/-- So many types as the kind has values. -/
def TypesFit (K : Int) (l : List Int) : Prop := (K = 0 ∨ K = 1 ∨ K = 2 ∨ K = 12 ∨ K = 17 → l = []) ∧ (K = 10 ∨ K = 22 ∨ K = 25 → ∃ x, l = [x]) ∧ (K = 11 → ∃ x y, l = [x, y]) ∧ (K = 24 → ∃ x m, l = x :: m)
theorem fits_uses (K A B C : Int) (L ts : List Int) : TypesFit K ((usesL K A B C L).map (tyAt ts)) := by
  refine ⟨?_, ?_, ?_, ?_⟩
  · rintro (rfl | rfl | rfl | rfl | rfl) <;> rfl
  · rintro (rfl | rfl | rfl) <;> exact ⟨_, rfl⟩
  · rintro rfl; exact ⟨_, _, rfl⟩
  · rintro rfl; exact ⟨_, _, rfl⟩
theorem rres_any (g : Nat) {sa : Option Addr} {sn sc : Nat} {ca : Option Addr} {cn cc : Nat} {fa : Option Addr} {fn fc : Nat} {P : ProgD} (K A B C N : Int) (S : ByteArray) (la : Option Addr) (ln lc : Nat) (T : Bool) (va : Option Addr) (vn vc : Nat) (l : List Int) (w : World) (hfit : TypesFit K l) (hcap : vn ≤ vc)
    (hP : ProgAt w g sa sn sc ca cn cc fa fn fc P) (hv : NumsAt w va vn l) (hvn : vn ≤ 140737488355328) (hr : ∀ z ∈ l, InR z) (hN : InR N) :
    Calls Tryd.prog 33 #[.pointer (some ⟨g, 0, none⟩), .agg #[.int .i64 K, .int .i64 A, .int .i64 B, .int .i64 C, .int .i64 N, .string S, .slice la ln lc, .bool T], .slice va vn vc] w (RowPost (rowS P K N S l) w) := by
  obtain ⟨h0, h1, h2, h3⟩ := hfit
  rcases rkinds K with h | h
  · rcases h with rfl | rfl | rfl | rfl | rfl | rfl | rfl | rfl | rfl | rfl | rfl | rfl | rfl | rfl | rfl | rfl | rfl | rfl | rfl | rfl | rfl | rfl | rfl | rfl | rfl | rfl
    · obtain rfl := h0 (by simp)
      have hz : vn = 0 := hv.1.symm
      subst hz
      exact rres_0 _ P A B C N S la ln lc T va vc w hv
    · obtain rfl := h0 (by simp)
      have hz : vn = 0 := hv.1.symm
      subst hz
      exact rres_1 _ P A B C N S la ln lc T va vc w hv
    · obtain rfl := h0 (by simp)
      have hz : vn = 0 := hv.1.symm
      subst hz
      exact rres_2 _ P A B C N S la ln lc T va vc w hv
    · exact rres_3 _ P A B C N S la ln lc T va vn vc l w hv hvn
    · exact rres_4 _ P A B C N S la ln lc T va vn vc l w hv hvn
    · exact rres_5 _ P A B C N S la ln lc T va vn vc l w hv hvn
    · exact rres_6 _ P A B C N S la ln lc T va vn vc l w hv hvn
    · exact rres_7 _ P A B C N S la ln lc T va vn vc l w hv hvn
    · exact rres_8 _ P A B C N S la ln lc T va vn vc l w hv hvn
    · exact rres_9 g A B C N S la ln lc T va vn vc w l hP hv hvn hr hN
    · obtain ⟨x, rfl⟩ := h1 (by simp)
      exact rres_10 g A B C N S la ln lc T va vn vc w x hP hv hvn hr hN
    · obtain ⟨x, y, rfl⟩ := h2 rfl
      exact rres_11 g A B C N S la ln lc T va vn vc w x y hP hv hvn hr hN
    · obtain rfl := h0 (by simp)
      have hz : vn = 0 := hv.1.symm
      subst hz
      exact rres_12 _ P A B C N S la ln lc T va vc w hv
    · exact rres_13 _ P A B C N S la ln lc T va vn vc l w hv hvn
    · exact rres_14 _ P A B C N S la ln lc T va vn vc l w hv hvn
    · exact rres_15 _ P A B C N S la ln lc T va vn vc l w hv hvn
    · exact rres_16 _ P A B C N S la ln lc T va vn vc l w hv hvn
    · obtain rfl := h0 (by simp)
      have hz : vn = 0 := hv.1.symm
      subst hz
      exact rres_17 _ P A B C N S la ln lc T va vc w hv
    · exact rres_18 _ P A B C N S la ln lc T va vn vc l w hv hvn
    · exact rres_19 _ P A B C N S la ln lc T va vn vc l w hv hvn
    · exact rres_20 _ P A B C N S la ln lc T va vn vc l w hv hvn
    · exact rres_21 _ P A B C N S la ln lc T va vn vc l w hv hvn
    · obtain ⟨x, rfl⟩ := h1 (by simp)
      exact rres_22 g A B C N S la ln lc T va vn vc w x hP hv hvn hr hN
    · exact rres_23 g A B C N S la ln lc T va vn vc w l hP hv hvn hr hN
    · obtain ⟨x, m, rfl⟩ := h3 rfl
      exact rres_24 g A B C N S la ln lc T va vn vc w x m hcap hP hv hvn hr hN
    · obtain ⟨x, rfl⟩ := h1 (by simp)
      exact rres_25 g A B C N S la ln lc T va vn vc w x hP hv hvn hr hN
  · exact rres_none _ P K h A B C N S la ln lc T va vn vc l w
end Go.Proofs.YtgkcbaakdphigaaDoor

namespace Go.Proofs.YtgkcbaakdphigaaDoor
open Go.RowKit (wrap64 intOf Below)
set_option linter.unusedVariables false

theorem uses_len (K A B C : Int) (L : List Int) : (usesL K A B C L).length ≤ L.length + 3 := by
  unfold usesL
  have h1 := oneL_len (hasB K 65) A
  have h2 := oneL_len (hasB K 66) B
  have h3 := oneL_len (hasB K 67) C
  have h4 : (pickL (hasB K 76) L).length ≤ L.length := by unfold pickL; split <;> simp
  simp only [List.length_append]
  omega
theorem OwnsI.cap {w : World} {B : Nat} {e : TypeId} {a : Option Addr} {n c : Nat} {Z : List Int} (h : OwnsI w B e (.slice a n c) Z) : n ≤ c := by
  rcases h.2 with ⟨he, _⟩ | ⟨g, cap, cur, he, _, _, hc, _⟩
  · cases he; exact Nat.le_refl _
  · cases he; exact hc
theorem typesIn {U ts : List Int} {tn : Nat} (hl : ts.length = tn) (hr : ∀ z ∈ ts, InR z) (ha : Among U tn) : ∀ z ∈ U.map (tyAt ts), InR z := by
  intro z hz
  obtain ⟨v, hv, rfl⟩ := List.mem_map.1 hz
  exact hr _ (tyAt_mem hl (ha v hv))
/-- A use that is none. -/
theorem uses_bad {K A B C : Int} {L : List Int} {n k : Nat} (hk : k < (usesL K A B C L).length) {z : Int} (hz : (usesL K A B C L)[k] = z) (hb : z < 0 ∨ (n : Int) ≤ z) : usesB K A B C L (n : Int) = false := by
  unfold usesB
  rw [List.all_eq_false]
  refine ⟨z, by rw [← hz]; exact List.getElem_mem _, ?_⟩
  unfold inB
  simp only [decide_eq_true_eq]
  omega

set_option maxRecDepth 100000 in
set_option maxHeartbeats 8000000 in
theorem rresult_any (g : Nat) {sa : Option Addr} {sn sc : Nat} {ca : Option Addr} {cn cc : Nat} {fa : Option Addr} {fn fc : Nat} {P : ProgD} (K A B C N : Int) (S : ByteArray) (la : Option Addr) (ln lc : Nat) (T : Bool) (L : List Int) (ta : Option Addr) (tn tc : Nat) (ts : List Int) (w : World)
    (hP : ProgAt w g sa sn sc ca cn cc fa fn fc P) (hat : NumsAt w la ln L) (hnil : la = none → lc = 0) (hln : ln ≤ 17592186044000) (ht : NumsAt w ta tn ts) (htn : tn ≤ 140737488355328) (hr : ∀ z ∈ ts, InR z) (hN : InR N) :
    Calls Tryd.prog 24 #[.pointer (some ⟨g, 0, none⟩), .agg #[.int .i64 K, .int .i64 A, .int .i64 B, .int .i64 C, .int .i64 N, .string S, .slice la ln lc, .bool T], .slice ta tn tc] w (ResPost (resS P K A B C N S L ts) w) := by
  obtain ⟨W0, hW0⟩ : ∃ W0, W0 = w.alloc (.cells #[.int .i64 K, .int .i64 A, .int .i64 B, .int .i64 C, .int .i64 N, .string S, .slice la ln lc, .bool T] 24) := ⟨_, rfl⟩
  have hw0 : ∀ u, Below (w.heap.size + 1) W0 u → Below w.heap.size w u := fun u hu => by rw [hW0] at hu; exact first_below hu
  have H2 : RowKit.Hid (Below (w.heap.size + 1) W0 W0) := Lib.hid (Below.refl _ _)
  have HZ : RowKit.Hid (w.heap.size + 1 ≤ W0.heap.size) := Lib.hid (by rw [hW0]; simp)
  have HU := Lib.hid (uses_any K A B C N S la ln lc T L W0 (hat.since (hw0 _ H2.out)) hnil hln)
  have HC : RowKit.Hid (∀ u, Below (w.heap.size + 1) W0 u → ∀ j, u.cell? ⟨w.heap.size, j, none⟩ = (#[.int .i64 K, .int .i64 A, .int .i64 B, .int .i64 C, .int .i64 N, .string S, .slice la ln lc, .bool T] : Array Value)[j]?) := Lib.hid (fun u hu => by rw [hW0] at hu; exact cell_first hu)
  have HW := Lib.hid hw0
  obtain ⟨z0, z1, z2, z3, z4, z5, z6, z7⟩ : W0.cell? ⟨w.heap.size, 0, none⟩ = some (.int .i64 K) ∧ W0.cell? ⟨w.heap.size, 1, none⟩ = some (.int .i64 A) ∧ W0.cell? ⟨w.heap.size, 2, none⟩ = some (.int .i64 B) ∧ W0.cell? ⟨w.heap.size, 3, none⟩ = some (.int .i64 C) ∧ W0.cell? ⟨w.heap.size, 4, none⟩ = some (.int .i64 N) ∧ W0.cell? ⟨w.heap.size, 5, none⟩ = some (.string S) ∧ W0.cell? ⟨w.heap.size, 6, none⟩ = some (.slice la ln lc) ∧ W0.cell? ⟨w.heap.size, 7, none⟩ = some (.bool T) :=
    ⟨HC.out _ H2.out 0, HC.out _ H2.out 1, HC.out _ H2.out 2, HC.out _ H2.out 3, HC.out _ H2.out 4, HC.out _ H2.out 5, HC.out _ H2.out 6, HC.out _ H2.out 7⟩
  have HP := Lib.hid hP
  have HT := Lib.hid ht
  have HRR := Lib.hid hr
  have HNN := Lib.hid hN
  have HUL : RowKit.Hid ((usesL K A B C L).length ≤ 17592186044003) := Lib.hid (by have := uses_len K A B C L; have := hat.1; omega)
  have HRS : RowKit.Hid (resS P K A B C N S L ts = if usesB K A B C L (tn : Int) = true then (if (rowS P K N S ((usesL K A B C L).map (tyAt ts))).2 = true then ((rowS P K N S ((usesL K A B C L).map (tyAt ts))).1, true) else (-1, false)) else (-1, false)) := Lib.hid (by rw [← ht.1]; rfl)
  have HUB : RowKit.Hid (∀ (k : Nat) (hk : k < (usesL K A B C L).length) (z : Int), (usesL K A B C L)[k] = z → (z < 0 ∨ (tn : Int) ≤ z) → resS P K A B C N S L ts = (-1, false)) := Lib.hid (fun k hk z hz hb => by rw [HRS.out, uses_bad hk hz hb]; rfl)
  have HUA : RowKit.Hid (Among (usesL K A B C L) tn → usesB K A B C L (tn : Int) = true) := Lib.hid (fun h => by
    unfold usesB
    rw [List.all_eq_true]
    intro v hv
    exact decide_eq_true (h v hv))
  have HFIT := Lib.hid (fits_uses K A B C L ts)
  clear hP hat hnil ht hr hN hw0
  obtain ⟨U, hU⟩ : ∃ U, usesL K A B C L = U := ⟨_, rfl⟩
  rw [hU] at HU HUL HRS HUA HFIT
  go_enter Tryd.func24, Tryd.ntmps24
  go_wp2_with (go_at_call 17; rw [← hW0]; clear hW0; (with_reducible refine (HU.out).mono ?_); rintro e wc ⟨va, vn, vc, rfl, hown, hb⟩)
  have hvl : U.length = vn := hown.read.1
  have HUN := Lib.hid hown.read
  have hvb : vn ≤ 17592186044003 := by have := HUL.out; omega
  have HBC : RowKit.Hid (Below (w.heap.size + 1) W0 wc) := Lib.hid (keepN H2.out HZ.out hb)
  clear hown hb HU
  go_loopw [9, 10] (fun lv iv wr => ∃ k : Nat, k ≤ vn ∧ iv = .int .i64 (k : Int) ∧ RowKit.Hid (Among (U.take k) tn) ∧ RowKit.Hid (OwnsI wr wc.heap.size 3 lv ((U.take k).map (tyAt ts))) ∧ RowKit.Hid (Below wc.heap.size wc wr)) (fun _ iv _ => vn - (intOf iv).toNat)
  case atStart => exact ⟨0, Nat.zero_le _, rfl, Lib.hid (fun v hv => by simp at hv), Lib.hid (OwnsI.laid rfl (Nat.le_refl _)), Lib.hid ((Below.refl _ _).alloc (Nat.le_refl _) _)⟩
  case round =>
    obtain ⟨k, hk, rfl, HA, HO, HB⟩ := hrel
    have HBW : RowKit.Hid (Below (w.heap.size + 1) W0 wr) := Lib.hid (keepN HBC.out (by have h1 := HZ.out; omega) HB.out)
    by_cases hlt : k < vn
    · have hkl : k < U.length := by omega
      obtain ⟨z, hz⟩ : ∃ z, U[k] = z := ⟨_, rfl⟩
      obtain ⟨ug, uo, rfl, hug, huc⟩ := (HUN.out.since HB.out).2 (by omega)
      have hcu : wr.cell? ⟨ug, uo + k, none⟩ = some (.int .i64 z) := by rw [huc k hkl, hz]; rfl
      clear huc
      by_cases hneg : z < 0
      · have HE : RowKit.Hid (resS P K A B C N S L ts = (-1, false)) := Lib.hid (HUB.out k (by rw [hU]; exact hkl) z (by rw [← hz]; simp only [hU]) (.inl hneg))
        clear hz
        go_wp2_with fail
        refine bodyPost_ret (v := .tuple #[.int .i64 (-1), .bool false]) (by simp [results, Tryd.results24, go_sem]) rfl ⟨by rw [HE.out], HW.out _ HBW.out⟩
      by_cases hbig : (tn : Int) ≤ z
      · have HE : RowKit.Hid (resS P K A B C N S L ts = (-1, false)) := Lib.hid (HUB.out k (by rw [hU]; exact hkl) z (by rw [← hz]; simp only [hU]) (.inr hbig))
        have hd : decide (z < 0) = false := decide_eq_false hneg
        clear hz hneg
        go_wp2_with fail
        refine bodyPost_ret (v := .tuple #[.int .i64 (-1), .bool false]) (by simp [results, Tryd.results24, go_sem]) rfl ⟨by rw [HE.out], HW.out _ HBW.out⟩
      have hd : decide (z < 0) = false := decide_eq_false hneg
      have hd2 : decide ((tn : Int) ≤ z) = false := decide_eq_false hbig
      obtain ⟨j, rfl⟩ := Int.eq_ofNat_of_zero_le (show 0 ≤ z by omega)
      have hjn : j < tn := by omega
      have hjc : (j : Int) < (tn : Int) := by omega
      obtain ⟨tg, to', rfl, _, htc⟩ := (HT.out.since (HW.out _ HBW.out)).2 (by omega)
      have hct : wr.cell? ⟨tg, to' + j, none⟩ = some (.int .i64 (tyAt ts (j : Int))) := by
        have h3 := htc j (by rw [HT.out.1]; exact hjn)
        rw [h3]
        unfold tyAt numV
        rw [nth_is (by rw [HT.out.1]; exact hjn)]
        rfl
      have HS : RowKit.Hid ((U.take k).map (tyAt ts) ++ [tyAt ts (j : Int)] = (U.take (k + 1)).map (tyAt ts)) := Lib.hid (by rw [List.take_succ_eq_append_getElem hkl, hz]; simp)
      have HA2 : RowKit.Hid (Among (U.take (k + 1)) tn) := Lib.hid (by
        rw [List.take_succ_eq_append_getElem hkl, hz]
        intro v hv
        rcases List.mem_append.1 hv with h | h
        · exact HA.out v h
        · obtain rfl := List.mem_singleton.1 h; omega)
      have HL : RowKit.Hid ((((U.take k).map (tyAt ts)).length + 1) * 8 ≤ 140737488355328) := Lib.hid (by rw [List.length_map, List.length_take]; have := HUL.out; omega)
      obtain ⟨y, hy⟩ : ∃ y, tyAt ts (j : Int) = y := ⟨_, rfl⟩
      rw [hy] at hct HS
      have hsz := HB.out.size
      clear htc hz hy hneg hbig
      go_wp2_with (at_builtin; refine wpList_append_num _ rfl _ _ 22 rfl 3 Tryd.underlying22 info_int wc.heap.size _ _ rfl HO.out hsz _ 1 _ y rfl (by simp) rfl HL.out ?_; intro v2 w2 hown hb)
      rw [HS.out] at hown
      have HO2 := Lib.hid hown
      have HB2 := Lib.hid (HB.out.trans hb)
      clear hown hb
      go_wp2_with fail
      go_roundw
      case rel => exact ⟨k + 1, by omega, by go_num, HA2, HO2, HB2⟩
      case measure => simp [intOf]; omega
    · obtain rfl : k = vn := by omega
      have HAA : RowKit.Hid (Among U tn) := Lib.hid (by have := HA.out; rwa [List.take_of_length_le (by omega)] at this)
      have hlo := HO.out
      rw [List.take_of_length_le (by omega)] at hlo
      have HLO := Lib.hid hlo
      clear hlo
      have HRZ := Lib.hid (typesIn HT.out.1 HRR.out HAA.out)
      have HR1 : RowKit.Hid (resS P K A B C N S L ts = (if (rowS P K N S (U.map (tyAt ts))).2 = true then ((rowS P K N S (U.map (tyAt ts))).1, true) else (-1, false))) := Lib.hid (by rw [HRS.out, if_pos (HUA.out HAA.out)])
      obtain ⟨xa, xn, xc, rfl, hxs⟩ := HLO.out.nums
      have HCAP := Lib.hid HLO.out.cap
      have HXN : RowKit.Hid (xn ≤ 140737488355328) := Lib.hid (by have h1 := hxs.1; rw [List.length_map] at h1; have := HUL.out; omega)
      have HQ := Lib.hid (rres_any g K A B C N S la ln lc T xa xn xc (U.map (tyAt ts)) wr HFIT.out HCAP.out (HP.out.since (HW.out _ HBW.out)) hxs HXN.out HRZ.out HNN.out)
      obtain ⟨y0, y1, y2, y3, y4, y5, y6, y7⟩ : wr.cell? ⟨w.heap.size, 0, none⟩ = some (.int .i64 K) ∧ wr.cell? ⟨w.heap.size, 1, none⟩ = some (.int .i64 A) ∧ wr.cell? ⟨w.heap.size, 2, none⟩ = some (.int .i64 B) ∧ wr.cell? ⟨w.heap.size, 3, none⟩ = some (.int .i64 C) ∧ wr.cell? ⟨w.heap.size, 4, none⟩ = some (.int .i64 N) ∧ wr.cell? ⟨w.heap.size, 5, none⟩ = some (.string S) ∧ wr.cell? ⟨w.heap.size, 6, none⟩ = some (.slice la ln lc) ∧ wr.cell? ⟨w.heap.size, 7, none⟩ = some (.bool T) :=
        ⟨HC.out _ HBW.out 0, HC.out _ HBW.out 1, HC.out _ HBW.out 2, HC.out _ HBW.out 3, HC.out _ HBW.out 4, HC.out _ HBW.out 5, HC.out _ HBW.out 6, HC.out _ HBW.out 7⟩
      obtain ⟨r1, r2, hrr⟩ : ∃ r1 r2, rowS P K N S (U.map (tyAt ts)) = (r1, r2) := ⟨_, _, rfl⟩
      rw [hrr] at HR1 HQ
      clear hxs hrr
      cases r2 with
      | false =>
        have HE : RowKit.Hid (resS P K A B C N S L ts = (-1, false)) := Lib.hid HR1.out
        go_wp2_with (go_at_call 33; (with_reducible refine (HQ.out).mono ?_); rintro e w' ⟨t, rfl, hx, hb⟩)
        have HBR : RowKit.Hid (Below (w.heap.size + 1) W0 w') := Lib.hid (keepN HBW.out HZ.out hb)
        go_wp2_with fail
        refine bodyPost_ret (v := .tuple #[.int .i64 (-1), .bool false]) (by simp [results, Tryd.results24, go_sem]) rfl ⟨by rw [HE.out], HW.out _ HBR.out⟩
      | true =>
        have HE : RowKit.Hid (resS P K A B C N S L ts = (r1, true)) := Lib.hid HR1.out
        go_wp2_with (go_at_call 33; (with_reducible refine (HQ.out).mono ?_); rintro e w' ⟨t, rfl, hx, hb⟩)
        have HBR : RowKit.Hid (Below (w.heap.size + 1) W0 w') := Lib.hid (keepN HBW.out HZ.out hb)
        obtain rfl : t = r1 := by simpa using hx
        go_wp2_with fail
        refine bodyPost_ret (v := .tuple #[.int .i64 t, .bool true]) (by simp [results, Tryd.results24, go_sem]) rfl ⟨by rw [HE.out], HW.out _ HBR.out⟩
end Go.Proofs.YtgkcbaakdphigaaDoor

namespace Go.Proofs.YtgkcbaakdphigaaDoor
open Go.RowKit (wrap64 intOf Below)
set_option linter.unusedVariables false
theorem pickL_pick (b : Bool) (l : List Int) : pickL b (pickL b l) = pickL b l := by cases b <;> rfl
theorem pickL_len (b : Bool) (l : List Int) : (pickL b l).length ≤ l.length := by cases b <;> simp [pickL]

theorem uses_plain (K A B C : Int) (L : List Int) : usesL K (pickI (hasB K 65) A) (pickI (hasB K 66) B) (pickI (hasB K 67) C) (pickL (hasB K 76) L) = usesL K A B C L := by
  unfold usesL
  rw [pickL_pick]
  congr 1; congr 1; congr 1
  · cases hasB K 65 <;> rfl
  · cases hasB K 66 <;> rfl
  · cases hasB K 67 <;> rfl
theorem rowS_plain (P : ProgD) (K N : Int) (S : ByteArray) (l : List Int) : rowS P K (pickI (hasB K 78) N) (pickS (hasB K 83) S) l = rowS P K N S l := by
  rcases rkinds K with h | h
  · rcases h with rfl | rfl | rfl | rfl | rfl | rfl | rfl | rfl | rfl | rfl | rfl | rfl | rfl | rfl | rfl | rfl | rfl | rfl | rfl | rfl | rfl | rfl | rfl | rfl | rfl | rfl <;> rfl
  · rw [rrowS_none h, rrowS_none h]
/-- What is no part of a step plays no part in its result. -/
theorem resS_plain (P : ProgD) (K A B C N : Int) (S : ByteArray) (L ts : List Int) : resS P K (pickI (hasB K 65) A) (pickI (hasB K 66) B) (pickI (hasB K 67) C) (pickI (hasB K 78) N) (pickS (hasB K 83) S) (pickL (hasB K 76) L) ts = resS P K A B C N S L ts := by
  unfold resS usesB
  rw [uses_plain, rowS_plain]
theorem small_any (g : Nat) {sa : Option Addr} {sn sc : Nat} {ca : Option Addr} {cn cc : Nat} {fa : Option Addr} {fn fc : Nat} {P : ProgD} (w : World) (hP : ProgAt w g sa sn sc ca cn cc fa fn fc P) :
    Calls Tryd.prog 22 #[.pointer (some ⟨g, 0, none⟩)] w fun e w' => ∃ b, e = .returned (.bool b) ∧ w = w' := by
  have c0 := hP.c0
  have c1 := hP.c1
  have c2 := hP.c2
  clear hP
  by_cases h1 : (cn : Int) < 50
  · by_cases h2 : (fn : Int) < 50
    · by_cases h3 : (sn : Int) < 50
      · go_enter Tryd.func22, Tryd.ntmps22
        go_wp2
        go_ret
        exact ⟨true, rfl, rfl⟩
      · have h3' : (50 : Int) ≤ sn := by omega
        have hd : decide ((sn : Int) < 50) = false := decide_eq_false h3
        clear h3
        go_enter Tryd.func22, Tryd.ntmps22
        go_wp2
        go_ret
        exact ⟨false, rfl, rfl⟩
    · have hd : decide ((fn : Int) < 50) = false := decide_eq_false h2
      clear h2
      go_enter Tryd.func22, Tryd.ntmps22
      go_wp2
      go_ret
      exact ⟨false, rfl, rfl⟩
  · have hd : decide ((cn : Int) < 50) = false := decide_eq_false h1
    clear h1
    go_enter Tryd.func22, Tryd.ntmps22
    go_wp2
    go_ret
    exact ⟨false, rfl, rfl⟩
set_option maxRecDepth 100000 in
set_option maxHeartbeats 8000000 in
theorem kresults_walk {sa : Option Addr} {sn sc : Nat} {ca : Option Addr} {cn cc : Nat} {fa : Option Addr} {fn fc : Nat} {P : ProgD} (K A B C N : Int) (S : ByteArray) (la : Option Addr) (ln lc : Nat) (T : Bool) (L : List Int) (ta : Option Addr) (tn tc : Nat) (ts : List Int) (w : World)
    (hft : FT w) (hs : RowV SigQ 2 w (.slice sa sn sc) P.sigs) (hc : RowV ClassQ 2 w (.slice ca cn cc) P.classes) (hf : RowV FuncQ 2 w (.slice fa fn fc) P.funcs) (hat : NumsAt w la ln L) (hnil : la = none → lc = 0) (hln : ln ≤ 17592186044000) (ht : NumsAt w ta tn ts) (htn : tn ≤ 17592186044000) (hr : ∀ z ∈ ts, InR z) (hN : InR N) :
    Calls Tryd.prog 6 #[.agg #[.slice sa sn sc, .slice ca cn cc, .slice fa fn fc], .agg #[.int .i64 K, .int .i64 A, .int .i64 B, .int .i64 C, .int .i64 N, .string S, .slice la ln lc, .bool T], .slice ta tn tc] w fun e w' => e = .returned (.bool true) ∧ Below w.heap.size w w' := by
  obtain ⟨W0, hW0⟩ : ∃ W0, W0 = ((w.alloc (.cells #[.slice sa sn sc, .slice ca cn cc, .slice fa fn fc] 39)).alloc (.cells #[.int .i64 K, .int .i64 A, .int .i64 B, .int .i64 C, .int .i64 N, .string S, .slice la ln lc, .bool T] 24)) := ⟨_, rfl⟩
  have hw0 : Below w.heap.size w W0 := by rw [hW0]; exact below2 _ _ _ _ _
  have HW : RowKit.Hid (∀ u, Below W0.heap.size W0 u → Below w.heap.size w u) := Lib.hid (fun u hu => hw0.trans (hu.mono hw0.size))
  have hp0 : ProgAt W0 w.heap.size sa sn sc ca cn cc fa fn fc P := by
    have hb : Below (w.heap.size + 2) W0 W0 := Below.refl _ _
    rw [hW0] at hb
    have := cell_laid2 hb
    refine ⟨?_, ?_, ?_, hs.since SigQ.lasts hw0, hc.since ClassQ.lasts hw0, hf.since FuncQ.lasts hw0⟩ <;> rw [hW0] <;> first | exact this.1 0 | exact this.1 1 | exact this.1 2
  have hc0 : ∀ j, W0.cell? ⟨w.heap.size + 1, j, none⟩ = (#[.int .i64 K, .int .i64 A, .int .i64 B, .int .i64 C, .int .i64 N, .string S, .slice la ln lc, .bool T] : Array Value)[j]? := fun j => by
    have hb : Below (w.heap.size + 2) W0 W0 := Below.refl _ _
    rw [hW0] at hb ⊢
    exact (cell_laid2 hb).2.1 j
  have HP : RowKit.Hid (∀ u, Below W0.heap.size W0 u → ProgAt u w.heap.size sa sn sc ca cn cc fa fn fc P) := Lib.hid (fun u hu => hp0.since hu)
  have HC : RowKit.Hid (∀ u, Below W0.heap.size W0 u → u.cell? ⟨w.heap.size + 1, 0, none⟩ = some (.int .i64 K) ∧ u.cell? ⟨w.heap.size + 1, 1, none⟩ = some (.int .i64 A) ∧ u.cell? ⟨w.heap.size + 1, 2, none⟩ = some (.int .i64 B) ∧ u.cell? ⟨w.heap.size + 1, 3, none⟩ = some (.int .i64 C) ∧ u.cell? ⟨w.heap.size + 1, 4, none⟩ = some (.int .i64 N) ∧ u.cell? ⟨w.heap.size + 1, 5, none⟩ = some (.string S) ∧ u.cell? ⟨w.heap.size + 1, 6, none⟩ = some (.slice la ln lc) ∧ u.cell? ⟨w.heap.size + 1, 7, none⟩ = some (.bool T)) := Lib.hid (fun u hu => by
    have hsz : w.heap.size + 1 < W0.heap.size := by rw [hW0]; simp
    refine ⟨?_, ?_, ?_, ?_, ?_, ?_, ?_, ?_⟩ <;> (rw [hu.cell (p := ⟨w.heap.size + 1, _, none⟩) hsz, hc0]; rfl))
  have HFT : RowKit.Hid (∀ u, Below W0.heap.size W0 u → FT u) := Lib.hid (fun u hu => hft.since (HW.out u hu))
  have HA : RowKit.Hid (∀ u, Below W0.heap.size W0 u → NumsAt u la ln L) := Lib.hid (fun u hu => hat.since (HW.out u hu))
  have HT : RowKit.Hid (∀ u, Below W0.heap.size W0 u → NumsAt u ta tn ts) := Lib.hid (fun u hu => ht.since (HW.out u hu))
  have HR := Lib.hid hr
  have HN := Lib.hid hN
  have HNIL := Lib.hid hnil
  have HLN := Lib.hid hat.1
  have HPL := Lib.hid (pickL_len (hasB K 76) L)
  have HSM := Lib.hid (small_any w.heap.size W0 hp0)
  have HB0 : RowKit.Hid (Below W0.heap.size W0 W0) := Lib.hid (Below.refl _ _)
  have HRP := Lib.hid (resS_plain P K A B C N S L ts)
  have HNP : RowKit.Hid (InR (pickI (hasB K 78) N)) := Lib.hid (by unfold pickI; split; exact hN; exact ⟨by decide, by decide⟩)
  clear hft hs hc hf hat hnil ht hr hN hw0 hp0 hc0
  go_enter Tryd.func6, Tryd.ntmps6
  go_wp2_with fail
  rw [← hW0]
  clear hW0
  refine (HSM.out).mono ?_
  rintro e W' ⟨b, rfl, rfl⟩
  cases b with
  | false =>
    go_wp2_with fail
    refine (klives_any _ (HFT.out _ HB0.out)).mono ?_
    rintro e w2 ⟨rfl, hb2⟩
    have HB2 := Lib.hid (HW.out _ hb2)
    clear hb2
    go_wp2_with fail
    go_ret
    exact ⟨rfl, HB2.out⟩
  | true =>
    obtain ⟨y0, y1, y2, y3, y4, y5, y6, y7⟩ := HC.out W0 HB0.out
    go_wp2_with fail
    clear y0 y1 y2 y3 y4 y5 y6 y7
    refine (own_op K A B C N S la ln lc T L _ (HA.out _ HB0.out) HNIL.out (by omega)).mono ?_
    rintro e w1 ⟨va1, vn1, vc1, rfl, hown1, hb1⟩
    have HB1 := Lib.hid hb1
    have HO1 := Lib.hid hown1
    have hl1 : vn1 = ln := by rw [← hown1.read.1]; exact HLN.out
    subst hl1
    clear hb1 hown1
    go_wp2_with (at_builtin; refine wpList_copy_read _ rfl _ _ 22 rfl 3 Tryd.underlying22 info_int _ rfl ta tn tc ts rfl (HT.out _ (below_alloc HB1.out)) (by omega) ?_; intro va5 vc5 w5 hnum5 hb5)
    have HB5 : RowKit.Hid (Below W0.heap.size W0 w5) := Lib.hid (keepN (below_alloc HB1.out) (Nat.le_refl _) hb5)
    have HO5 := Lib.hid ((HO1.out.read.since (below_alloc (Below.refl _ _))).since hb5)
    have HN5 := Lib.hid hnum5
    clear hb5 hnum5
    have HQ := Lib.hid (kresult_any w.heap.size K A B C N S va1 vn1 vc1 T L (some va5) tn vc5 ts w5 (HFT.out _ HB5.out) (HP.out _ HB5.out) HO5.out hln HN5.out (by omega) HR.out HN.out)
    obtain ⟨r1, r2, hrr⟩ : ∃ r1 r2, resS P K A B C N S L ts = (r1, r2) := ⟨_, _, rfl⟩
    rw [hrr] at HQ HRP
    have HRR := Lib.hid hrr
    clear hrr
    go_wp2_with (go_at_call 23; (refine (HQ.out).mono ?_); rintro e w6 ⟨rfl, hb6⟩; have HB6 : RowKit.Hid (Below W0.heap.size W0 w6) := Lib.hid (keepN HB5.out (Nat.le_refl _) hb6); clear hb6; obtain ⟨y0, y1, y2, y3, y4, y5, y6, y7⟩ := HC.out w6 HB6.out)
    clear y0 y1 y2 y3 y4 y5 y6 y7
    have HQ2 := Lib.hid (rresult_any w.heap.size K A B C N S la vn1 lc T L ta tn tc ts w6 (HP.out _ HB6.out) (HA.out _ HB6.out) HNIL.out hln (HT.out _ HB6.out) (by omega) HR.out HN.out)
    rw [HRR.out] at HQ2
    refine (HQ2.out).mono ?_
    rintro e w7 ⟨rfl, hb7⟩
    have HB7 : RowKit.Hid (Below W0.heap.size W0 w7) := Lib.hid (keepN HB6.out (Nat.le_refl _) hb7)
    clear hb7
    obtain ⟨y0, y1, y2, y3, y4, y5, y6, y7⟩ := HC.out w7 HB7.out
    go_wp2_with fail
    clear y0 y1 y2 y3 y4 y5 y6 y7
    refine (own_op K A B C N S la vn1 lc T L _ (HA.out _ HB7.out) HNIL.out (by omega)).mono ?_
    rintro e w8 ⟨va8, vn8, vc8, rfl, hown8, hb8⟩
    have HB8 : RowKit.Hid (Below W0.heap.size W0 w8) := Lib.hid (keepN HB7.out (Nat.le_refl _) hb8)
    have HO8 := Lib.hid hown8
    have hl8 : vn8 = vn1 := by rw [← hown8.read.1]; exact HLN.out
    subst hl8
    clear hb8 hown8
    go_wp2_with fail
    refine (kplain_any K A B C N S va8 vn8 vc8 T L _ (HFT.out _ HB8.out) HO8.out.read HO8.out.nilcap (by omega)).mono ?_
    rintro e w9 ⟨va9, vn9, vc9, rfl, hown9, hb9⟩
    have HB9 : RowKit.Hid (Below W0.heap.size W0 w9) := Lib.hid (keepN HB8.out (Nat.le_refl _) hb9)
    have HO9 := Lib.hid hown9
    have HL9 : RowKit.Hid (vn9 ≤ 17592186044000) := Lib.hid (by have h1 := hown9.read.1; have h2 := HPL.out; have h3 := HLN.out; omega)
    clear hb9 hown9
    go_wp2_with (at_builtin; refine wpList_copy_read _ rfl _ _ 22 rfl 3 Tryd.underlying22 info_int _ rfl ta tn tc ts rfl (HT.out _ ((HB9.out).alloc HB9.out.size _)) (by omega) ?_; intro va10 vc10 w10 hnum10 hb10)
    have HB10 : RowKit.Hid (Below W0.heap.size W0 w10) := Lib.hid (keepN ((HB9.out).alloc HB9.out.size _) (Nat.le_refl _) hb10)
    have HO10 := Lib.hid ((HO9.out.read.since (below_alloc (Below.refl _ _))).since hb10)
    have HN10 := Lib.hid hnum10
    clear hb10 hnum10
    have HQ3 := Lib.hid (kresult_any w.heap.size K (pickI (hasB K 65) A) (pickI (hasB K 66) B) (pickI (hasB K 67) C) (pickI (hasB K 78) N) (pickS (hasB K 83) S) va9 vn9 vc9 (hasB K 75 && T) (pickL (hasB K 76) L) (some va10) tn vc10 ts w10 (HFT.out _ HB10.out) (HP.out _ HB10.out) HO10.out HL9.out HN10.out (by omega) HR.out HNP.out)
    rw [HRP.out] at HQ3
    go_wp2_with (go_at_call 23; (refine (HQ3.out).mono ?_); rintro e w11 ⟨rfl, hb11⟩; have HB11 : RowKit.Hid (Below W0.heap.size W0 w11) := Lib.hid (keepN HB10.out (Nat.le_refl _) hb11); clear hb11)
    refine (klives_any _ (HFT.out _ HB11.out)).mono ?_
    rintro e w12 ⟨rfl, hb12⟩
    have HB12 := Lib.hid (HW.out _ (keepN HB11.out (Nat.le_refl _) hb12))
    clear hb12
    go_wp2_with fail
    go_ret
    exact ⟨rfl, HB12.out⟩
end Go.Proofs.YtgkcbaakdphigaaDoor

namespace Go.Proofs.YtgkcbaakdphigaaDoor
open Go.ChangeShapes Go.WideShapes Go.ChangeAt Go.RowKit Go.Joins Go.Deep
set_option linter.unusedVariables false

section
variable {H : Type} {enc : TypeId × Value → H}
theorem opens_ints : Opens enc Tryd.prog 22 (fun W cs Z => ∃ v, cs = [v] ∧ NumsV W v Z) := opens_nums Tryd.underlying22 Tryd.underlying3 (by kernel_rfl) (by kernel_rfl)
theorem opens_op : Opens enc Tryd.prog 24 OpQ := by
  intro W fuel cs y h hlt hfit
  have hcl := struct_len Tryd.underlying24 h
  rw [show Tryd.prog.cellsOf 24 = 8 by kernel_rfl] at hcl
  obtain ⟨K, e0, r0⟩ := opens_part Tryd.underlying24 h hlt hfit 0 rfl (o := 0) (k := 1) rfl (by kernel_rfl) rfl (opens_int Tryd.underlying3)
  obtain ⟨A, e1, r1⟩ := opens_part Tryd.underlying24 h hlt hfit 1 rfl (o := 1) (k := 1) rfl (by kernel_rfl) rfl (opens_int Tryd.underlying3)
  obtain ⟨B, e2, r2⟩ := opens_part Tryd.underlying24 h hlt hfit 2 rfl (o := 2) (k := 1) rfl (by kernel_rfl) rfl (opens_int Tryd.underlying3)
  obtain ⟨C, e3, r3⟩ := opens_part Tryd.underlying24 h hlt hfit 3 rfl (o := 3) (k := 1) rfl (by kernel_rfl) rfl (opens_int Tryd.underlying3)
  obtain ⟨N, e4, r4⟩ := opens_part Tryd.underlying24 h hlt hfit 4 rfl (o := 4) (k := 1) rfl (by kernel_rfl) rfl (opens_int Tryd.underlying2)
  obtain ⟨S, e5, r5⟩ := opens_part Tryd.underlying24 h hlt hfit 5 rfl (o := 5) (k := 1) rfl (by kernel_rfl) rfl (opens_text Tryd.underlying9)
  obtain ⟨L, l, e6, r6⟩ := opens_part Tryd.underlying24 h hlt hfit 6 rfl (o := 6) (k := 1) rfl (by kernel_rfl) rfl opens_ints
  obtain ⟨T, e7⟩ := opens_part Tryd.underlying24 h hlt hfit 7 rfl (o := 7) (k := 1) rfl (by kernel_rfl) rfl (opens_bool Tryd.underlying4)
  match cs, hcl with
  | [c0, c1, c2, c3, c4, c5, c6, c7], _ =>
    simp only [List.drop_zero, List.drop_succ_cons, List.take_succ_cons, List.take_zero, List.cons.injEq, and_true] at e0 e1 e2 e3 e4 e5 e6 e7
    subst e0 e1 e2 e3 e4 e5 e6 e7
    exact ⟨⟨K, A, B, C, N, S, L, T⟩, c6, rfl, r0, r1, r2, r3, r4, r5, r6⟩
theorem opens_sig : Opens enc Tryd.prog 76 SigQ := by
  intro W fuel cs y h hlt hfit
  have hcl := struct_len Tryd.underlying76 h
  rw [show Tryd.prog.cellsOf 76 = 2 by kernel_rfl] at hcl
  obtain ⟨L, l, e0, r0⟩ := opens_part Tryd.underlying76 h hlt hfit 0 rfl (o := 0) (k := 1) rfl (by kernel_rfl) rfl opens_ints
  obtain ⟨r, e1, r1⟩ := opens_part Tryd.underlying76 h hlt hfit 1 rfl (o := 1) (k := 1) rfl (by kernel_rfl) rfl (opens_int Tryd.underlying3)
  match cs, hcl with
  | [c0, c1], _ =>
    simp only [List.drop_zero, List.drop_succ_cons, List.take_succ_cons, List.take_zero, List.cons.injEq, and_true] at e0 e1
    subst e0 e1
    exact ⟨⟨L, r⟩, c0, rfl, r0, r1⟩
theorem opens_class : Opens enc Tryd.prog 66 ClassQ := by
  intro W fuel cs y h hlt hfit
  have hcl := struct_len Tryd.underlying66 h
  rw [show Tryd.prog.cellsOf 66 = 2 by kernel_rfl] at hcl
  obtain ⟨L, l, e0, r0⟩ := opens_part Tryd.underlying66 h hlt hfit 0 rfl (o := 0) (k := 1) rfl (by kernel_rfl) rfl opens_ints
  obtain ⟨M, m, e1, r1⟩ := opens_part Tryd.underlying66 h hlt hfit 1 rfl (o := 1) (k := 1) rfl (by kernel_rfl) rfl opens_ints
  match cs, hcl with
  | [c0, c1], _ =>
    simp only [List.drop_zero, List.drop_succ_cons, List.take_succ_cons, List.take_zero, List.cons.injEq, and_true] at e0 e1
    subst e0 e1
    exact ⟨⟨L, M⟩, c0, c1, rfl, r0, r1⟩
theorem opens_end : Opens enc Tryd.prog 72 EndQ := by
  intro W fuel cs y h hlt hfit
  have hcl := struct_len Tryd.underlying72 h
  rw [show Tryd.prog.cellsOf 72 = 6 by kernel_rfl] at hcl
  obtain ⟨K, e0, r0⟩ := opens_part Tryd.underlying72 h hlt hfit 0 rfl (o := 0) (k := 1) rfl (by kernel_rfl) rfl (opens_int Tryd.underlying3)
  obtain ⟨A, e1, r1⟩ := opens_part Tryd.underlying72 h hlt hfit 1 rfl (o := 1) (k := 1) rfl (by kernel_rfl) rfl (opens_int Tryd.underlying3)
  obtain ⟨B, e2, r2⟩ := opens_part Tryd.underlying72 h hlt hfit 2 rfl (o := 2) (k := 1) rfl (by kernel_rfl) rfl (opens_int Tryd.underlying3)
  obtain ⟨C, e3, r3⟩ := opens_part Tryd.underlying72 h hlt hfit 3 rfl (o := 3) (k := 1) rfl (by kernel_rfl) rfl (opens_int Tryd.underlying3)
  obtain ⟨L, l, e4, r4⟩ := opens_part Tryd.underlying72 h hlt hfit 4 rfl (o := 4) (k := 1) rfl (by kernel_rfl) rfl opens_ints
  obtain ⟨M, m, e5, r5⟩ := opens_part Tryd.underlying72 h hlt hfit 5 rfl (o := 5) (k := 1) rfl (by kernel_rfl) rfl opens_ints
  match cs, hcl with
  | [c0, c1, c2, c3, c4, c5], _ =>
    simp only [List.drop_zero, List.drop_succ_cons, List.take_succ_cons, List.take_zero, List.cons.injEq, and_true] at e0 e1 e2 e3 e4 e5
    subst e0 e1 e2 e3 e4 e5
    exact ⟨⟨K, A, B, C, L, M⟩, c4, c5, rfl, r0, r1, r2, r3, r4, r5⟩
theorem opens_block : Opens enc Tryd.prog 74 BlockQ := by
  intro W fuel cs y h hlt hfit
  have hcl := struct_len Tryd.underlying74 h
  rw [show Tryd.prog.cellsOf 74 = 8 by kernel_rfl] at hcl
  obtain ⟨L, l, e0, r0⟩ := opens_part Tryd.underlying74 h hlt hfit 0 rfl (o := 0) (k := 1) rfl (by kernel_rfl) rfl opens_ints
  obtain ⟨O, o, e1, r1⟩ := opens_part Tryd.underlying74 h hlt hfit 1 rfl (o := 1) (k := 1) rfl (by kernel_rfl) rfl (opens_row Tryd.underlying70 (k := 8) (by kernel_rfl) (by decide) (of_decide_eq_true (by kernel_rfl)) opens_op)
  obtain ⟨E, e2⟩ := opens_part Tryd.underlying74 h hlt hfit 2 rfl (o := 2) (k := 6) rfl (by kernel_rfl) rfl opens_end
  match cs, hcl with
  | [c0, c1, c2, c3, c4, c5, c6, c7], _ =>
    simp only [List.drop_zero, List.drop_succ_cons, List.take_succ_cons, List.take_zero, List.cons.injEq, and_true] at e0 e1 e2
    subst e0 e1
    exact ⟨⟨L, O, E⟩, c0, c1, _, rfl, r0, r1, e2⟩
theorem opens_func : Opens enc Tryd.prog 69 FuncQ := by
  intro W fuel cs y h hlt hfit
  have hcl := struct_len Tryd.underlying69 h
  rw [show Tryd.prog.cellsOf 69 = 2 by kernel_rfl] at hcl
  obtain ⟨r, e0, r0⟩ := opens_part Tryd.underlying69 h hlt hfit 0 rfl (o := 0) (k := 1) rfl (by kernel_rfl) rfl (opens_int Tryd.underlying3)
  obtain ⟨B, b, e1, r1⟩ := opens_part Tryd.underlying69 h hlt hfit 1 rfl (o := 1) (k := 1) rfl (by kernel_rfl) rfl (opens_row Tryd.underlying67 (k := 8) (by kernel_rfl) (by decide) (of_decide_eq_true (by kernel_rfl)) opens_block)
  match cs, hcl with
  | [c0, c1], _ =>
    simp only [List.drop_zero, List.drop_succ_cons, List.take_succ_cons, List.take_zero, List.cons.injEq, and_true] at e0 e1
    subst e0 e1
    exact ⟨⟨r, B⟩, c1, rfl, r0, r1⟩
/-- A program that came in by value. -/
theorem open_prog_deep {b0 : Nat} {W : World} {v : Value} {d : DataW H} {p : List MemPlace} (hv : Value.okWide Tryd.prog W .any b0 39 v) (h : DataW.Trod enc Tryd.prog W 0 (fun _ => true) true 39 v d p) (hlt : ∀ x ∈ p, x.block < W.heap.size)
    {ts : List TypeId} {ds : List (DataW H)} (hsz : (DataW.weightsEach Tryd.prog ts ds).all (· ≤ reachBytes) = true) {j : Nat} (hj : ts[j]? = some 39) (hd : ds[j]? = some d) :
    ∃ (s c f : Value) (P : ProgD), v = .agg #[s, c, f] ∧ ProgQ W [s, c, f] P := by
  obtain ⟨v0, v1, v2, y0, y1, y2, n, rfl, rfl, rfl, q0, q1, q2⟩ := open_agg3 Tryd.underlying39 (by kernel_rfl) (by kernel_rfl) hv h
  have hfit := Fits.of_each hsz hj hd
  obtain ⟨S, _, e0, r0⟩ := opens_row (enc := enc) Tryd.underlying35 (k := 2) (by kernel_rfl) (by decide) (of_decide_eq_true (by kernel_rfl)) opens_sig q0 (fun x hx => hlt x (by simp [hx])) (hfit.part Tryd.underlying39 (j := 0) rfl rfl)
  obtain ⟨C, _, e1, r1⟩ := opens_row (enc := enc) Tryd.underlying36 (k := 2) (by kernel_rfl) (by decide) (of_decide_eq_true (by kernel_rfl)) opens_class q1 (fun x hx => hlt x (by simp [hx])) (hfit.part Tryd.underlying39 (j := 1) rfl rfl)
  obtain ⟨F, _, e2, r2⟩ := opens_row (enc := enc) Tryd.underlying37 (k := 2) (by kernel_rfl) (by decide) (of_decide_eq_true (by kernel_rfl)) opens_func q2 (fun x hx => hlt x (by simp [hx])) (hfit.part Tryd.underlying39 (j := 2) rfl rfl)
  cases e0; cases e1; cases e2
  exact ⟨_, _, _, ⟨S, C, F⟩, rfl, _, _, _, rfl, r0, r1, r2⟩
end
end Go.Proofs.YtgkcbaakdphigaaDoor

namespace Go.Proofs.YtgkcbaakdphigaaDoor
open Go.ChangeShapes Go.WideShapes Go.ChangeAt Go.RowKit
set_option linter.unusedVariables false

/-- A table of texts, as a row lists it. -/
def strData {H : Type} (ls : List (List UInt8)) : DataW H := .agg (ls.map fun l => .lit (.string l))
/-- An array of texts that reads as the table holds these texts, cell by cell. -/
theorem cells_of_strs {H : Type} {enc : TypeId × Value → H} {P : Program} {w : World} {base : Nat} {sp : Nat → Bool} {held : Bool} {fuel : Nat} {t e : TypeId} {n : Nat} {cs : List Value} {ls : List (List UInt8)} {p : List MemPlace}
    (ht : P.underlying t = some (.array n e)) (he : P.underlying e = some .string) (hce : P.cellsOf e = 1) (hct : P.cellsOf t = n)
    (h : DataW.trod enc P w base sp held fuel t cs = some (strData ls, p)) : cs = ls.map fun l => Value.string (mk l) := by
  cases fuel with
  | zero => simp [DataW.trod] at h
  | succ fuel =>
    simp only [DataW.trod, ht, hce, hct, Nat.mul_one] at h
    split at h
    · rename_i hl
      obtain ⟨xs, hm, hx⟩ := Option.map_eq_some_iff.1 h
      have hxs : xs.map (·.1) = ls.map fun l => (DataW.lit (.string l) : DataW H) := by
        have := congrArg Prod.fst hx
        simpa [strData] using this
      have hxl : xs.length = n := by simpa using Lib.mapM_length hm
      have hll : ls.length = n := by
        have := congrArg List.length hxs
        simp at this
        omega
      apply List.ext_getElem?
      intro i
      by_cases hi : i < n
      · obtain ⟨b, hb, hf⟩ := Lib.mapM_at hm i i (by simp [hi])
        obtain ⟨S, hc, hS, _⟩ := DataW.trod_string he hf
        have h1 : cs[i]? = some (.string S) := by
          have := congrArg (·[0]?) hc
          simpa [List.getElem?_take, List.getElem?_drop] using this
        have h2 : (xs.map (·.1))[i]? = some (DataW.lit (.string S.data.toList) : DataW H) := by simp [hb, hS]
        rw [hxs] at h2
        simp only [List.getElem?_map, Option.map_eq_some_iff, DataW.lit.injEq, Lit.string.injEq] at h2
        obtain ⟨l, hl', rfl⟩ := h2
        simp [h1, hl', mk_of]
      · rw [List.getElem?_eq_none (by omega), List.getElem?_eq_none (by simp; omega)]
    · cases h

theorem gFields : Tryd.prog.globalNamed "hallmark/kind.fields" = some 0 := by kernel_rfl
theorem gFieldsType : (Tryd.prog.globals[0]?).map (·.type) = some 47 := by kernel_rfl
theorem cellsTable : Tryd.prog.cellsOf 47 = 26 := by kernel_rfl
theorem cellsText : Tryd.prog.cellsOf 9 = 1 := by kernel_rfl
theorem laid_data : (Rows.laid_hallmark_kind_fields : DataW Unit) = strData ((List.range 26).map fun k : Nat => fieldsL (k : Int)) := by kernel_rfl
/-- The table that a row lists is the one that the walks read. -/
theorem ft_of_laid {W : World} (h : laidMet Tryd.prog [("hallmark/kind.fields", Rows.laid_hallmark_kind_fields)] W) : FT W := by
  rw [laid_data] at h
  obtain ⟨ps, ⟨g', t', cs, fuel, p, q, hg', ht', hvar, hd, _, _⟩, _⟩ := h
  obtain rfl := Option.some.inj (gFields.symm.trans hg')
  obtain rfl := Option.some.inj (gFieldsType.symm.trans ht')
  have hcs := cells_of_strs Tryd.underlying47 Tryd.underlying9 cellsText cellsTable hd
  intro k hk
  rw [World.var?_cell gFields hvar k, ← Array.getElem?_toList, hcs]
  simp [hk]
/-- A world for the witness: the table holds what its initialiser lays. -/
def cellsFor : DataW Unit → Array Value
  | .agg parts => (parts.map fun d => match d with | .lit (.string l) => Value.string (mk l) | _ => Value.bool false).toArray
  | _ => #[]
noncomputable def laidWorld (os : Os) : World :=
  { World.holding Tryd.prog os ⟨#[], #[], []⟩ with heap := (World.holding Tryd.prog os ⟨#[], #[], []⟩).heap.modify 0 fun
    | .cells _ t frozen => .cells (cellsFor Rows.laid_hallmark_kind_fields) t frozen
    | o => o }
end Go.Proofs.YtgkcbaakdphigaaDoor

namespace Go.Proofs.YtgkcbaakdphigaaDoor.kindResults
open Go.ChangeShapes Go.WideShapes Go.ChangeAt Go.RowKit
open Go.ChangeMaps (open_string shut_string)
set_option linter.unusedVariables false

theorem own : ownKnob Tryd.prog.godebug = none := by kernel_rfl
theorem laidOut : laidOutB Tryd.prog = true := by kernel_rfl
theorem cells_int : Tryd.prog.cellsOf 3 = 1 := by kernel_rfl
theorem bytes_int : Tryd.prog.bytesOf 3 = 8 := by kernel_rfl
theorem len_of (s : ByteArray) : s.data.toList.length = s.size := by rw [Array.length_toList]; rfl
theorem rows_of : ∀ t ∈ Tryd.f6.params.toList, Tryd.prog.readableRec t = true ∧ t < Tryd.prog.types.size := by
  intro t ht
  rw [Tryd.params6] at ht
  simp only [List.mem_cons, List.not_mem_nil, or_false] at ht
  rcases ht with rfl | rfl | rfl
  all_goals exact ⟨by kernel_rfl, of_decide_eq_true (by kernel_rfl)⟩

theorem laid_met (os : Os) : laidMet Tryd.prog Rows.kindResultsRow.laid ((laidWorld os).forCall (fun _ _ => 0) ⟨#[], #[.agg #[.slice none 0 0, .slice none 0 0, .slice none 0 0], .agg #[.int .i64 0, .int .i64 0, .int .i64 0, .int .i64 0, .int .i64 0, .string ⟨#[]⟩, .slice none 0 0, .bool false], .slice none 0 0], []⟩).memory :=
  laidMet_of_run' 8 (by kernel_rfl) (by kernel_rfl)
theorem reads (os : Os) {H : Type} (enc : TypeId × Value → H) : ∃ places, DataW.whole enc Tryd.prog ((laidWorld os).forCall (fun _ _ => 0) ⟨#[], #[.agg #[.slice none 0 0, .slice none 0 0, .slice none 0 0], .agg #[.int .i64 0, .int .i64 0, .int .i64 0, .int .i64 0, .int .i64 0, .string ⟨#[]⟩, .slice none 0 0, .bool false], .slice none 0 0], []⟩).memory Tryd.f6.params.toList Rows.kindResultsSpec.vars false [.agg #[.slice none 0 0, .slice none 0 0, .slice none 0 0], .agg #[.int .i64 0, .int .i64 0, .int .i64 0, .int .i64 0, .int .i64 0, .string ⟨#[]⟩, .slice none 0 0, .bool false], .slice none 0 0] 8 = some ([.agg [.nil, .nil, .nil], .agg [.lit (.int .i64 0), .lit (.int .i64 0), .lit (.int .i64 0), .lit (.int .i64 0), .lit (.int .i64 0), .lit (.string []), .nil, .lit (.bool false)], .nil], [], places) :=
  ⟨[], by kernel_rfl⟩
set_option maxRecDepth 100000 in
theorem lifted (os : Os) (started : os.Started) (H : Type) (enc : TypeId × Value → H) (F : Stop.Interp) :
    ReturnsInHanded {} Tryd.checked os 6 .any ((OpenSpec.ofChange Rows.kindResultsSpec).preRow enc Tryd.prog Tryd.f6 Rows.kindResultsRow.domain false Rows.kindResultsRow.laid) (((OpenSpec.ofChange Rows.kindResultsSpec).at F).post enc Tryd.prog Tryd.f6 false true false false) := by
  obtain ⟨places, hx⟩ := reads os enc
  refine returnsInHanded_of_row (C := Tryd.checked) (s := OpenSpec.ofChange Rows.kindResultsSpec) own started (by kernel_rfl) Tryd.func6
    (witness_row_at (enc := enc) (C := Tryd.checked) false (laidWorld os) #[.agg #[.slice none 0 0, .slice none 0 0, .slice none 0 0], .agg #[.int .i64 0, .int .i64 0, .int .i64 0, .int .i64 0, .int .i64 0, .string ⟨#[]⟩, .slice none 0 0, .bool false], .slice none 0 0] rfl (by kernel_rfl) (by kernel_rfl) (by kernel_rfl)
      (OpenSpec.preRow_of_cond 8 hx (by kernel_rfl) (fun k hk => by cases hk) (by kernel_rfl) (laid_met os))) ?_
  intro W base args ds gs before hval0 hW _ _ hsz0 hL _ _
  have hsz : (DataW.weightsEach Tryd.prog (Tryd.f6.params.toList ++ Rows.kindResultsSpec.plain.varTypes Tryd.prog) (ds ++ gs)).all (· ≤ reachBytes) = true := hsz0
  clear hsz0
  have hval : ∀ (j : Nat) t v, Tryd.f6.params[j]? = some t → args[j]? = some v → Value.okWide Tryd.prog W .any base t v := hval0
  have hW : DataW.Whole enc Tryd.prog Tryd.f6.params.toList Rows.kindResultsSpec.vars false W args.toList ds gs before := hW
  have hW' := hW
  obtain ⟨p, q, hA0, hV, rfl, hfz, hnd⟩ := hW
  have hA : DataW.TrodAll enc Tryd.prog W 0 (fun _ => true) true Tryd.f6.params.toList args.toList ds p := hA0
  rw [Tryd.params6] at hA hval hsz
  obtain ⟨v0, vs0, d0, ds0, p0, q0, hargs, rfl, rfl, h0, r0⟩ := trodAll_cons hA
  obtain ⟨v1, vs1, d1, ds1, p1, q1, rfl, rfl, rfl, h1, r1⟩ := trodAll_cons r0
  obtain ⟨v2, vs2, d2, ds2, p2, q2, rfl, rfl, rfl, h2, r2⟩ := trodAll_cons r1
  obtain ⟨rfl, rfl, rfl⟩ := trodAll_nil r2
  obtain rfl : args = #[v0, v1, v2] := by cases args; simp_all
  obtain ⟨rfl, rfl⟩ := trodVars_none hV
  obtain ⟨ps0, pc0, pf0, P0, rfl, pq0⟩ := open_prog_deep (j := 0) (hval 0 39 v0 rfl rfl) h0 (fun x hx => by simpa using hW'.lt x (by simp [hx])) hsz rfl rfl
  obtain ⟨s0, c0, f0, he0, rs0, rc0, rf0⟩ := pq0
  simp only [List.cons.injEq, and_true] at he0
  obtain ⟨rfl, rfl, rfl⟩ := he0
  have rs0' := rs0
  have rc0' := rc0
  have rf0' := rf0
  obtain ⟨sa0, sn0, sc0, rfl, _⟩ := rs0'
  obtain ⟨ca0, cn0, cc0, rfl, _⟩ := rc0'
  obtain ⟨fa0, fn0, fc0, rfl, _⟩ := rf0'
  obtain ⟨K1, A1, B1, C1, N1, S1, la1, ln1, lc1, T1, L1, op1⟩ := open_op (j := 1) Tryd.underlying24 (by kernel_rfl) (by kernel_rfl) rfl rfl rfl rfl rfl rfl rfl rfl Tryd.underlying3 Tryd.underlying2 Tryd.underlying9 Tryd.underlying22 Tryd.underlying4 cells_int bytes_int (hval 1 24 v1 rfl rfl) h1 (fun x hx => by simpa using hW'.lt x (by simp [hx])) hsz rfl rfl
  obtain rfl := op1.val
  obtain ⟨zs2, hi2, hr2, sl2⟩ := open_ints_sized (j := 2) Tryd.underlying22 Tryd.underlying3 cells_int bytes_int (hval 2 22 v2 rfl rfl) h2 (fun x hx => by simpa using hW'.lt x (by simp [hx])) hsz rfl rfl
  have hl2 := hi2.len
  obtain ⟨ta2, tc2, rfl, hat2⟩ := hi2.nums
  clear hA0 hval0 hsz
  refine (kresults_walk K1 A1 B1 C1 N1 S1 la1 ln1 lc1 T1 L1 ta2 zs2.length tc2 zs2 W (ft_of_laid hL) rs0 rc0 rf0 op1.at_ op1.nil_ (by have := op1.len_; omega) hat2 (by have := hl2; omega) (fun z hz => by obtain ⟨i, hi, rfl⟩ := List.mem_iff_getElem.1 hz; have h := hr2 i; rw [nth_is hi] at h; exact h) op1.rN).mono fun e W' ⟨he, hb⟩ => ?_
  exact ⟨_, he, law_post laidOut rows_of (by kernel_rfl) Tryd.underlying4 rfl rfl hW' hb⟩

theorem said : Rows.KindResultsSaid :=
  OpenClaim.holds_of_cond 6 Tryd.f6 rfl rfl rfl rfl rfl rfl rfl ⟨rfl, rfl, rfl, rfl, rfl⟩ rfl rfl rfl rfl rfl (by kernel_rfl) Tryd.func6 (by kernel_rfl)
    (of_decide_eq_true (by kernel_rfl)) (by unfold Func.isWrapper; first | (rw [if_pos (by decide +kernel)]; kernel_rfl) | (rw [if_neg (by decide +kernel)]; exact ⟨rfl, rfl⟩))
    (fun os started H enc _ F => by rw [OpenClaim.pre_eq_preRow]; exact lifted os started H enc F)

/-- No parameter wants a stand-in; the program's own looks are off. -/
theorem plain (f : FuncId) (fn : Func) (hf : Tryd.pinned.checked.prog.funcNamed "hallmark/hallmarklaw04.KindResults" = some f) (hfn : Tryd.pinned.checked.prog.funcs[f]? = some fn) :
    false = Tryd.pinned.checked.prog.looks [] ∧ ∀ (j : Nat) t, fn.params[j]? = some t → Tryd.pinned.checked.prog.wantsStandIn t = false := by
  obtain rfl : f = 6 := Option.some.inj ((show Tryd.prog.funcNamed "hallmark/hallmarklaw04.KindResults" = some 6 by kernel_rfl).symm.trans hf) |>.symm
  obtain rfl : fn = Tryd.f6 := (Option.some.inj (Tryd.func6.symm.trans hfn)).symm
  refine ⟨by kernel_rfl, fun j t ht => ?_⟩
  rw [Tryd.params6] at ht
  have hm := Array.mem_of_getElem? ht
  simp only [List.mem_toArray, List.mem_cons, List.not_mem_nil, or_false] at hm
  rcases hm with rfl | rfl | rfl
  · exact (show Tryd.prog.wantsStandIn 39 = false by kernel_rfl)
  · exact (show Tryd.prog.wantsStandIn 24 = false by kernel_rfl)
  · exact (show Tryd.prog.wantsStandIn 22 = false by kernel_rfl)

theorem card : Rows.KindResultsCardSaid :=
  Claim7.holds_tied_plain_at .later [] _ _ _ _ said (fun _ h => by cases h) (by kernel_rfl) (fun _ h => by cases h) kindResults_row_tie rfl ⟨rfl, rfl⟩ (by kernel_rfl) rfl plain (by kernel_rfl)
#print axioms card
end Go.Proofs.YtgkcbaakdphigaaDoor.kindResults
