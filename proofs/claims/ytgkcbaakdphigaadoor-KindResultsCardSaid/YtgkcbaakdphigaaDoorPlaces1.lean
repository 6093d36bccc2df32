/- Layer 4: package kind's places: the iterator itself: letter by letter, place by place. -/
import Derived.Test.YtgkcbaakdphigaaDoorPlaces
namespace Go.Proofs.YtgkcbaakdphigaaDoor
open Go.RowKit
set_option linter.unusedVariables false
attribute [local go_sem] Oper.semAt_some

section
variable (b g off ln : Nat) (K : Int)
def placeL (f : UInt8) : List Addr := if f = 65 then [⟨b, 1, none⟩] else if f = 66 then [⟨b, 2, none⟩] else if f = 67 then [⟨b, 3, none⟩] else if f = 76 then (List.range ln).map fun j => ⟨g, off + j, none⟩ else []
/-- The places of a step in block b whose list lies at g, off on; as far as k letters tell. -/
def placesT (k : Nat) : List Addr := ((fieldsL K).take k).flatMap (placeL b g off ln)
def placesL : List Addr := (fieldsL K).flatMap (placeL b g off ln)
variable {b g off ln K}
theorem placesT_next {k : Nat} {f : UInt8} (hk : k < (fieldsL K).length) (hf : (fieldsL K)[k] = f) : placesT b g off ln K (k + 1) = placesT b g off ln K k ++ placeL b g off ln f := by
  unfold placesT
  rw [List.take_succ_eq_append_getElem hk, hf, List.flatMap_append]
  simp
theorem placesT_all {k : Nat} (hk : (fieldsL K).length ≤ k) : placesT b g off ln K k = placesL b g off ln K := by
  unfold placesT placesL
  rw [List.take_of_length_le hk]
theorem placesT_split (k : Nat) : ∃ r, placesL b g off ln K = placesT b g off ln K k ++ r :=
  ⟨((fieldsL K).drop k).flatMap (placeL b g off ln), by unfold placesT placesL; rw [← List.flatMap_append, List.take_append_drop]⟩
theorem places_at {k : Nat} {f : UInt8} (hk : k < (fieldsL K).length) (hf : (fieldsL K)[k] = f) :
    (placesT b g off ln K k).length + (placeL b g off ln f).length ≤ (placesL b g off ln K).length ∧
    (placesT b g off ln K (k + 1)).length = (placesT b g off ln K k).length + (placeL b g off ln f).length ∧
    ∀ j (h : j < (placeL b g off ln f).length) (h' : (placesT b g off ln K k).length + j < (placesL b g off ln K).length), (placesL b g off ln K)[(placesT b g off ln K k).length + j] = (placeL b g off ln f)[j] := by
  obtain ⟨r, hr⟩ := placesT_split (b := b) (g := g) (off := off) (ln := ln) (K := K) (k + 1)
  rw [placesT_next hk hf] at hr
  refine ⟨by rw [hr]; simp, by rw [placesT_next hk hf]; simp, fun j h h' => ?_⟩
  simp only [hr, List.append_assoc]
  rw [List.getElem_append_right (by omega), List.getElem_append_left (by omega)]
  congr 1
  omega
end

def placeF (b g off ln : Nat) (K : Int) (i : Fin (placesL b g off ln K).length) : Addr := (placesL b g off ln K)[i.1]'i.2
/-- What the caller's rounds keep for the iterator. -/
structure Kept (Bo b : Nat) (W W' : World) : Prop where
  walks : KeepsWalks W W'
  c0 : W'.cell? ⟨Bo, 0, none⟩ = W.cell? ⟨Bo, 0, none⟩
  c6 : W'.cell? ⟨b, 6, none⟩ = W.cell? ⟨b, 6, none⟩
theorem Kept.refl (Bo b : Nat) (W : World) : Kept Bo b W W := ⟨KeepsWalks.refl W, rfl, rfl⟩
theorem Kept.trans {Bo b : Nat} {A B C : World} (h : Kept Bo b A B) (k : Kept Bo b B C) : Kept Bo b A C := ⟨h.walks.trans k.walks, k.c0.trans h.c0, k.c6.trans h.c6⟩
theorem grown_iterAt (w : World) (k : Nat) (s : ByteArray) (pos : Nat) : w.grownBy (w.iterAt k s pos) (some k) :=
  ⟨rfl, rfl, rfl, by rw [Lib.iterAt_size]; exact Nat.le_refl _, fun i _ hi => Lib.iterAt_other w k i s pos (fun e => hi (by rw [e]))⟩

/-- Where the iterator stands. -/
structure ItSt (u : World) (n0 Bo b : Nat) (K : Int) (la : Option Addr) (ln lc k : Nat) : Prop where
  it : u.heap[n0]? = some (.stringIter (fstr K) k)
  c0 : u.cell? ⟨Bo, 0, none⟩ = some (.pointer (some ⟨b, 0, none⟩))
  c6 : u.cell? ⟨b, 6, none⟩ = some (.slice la ln lc)
theorem ItSt.kept {u u' : World} {n0 Bo b : Nat} {K : Int} {la : Option Addr} {ln lc k : Nat} (h : ItSt u n0 Bo b K la ln lc k) (hk : Kept Bo b u u') : ItSt u' n0 Bo b K la ln lc k :=
  ⟨hk.walks.same _ _ h.it rfl, hk.c0.trans h.c0, hk.c6.trans h.c6⟩
theorem ItSt.move {u : World} {n0 Bo b : Nat} {K : Int} {la : Option Addr} {ln lc k : Nat} (h : ItSt u n0 Bo b K la ln lc k) (h0 : Bo ≠ n0) (h1 : b ≠ n0) : ItSt (u.iterAt n0 (fstr K) (k + 1)) n0 Bo b K la ln lc (k + 1) :=
  have hs := iterAt_same u n0 (fstr K) (k + 1)
  ⟨Lib.iterAt_heap _ _ _ _ _ h.it, (hs.cell ⟨Bo, 0, none⟩ h0).trans h.c0, (hs.cell ⟨b, 6, none⟩ h1).trans h.c6⟩

theorem it_end {u u' : World} {n0 Bo b : Nat} {K : Int} {la : Option Addr} {ln lc k : Nat} (hlt : k < (fieldsL K).length) (h : ItSt u n0 Bo b K la ln lc k) (h' : ItSt u' n0 Bo b K la ln lc (k + 1)) :
    k + 1 ≤ (fieldsL K).length ∧ (fieldsL K).length - u'.iterPos n0 < (fieldsL K).length - u.iterPos n0 := by
  refine ⟨hlt, ?_⟩
  simp only [World.iterPos, h.it, h'.it]
  omega
set_option maxRecDepth 100000 in
set_option maxHeartbeats 4000000 in
theorem places1_in (K : Int) (l Bo b g off ln lc : Nat) (la : Option Addr) (hla : 0 < ln → la = some ⟨g, off, none⟩) (hln : ln ≤ 140737488355328) (n : Nat)
    (J Jx : List (Fin (placesL b g off ln K).length) → World → Prop) (W : World) (hJ : AbidesFrom W.heap.size J)
    (hY : ∀ n, Yields (placesL b g off ln K).length n l (placeF b g off ln K) J Jx (Kept Bo b))
    (hft : FT W) (hc0 : W.cell? ⟨Bo, 0, none⟩ = some (.pointer (some ⟨b, 0, none⟩))) (hcK : W.cell? ⟨b, 0, none⟩ = some (.int .i64 K)) (hc6 : W.cell? ⟨b, 6, none⟩ = some (.slice la ln lc)) (h0 : J [] W) :
    CallsIn Fence.wide n Tryd.prog 34 #[.func (.yield l) #[] #[], .pointer (some ⟨Bo, 0, none⟩)] W fun e W' => (∃ v, e = .returned v) ∧
      ((∃ xs, xs = firsts (placesL b g off ln K).length (placesL b g off ln K).length ∧ J xs W') ∨ (∃ pre, (∃ q, q ≤ (placesL b g off ln K).length ∧ pre = firsts _ q) ∧ Jx pre W')) := by
  have HB : RowKit.Hid (Bo ≠ W.heap.size ∧ b ≠ W.heap.size) := Lib.hid ⟨Nat.ne_of_lt (World.block_lt_of_cell? _ _ hc0), Nat.ne_of_lt (World.block_lt_of_cell? _ _ hc6)⟩
  have HF := Lib.hid (kfields_any K W hft)
  clear hft
  refine callsIn_of_wp Tryd.func34 rfl trivial ?_ rfl
  simp only [Tryd.ntmps34, List.size_toArray, List.length_cons, List.length_nil, Nat.reduceAdd, Nat.reduceSub, Array.replicate_succ, Array.replicate_zero, List.push_toArray, List.append_toArray, List.nil_append, List.cons_append]
  gi_wp2_with (refine ⟨trivial, (fun h => (nomatch h)), ?_⟩; gi_at_call 10; refine (callsIn_wide.2 HF.out).mono ?_; rintro e w' ⟨rfl, rfl⟩)
  gi_loopw [] (fun wr => ∃ k : Nat, k ≤ (fieldsL K).length ∧ RowKit.Hid (ItSt wr W.heap.size Bo b K la ln lc k) ∧ J (firsts (placesL b g off ln K).length (placesT b g off ln K k).length) wr) (fun wr => (fieldsL K).length - wr.iterPos W.heap.size)
  case atStart =>
    refine ⟨0, Nat.zero_le _, Lib.hid ⟨World.iter_heap W (fstr K) 0, ?_, ?_⟩, ?_⟩
    · exact (((Below.refl W.heap.size W).alloc (Nat.le_refl _) (.stringIter (fstr K) 0)).cell (p := ⟨Bo, 0, none⟩) (World.block_lt_of_cell? _ _ hc0)).trans hc0
    · exact (((Below.refl W.heap.size W).alloc (Nat.le_refl _) (.stringIter (fstr K) 0)).cell (p := ⟨b, 6, none⟩) (World.block_lt_of_cell? _ _ hc6)).trans hc6
    · exact hJ [] W (W.iter (fstr K) 0) none h0 (World.grownBy_alloc W _ none) (fun r e => by cases e)
  case round =>
    obtain ⟨k, hk, HS, hJs⟩ := hrel
    have hit := HS.out.it
    by_cases hlt : k < (fieldsL K).length
    · obtain ⟨c, hg⟩ : ∃ c, (fieldsL K)[k] = c := ⟨_, rfl⟩
      have hks : k < (fstr K).size := by unfold fstr; rw [mk_size]; exact hlt
      have hgs : (fstr K)[k] = c := by rw [← hg]; exact fstr_at hlt hks
      have hlet := letters K c (by rw [← hg]; exact List.getElem_mem _)
      have hnx0 := fun ty => Lib.run_next_ascii_at (P := Tryd.prog) wr W.heap.size (fstr K) k ty hit hks (by rw [hgs]; rcases hlet with rfl | rfl | rfl | rfl | rfl | rfl | rfl <;> decide)
      rw [hgs] at hnx0
      have HU := Lib.hid (HS.out.move HB.out.1 HB.out.2)
      have hJu := hJ _ wr (wr.iterAt W.heap.size (fstr K) (k + 1)) (some W.heap.size) hJs (grown_iterAt _ _ _ _) (fun r e => by cases e; exact ⟨Nat.le_refl _, _, hit, rfl⟩)
      obtain ⟨u, hu⟩ : ∃ u, wr.iterAt W.heap.size (fstr K) (k + 1) = u := ⟨_, rfl⟩
      rw [hu] at hnx0 HU hJu
      have hat := places_at (b := b) (g := g) (off := off) (ln := ln) hlt hg
      have hcu0 := HU.out.c0
      have hcu6 := HU.out.c6
      clear hu hgs hit hks hJs
      rcases hlet with rfl | rfl | rfl | rfl | rfl | rfl | rfl
      · -- the letter N: no place
        have hnext : (placesT b g off ln K (k + 1)).length = (placesT b g off ln K k).length := by have := hat.2.1; simpa [placeL] using this
        rw [← hnext] at hJu
        clear hat hg hnext
        have HLT := Lib.hid hlt
        have HE := Lib.hid (it_end HLT.out HS.out HU.out)
        clear hlt
        gi_wp2
        go_roundw
        case rel => exact ⟨k + 1, HE.out.1, HU, hJu⟩
        case measure => exact HE.out.2
      · -- the letter S: no place
        have hnext : (placesT b g off ln K (k + 1)).length = (placesT b g off ln K k).length := by have := hat.2.1; simpa [placeL] using this
        rw [← hnext] at hJu
        clear hat hg hnext
        have HLT := Lib.hid hlt
        have HE := Lib.hid (it_end HLT.out HS.out HU.out)
        clear hlt
        gi_wp2
        go_roundw
        case rel => exact ⟨k + 1, HE.out.1, HU, hJu⟩
        case measure => exact HE.out.2
      · -- the letter A
        have hpl : placeF b g off ln K ⟨(placesT b g off ln K k).length, by have := hat.1; simp [placeL] at this; omega⟩ = ⟨b, 1, none⟩ := by have := hat.2.2 0 (by simp [placeL]) (by have := hat.1; simp [placeL] at this; omega); simpa [placeL, placeF] using this
        have hy0 := hY (n - 1) (placesT b g off ln K k).length (by have := hat.1; simp [placeL] at this; omega) u hJu
        have hnext : (placesT b g off ln K (k + 1)).length = (placesT b g off ln K k).length + 1 := by have := hat.2.1; simpa [placeL] using this
        have hle : (placesT b g off ln K k).length + 1 ≤ (placesL b g off ln K).length := by have := hat.1; simpa [placeL] using this
        rw [hpl] at hy0
        rw [← hnext] at hy0 hle
        obtain ⟨fn, tmps, assign, body, hy, hR⟩ := hy0
        clear hat hg hpl hnext
        have HLT := Lib.hid hlt
        clear hlt
        gi_wp2
        refine ⟨(fun h => (nomatch h)), hR.mono ?_⟩
        rintro e W3 (⟨rfl, hJ3, hk3⟩ | ⟨rfl, hJx3⟩)
        · have HS3 := Lib.hid (HU.out.kept hk3)
          have HE := Lib.hid (it_end HLT.out HS.out HS3.out)
          clear hk3
          gi_wp2
          go_roundw
          case rel => exact ⟨k + 1, HE.out.1, HS3, hJ3⟩
          case measure => exact HE.out.2
        · gi_wp2
          refine bodyPost_ret (results_none rfl _ _ _) rfl ?_
          exact ⟨⟨_, rfl⟩, .inr ⟨_, ⟨_, hle, rfl⟩, hJx3⟩⟩
      · -- the letter B
        have hpl : placeF b g off ln K ⟨(placesT b g off ln K k).length, by have := hat.1; simp [placeL] at this; omega⟩ = ⟨b, 2, none⟩ := by have := hat.2.2 0 (by simp [placeL]) (by have := hat.1; simp [placeL] at this; omega); simpa [placeL, placeF] using this
        have hy0 := hY (n - 1) (placesT b g off ln K k).length (by have := hat.1; simp [placeL] at this; omega) u hJu
        have hnext : (placesT b g off ln K (k + 1)).length = (placesT b g off ln K k).length + 1 := by have := hat.2.1; simpa [placeL] using this
        have hle : (placesT b g off ln K k).length + 1 ≤ (placesL b g off ln K).length := by have := hat.1; simpa [placeL] using this
        rw [hpl] at hy0
        rw [← hnext] at hy0 hle
        obtain ⟨fn, tmps, assign, body, hy, hR⟩ := hy0
        clear hat hg hpl hnext
        have HLT := Lib.hid hlt
        clear hlt
        gi_wp2
        refine ⟨(fun h => (nomatch h)), hR.mono ?_⟩
        rintro e W3 (⟨rfl, hJ3, hk3⟩ | ⟨rfl, hJx3⟩)
        · have HS3 := Lib.hid (HU.out.kept hk3)
          have HE := Lib.hid (it_end HLT.out HS.out HS3.out)
          clear hk3
          gi_wp2
          go_roundw
          case rel => exact ⟨k + 1, HE.out.1, HS3, hJ3⟩
          case measure => exact HE.out.2
        · gi_wp2
          refine bodyPost_ret (results_none rfl _ _ _) rfl ?_
          exact ⟨⟨_, rfl⟩, .inr ⟨_, ⟨_, hle, rfl⟩, hJx3⟩⟩
      · -- the letter C
        have hpl : placeF b g off ln K ⟨(placesT b g off ln K k).length, by have := hat.1; simp [placeL] at this; omega⟩ = ⟨b, 3, none⟩ := by have := hat.2.2 0 (by simp [placeL]) (by have := hat.1; simp [placeL] at this; omega); simpa [placeL, placeF] using this
        have hy0 := hY (n - 1) (placesT b g off ln K k).length (by have := hat.1; simp [placeL] at this; omega) u hJu
        have hnext : (placesT b g off ln K (k + 1)).length = (placesT b g off ln K k).length + 1 := by have := hat.2.1; simpa [placeL] using this
        have hle : (placesT b g off ln K k).length + 1 ≤ (placesL b g off ln K).length := by have := hat.1; simpa [placeL] using this
        rw [hpl] at hy0
        rw [← hnext] at hy0 hle
        obtain ⟨fn, tmps, assign, body, hy, hR⟩ := hy0
        clear hat hg hpl hnext
        have HLT := Lib.hid hlt
        clear hlt
        gi_wp2
        refine ⟨(fun h => (nomatch h)), hR.mono ?_⟩
        rintro e W3 (⟨rfl, hJ3, hk3⟩ | ⟨rfl, hJx3⟩)
        · have HS3 := Lib.hid (HU.out.kept hk3)
          have HE := Lib.hid (it_end HLT.out HS.out HS3.out)
          clear hk3
          gi_wp2
          go_roundw
          case rel => exact ⟨k + 1, HE.out.1, HS3, hJ3⟩
          case measure => exact HE.out.2
        · gi_wp2
          refine bodyPost_ret (results_none rfl _ _ _) rfl ?_
          exact ⟨⟨_, rfl⟩, .inr ⟨_, ⟨_, hle, rfl⟩, hJx3⟩⟩
      · -- the list
        have hnext : (placesT b g off ln K (k + 1)).length = (placesT b g off ln K k).length + ln := by have := hat.2.1; simpa [placeL] using this
        have hle : (placesT b g off ln K k).length + ln ≤ (placesL b g off ln K).length := by have := hat.1; simpa [placeL] using this
        have HC := Lib.hid (each_in (placesL b g off ln K).length l (placeF b g off ln K) J Jx (Kept Bo b) (Kept.refl Bo b) Kept.trans hY (placesT b g off ln K k).length g off ln lc la hla hln hle
          (fun j hj => by have := hat.2.2 j (by simpa [placeL] using hj) (by omega); simpa [placeL, placeF] using this) (n - 1) u hJu)
        rw [← hnext] at HC
        clear hat hg hnext hle
        have HLT := Lib.hid hlt
        clear hlt
        gi_wp2_with (refine ⟨trivial, (fun h => (nomatch h)), ?_⟩; gi_at_call 35; refine HC.out.mono ?_; rintro e W3 (⟨rfl, hJ3, hk3⟩ | ⟨rfl, q, hq, hJx3⟩))
        · have HS3 := Lib.hid (HU.out.kept hk3)
          have HE := Lib.hid (it_end HLT.out HS.out HS3.out)
          clear hk3
          gi_wp2
          go_roundw
          case rel => exact ⟨k + 1, HE.out.1, HS3, hJ3⟩
          case measure => exact HE.out.2
        · gi_wp2
          refine bodyPost_ret (results_none rfl _ _ _) rfl ?_
          exact ⟨⟨_, rfl⟩, .inr ⟨_, ⟨_, hq, rfl⟩, hJx3⟩⟩
      · -- the letter K: no place
        have hnext : (placesT b g off ln K (k + 1)).length = (placesT b g off ln K k).length := by have := hat.2.1; simpa [placeL] using this
        rw [← hnext] at hJu
        clear hat hg hnext
        have HLT := Lib.hid hlt
        have HE := Lib.hid (it_end HLT.out HS.out HU.out)
        clear hlt
        gi_wp2
        go_roundw
        case rel => exact ⟨k + 1, HE.out.1, HU, hJu⟩
        case measure => exact HE.out.2
    · have hks : ¬ k < (fstr K).size := by unfold fstr; rw [mk_size]; exact hlt
      have hnx0 := fun ty => Lib.run_next_end_at (P := Tryd.prog) wr W.heap.size (fstr K) k ty hit hks
      have he : (placesT b g off ln K k).length = (placesL b g off ln K).length := by rw [placesT_all (by omega)]
      rw [he] at hJs
      gi_wp2
      go_end0
      exact ⟨⟨_, rfl⟩, .inl ⟨_, rfl, hJs⟩⟩
end Go.Proofs.YtgkcbaakdphigaaDoor
