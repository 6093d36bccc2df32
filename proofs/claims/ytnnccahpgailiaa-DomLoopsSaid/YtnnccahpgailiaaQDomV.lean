/- Layer 8: a loop's blocks: what is gathered is what the document asks, and is sorted (mk_dom.py V). -/
import Derived.Test.YtnnccahpgailiaaQDomU
import Derived.Test.YtnnccahpgailiaaShelfS
import Derived.Lib.OwnBridge
namespace Go.Proofs.Ytnnccahpgailiaa
open Go.RowKit (wrap64 intOf Below)
set_option linter.unusedVariables false
set_option linter.unusedSimpArgs false

/-- Two rising lists of the same numbers are one. -/
theorem rising_eq : ∀ {l m : List Int}, l.Pairwise (· < ·) → m.Pairwise (· < ·) → (∀ z, z ∈ l ↔ z ∈ m) → l = m
  | [], [], _, _, _ => rfl
  | [], y :: m, _, _, h => by have := (h y).2 (by simp); cases this
  | x :: l, [], _, _, h => by have := (h x).1 (by simp); cases this
  | x :: l, y :: m, hl, hm, h => by
    rw [List.pairwise_cons] at hl hm
    have hxy : x = y := by
      have h1 := (h x).1 (by simp)
      have h2 := (h y).2 (by simp)
      rcases List.mem_cons.1 h1 with e | h1
      · exact e
      · rcases List.mem_cons.1 h2 with e | h2
        · exact e.symm
        · have := hm.1 x h1
          have := hl.1 y h2
          omega
    subst hxy
    congr 1
    refine rising_eq hl.2 hm.2 fun z => ?_
    constructor
    · intro hz
      rcases List.mem_cons.1 ((h z).1 (List.mem_cons_of_mem _ hz)) with e | h'
      · have := hl.1 z hz; omega
      · exact h'
    · intro hz
      rcases List.mem_cons.1 ((h z).2 (List.mem_cons_of_mem _ hz)) with e | h'
      · have := hm.1 z hz; omega
      · exact h'
theorem sorted_eq {Z M : List Int} (hn : Z.Nodup) (hM : M.Pairwise (· < ·)) (h : ∀ z, z ∈ Z ↔ z ∈ M) : (Z.mergeSort fun x y => decide (x ≤ y)) = M := by
  have hp := List.mergeSort_perm Z (fun x y => decide (x ≤ y))
  have hs : (Z.mergeSort fun x y => decide (x ≤ y)).Pairwise (fun a b => decide (a ≤ b) = true) := List.pairwise_mergeSort (fun a b c h1 h2 => by simp at h1 h2 ⊢; omega) (fun a b => by simp; omega) Z
  have hnd : (Z.mergeSort fun x y => decide (x ≤ y)).Nodup := hp.nodup_iff.2 hn
  refine rising_eq ?_ hM (fun z => (hp.mem_iff).trans (h z))
  exact (hs.and hnd).imp fun {a b} h => by
    have h1 : a ≤ b := by simpa using h.1
    have h2 := h.2
    omega
theorem loopB_rising (f : FuncD) (n k h : Nat) : (loopB f n k h).Pairwise (· < ·) := by
  unfold loopB
  rw [List.pairwise_map]
  refine (List.Pairwise.filter _ List.pairwise_lt_range).imp ?_
  intro a b hab
  show (a : Int) < (b : Int)
  omega
/-- Where the gathering stands: of those gathered, those ahead of k are done with. -/
structure BInv (f : FuncD) (n h : Nat) (Zb : List Int) (k : Nat) : Prop where
  head : ∃ T, Zb = (h : Int) :: T
  met : ∀ z ∈ Zb, ∃ v : Nat, z = (v : Int) ∧ MetF f v
  reach : ∀ v : Nat, (v : Int) ∈ Zb → InLoop f n h v
  ends : ∀ z ∈ backL f n h, z ∈ Zb
  done : ∀ j (hj : j < Zb.length), 1 ≤ j → j < k → ∀ q : Nat, MetF f q → Zb[j] ∈ nxF f q → (q : Int) ∈ Zb
section
variable {f : FuncD} {n h : Nat} {Zb : List Int} {k : Nat}
theorem back_met (hn : n = f.blocks.length) {z : Int} (hz : z ∈ backL f n h) : ∃ q : Nat, z = (q : Int) ∧ MetF f q ∧ MetF f h := by
  unfold backL at hz
  obtain ⟨h1, h2⟩ := List.mem_filter.1 hz
  have h3 := overB_met h2
  obtain ⟨q, rfl, hq⟩ := metZ_iff.1 h3.2
  obtain ⟨u, hu, hm⟩ := metZ_iff.1 h3.1
  obtain rfl : h = u := by omega
  exact ⟨q, rfl, hq, hm⟩
theorem BInv.start (hn : n = f.blocks.length) (hM : MetF f h) : BInv f n h ((backL f n h).foldl addN [(h : Int)]) 1 where
  head := by obtain ⟨T, hT⟩ := addF_pre (L := backL f n h) (Z := [(h : Int)]); exact ⟨T, by rw [hT]; rfl⟩
  met := fun z hz => by
    rcases addF_mem.1 hz with hz | hz
    · simp at hz; exact ⟨h, hz, hM⟩
    · obtain ⟨q, e, hq, _⟩ := back_met hn hz; exact ⟨q, e, hq⟩
  reach := fun v hv => by
    rcases addF_mem.1 hv with hz | hz
    · simp at hz; exact .inl (by omega)
    · obtain ⟨q, e, hq, _⟩ := back_met hn hz
      by_cases e2 : v = h
      · exact .inl e2
      · have e3 : v = q := by omega
        subst e3
        exact .inr ⟨hq, _, hz, v, rfl, v, rfl, met_lt hq, .nil (by omega)⟩
  ends := fun z hz => addF_mem.2 (.inr hz)
  done := fun j hj h1 h2 => absurd h2 (by omega)
theorem BInv.next (hn : n = f.blocks.length) (hB : BInv f n h Zb k) (hnd : Zb.Nodup) (hk1 : 1 ≤ k) (hk : k < Zb.length) {x : Nat} (hx : Zb[k] = (x : Int)) : BInv f n h (((ahL f n x).filter (metZ f)).foldl addN Zb) (k + 1) := by
  obtain ⟨T, hT⟩ := addF_pre (L := (ahL f n x).filter (metZ f)) (Z := Zb)
  have hxh : x ≠ h := fun e => by
    obtain ⟨T', hT'⟩ := hB.head
    have h0 : Zb[0]'(by omega) = (h : Int) := by simp only [hT', List.getElem_cons_zero]
    exact List.pairwise_iff_getElem.1 hnd 0 k (by omega) hk (by omega) (by rw [h0, hx, e])
  have hxin : InLoop f n h x := hB.reach x (by rw [← hx]; exact List.getElem_mem _)
  obtain ⟨hMx, p, hp, v, hv, kx, hkx, hkl, hw⟩ := hxin.resolve_left hxh
  obtain rfl : x = kx := by omega
  refine ⟨?_, fun z hz => ?_, fun q hq => ?_, fun z hz => addF_mem.2 (.inl (hB.ends z hz)), fun j hj h1 h2 q hq he => ?_⟩
  · obtain ⟨T', hT'⟩ := hB.head
    exact ⟨T' ++ T, by rw [hT, hT']; rfl⟩
  · rcases addF_mem.1 hz with hz | hz
    · exact hB.met z hz
    · obtain ⟨q, e, hq, _⟩ := (fr_mem hn).1 hz; exact ⟨q, e, hq⟩
  · rcases addF_mem.1 hq with hz | hz
    · exact hB.reach q hz
    · obtain ⟨q', e, hq', hqx⟩ := (fr_mem hn).1 hz
      obtain rfl : q = q' := by omega
      by_cases e2 : q = h
      · exact .inl e2
      · refine .inr ⟨hq', p, hp, v, hv, q, rfl, met_lt hq', ?_⟩
        have h1 : Way (EdgeF f) (fun u => (u : Int) ≠ (h : Int)) q x := .snoc (.nil (by omega)) ⟨hqx, hkl⟩ (by omega)
        exact h1.append hw
  · have hjl : j < Zb.length := by omega
    have e : (((ahL f n x).filter (metZ f)).foldl addN Zb)[j] = Zb[j] := by simp only [hT]; exact List.getElem_append_left hjl
    rw [e] at he
    by_cases ejk : j = k
    · subst ejk
      rw [hx] at he
      exact addF_mem.2 (.inr ((fr_mem hn).2 ⟨q, rfl, hq, he⟩))
    · exact addF_mem.2 (.inl (hB.done j hjl h1 (by omega) q hq he))
theorem BInv.all (hB : BInv f n h Zb Zb.length) (hn : n = f.blocks.length) (z : Int) : z ∈ Zb ↔ z ∈ loopB f n n h := by
  rw [loopB_mem]
  constructor
  · intro hz
    obtain ⟨v, rfl, hv⟩ := hB.met z hz
    exact ⟨v, rfl, by rw [hn]; exact met_lt hv, hB.reach v hz⟩
  · rintro ⟨b, rfl, hb, hin⟩
    obtain ⟨T, hT⟩ := hB.head
    rcases hin with rfl | ⟨hMb, p, hp, v, rfl, kb, hkb, hkl, hw⟩
    · rw [hT]; simp
    · obtain rfl : b = kb := by omega
      have h0 : 0 < f.blocks.length := by omega
      have key : ∀ v, Way (EdgeF f) (fun u => (u : Int) ≠ (h : Int)) b v → MetF f v ∧ ((v : Int) ∈ Zb → (b : Int) ∈ Zb) := by
        intro v hw
        induction hw with
        | nil _ => exact ⟨hMb, id⟩
        | snoc hw2 e h1 ih =>
          rename_i y z
          refine ⟨(rpo_of f h0).clos _ _ ih.1 e, fun hz => ih.2 ?_⟩
          obtain ⟨j, hj, ej⟩ := List.getElem_of_mem hz
          have hj1 : 1 ≤ j := by
            refine Nat.pos_of_ne_zero fun e0 => h1 ?_
            subst e0
            rw [← ej]
            simp only [hT, List.getElem_cons_zero]
          exact hB.done j hj hj1 hj y ih.1 (by rw [ej]; exact e.1)
      exact (key v hw).2 (hB.ends _ hp)
end
theorem sort_own {W : World} {B : Nat} {va : Option Addr} {vn vc : Nat} {Z : List Int} (h : OwnsI W B 3 (.slice va vn vc) Z) (hne : 0 < Z.length) (hl : Z.length ≤ 100000) :
    Calls Try.prog 71 #[.slice va vn vc] W fun e w' => e = .returned (.tuple #[]) ∧ OwnsI w' B 3 (.slice va vn vc) (Z.mergeSort fun x y => decide (x ≤ y)) ∧ Off (fun i => (Value.slice va vn vc).ownBlock = some i) W w' := by
  obtain ⟨g, rfl, hB, hg⟩ := own_addr h hne
  have hn := h.read.1
  subst hn
  obtain ⟨g', cap, e, hB', hg', hnc, hm, hlz, hH⟩ := Lib.holds_of_ownsRow (enc := Value.int .i64) (zs := Z) h (by simp)
  cases e
  refine (Try.slices_Sort_int g 0 vc Z W hH hg (by omega)).mono ?_
  rintro e w' ⟨rfl, q, os, rfl⟩
  have hrow := Lib.ownsRow_putRow (enc := Value.int .i64) (q := q) (k := Z.length) (ys := Z.mergeSort fun x y => decide (x ≤ y)) h (by simp) (Nat.le_refl _)
  rw [List.take_of_length_le (by simp)] at hrow
  have hgrow : ∀ w : World, Below w.heap.size w (Sort.grow w os) := fun w => ⟨rfl, rfl, rfl, by simp [Sort.grow], fun k hk => by simp [Sort.grow, Array.getElem?_append_left hk]⟩
  refine ⟨rfl, ?_, ?_⟩
  · have h1 : OwnsI (Sort.putRow (Value.int .i64) (Sort.ahead W q) g 0 (Z.mergeSort fun x y => decide (x ≤ y)).toArray) B 3 (.slice (some ⟨g, 0, none⟩) Z.length vc) (Z.mergeSort fun x y => decide (x ≤ y)) := by
      show World.ownsRow _ B _ 1 _ (Z.mergeSort fun x y => decide (x ≤ y)).length _
      rw [List.length_mergeSort]
      exact hrow
    exact h1.below (hgrow _)
  · have h2 : Off (fun i => (Value.slice (some ⟨g, 0, none⟩) Z.length vc).ownBlock = some i) W (Sort.putRow (Value.int .i64) (Sort.ahead W q) g 0 (Z.mergeSort fun x y => decide (x ≤ y)).toArray) :=
      ⟨rfl, rfl, rfl, by simp [Sort.putRow, Sort.mapBlock, Sort.ahead], fun k hk hx => by
        have hne : g ≠ k := fun e => hx (by rw [e]; rfl)
        simp [Sort.putRow, Sort.mapBlock, Sort.ahead, Array.getElem?_modify, hne]⟩
    exact h2.trans (Off.since (by have := hgrow (Sort.putRow (Value.int .i64) (Sort.ahead W q) g 0 (Z.mergeSort fun x y => decide (x ≤ y)).toArray); exact this))
end Go.Proofs.Ytnnccahpgailiaa
