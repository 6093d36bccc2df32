/- Layer 10: where the law HeapFrames stands. -/
import Derived.Test.YtnnccahpgailiaaQHeapTabL
import Derived.Test.YtnnccahpgailiaaQHeapW

namespace Go.Proofs.Ytnnccahpgailiaa
open Go.RowKit (wrap64 intOf Below)
set_option linter.unusedVariables false
set_option linter.unusedSimpArgs false

structure FrSt (w : World) (B cap p : Nat) (M : PM) (Z : List Int) (ya : Option Addr) (yn yc : Nat) (G : GM) (W : World) : Prop where
  mem : MemAt W B cap M G
  p : G.p = p
  fm : FmAt M G
  own : OwnsI W B 3 (.slice ya yn yc) Z
  ap : ∀ b, (Value.slice ya yn yc).ownBlock = some b → ¬ dom G.ρ b
  bel : Below B w W
section
variable {w W W' : World} {B cap cap' p : Nat} {M M' : PM} {Z : List Int} {ya : Option Addr} {yn yc : Nat} {G G' : GM}
theorem FrSt.since (h : FrSt w B cap p M Z ya yn yc G W) (hb : Below W.heap.size W W') : FrSt w B cap p M Z ya yn yc G W' :=
  ⟨h.mem.since hb, h.p, h.fm, h.own.below hb, h.ap, h.bel.trans (hb.mono (by have := h.mem.plt; omega))⟩
theorem FrSt.turn (h : FrSt w B cap p M Z ya yn yc G W) (hm : MemAt W' B cap' M' G') (hp : G'.p = G.p) (hf : FmAt M' G') (hb : Below B W W') (hs : Sep W W' G.ρ G'.ρ) : FrSt w B cap' p M' Z ya yn yc G' W' :=
  ⟨hm, hp.trans h.p, hf, own_at10 h.own (fun b hk => (hs.free (h.own.lt b hk).2 (h.ap b hk)).1), fun b hk => (hs.free (h.own.lt b hk).2 (h.ap b hk)).2, h.bel.trans hb⟩
theorem FrSt.app {C : Array Value} {va : Option Addr} {vn vc : Nat} {Z' : List Int} (h : FrSt w B cap p M Z ya yn yc G W) (hg : (W.alloc (.cells C 3)).grownBy W' (Value.slice ya yn yc).ownBlock) (ho : OwnsI W' B 3 (.slice va vn vc) Z') (hw : ∀ b, (Value.slice va vn vc).ownBlock = some b → (Value.slice ya yn yc).ownBlock = some b ∨ W.heap.size ≤ b) : FrSt w B cap p M Z' va vn vc G W' := by
  have hoff : Off (fun b => (Value.slice ya yn yc).ownBlock = some b) W W' := ((Off.refl _ W).alloc _).grown hg (fun b hb => .inl hb)
  refine ⟨h.mem.beside hoff h.ap, h.p, h.fm, ho, fun b hb hd => ?_, h.bel.trans (hoff.below (by have := h.mem.plt; omega) (fun b hb => (h.own.lt b hb).1))⟩
  rcases hw b hb with h1 | h1
  · exact h.ap b h1 hd
  · obtain ⟨r, hr⟩ := hd
    have := (h.mem.range b r hr).2
    omega
/-- Enter, Leave, and Get, where the law stands. -/
theorem FrSt.enter (hcap : cap ≤ 1099511627776) (h : FrSt w B cap p M Z ya yn yc G W) : Calls Try.prog 24 #[.pointer (some ⟨p, 0, none⟩)] W fun e w' => e = .returned (.int .i64 (enterM M).2) ∧ ∃ G', FrSt w B (cap + 1) p (enterM M).1 Z ya yn yc G' w' := by
  have hc := enter_any h.mem hcap
  rw [h.p] at hc
  exact hc.mono fun e w' ⟨he, G', h1, h2, h3, h4, h5⟩ => ⟨he, G', h.turn h1 h2 (h4 h.fm) h3 h5⟩
theorem FrSt.leave (hcap : cap ≤ 1099511627776) (h : FrSt w B cap p M Z ya yn yc G W) : Calls Try.prog 26 #[.pointer (some ⟨p, 0, none⟩)] W fun e w' => e = .returned (.bool (leaveM M).2) ∧ ∃ G', FrSt w B cap p (leaveM M).1 Z ya yn yc G' w' := by
  have hc := leave_any hcap h.mem h.fm
  rw [h.p] at hc
  exact hc.mono fun e w' ⟨he, G', h1, h2, h3, h4, h5⟩ => ⟨he, G', h.turn h1 h2 h4 h3 h5⟩
theorem FrSt.slice (hcap : cap ≤ 1099511627776) (h : FrSt w B cap p M Z ya yn yc G W) (n : Int) (st : Bool) : Calls Try.prog 25 #[.pointer (some ⟨p, 0, none⟩), .int .i64 n, .bool st] W fun e w' => e = .returned (.tuple #[.int .i64 (sliceM M n st).2.1, .int .i64 (sliceM M n st).2.2]) ∧ ∃ G', FrSt w B (cap + 1) p (sliceM M n st).1 Z ya yn yc G' w' := by
  have hc := slice_any h.mem hcap n st (layOk_any hcap M) h.fm
  rw [h.p] at hc
  exact hc.mono fun e w' ⟨he, G', h1, h2, h3, h4, h5⟩ => ⟨he, G', h.turn h1 h2 (h4 h.fm) h3 h5⟩
theorem FrSt.get (hcap : cap ≤ 1099511627776) (h : FrSt w B cap p M Z ya yn yc G W) (r j : Int) (hr : -9223372036854775808 ≤ r ∧ r ≤ 9223372036854775807) : Calls Try.prog 27 #[.pointer (some ⟨p, 0, none⟩), .int .i64 r, .int .i64 j] W fun e w' => e = .returned (.tuple #[vvV (getM M r j).1, .int .i64 (getM M r j).2]) ∧ FrSt w B cap p M Z ya yn yc G w' := by
  have hc := get_any h.mem hcap r j hr
  rw [h.p] at hc
  exact hc.mono fun e w' ⟨he, hb⟩ => ⟨he, h.since hb⟩
end
end Go.Proofs.Ytnnccahpgailiaa
