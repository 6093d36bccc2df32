/- Layer 5: what lies in memory of the call's own, as the walk's list wants it; its list of numbers with a writer. -/
import Derived.Test.YtfnkmigcklmghaaDoorQCodeWl
import Derived.Test.YtfnkmigcklmghaaDoorQT0
import Derived.Test.YtfnkmigcklmghaaDoorQT3
import Derived.Deep.DeepCutAuto
import Derived.Deep.RegionHeld3
namespace Go.Proofs.YtfnkmigcklmghaaDoor
open Go.RowKit (wrap64 intOf Below)
set_option linter.unusedVariables false
attribute [local go_sem ↓] Go.wp_at_zero Go.wp_at_succ

theorem WrAt.safe {w : World} {x B : Nat} {v : Value} {L : List UInt8} (h : WrAt w x B v L) {b : Nat} (hb : b < B ∧ b ≠ x) : ¬ WX x v b := fun hx => by
  rcases hx with rfl | hx
  · exact hb.2 rfl
  · have := (h.own hx).1; omega
theorem NumsO.form {w : World} {S : Nat → Prop} {v : Value} {Z : List Int} (h : NumsO w S v Z) :
    ∃ a c g, v = .slice a Z.length c ∧ Z.length * 8 ≤ 140737488351232 ∧ (a = none → c = 0) ∧ (0 < Z.length → a = some ⟨g, 0, none⟩ ∧ S g) ∧ ∀ k (hk : k < Z.length), WinAt w g k [.int .i64 Z[k]] ∧ -9223372036854775808 ≤ Z[k] ∧ Z[k] ≤ 9223372036854775807 := by
  obtain ⟨h1, h2, h3, h4⟩ := h
  have hown := h1
  rcases h1.2 with ⟨rfl, h0⟩ | ⟨g, cap, cur, rfl, hB, hg, hc1, hc2, hc3, htake⟩
  · have h0' : Z.length = 0 := h0
    refine ⟨none, 0, 0, by rw [h0'], h3, fun _ => rfl, fun hp => absurd hp (by omega), fun k hk => absurd hk (by omega)⟩
  · refine ⟨_, cap, g, rfl, h3, (fun h => by cases h), fun hp => ⟨rfl, h2 g rfl⟩, fun k hk => ⟨⟨cur, _, hg, fun j hj => ?_⟩, h4 _ (List.getElem_mem hk)⟩⟩
    obtain rfl : j = 0 := by simpa using hj
    have hz : (Z.map numV)[k]? = some (.int .i64 Z[k]) := by simp [hk, numV]
    rw [← htake, List.getElem?_take] at hz
    split at hz
    · simpa using hz
    · cases hz
theorem RowO.form {α : Type} {T K : Nat} {Q : World → (Nat → Prop) → List Value → α → Prop} (hQ : Holds Q) {w : World} {S : Nat → Prop} {v : Value} {xs : List α} (h : RowO T K Q w S v xs) :
    ∃ a c g, v = .slice a xs.length c ∧ xs.length ≤ 140737488351232 ∧ (a = Option.none → c = 0) ∧ (0 < xs.length → a = some ⟨g, 0, Option.none⟩ ∧ S g) ∧ ∀ k (hk : k < xs.length), ∃ cs, cs.length = K ∧ WinAt w g (k * K) cs ∧ Q w S cs xs[k] := by
  obtain ⟨css, h1, h2, h3, h4, h5, h6⟩ := h
  have hown := h1
  rcases h1.2 with ⟨rfl, h0⟩ | ⟨g, cap, cur, rfl, hB, hg, hc1, hc2, hc3, htake⟩
  · refine ⟨Option.none, 0, 0, by rw [h0], h5, fun _ => rfl, fun hp => absurd hp (by omega), fun k hk => absurd hk (by omega)⟩
  · refine ⟨_, cap, g, rfl, h5, (fun h => by cases h), fun hp => ⟨rfl, h4 g rfl⟩, fun k hk => ?_⟩
    have hk' : k < css.length := by omega
    exact ⟨css[k], h3 _ (List.getElem_mem hk'), ownsRow_win hown h3 rfl hk', hQ.wider (h6 k hk hk') (fun b _ hb => hb.1)⟩

theorem wl_nums (x B : Nat) (v : Value) (L : List UInt8) (Z : List Int) (most : Nat) (S : Nat → Prop) (mi : Int) (hmi : mi = (most : Int)) (a : Option Addr) (n c : Nat) (w : World) (h : WrAt w x B v L) (hm : most ≤ 1000) (hl : L.length + (10 + most * 10) ≤ 140737488355328) (hz : NumsO w S (.slice a n c) Z) (hS : ∀ b, S b → b < B ∧ b ≠ x) :
    Calls Tryd.prog 104 #[.agg #[.iface 63 (.pointer (some ⟨x, 0, none⟩))], .slice a n c, .int .i64 mi, .func (.func 105) #[.agg #[.iface 63 (.pointer (some ⟨x, 0, none⟩))]] #[]] w
      (WrPost x B v L (encNums most Z) (.slice a n c) w) := by
  obtain ⟨a', c', g, he, hlen, hnil, hpos, hk⟩ := hz.form
  cases he
  refine wl_int encN Z 10 x B v L most g mi hmi a c w h Upto.num hm hl (by omega) (fun hp => (hpos hp).1) (fun k hkl u v' L' ho hn hw hr => ?_)
  have hgS := hS g (hpos (by omega)).2
  have hx := h.safe hgS
  refine (wk_whole x B g k v' L' Z[k] u hw (hk k hkl).2.1 (hk k hkl).2.2 hr ((hk k hkl).1.stays ho hx) (hw.safe hgS)).mono ?_
  rintro e w' ⟨v2, he, h2, h3, h4⟩
  exact .inl ⟨_, v2, rfl, he, h2, h3, h4⟩
/-- Where a walk's method stands: its box, what has been written. -/
structure WSt (x B : Nat) (v : Value) (w : World) (bx : Nat) (L : List UInt8) (u : World) (vu : Value) : Prop where
  wr : WrAt u x B vu L
  offs : Off (WX x v) w u
  new : NewAt w v vu
  box : u.heap[bx]? = some (.cells #[.iface 63 (.pointer (some ⟨x, 0, none⟩))] 110 (0, 0))
  nx : bx ≠ x
  nv : vu.ownBlock ≠ some bx
section
variable {x B : Nat} {v : Value} {w : World} {bx : Nat} {L : List UInt8} {u : World} {vu : Value}
theorem WSt.start (h : WrAt w x B v L) : WSt x B v w w.heap.size L (w.alloc (.cells #[.iface 63 (.pointer (some ⟨x, 0, none⟩))] 110)) v :=
  ⟨h.since ((Below.refl _ _).alloc (Nat.le_refl _) _), Off.alloc (Off.refl _ _) _, NewAt.refl _ _, heap_alloc_new w _, (by have := h.lt; omega), fun e => by have := (h.own e).2; omega⟩
theorem WSt.cell (h : WSt x B v w bx L u vu) : u.cell? ⟨bx, 0, none⟩ = some (.iface 63 (.pointer (some ⟨x, 0, none⟩))) := by
  simp [World.cell?, h.box]
theorem WSt.step {u' : World} {v' : Value} {L' : List UInt8} (h : WSt x B v w bx L u vu) (h1 : WrAt u' x B v' L') (h2 : Off (WX x vu) u u') (h3 : NewAt u vu v') : WSt x B v w bx L' u' v' := by
  have hlt : bx < u.heap.size := (Array.getElem?_eq_some_iff.1 h.box).1
  refine ⟨h1, h.offs.wr h.new h2, h.new.trans h3 h.offs.size, (h2.block bx hlt (fun hX => ?_)).trans h.box, h.nx, fun e => ?_⟩
  · rcases hX with hX | hX
    · exact h.nx hX
    · exact h.nv hX
  · rcases h3 bx e with h' | h'
    · exact h.nv h'
    · omega
theorem WSt.drew (h : WSt x B v w bx L u vu) : WSt x B v w bx L u.drew vu :=
  h.step (h.wr.since ((Below.refl _ _).drew)) (Off.drew (Off.refl _ _)) (NewAt.refl _ _)
theorem WSt.win (h : WSt x B v w bx L u vu) {g off : Nat} {cs : List Value} (hw : WinAt w g off cs) (hn : ¬ WX x v g) : WinAt u g off cs := hw.stays h.offs hn
theorem WSt.done (h : WSt x B v w bx L u vu) {L0 l : List UInt8} {o : Out} {val : Value} (hl : L = L0 ++ l) (ho : o = .ok l) : WrPost x B v L0 o val w (.returned val) u :=
  .inl ⟨l, vu, ho, rfl, by rw [← hl]; exact h.wr, h.offs, h.new⟩
theorem WSt.fails (h : WSt x B v w bx L u vu) {u' : World} (h2 : Off (WX x vu) u u') {L0 : List UInt8} {o : Out} {er : Int} {val : Value} (ho : o = .no er) :
    WrPost x B v L0 o val w (.panicked [{ v := .iface 31 (.int .i64 er), recovered := false }]) u' :=
  .inr ⟨er, ho, rfl, h.offs.wr h.new h2⟩
end

end Go.Proofs.YtfnkmigcklmghaaDoor

/- Layer 5: Copy's small parts: apart, copiedSig, copiedClass, plain (of an end). -/
namespace Go.Proofs.YtfnkmigcklmghaaDoor
open Go.RowKit (wrap64 intOf Below)
set_option linter.unusedVariables false
set_option linter.unusedSimpArgs false
attribute [local go_sem ↓] Go.wp_at_zero Go.wp_at_succ

theorem OwnsI.numsO {w : World} {B : Nat} {v : Value} {Z : List Int} (h : OwnsI w B 3 v Z) (hl : Z.length * 8 ≤ 140737488351232) (hr : ∀ z ∈ Z, InR z) : NumsO w (From B) v Z :=
  ⟨h.mono (Nat.zero_le _), fun b hb => (h.lt b hb).1, hl, hr⟩
/-- A list of numbers of the call's own comes back. -/
def NumsPost (Z : List Int) (w : World) (e : Ending) (w' : World) : Prop := ∃ va vn vc, e = .returned (.slice va vn vc) ∧ NumsO w' (From w.heap.size) (.slice va vn vc) Z ∧ Below w.heap.size w w'
theorem apart_v (a : Option Addr) (n c : Nat) (Z : List Int) (w : World) (h : NumsV w (.slice a n c) Z) :
    Calls Tryd.prog 82 #[.slice a n c] w (NumsPost Z w) := by
  obtain ⟨a', n', c', he, hat, hnil, hn, hr⟩ := h
  cases he
  have HA := Lib.hid hat
  have HZ := Lib.hid hat.1
  have HN := Lib.hid hnil
  have HR := Lib.hid hr
  clear hat hnil hr
  go_enter Tryd.func82, Tryd.ntmps82
  go_wp2_with (at_builtin; refine wpList_append_nums _ rfl _ _ 36 rfl 3 Tryd.underlying36 info_int w.heap.size (.slice none 0 0) [] rfl (World.ownsRow_nil _ _ _ 1) (Nat.le_refl _) a n c Z rfl HN.out HA.out (by simp; omega) ?_; intro va vn vc w2 hown hb; have HO := Lib.hid hown; have HB := Lib.hid hb; clear hown hb)
  go_ret
  exact ⟨va, vn, vc, rfl, OwnsI.numsO HO.out (by rw [HZ.out]; exact hn) HR.out, HB.out⟩

def SigPost (y : SigD) (w : World) (e : Ending) (w' : World) : Prop := ∃ va vn vc, e = .returned (.agg #[.slice va vn vc, .int .i64 y.ret]) ∧ SigO w' (From w.heap.size) [.slice va vn vc, .int .i64 y.ret] y ∧ Below w.heap.size w w'
theorem NumsV.since' {W W' : World} {v : Value} {Z : List Int} (h : NumsV W v Z) (hb : Below W.heap.size W W') : NumsV W' v Z := h.since hb
/-- Behind two blocks that were just laid, a draw and calls that make memory alone. -/
structure Laid2 (w : World) (C0 C1 : Array Value) (u : World) : Prop where
  bel : Below w.heap.size w u
  c0 : ∀ j, u.cell? ⟨w.heap.size, j, none⟩ = C0[j]?
  c1 : ∀ j, u.cell? ⟨w.heap.size + 1, j, none⟩ = C1[j]?
  f0 : ∀ j, u.frozen? ⟨w.heap.size, j, none⟩ = false
  f1 : ∀ j, u.frozen? ⟨w.heap.size + 1, j, none⟩ = false
  size : w.heap.size + 2 ≤ u.heap.size
theorem Laid2.start (w : World) (C0 C1 : Array Value) (t0 t1 : TypeId) : Laid2 w C0 C1 ((w.alloc (.cells C0 t0)).alloc (.cells C1 t1)).drew := by
  have h := cell_laid2 (C0 := C0) (C1 := C1) (t0 := t0) (t1 := t1) (show Below (w.heap.size + 2) ((w.alloc (.cells C0 t0)).alloc (.cells C1 t1)) ((w.alloc (.cells C0 t0)).alloc (.cells C1 t1)).drew from (Below.refl _ _).drew)
  exact ⟨(((Below.refl _ _).alloc (Nat.le_refl _) _).alloc (by simp) _).drew, h.1, h.2.1, h.2.2.1, h.2.2.2, by simp [World.drew]⟩
theorem Laid2.step {w : World} {C0 C1 : Array Value} {u u' : World} (h : Laid2 w C0 C1 u) (hb : Below u.heap.size u u') : Laid2 w C0 C1 u' := by
  have hs := h.size
  exact ⟨keepB h.bel hb, fun j => (hb.cell (p := ⟨w.heap.size, j, none⟩) (by simp; omega)).trans (h.c0 j), fun j => (hb.cell (p := ⟨w.heap.size + 1, j, none⟩) (by simp; omega)).trans (h.c1 j), fun j => (hb.frozen (p := ⟨w.heap.size, j, none⟩) (by simp; omega)).trans (h.f0 j), fun j => (hb.frozen (p := ⟨w.heap.size + 1, j, none⟩) (by simp; omega)).trans (h.f1 j), Nat.le_trans hs hb.size⟩
/-- What was made since, told from the call's beginning. -/
theorem NumsO.first {w u : World} {v : Value} {Z : List Int} {C0 C1 : Array Value} (hl : Laid2 w C0 C1 u) {u' : World} (h : NumsO u' (From u.heap.size) v Z) : NumsO u' (From (w.heap.size + 2)) v Z :=
  h.wider (fun b _ hb => Nat.le_trans hl.size hb)
/-- Stores into the result's block turn nothing that was made since. -/
theorem NumsO.past {n : Nat} {u u' : World} {v : Value} {Z : List Int} (h : NumsO u (From (n + 2)) v Z) (ho : Off (fun b => b = n + 1) u u') : NumsO u' (From n) v Z :=
  (h.off ho (fun b hb e => by have : n + 2 ≤ b := hb; omega)).wider (fun b _ hb => Nat.le_trans (by omega) hb)

set_option maxRecDepth 100000 in
theorem copied_sig (a : Option Addr) (n c : Nat) (y : SigD) (w : World) (h : SigQ w [.slice a n c, .int .i64 y.ret] y) :
    Calls Tryd.prog 54 #[.agg #[.slice a n c, .int .i64 y.ret]] w (SigPost y w) := by
  obtain ⟨p, he, hp, hr⟩ := h
  cases he
  have hl0 := Laid2.start w #[.slice a n c, .int .i64 y.ret] #[.slice none 0 0, .int .i64 0] 52 52
  have HL0 := Lib.hid hl0
  have HP := Lib.hid (hp.since hl0.bel)
  have HR := Lib.hid hr
  clear hp hr hl0
  go_enter Tryd.func54, Tryd.ntmps54
  go_wp2_with fail
  go_region_held3 (fun u => u.cell? ⟨w.heap.size, 0, none⟩ = some (.slice a n c) ∧ u.cell? ⟨w.heap.size, 1, none⟩ = some (.int .i64 y.ret)) (first | (exact ⟨by simp, by simp⟩) | exact ⟨hc0 0, hc0 1⟩ | go_keep)
    (first | (go_at_call 82; (with_reducible refine (apart_v a n c y.params _ HP.out).mono ?_); rintro e w1 ⟨va, vn, vc, rfl, hn1, hb1⟩; have hl1 := HL0.out.step hb1; have hn2 := hn1.first HL0.out; have hc0 := hl1.c0; have hc1 := hl1.c1; have hf1 := hl1.f1))
  all_goals
    have HN := Lib.hid hn2
    have HL := Lib.hid hl1
    clear hn1 hn2 hl1
    go_wp2_with fail
    refine bodyPost_ret (v := .agg #[.slice va vn vc, .int .i64 y.ret]) (by simp [results, Tryd.results54, go_sem, hc1]) rfl ⟨va, vn, vc, rfl, ⟨_, rfl, HN.out.past (((Off.refl (fun b => b = w.heap.size + 1) _).setCell (.inl rfl) _).setCell (.inl rfl) _), HR.out⟩, (HL.out.bel.setCell (by simp) _).setCell (by simp) _⟩

def ClassPost (y : ClassD) (w : World) (e : Ending) (w' : World) : Prop := ∃ va vn vc ua un uc, e = .returned (.agg #[.slice va vn vc, .slice ua un uc]) ∧ ClassO w' (From w.heap.size) [.slice va vn vc, .slice ua un uc] y ∧ Below w.heap.size w w'
set_option maxRecDepth 100000 in
theorem copied_class (a b : Option Addr) (n c m d : Nat) (y : ClassD) (w : World) (h : ClassQ w [.slice a n c, .slice b m d] y) :
    Calls Tryd.prog 56 #[.agg #[.slice a n c, .slice b m d]] w (ClassPost y w) := by
  obtain ⟨p, q, he, hp, hq⟩ := h
  cases he
  have hl0 := Laid2.start w #[.slice a n c, .slice b m d] #[.slice none 0 0, .slice none 0 0] 54 54
  have HL0 := Lib.hid hl0
  have HP := Lib.hid (hp.since hl0.bel)
  have HQ := Lib.hid (hq.since hl0.bel)
  clear hp hq hl0
  go_enter Tryd.func56, Tryd.ntmps56
  go_wp2_with fail
  go_region_held3 (fun u => u.cell? ⟨w.heap.size, 0, none⟩ = some (.slice a n c) ∧ u.cell? ⟨w.heap.size, 1, none⟩ = some (.slice b m d)) (first | (exact ⟨by simp, by simp⟩) | exact ⟨hd0 0, hd0 1⟩ | exact ⟨hc0 0, hc0 1⟩ | go_keep)
    (first
      | (go_at_call 82; (with_reducible refine (apart_v a n c y.fields _ HP.out).mono ?_); rintro e w1 ⟨va, vn, vc, rfl, hn1, hb1⟩; have hl1 := HL0.out.step hb1; have hn2 := hn1.first HL0.out; have hc0 := hl1.c0; have hq1 := HQ.out.since hb1)
      | (go_at_call 82; (with_reducible refine (apart_v b m d y.methods _ hq1).mono ?_); rintro e w2 ⟨ua, un, uc, rfl, hm1, hb2⟩; have hl2 := hl1.step hb2; have hm2 := hm1.first hl1; have hn3 := hn2.off (X := fun _ => False) (Off.since hb2) (fun _ _ h => h); have hd0 := hl2.c0; have hc1 := hl2.c1; have hf1 := hl2.f1))
  all_goals
    have HN := Lib.hid hn3
    have HM := Lib.hid hm2
    have HL := Lib.hid hl2
    clear hn1 hn2 hn3 hm1 hm2 hl1 hl2 hq1 hc0
    go_wp2_with fail
    refine bodyPost_ret (v := .agg #[.slice va vn vc, .slice ua un uc]) (by simp [results, Tryd.results56, go_sem, hc1]) rfl ⟨va, vn, vc, ua, un, uc, rfl, ⟨_, _, rfl, HN.out.past (((Off.refl (fun b => b = w.heap.size + 1) _).setCell (.inl rfl) _).setCell (.inl rfl) _), HM.out.past (((Off.refl (fun b => b = w.heap.size + 1) _).setCell (.inl rfl) _).setCell (.inl rfl) _)⟩, (HL.out.bel.setCell (by simp) _).setCell (by simp) _⟩
end Go.Proofs.YtfnkmigcklmghaaDoor
