/- Layer 13: package uses' spread, walked. -/
import Derived.Test.YtdchhfdmingnaaaDoorFT7
import Derived.Deep.LoopGhost
namespace Go.Proofs.YtdchhfdmingnaaaDoor
open Go.RowKit (wrap64 intOf Below)
set_option linter.unusedVariables false
set_option linter.unusedSimpArgs false
attribute [local go_sem] run_store_func
structure Bsd (f : FuncD) (n bf b4 bn : Nat) (va : Option Addr) (vc : Nat) (u : World) : Prop where
  first : u.cell? ⟨bf, 0, none⟩ = some (.slice va (n + 1) vc)
  nums : NumsAt u va (n + 1) (firstUL f)
  clo : u.cell? ⟨b4, 0, none⟩ = some (.func (.func 61) #[] #[.pointer (some ⟨bn, 0, none⟩)])
structure F3 (w3 : World) (f : FuncD) (n bf : Nat) (bv : Value) (va : Option Addr) (vc ga : Nat) (asl : List Value) (u : World) : Prop where
  ge : w3.heap.size ≤ bf
  box : Boxed u bf 34 bv
  own : OwnsI u w3.heap.size 3 (.slice va (n + 1) vc) (firstUL f)
  row : Rows2 u w3.heap.size 34 3 (.slice (some ⟨ga, 0, none⟩) n n) asl (ahRow f n 0)
  len : asl.length = n
  bel : Below w3.heap.size w3 u
  ne : va.map (·.block) ≠ some bf ∧ ga ≠ bf ∧ ∀ j (h : j < asl.length), (asl[j]).ownBlock ≠ some bf
theorem F3.set {w3 u : World} {f : FuncD} {n bf : Nat} {bv v' : Value} {va : Option Addr} {vc ga : Nat} {asl : List Value} (h : F3 w3 f n bf bv va vc ga asl u) : F3 w3 f n bf v' va vc ga asl (u.setCell ⟨bf, 0, none⟩ v') := by
  have hoff : Off (fun k => k = bf) u (u.setCell ⟨bf, 0, none⟩ v') := (Off.refl (fun k => k = bf) u).setCell (p := ⟨bf, 0, none⟩) (.inl rfl) v'
  have hbx : u.heap[bf]? = _ := h.box
  refine ⟨h.ge, h.box.set v', h.own.offX hoff (fun k hk e => ?_), ⟨?_, h.row.len, fun j h1 h2 => (h.row.own j h1 h2).offX hoff (fun k hk e => h.ne.2.2 j h1 (e ▸ hk)), h.row.apart⟩, h.len, h.bel.setCell h.ge _, h.ne⟩
  · subst e
    cases va with
    | none => cases hk
    | some ad =>
      have : ad.block = k := by
        rcases h.own.2 with ⟨he, _⟩ | ⟨g, cap, cur, he, _⟩
        · simp only [Value.slice.injEq] at he; cases he.1
        · simp only [Value.slice.injEq] at he
          have h1 := he.1
          cases h1
          simpa [Value.ownBlock] using hk
      exact h.ne.1 (by rw [Option.map_some, this])
  · refine ⟨h.row.row.1, ?_⟩
    rcases h.row.row.2 with hn | ⟨g', cap, cur, e, hB, hh, rest⟩
    · exact .inl hn
    · cases e
      exact .inr ⟨_, _, cur, rfl, hB, (hoff.block _ (Array.getElem?_eq_some_iff.1 hh).1 h.ne.2.1).trans hh, rest⟩
theorem F3.mk' {w3 u : World} {f : FuncD} {n bf : Nat} {bv : Value} {va : Option Addr} {vc ga : Nat} {asl : List Value} (ge : w3.heap.size ≤ bf) (box : Boxed u bf 34 bv) (own : OwnsI u w3.heap.size 3 (.slice va (n + 1) vc) (firstUL f))
    (row : Rows2 u w3.heap.size 34 3 (.slice (some ⟨ga, 0, none⟩) n n) asl (ahRow f n 0)) (len : asl.length = n) (bel : Below w3.heap.size w3 u) (hga : ga ≠ bf) : F3 w3 f n bf bv va vc ga asl u := by
  have hbx : u.heap[bf]? = _ := box
  refine ⟨ge, box, own, row, len, bel, fun e => ?_, hga, fun j h e => ?_⟩
  · rcases own.2 with ⟨he, h0⟩ | ⟨g, cap, cur, he, _, hh, _⟩
    · simp only [Value.slice.injEq] at he; rw [he.1] at e; cases e
    · simp only [Value.slice.injEq] at he
      rw [he.1] at e
      simp at e
      rw [e, hbx] at hh
      cases hh
  · obtain ⟨cur, hc, _⟩ := ownsI_blk (row.own j h (by rw [← row.len]; exact h)) e
    rw [hbx] at hc
    cases hc
def Abv (gn gl : Nat) (w6 : World) (u : World) : Prop := Off (fun k => k = gn ∨ k = gl) w6 u
section
variable {w3 wc w6 : World} {f : FuncD} {n bf b4 bn gn gl : Nat} {va : Option Addr} {vc ga : Nat} {asl : List Value} {Bu bxu gu : Nat} {us : List Value} {ZU : List (List Int)}
theorem abv_cell {u : World} (h6 : Below wc.heap.size wc w6) (hgn : gn < w3.heap.size) (hgl : gl < w3.heap.size) (hoff : Abv gn gl w6 u) {g o : Nat} {v : Value} (hc : wc.cell? ⟨g, o, none⟩ = some v) (hg : w3.heap.size ≤ g) : u.cell? ⟨g, o, none⟩ = some v := by
  have hl : g < wc.heap.size := World.block_lt_of_cell? (a := ⟨g, o, none⟩) _ hc
  exact (Off.cell hoff (p := ⟨g, o, none⟩) (Nat.lt_of_lt_of_le hl h6.size) (fun e => by rcases e with e | e <;> (simp only at e; omega))).trans ((h6.cell (p := ⟨g, o, none⟩) hl).trans hc)
theorem abv_own {u : World} (h6 : Below wc.heap.size wc w6) (hgn : gn < w3.heap.size) (hgl : gl < w3.heap.size) (hoff : Abv gn gl w6 u) {v : Value} {Z : List Int} (ho : OwnsI wc w3.heap.size 3 v Z) : OwnsI u w3.heap.size 3 v Z :=
  (ho.below h6).offX hoff (fun k hk e => by have := (ho.lt k hk).1; rcases e with e | e <;> omega)
theorem bsd_of {u : World} (h3 : F3 w3 f n bf (.slice va (n + 1) vc) va vc ga asl wc) (h6 : Below wc.heap.size wc w6)
    (hc4 : w6.cell? ⟨b4, 0, none⟩ = some (.func (.func 61) #[] #[.pointer (some ⟨bn, 0, none⟩)])) (hb4 : b4 ≠ gn ∧ b4 ≠ gl) (hoff : Abv gn gl w6 u) (hgn : gn < w3.heap.size) (hgl : gl < w3.heap.size) : Bsd f n bf b4 bn va vc u :=
  ⟨abv_cell h6 hgn hgl hoff h3.box.cell h3.ge, (abv_own h6 hgn hgl hoff h3.own).read, (Off.cell hoff (p := ⟨b4, 0, none⟩) (World.block_lt_of_cell? (a := ⟨b4, 0, none⟩) _ hc4) (fun e => e.elim hb4.1 hb4.2)).trans hc4⟩
theorem ahead_of (h3 : F3 w3 f n bf (.slice va (n + 1) vc) va vc ga asl wc) (h6 : Below wc.heap.size wc w6) (hgn : gn < w3.heap.size) (hgl : gl < w3.heap.size) {b : Nat} (hb : b < n) :
    ∃ (xa : Option Addr) (xn xc : Nat), ∀ u, Abv gn gl w6 u → NumsAt u xa xn (ahL f n (b : Int)) ∧ u.cell? ⟨ga, b, none⟩ = some (.slice xa xn xc) := by
  have h1 : b < asl.length := by rw [h3.len]; exact hb
  have h2 : b < (ahRow f n 0).length := by rw [← h3.row.len]; exact h1
  have ho := h3.row.own b h1 h2
  rw [ahRow_at h2] at ho
  simp only [List.take_zero, List.not_mem_nil, if_false, List.append_nil] at ho
  obtain ⟨xa, xn, xc, e, _⟩ := ho.nums
  have hc := h3.row.cell h1
  rw [e] at hc ho
  have hgb : w3.heap.size ≤ ga := (ownsRow_blk h3.row.row (i := ga) rfl).choose_spec.2
  exact ⟨xa, xn, xc, fun u hu => ⟨(abv_own h6 hgn hgl hu ho).read, abv_cell h6 hgn hgl hu hc hgb⟩⟩
theorem users_of (hu : SetU Bu bxu gu (valU f) w6 us ZU) (hBu : w3.heap.size ≤ Bu) (hgn : gn < w3.heap.size) (hgl : gl < w3.heap.size) {v : Nat} (hv : v < valU f) :
    ∃ (xa : Option Addr) (xn xc : Nat) (Z : List Int), ZU[v]? = some Z ∧ ∀ u, Abv gn gl w6 u → NumsAt u xa xn Z ∧ u.cell? ⟨gu, v, none⟩ = some (.slice xa xn xc) := by
  have h1 : v < us.length := by rw [hu.len]; exact hv
  have h2 : v < ZU.length := by rw [← hu.row.len]; exact h1
  have ho := hu.row.own v h1 h2
  have hc := hu.row.cell h1
  obtain ⟨xa, xn, xc, e, _⟩ := ho.nums
  rw [e] at hc ho
  have hgb := hu.blk.choose_spec.2
  refine ⟨xa, xn, xc, ZU[v], List.getElem?_eq_getElem h2, fun u hoff => ⟨(ho.offX hoff (fun k hk e => by have := (ho.lt k hk).1; rcases e with e | e <;> omega)).read, (Off.cell hoff (p := ⟨gu, v, none⟩) (World.block_lt_of_cell? (a := ⟨gu, v, none⟩) _ hc) (fun e => by rcases e with e | e <;> (simp only at e; omega))).trans hc⟩⟩
end
theorem uown_cut {W : World} {B : Nat} {e : TypeId} {g n c : Nat} {L : List Int} (h : OwnsI W B e (.slice (some ⟨g, 0, none⟩) n c) L) {i : Nat} (hi : i ≤ n) : OwnsI W B e (.slice (some ⟨g, 0, none⟩) i c) (L.take i) := by
  have hl := h.read.1
  refine ⟨by simp, ?_⟩
  rcases h.2 with ⟨e, _⟩ | ⟨g', cap, cur, e, hB, hg, h1, h2, h3, h4⟩
  · cases e
  · cases e
    have hll : (L.take i).length = i := by simp; omega
    refine .inr ⟨g, c, cur, by rw [hll], hB, hg, by rw [hll]; omega, h2, h3, ?_⟩
    rw [hll, List.map_take, ← h4, hl, List.take_take]
    congr 1
    omega
def SpreadPost (f : FuncD) (n : Nat) (w : World) (e : Ending) (w' : World) : Prop := ∃ Bn bn gn Bl bl gl vsN vsL, e = .returned (.tuple #[.slice (some ⟨gn, 0, none⟩) n n, .slice (some ⟨gl, 0, none⟩) n n]) ∧
  SetU Bn bn gn n w' vsN ((List.range n).map (neededU f)) ∧ SetU Bl bl gl n w' vsL ((List.range n).map (leftU f)) ∧ Below w.heap.size w w'
theorem mem_users {f : FuncD} {v : Nat} {ZU : List (List Int)} (h : UsersR (valU f) (usesU f) ZU) (hv : v < valU f) {Z : List Int} (hz : ZU[v]? = some Z) : (∀ z ∈ Z, ∃ b : Nat, z = (b : Int) ∧ b < f.blocks.length ∧ InU f (v : Int) b) ∧ ∀ b, b < f.blocks.length → InU f (v : Int) b → (b : Int) ∈ Z := by
  obtain ⟨hl, hZ⟩ := List.getElem?_eq_some_iff.1 hz
  have hm := h.mem v hl
  rw [hZ] at hm
  refine ⟨fun z hz => ?_, fun b hb hu => ?_⟩
  · obtain ⟨x, hx, h1, rfl⟩ := (hm z).1 hz
    obtain ⟨h2, h3, h4, _⟩ := mem_usesU.1 hx
    exact ⟨x.1.1, rfl, h2, x.1.2, h3, h1 ▸ h4⟩
  · obtain ⟨k, hk, hu⟩ := hu
    exact (hm _).2 ⟨((b, k), (v : Int)), mem_usesU.2 ⟨hb, hk, hu, by unfold inU; simp; omega⟩, rfl, rfl⟩
set_option maxRecDepth 100000 in
set_option maxHeartbeats 8000000 in
theorem spread_any (r : Int) (a : Option Addr) (n c : Nat) (f : FuncD) (w : World) (hq : FuncQ w [.int .i64 r, .slice a n c] f) (hft : FT w) (hsm : SmU f) (hN : (usesU f).length ≤ 900000) :
    Calls Tryd.prog 27 #[.agg #[.int .i64 r, .slice a n c]] w (SpreadPost f n w) := by
  have hrow : RowV BlockQ 8 w (.slice a n c) f.blocks := by
    obtain ⟨bv, he, _, hr⟩ := hq
    simp only [List.cons.injEq, and_true] at he
    obtain ⟨_, rfl⟩ := he
    exact hr
  have hn : n = f.blocks.length := by obtain ⟨_, _, _, e, h, _⟩ := hrow; cases e; exact h.symm
  have hnb : n ≤ 100000 := by rw [hn]; exact hsm.blocks
  have HQ := Lib.hid hq
  have HROW := Lib.hid hrow
  have HFT := Lib.hid hft
  have HSM := Lib.hid hsm
  have HN := Lib.hid hN
  have HNN := Lib.hid hn
  clear hq hft hsm hN hrow hn
  obtain ⟨wf, hwf⟩ : ∃ u, u = w.alloc (.cells #[.int .i64 r, .slice a n c] 30) := ⟨_, rfl⟩
  have HBF : RowKit.Hid (Below w.heap.size w wf ∧ w.heap.size < wf.heap.size) := Lib.hid (by rw [hwf]; exact ⟨(Below.refl _ w).alloc (Nat.le_refl _) _, by simp⟩)
  have HCF : RowKit.Hid (∀ u, Below wf.heap.size wf u → u.cell? ⟨w.heap.size, 0, none⟩ = some (.int .i64 r) ∧ u.cell? ⟨w.heap.size, 1, none⟩ = some (.slice a n c)) := Lib.hid fun u hu => by
    have h1 : ∀ j, wf.cell? ⟨w.heap.size, j, none⟩ = (#[.int .i64 r, .slice a n c] : Array Value)[j]? := fun j => by rw [hwf]; exact World.cell?_alloc_mark _ _ _ _ _
    exact ⟨(hu.cell (p := ⟨w.heap.size, 0, none⟩) HBF.out.2).trans (h1 0), (hu.cell (p := ⟨w.heap.size, 1, none⟩) HBF.out.2).trans (h1 1)⟩
  obtain ⟨d0, d1⟩ := HCF.out wf (Below.refl _ _)
  go_enter Tryd.func27, Tryd.ntmps27
  go_upto_region 1 with fail
  try rw [← hwf]
  clear hwf
  go_upto_region 2 with (go_at_call 42; (with_reducible refine (sets_any n (by omega) _).mono ?_); rintro e w1 ⟨rfl, hs1, hb1⟩; have HS1 := Lib.hid hs1; have HB1 := Lib.hid hb1; clear hs1 hb1)
  obtain ⟨w2, hw2⟩ : ∃ u, u = w1.alloc (.cells #[.func (.func 61) #[] #[.pointer (some ⟨wf.heap.size, 0, none⟩)]] 84) := ⟨_, rfl⟩
  rw [← hw2]
  have HB2 : RowKit.Hid (Below w1.heap.size w1 w2 ∧ w2.heap.size = w1.heap.size + 1 ∧ w2.cell? ⟨w1.heap.size, 0, none⟩ = some (.func (.func 61) #[] #[.pointer (some ⟨wf.heap.size, 0, none⟩)])) := Lib.hid (by
    rw [hw2]
    exact ⟨(Below.refl _ w1).alloc (Nat.le_refl _) _, by simp, World.cell?_alloc_mark _ _ _ _ _⟩)
  clear hw2 d0 d1
  obtain ⟨d0, d1⟩ := HCF.out w2 (HB1.out.trans (HB2.out.1.mono HB1.out.size))
  go_upto_region 3 with (go_at_call 42; (with_reducible refine (sets_any n (by omega) _).mono ?_); rintro e w3 ⟨rfl, hs3, hb3⟩; have HS3 := Lib.hid hs3; have HB3 := Lib.hid hb3; clear hs3 hb3)
  have HW3 : RowKit.Hid (Below w.heap.size w w3 ∧ w.heap.size < w3.heap.size) := Lib.hid (by
    have h1 := HBF.out.1.trans (HB1.out.mono HBF.out.1.size)
    have h2 := h1.trans (HB2.out.1.mono h1.size)
    have h3 := h2.trans (HB3.out.mono h2.size)
    exact ⟨h3, Nat.lt_of_lt_of_le HBF.out.2 (Nat.le_trans HB1.out.size (Nat.le_trans HB2.out.1.size HB3.out.size))⟩)
  have HCW : RowKit.Hid (∀ u, Below w3.heap.size w3 u → u.cell? ⟨w.heap.size, 0, none⟩ = some (.int .i64 r) ∧ u.cell? ⟨w.heap.size, 1, none⟩ = some (.slice a n c)) := Lib.hid fun u hu => by
    have h2 := HB1.out.trans (HB2.out.1.mono HB1.out.size)
    have h3 := h2.trans (HB3.out.mono h2.size)
    exact HCF.out u (h3.trans (hu.mono h3.size))
  have HROW3 : RowKit.Hid (∀ u, Below w3.heap.size w3 u → RowV BlockQ 8 u (.slice a n c) f.blocks) := Lib.hid fun u hu => HROW.out.since BlockQ.lasts (HW3.out.1.trans (hu.mono HW3.out.1.size))
  have HBA : RowKit.Hid (∀ o : Obj, Below w3.heap.size w3 ((w3.alloc o).drew)) := Lib.hid fun o => ((Below.refl _ w3).alloc (Nat.le_refl _) o).drew
  clear d0 d1
  obtain ⟨d0, d1⟩ := HCW.out w3 (Below.refl _ _)
  have hvv : valU f ≤ 1099511627776 := by have := HSM.out.vals; omega
  have HVV := Lib.hid hvv
  clear hvv
  go_cut [6, 7] (fun v6 v7 wc => RowKit.Hid (∃ bf va vc ga asl, v6 = .pointer (some ⟨bf, 0, none⟩) ∧ v7 = .slice (some ⟨ga, 0, none⟩) n n ∧ F3 w3 f n bf (.slice va (n + 1) vc) va vc ga asl wc))
  case first =>
   go_region_held3 (fun u => u.cell? ⟨w.heap.size, 0, none⟩ = some (.int .i64 r) ∧ u.cell? ⟨w.heap.size, 1, none⟩ = some (.slice a n c)) (first | exact HCW.out _ (HBA.out _) | exact HCW.out _ ((Below.refl _ w3).drew) | exact HCW.out _ (HB4W.out) | exact HCW.out _ (HB4W.out.alloc HB4W.out.size _) | exact HCW.out _ (HB4W.out.setCell (Nat.le_refl _) _) | exact HCW.out _ ((HB4W.out.alloc HB4W.out.size _).setCell HB4W.out.size _) | exact HCW.out _ (HB5W.out) | exact HCW.out _ (HB5W.out.alloc HB5W.out.size _) | exact HCW.out _ (HB5W.out.setCell (Nat.le_refl _) _) | exact HCW.out _ (HB5W.out.setCell HB4W.out.size _) | exact HCW.out _ ((HB5W.out.alloc HB5W.out.size _).setCell HB5W.out.size _) | go_keep) (first
    | (go_at_call 43; refine (ufirsts_any r a n c f _ (HROW3.out _ (by first | exact HBA.out _ | exact (Below.refl _ w3).drew | exact HB4W.out | exact HB4W.out.alloc HB4W.out.size _ | exact HB4W.out.setCell (Nat.le_refl _) _ | exact (HB4W.out.alloc HB4W.out.size _).setCell HB4W.out.size _ | exact HB5W.out | exact HB5W.out.alloc HB5W.out.size _ | exact HB5W.out.setCell (Nat.le_refl _) _ | exact HB5W.out.setCell HB4W.out.size _ | exact (HB5W.out.alloc HB5W.out.size _).setCell HB5W.out.size _)) (by omega) HVV.out).mono ?_; rintro e w4 ⟨va, vc, rfl, ho4, hb4⟩; have HO4 := Lib.hid ho4; have HB4 := Lib.hid hb4; have HB4W : RowKit.Hid (Below w3.heap.size w3 w4) := Lib.hid (by first | exact (HBA.out _).trans (hb4.mono (HBA.out _).size) | exact ((Below.refl _ w3).drew).trans hb4); have HL4 : RowKit.Hid (w3.heap.size ≤ w4.heap.size) := Lib.hid HB4W.out.size; have HM4 : RowKit.Hid (OwnsI w4 w3.heap.size 3 (.slice va (n + 1) vc) (firstUL f)) := Lib.hid (HO4.out.mono (by first | exact (HBA.out _).size | exact Nat.le_refl _)); (try (have zb : Boxed w4 w3.heap.size 34 (.slice none 0 0) := (hb4.block w3.heap.size (show w3.heap.size < (w3.alloc _).heap.size by simp)).trans (Boxed.new w3 34 (.slice none 0 0)); have z0 := zb.cell; have z1 := zb.frozen; have HG4 : RowKit.Hid (w3.heap.size < w4.heap.size) := Lib.hid zb.lt)); clear ho4 hb4)
    | (go_at_call 44; refine (ahead_any r a n c f _ (HROW3.out _ (by first | exact HBA.out _ | exact (Below.refl _ w3).drew | exact HB4W.out | exact HB4W.out.alloc HB4W.out.size _ | exact HB4W.out.setCell (Nat.le_refl _) _ | exact (HB4W.out.alloc HB4W.out.size _).setCell HB4W.out.size _ | exact HB5W.out | exact HB5W.out.alloc HB5W.out.size _ | exact HB5W.out.setCell (Nat.le_refl _) _ | exact HB5W.out.setCell HB4W.out.size _ | exact (HB5W.out.alloc HB5W.out.size _).setCell HB5W.out.size _)) (by omega)).mono ?_; rintro e w5 ⟨asl, rfl, hah⟩; have HAH := Lib.hid hah; have HB5W : RowKit.Hid (Below w3.heap.size w3 w5) := Lib.hid (by first | exact HB4W.out.trans (hah.bel.mono HB4W.out.size) | exact (HB4W.out.alloc HB4W.out.size _).trans (hah.bel.mono (HB4W.out.alloc HB4W.out.size _).size) | exact (HB4W.out.setCell (Nat.le_refl _) _).trans (hah.bel.mono (HB4W.out.setCell (Nat.le_refl _) _).size) | exact ((HB4W.out.alloc HB4W.out.size _).setCell HB4W.out.size _).trans (hah.bel.mono ((HB4W.out.alloc HB4W.out.size _).setCell HB4W.out.size _).size)); (first
        | (have zc : Boxed w5 w3.heap.size 34 (.slice va (n + 1) vc) := (hah.bel.block w3.heap.size (by rw [setCell_size]; exact zb.lt)).trans (zb.set _); have hx5 : F3 w3 f n w3.heap.size (.slice va (n + 1) vc) va vc _ asl w5 := F3.mk' (Nat.le_refl _) zc ((HO4.out.setCell ⟨w3.heap.size, 0, none⟩ _ (show w3.heap.size < (w3.alloc _).heap.size by simp)).below hah.bel |>.mono (HBA.out _).size) (hah.row.mono (by rw [setCell_size]; have := HL4.out; omega)) hah.len HB5W.out (by rw [setCell_size]; have := zb.lt; omega))
        | (have zc : Boxed w5 w3.heap.size 34 (.slice none 0 0) := (hah.bel.block w3.heap.size zb.lt).trans zb; have hx5 : F3 w3 f n w3.heap.size (.slice none 0 0) va vc _ asl w5 := F3.mk' (Nat.le_refl _) zc (HM4.out.below hah.bel) (hah.row.mono (by have := HL4.out; omega)) hah.len HB5W.out (by have := zb.lt; omega))
        | (have zc : Boxed w5 w4.heap.size 34 (.slice none 0 0) := (hah.bel.block w4.heap.size (by simp)).trans (Boxed.new w4 34 (.slice none 0 0)); have hx5 : F3 w3 f n w4.heap.size (.slice none 0 0) va vc _ asl w5 := F3.mk' HL4.out zc ((HM4.out.below ((Below.refl _ w4).alloc (Nat.le_refl _) _)).below hah.bel) (hah.row.mono (by have := HL4.out; simp; omega)) hah.len HB5W.out (by simp; omega))
        | (have zc : Boxed w5 w4.heap.size 34 (.slice va (n + 1) vc) := (hah.bel.block w4.heap.size (by simp)).trans (Boxed.new w4 34 (.slice va (n + 1) vc)); have hx5 : F3 w3 f n w4.heap.size (.slice va (n + 1) vc) va vc _ asl w5 := F3.mk' HL4.out zc ((HM4.out.below ((Below.refl _ w4).alloc (Nat.le_refl _) _)).below hah.bel) (hah.row.mono (by have := HL4.out; simp; omega)) hah.len HB5W.out (by simp; omega))
        | skip); (try (have y0 := zc.cell; have y1 := zc.frozen)); clear hah))
   all_goals
    go_wp2_with fail
    go_meet
    first
      | exact Lib.hid ⟨_, va, vc, _, asl, rfl, rfl, hx5⟩
      | exact Lib.hid ⟨_, va, vc, _, asl, rfl, rfl, hx5.set⟩
      | (have hx6 := hx5; simp only [World.size_alloc] at hx6; exact Lib.hid ⟨_, va, vc, _, asl, rfl, rfl, hx6⟩)
      | (have hx6 := hx5; simp only [World.size_alloc] at hx6; exact Lib.hid ⟨_, va, vc, _, asl, rfl, rfl, hx6.set⟩)
      | exact Lib.hid ⟨_, va, vc, _, asl, rfl, rfl, F3.mk' HB5W.out.size (Boxed.new w5 _ _) ((HM4.out.below HAH.out.bel).below ((Below.refl _ w5).alloc (Nat.le_refl _) _)) ((HAH.out.row.since ((Below.refl _ w5).alloc (Nat.le_refl _) _)).mono (by have := HL4.out; omega)) HAH.out.len (HB5W.out.alloc HB5W.out.size _) (by have := HAH.out.siz; omega)⟩
  case rest =>
    obtain ⟨bf, va, vc, ga, asl, rfl, rfl, H3⟩ := hcut.out
    have HF3 := Lib.hid H3
    have HQU : RowKit.Hid (FuncQ wc [.int .i64 r, .slice a n c] f ∧ FT wc) := Lib.hid ⟨FuncQ.lasts _ _ _ _ (HW3.out.1.trans (H3.bel.mono HW3.out.1.size)) HQ.out, HFT.out.since (HW3.out.1.trans (H3.bel.mono HW3.out.1.size))⟩
    clear hcut d0 d1 H3
    obtain ⟨d0, d1⟩ := HCW.out wc HF3.out.bel
    go_upto_region 5 with (go_at_call 45; refine (users_any r a n c f _ HQU.out.1 HQU.out.2 HSM.out HN.out).mono ?_; rintro e w6 ⟨Bu, bxu, gu, us, ZU, rfl, hsu, hur, hb6, hlow⟩; have HSU := Lib.hid hsu; have HUR := Lib.hid hur; have HB6 := Lib.hid hb6; have HLU := Lib.hid hlow; clear hsu hur hb6 hlow)
    clear d0 d1
    have h12 : Below w1.heap.size w1 w2 := HB2.out.1
    have h23 : Below w2.heap.size w2 w3 := HB3.out
    have h3c : Below w3.heap.size w3 wc := HF3.out.bel
    have h36 : Below w3.heap.size w3 w6 := h3c.trans (HB6.out.mono h3c.size)
    have h26 : Below w2.heap.size w2 w6 := h23.trans (h36.mono h23.size)
    have h16 : Below w1.heap.size w1 w6 := h12.trans (h26.mono h12.size)
    have hg1 : wf.heap.size + 1 < w1.heap.size := by
      obtain ⟨cur, hc, _⟩ := HS1.out.blk
      exact (Array.getElem?_eq_some_iff.1 hc).1
    have hg3 : w2.heap.size + 1 < w3.heap.size := by
      obtain ⟨cur, hc, _⟩ := HS3.out.blk
      exact (Array.getElem?_eq_some_iff.1 hc).1
    have hs2 : w2.heap.size = w1.heap.size + 1 := HB2.out.2.1
    have hnil : ∀ {j k : Nat} (h : j < (List.replicate n (Value.slice none 0 0)).length), ((List.replicate n (Value.slice none 0 0))[j]).ownBlock = some k → False := fun {j k} h e => by
      simp at e
      cases e
    have HD0 : RowKit.Hid (Duo w6 w6 n wf.heap.size wf.heap.size (wf.heap.size + 1) w2.heap.size w2.heap.size (w2.heap.size + 1) (List.replicate n (.slice none 0 0)) (rowsU (fun u b => needB f (u : Int) b) 0 (fun _ => false) n) (List.replicate n (.slice none 0 0)) (rowsU (fun u b => leftB f (u : Int) b) 0 (fun _ => false) n)) := Lib.hid (by
      rw [rowsU_start, rowsU_start]
      have z1 := h16.size
      have z2 := h36.size
      have z3 := h23.size
      exact ⟨HS1.out.since h16, HS3.out.since h36, Off.refl _ _, fun j h k e => (hnil h e).elim, fun j h k e => (hnil h e).elim, fun j h q h' k e => (hnil h e).elim, by omega, by omega, by omega, by omega, by omega, by omega, by omega⟩)
    have hg1' : wf.heap.size + 1 < w3.heap.size := by have := h12.size; have := h23.size; omega
    have HBS : RowKit.Hid (∀ u, Abv (wf.heap.size + 1) (w2.heap.size + 1) w6 u → Bsd f n bf w1.heap.size wf.heap.size va vc u) := Lib.hid fun u hu =>
      bsd_of HF3.out HB6.out ((h26.cell (p := ⟨w1.heap.size, 0, none⟩) (by show w1.heap.size < w2.heap.size; omega)).trans HB2.out.2.2) ⟨by omega, by omega⟩ hu hg1' hg3
    have HAH : RowKit.Hid (∀ b, b < n → ∃ (xa : Option Addr) (xn xc : Nat), ∀ u, Abv (wf.heap.size + 1) (w2.heap.size + 1) w6 u → NumsAt u xa xn (ahL f n (b : Int)) ∧ u.cell? ⟨ga, b, none⟩ = some (.slice xa xn xc)) := Lib.hid fun b hb => ahead_of HF3.out HB6.out hg1' hg3 hb
    have HUS : RowKit.Hid (∀ v, v < valU f → ∃ (xa : Option Addr) (xn xc : Nat) (Z : List Int), ZU[v]? = some Z ∧ ∀ u, Abv (wf.heap.size + 1) (w2.heap.size + 1) w6 u → NumsAt u xa xn Z ∧ u.cell? ⟨gu, v, none⟩ = some (.slice xa xn xc)) := Lib.hid fun v hv => users_of HSU.out (Nat.le_trans h3c.size HLU.out) hg1' hg3 hv
    clear hg1'
    have HWW : RowKit.Hid (Below w.heap.size w w6 ∧ w.heap.size ≤ wf.heap.size ∧ w.heap.size ≤ w2.heap.size) := Lib.hid (by
      have z1 := HW3.out.1.trans (h36.mono HW3.out.1.size)
      have z2 := HBF.out.1.size
      have z3 := HB1.out.size
      exact ⟨z1, z2, by omega⟩)
    have HV0 : RowKit.Hid (valU f ≤ 100000) := Lib.hid HSM.out.vals
    clear h12 h23 h3c h36 h26 h16 hg1 hg3 hs2 hnil HS1 HS3 HB1 HB2 HB3 HB6 HF3 HSU HLU HBF HCF HCW HROW3 HBA HW3 HQU HROW HQ HFT
    generalize wf.heap.size = bn at *
    generalize w2.heap.size = bl at *
    generalize w1.heap.size = b4 at *
    go_loopw [39] (fun v39 wr => ∃ v : Nat, v ≤ valU f ∧ v39 = .int .i64 (v : Int) ∧ RowKit.Hid (∃ vsN vsL, Duo w6 wr n bn bn (bn + 1) bl bl (bl + 1) vsN (rowsU (fun u b => needB f (u : Int) b) v (fun _ => false) n) vsL (rowsU (fun u b => leftB f (u : Int) b) v (fun _ => false) n))) (fun iv _ => valU f - (intOf iv).toNat)
    case atStart => exact ⟨0, Nat.zero_le _, rfl, Lib.hid ⟨_, _, HD0.out⟩⟩
    case round =>
      obtain ⟨v, hv, rfl, HI⟩ := hrel
      clear HD0
      obtain ⟨vsN, vsL, hD⟩ := HI.out
      have HD := Lib.hid hD
      clear HI hD
      by_cases hlt : v < valU f
      · obtain ⟨ua, un, uc, Z, hZ, hun⟩ := HUS.out v hlt
        have huc := (hun wr HD.out.off).2
        have HZM := Lib.hid (mem_users HUR.out hlt hZ)
        have HUN := Lib.hid hun
        have hlv : (v : Int) < (valU f : Int) := by omega
        have hvb : v ≤ 100000 := by have := HV0.out; omega
        have hun9 : un ≤ 900000 := by
          have h1 := HUR.out.le Z (List.mem_of_getElem? hZ)
          have h2 := (hun wr HD.out.off).1.1
          have h3 := HN.out
          omega
        clear hZ hun
        go_upto_region 9 with fail
        clear huc
        obtain ⟨X1, hX1⟩ : ∃ u, u = (wr.alloc (.cells #[.int .i64 (v : Int)] 3)).alloc (.cells #[.slice none 0 0] 34) := ⟨_, rfl⟩
        have hbX : Below wr.heap.size wr X1 := by rw [hX1]; exact ((Below.refl _ wr).alloc (Nat.le_refl _) _).alloc (by simp) _
        have hwr : w6.heap.size ≤ wr.heap.size := HD.out.off.size
        have hlow : ∀ {vs : List Value} {Zs : List (List Int)} {B bx g j k : Nat} (hs : SetU B bx g n wr vs Zs) (hj : j < vs.length), (vs[j]).ownBlock = some k → k < wr.heap.size := fun hs hj hk => (hs.elem_lt hj hk).choose_spec.2
        have HR1 : RowKit.Hid (Duo w6 X1 n bn bn (bn + 1) bl bl (bl + 1) vsN (rowsU (fun u b => needB f (u : Int) b) v (fun _ => false) n) vsL (rowsU (fun u b => leftB f (u : Int) b) v (fun _ => false) n) ∧ Rch w6 X1 wr.heap.size (wr.heap.size + 1) v (.slice none 0 0) [] vsN vsL) := Lib.hid (by
          refine ⟨HD.out.since hbX, ?_, ?_, World.ownsRow_nil _ _ _ 1, ⟨hwr, by omega⟩, fun j hj k hk => ⟨(fun e => by cases e), ?_⟩, fun j hj k hk => ⟨(fun e => by cases e), ?_⟩, (fun e => by cases e)⟩
          · rw [hX1]; exact (Boxed.new wr 3 _).alloc _
          · have h := Boxed.new (wr.alloc (.cells #[.int .i64 (v : Int)] 3)) 34 (.slice none 0 0)
            rw [World.size_alloc] at h
            rw [hX1]; exact h
          · have := hlow HD.out.nd hj hk; omega
          · have := hlow HD.out.lf hj hk; omega)
        have HWR := Lib.hid hwr
        rw [← hX1]
        clear hX1 hbX hlow hwr HD
        generalize wr.heap.size = bv at *
        go_upto_region 10 with fail
        go_loopw [47] (fun v47 wr => ∃ k : Nat, k ≤ un ∧ v47 = .int .i64 (k : Int) ∧ RowKit.Hid (∃ vsN rv M R, Duo w6 wr n bn bn (bn + 1) bl bl (bl + 1) vsN (rowsU (fun u b => needB f (u : Int) b) v M n) vsL (rowsU (fun u b => leftB f (u : Int) b) v (fun _ => false) n) ∧ Rch w6 wr bv (bv + 1) v rv R vsN vsL ∧ Spr f n v M (fun _ => false) R (fun _ _ => False) ∧ ∀ z ∈ Z.take k, ∀ b : Nat, z = (b : Int) → MakesU f b (v : Int) ∨ M b = true)) (fun iv _ => un - (intOf iv).toNat)
        case atStart => exact ⟨0, Nat.zero_le _, rfl, Lib.hid ⟨vsN, _, fun _ => false, [], HR1.out.1, HR1.out.2, Spr.start f n v _, fun z hz => by simp at hz⟩⟩
        case round =>
          obtain ⟨k, hk, rfl, HI⟩ := hrel
          clear HR1
          obtain ⟨vsN, rv, M, R, hD, hR, hS, hsd⟩ := HI.out
          have HD := Lib.hid hD
          have HR := Lib.hid hR
          have HS := Lib.hid hS
          have HSD := Lib.hid hsd
          clear HI hD hR hS hsd
          by_cases hlk : k < un
          · have hbs := HBS.out wr HD.out.off
            have hzl : k < Z.length := by rw [(HUN.out wr HD.out.off).1.1]; exact hlk
            obtain ⟨ad, had, hcel⟩ := (HUN.out wr HD.out.off).1.at (by omega)
            subst had
            have hc0 := hcel k hzl
            obtain ⟨b, hzb, hbn, hin⟩ := HZM.out.1 _ (List.getElem_mem hzl)
            rw [hzb] at hc0
            unfold numV at hc0
            have hlki : (k : Int) < (un : Int) := by omega
            have HTK : RowKit.Hid (Z.take (k + 1) = Z.take k ++ [(b : Int)]) := Lib.hid (by rw [List.take_succ_eq_append_getElem hzl, hzb])
            have HBI : RowKit.Hid (b < f.blocks.length ∧ InU f (v : Int) b) := Lib.hid ⟨hbn, hin⟩
            have HSR := Lib.hid (HS.out.reach (b := b) (fun hm => .here b hbn hm hin))
            have CR := Lib.hid (reach_any f w6 wr n bn bn (bn + 1) bl bl (bl + 1) bv (bv + 1) v b bf b4 (fun u b => needB f (u : Int) b) M vsN vsL _ rv R va vc HD.out HR.out (by have := HNN.out; omega) HNN.out HSM.out hlt (by have := HS.out.len HNN.out; omega) hbs.first hbs.nums hbs.clo)
            clear hcel hzb hbn hin hzl hbs
            go_upto_region 13 with (go_at_call 46; refine CR.out.mono ?_; rintro e w8 ⟨⟨x, rfl⟩, vsN', rv', hd', hr'⟩; have HD' := Lib.hid hd'; have HR' := Lib.hid hr'; clear hd' hr')
            go_wp2_with fail
            go_roundw
            case rel =>
              refine ⟨k + 1, by omega, by go_num, Lib.hid ⟨vsN', rv', _, _, HD'.out, HR'.out, HSR.out.1, fun z hz q hq => ?_⟩⟩
              rw [HTK.out, List.mem_append, List.mem_singleton] at hz
              rcases hz with hz | hz
              · exact (HSD.out z hz q hq).imp id (HSR.out.2.2 q)
              · have : q = b := by omega
                rw [this]; exact HSR.out.2.1
            case measure => simp [intOf]; omega
          · obtain rfl : k = un := by omega
            have hge : ¬ ((k : Int) < (k : Int)) := by omega
            have HSB : RowKit.Hid (∀ b, b < n → InU f (v : Int) b → MakesU f b (v : Int) ∨ M b = true) := Lib.hid fun b hb hu => by
              have hzk : Z.take k = Z := List.take_of_length_le (by rw [(HUN.out wr HD.out.off).1.1]; exact Nat.le_refl _)
              have h := HSD.out
              rw [hzk] at h
              exact h _ (HZM.out.2 b (by rw [← HNN.out]; exact hb) hu) b rfl
            go_upto_region 14 with fail
            go_loopg [] (todoU n M R) (fun gk wr => RowKit.Hid (∃ vsN vsL rv M L R, Duo w6 wr n bn bn (bn + 1) bl bl (bl + 1) vsN (rowsU (fun u b => needB f (u : Int) b) v M n) vsL (rowsU (fun u b => leftB f (u : Int) b) v L n) ∧ Rch w6 wr bv (bv + 1) v rv R vsN vsL ∧ Spr f n v M L R (fun _ _ => False) ∧ (∀ b, b < n → InU f (v : Int) b → MakesU f b (v : Int) ∨ M b = true) ∧ todoU n M R ≤ gk))
            case atStart => exact Lib.hid ⟨vsN, vsL, rv, M, _, R, HD.out, HR.out, HS.out, HSB.out, Nat.le_refl _⟩
            case round =>
              clear HD HR HS HSB HSD
              obtain ⟨vsN, vsL, rv, M, L, R, hD, hR, hS, hSB, hgk⟩ := hrel.out
              have HD := Lib.hid hD
              have HR := Lib.hid hR
              have HS := Lib.hid hS
              have HSB := Lib.hid hSB
              have HGK := Lib.hid hgk
              have hbx := hR.box.cell
              have hbf := hR.box.frozen
              have hlenR : R.length ≤ n := hS.len HNN.out
              have hown := hR.own
              clear hrel hD hR hS hSB hgk
              rcases hown.2 with ⟨hrv, hr0⟩ | ⟨gr, cap, cur, hrv, hgr, hgb, hle, hmx, _⟩
              · -- nothing is left to look at
                have hR0 : R = [] := List.eq_nil_of_length_eq_zero hr0
                have HALL := Lib.hid ((hR0 ▸ HS.out).all HNN.out HSB.out)
                rw [hrv] at hbx
                clear hown hbf hrv hr0 hR0
                go_wp2_with fail
                go_roundw
                case rel =>
                  refine ⟨v + 1, by omega, by go_num, Lib.hid ⟨vsN, vsL, ?_⟩⟩
                  have h := HD.out
                  rw [rowsU_next _ v M n HALL.out.1, rowsU_next _ v L n HALL.out.2] at h
                  exact h
                case measure => simp [intOf]; omega
              · rw [hrv] at hbx hown
                by_cases hr0 : R.length = 0
                · have hR0 : R = [] := List.eq_nil_of_length_eq_zero hr0
                  have HALL := Lib.hid ((hR0 ▸ HS.out).all HNN.out HSB.out)
                  rw [hr0] at hbx
                  clear hown hbf hrv hr0 hR0
                  go_wp2_with fail
                  go_roundw
                  case rel =>
                    refine ⟨v + 1, by omega, by go_num, Lib.hid ⟨vsN, vsL, ?_⟩⟩
                    have h := HD.out
                    rw [rowsU_next _ v M n HALL.out.1, rowsU_next _ v L n HALL.out.2] at h
                    exact h
                  case measure => simp [intOf]; omega
                · obtain ⟨R0, z, hRz⟩ : ∃ R0 z, R = R0 ++ [z] := ⟨R.dropLast, R.getLast (by intro e; rw [e] at hr0; exact hr0 rfl), (List.dropLast_concat_getLast _).symm⟩
                  obtain ⟨b, hzb, hmb⟩ := HS.out.sub z (by rw [hRz]; simp)
                  subst hzb
                  have hbn : b < f.blocks.length := HS.out.lt hmb
                  have hl0 : R.length = R0.length + 1 := by rw [hRz]; simp
                  have HP := Lib.hid (Spr.pop (hRz ▸ HS.out))
                  have hcl : wr.cell? ⟨gr, R0.length, none⟩ = some (.int .i64 (b : Int)) := by
                    have h1 := hown.read.2 (by omega)
                    obtain ⟨g1, o1, he, _, hc⟩ := h1
                    cases he
                    have h2 := hc R0.length (by omega)
                    rw [Nat.zero_add] at h2
                    rw [h2, numV]
                    congr 2
                    simp [hRz]
                  have HOC : RowKit.Hid (OwnsI wr w6.heap.size 3 (.slice (some ⟨gr, 0, none⟩) R0.length cap) R0) := Lib.hid (by
                    have h := uown_cut hown (i := R0.length) (by omega)
                    rw [hRz] at h
                    simpa using h)
                  have HTD : RowKit.Hid (todoU n M R0 + 1 ≤ gk) := Lib.hid (by have h := HGK.out; unfold todoU at *; rw [hl0] at h; omega)
                  rw [hl0] at hbx hle
                  obtain ⟨ln, hln⟩ : ∃ l, l = R0.length := ⟨_, rfl⟩
                  rw [← hln] at hbx hcl HOC hle
                  have hw1 : wrap64 (((ln + 1 : Nat) : Int) - 1) = (ln : Int) := by rw [wrap_id (by omega) (by omega)]; omega
                  have hw2 : wrap64 ((ln : Int) + 1 - 1) = (ln : Int) := by rw [wrap_id (by omega) (by omega)]; omega
                  have hlnn : ln ≤ 100000 := by omega
                  obtain ⟨xa, xn, xc, hax⟩ := HAH.out b (by rw [HNN.out]; exact hbn)
                  have HAX := Lib.hid hax
                  have hbi : (b : Int) < (n : Int) := by rw [HNN.out]; omega
                  have HMB := Lib.hid hmb
                  have HBB : RowKit.Hid (b < n) := Lib.hid (by rw [HNN.out]; exact hbn)
                  have hga0 := (hax wr HD.out.off).2
                  have HLN := Lib.hid hln
                  have HRV := Lib.hid hrv
                  clear hown hrv hgr hgb hmx hr0 hRz hmb hbn hl0 hax hlenR HGK HS hln
                  go_upto_region 18 with fail
                  clear hga0 hcl hbx hbf hle hw1 hw2
                  obtain ⟨X2, hX2⟩ : ∃ u, u = wr.setCell ⟨bv + 1, 0, none⟩ (.slice (some ⟨gr, 0, none⟩) ln cap) := ⟨_, rfl⟩
                  have HP2 : RowKit.Hid (Duo w6 X2 n bn bn (bn + 1) bl bl (bl + 1) vsN (rowsU (fun u b => needB f (u : Int) b) v M n) vsL (rowsU (fun u b => leftB f (u : Int) b) v L n) ∧ Rch w6 X2 bv (bv + 1) v (.slice (some ⟨gr, 0, none⟩) ln cap) R0 vsN vsL) := Lib.hid (by
                    rw [hX2]
                    exact (HR.out.push HD.out (Below.refl _ _) (World.grownBy.refl wr _) HOC.out (fun k hk => .inl (by rw [HRV.out]; exact hk))).2.2)
                  rw [← hX2]
                  clear hX2 HD HR HOC HRV
                  have hga := (HAX.out X2 HP2.out.1.off).2
                  have hxl : (ahL f n (b : Int)).length = xn := (HAX.out X2 HP2.out.1.off).1.1
                  have hxn : xn ≤ 100000 := by have := ahL_len f n (b : Int); omega
                  have HXL := Lib.hid hxl
                  clear hxl
                  go_upto_region 19 with fail
                  clear hga
                  go_loopw [73] (fun v73 wr => ∃ j : Nat, j ≤ xn ∧ v73 = .int .i64 (j : Int) ∧ RowKit.Hid (∃ vsN vsL rv M L R, Duo w6 wr n bn bn (bn + 1) bl bl (bl + 1) vsN (rowsU (fun u b => needB f (u : Int) b) v M n) vsL (rowsU (fun u b => leftB f (u : Int) b) v L n) ∧ Rch w6 wr bv (bv + 1) v rv R vsN vsL ∧ Spr f n v M L R (fun c _ => c = b) ∧ (∀ b, b < n → InU f (v : Int) b → MakesU f b (v : Int) ∨ M b = true) ∧ M b = true ∧ (∀ q : Nat, (q : Int) ∈ (ahL f n (b : Int)).take j → L q = true ∧ (MakesU f q (v : Int) ∨ M q = true)) ∧ todoU n M R + 1 ≤ gk)) (fun iv _ => xn - (intOf iv).toNat)
                  case atStart => exact ⟨0, Nat.zero_le _, rfl, Lib.hid ⟨vsN, vsL, _, M, L, R0, HP2.out.1, HP2.out.2, HP.out.1, HSB.out, HMB.out, fun q hq => by simp at hq, HTD.out⟩⟩
                  case round =>
                    obtain ⟨j, hj, rfl, HI⟩ := hrel
                    clear HP2 HP HSB HMB HTD
                    obtain ⟨vsN, vsL, rv, M, L, R, hD, hR, hS, hSB, hMb, hq, htd⟩ := HI.out
                    have HD := Lib.hid hD
                    have HR := Lib.hid hR
                    have HS := Lib.hid hS
                    have HSB := Lib.hid hSB
                    have HMB := Lib.hid hMb
                    have HQ4 := Lib.hid hq
                    have HTD := Lib.hid htd
                    clear HI hD hR hS hSB hMb hq htd
                    by_cases hjl : j < xn
                    · have hjz : j < (ahL f n (b : Int)).length := by rw [HXL.out]; exact hjl
                      obtain ⟨ad, had, hcel⟩ := (HAX.out wr HD.out.off).1.at (by omega)
                      subst had
                      have hc0 := hcel j hjz
                      obtain ⟨z, hz⟩ : ∃ z, z = (ahL f n (b : Int))[j] := ⟨_, rfl⟩
                      have hzm := ahL_mem.1 (show z ∈ ahL f n (b : Int) by rw [hz]; exact List.getElem_mem hjz)
                      obtain ⟨q, hqz⟩ : ∃ q : Nat, z = (q : Int) := ⟨z.toNat, by have := hzm.1.1; omega⟩
                      rw [← hz, hqz] at hc0
                      unfold numV at hc0
                      have hqn : q < n := by have := hzm.1.2; omega
                      have hnx : (b : Int) ∈ nxF f q := by have h := hzm.2; rw [hqz] at h; simpa using h
                      have HTK : RowKit.Hid ((ahL f n (b : Int)).take (j + 1) = (ahL f n (b : Int)).take j ++ [(q : Int)]) := Lib.hid (by rw [List.take_succ_eq_append_getElem hjz, ← hz, hqz])
                      have HQN : RowKit.Hid (q < n ∧ (b : Int) ∈ nxF f q) := Lib.hid ⟨hqn, hnx⟩
                      have hcv := HR.out.val.cell
                      have hjli : (j : Int) < (xn : Int) := by omega
                      have CL := Lib.hid (grow_any bl bl (bl + 1) n wr vsL (rowsU (fun u b => leftB f (u : Int) b) v L n) q (v : Int) HD.out.lf hqn (by omega) (fun Z hZ => by have := rowsU_len_le Z hZ; omega) (Nat.le_trans HD.out.low.2.2.2.2.2.2 HD.out.off.size))
                      clear hcel hjz hz hzm hqz hqn hnx
                      go_upto_region 23 with (first
                        | (go_at_call 61; refine CL.out.mono ?_; rintro e w8 ⟨v', Z', hz', rfl, hset, hoff, hw⟩; rw [rowsU_at HQN.out.1] at hz'; cases hz'; rw [rowsU_grow HQN.out.1] at hset; have HD8 := Lib.hid (HD.out.swap.grow hset hoff hw).swap; have HR8 := Lib.hid (HR.out.swap.grow HD.out.swap hoff hw).swap; have HS8 := Lib.hid (HS.out.leave HQN.out.2 HMB.out); have CR := Lib.hid (reach_any f w6 w8 n bn bn (bn + 1) bl bl (bl + 1) bv (bv + 1) v q bf b4 (fun u b => needB f (u : Int) b) M vsN _ _ rv R va vc HD8.out HR8.out HQN.out.1 HNN.out HSM.out hlt (by have := HS8.out.len HNN.out; omega) (HBS.out w8 HD8.out.off).first (HBS.out w8 HD8.out.off).nums (HBS.out w8 HD8.out.off).clo); clear hset hoff hw)
                        | (go_at_call 46; refine CR.out.mono ?_; rintro e w9 ⟨⟨x, rfl⟩, vsN', rv', hd', hr'⟩; have HD' := Lib.hid hd'; have HR' := Lib.hid hr'; clear hd' hr'))
                      have HS9 := Lib.hid (HS8.out.reach (b := q) (fun hm => .on q b (by have h1 := HQN.out.1; have h2 := HNN.out; omega) hm HQN.out.2 (HS8.out.sound b HMB.out)))
                      go_wp2_with fail
                      go_roundw
                      case rel =>
                        refine ⟨j + 1, by omega, by go_num, Lib.hid ⟨vsN', vsL.set q v', rv', nextM f v q M, putB L q, nextR f v q M R, HD'.out, HR'.out, HS9.out.1, fun i hi hu => (HSB.out i hi hu).imp id (HS9.out.2.2 i), HS9.out.2.2 b HMB.out, fun i hi => ?_, Nat.le_trans (Nat.add_le_add_right (todo_next HQN.out.1) 1) HTD.out⟩⟩
                        rw [HTK.out, List.mem_append, List.mem_singleton] at hi
                        rcases hi with hi | hi
                        · exact ⟨putB_iff.2 (.inl (HQ4.out i hi).1), (HQ4.out i hi).2.imp id (HS9.out.2.2 i)⟩
                        · have : i = q := by omega
                          subst this
                          exact ⟨putB_iff.2 (.inr rfl), HS9.out.2.1⟩
                      case measure => simp [intOf]; omega
                    · obtain rfl : j = xn := by omega
                      have hge : ¬ ((j : Int) < (j : Int)) := by omega
                      have HDN : RowKit.Hid (Spr f n v M L R (fun _ _ => False)) := Lib.hid (HS.out.done (fun c i hi hnx hc => by
                        subst hc
                        refine HQ4.out i ?_
                        rw [List.take_of_length_le (by rw [HXL.out]; exact Nat.le_refl _)]
                        exact ahL_mem.2 ⟨⟨by omega, by omega⟩, by simpa using hnx⟩))
                      go_wp2_with fail
                      go_roundg (todoU n M R)
                      case rel => exact Lib.hid ⟨vsN, vsL, rv, M, L, R, HD.out, HR.out, HDN.out, HSB.out, Nat.le_refl _⟩
                      all_goals (have := HTD.out; omega)
      · obtain rfl : v = valU f := by omega
        have hge : ¬ ((valU f : Int) < (valU f : Int)) := by omega
        go_wp2_with fail
        refine bodyPost_ret (v := .tuple #[.slice (some ⟨bn + 1, 0, none⟩) n n, .slice (some ⟨bl + 1, 0, none⟩) n n]) (by simp [results, Tryd.results27, go_sem]) rfl ⟨bn, bn, bn + 1, bl, bl, bl + 1, vsN, vsL, rfl, ?_, ?_, ?_⟩
        · have h := HD.out.nd; rw [rowsU_end] at h; exact h
        · have h := HD.out.lf; rw [rowsU_end] at h; exact h
        · exact HWW.out.1.trans (HD.out.off.below (by have := HWW.out.1.size; exact this) (fun k hk => by have h1 := HWW.out.2; rcases hk with e | e <;> omega))
end Go.Proofs.YtdchhfdmingnaaaDoor
