/- Layer 10: the law's asks and does: both memories answer alike. -/
import Derived.Test.YtgnfinojnmkkkaaQT6

namespace Go.Proofs.Ytgnfinojnmkkkaa
open Go.RowKit (wrap64 intOf Below)
set_option linter.unusedVariables false
set_option linter.unusedSimpArgs false

def actN (a : PAct) : List VV := List.replicate (a.n.tmod 9).toNat a.v
def doesM (M : PM) (a : PAct) : PM :=
  if a.kind = 0 then (enterM M).1 else if a.kind = 1 then (leaveM M).1 else if a.kind = 2 then (objectM M (actN a) a.st).1
  else if a.kind = 3 then (sliceM M a.n a.st).1 else if a.kind = 4 then (tableM M a.st).1
  else if a.kind = 6 then (setM M a.r a.i a.v).1 else if a.kind = 8 then (putM M a.r a.i a.n).1 else M
def actV (a : PAct) : Value := .agg #[.int .i64 a.kind, .int .i64 a.r, .int .i64 a.i, .int .i64 a.n, .int .i64 a.v.1, .string a.v.2.1, .int .i64 a.v.2.2, .bool a.st]
/-- Both memories. -/
structure Duo (W : World) (B cap p d : Nat) (M : PM) (G : GM) (R : RM) (G2 : GR) : Prop where
  mem : MemAt W B cap M G
  fm : FmAt M G
  ref : RefAt W B cap R G2
  p : G.p = p
  d : G2.p = d
  ap : ∀ b, dom G.ρ b → ¬ dom G2.ρ b
  same : Alike M R
def DuoPost (W : World) (B cap p d : Nat) (D : Nat → Prop) (M' : PM) (e : Ending) (w' : World) : Prop := e = .returned (.bool true) ∧ ∃ G' R' G2', Duo w' B (cap + 2) p d M' G' R' G2' ∧ Stp W w' B D (dm G' G2')
section
variable {W w' : World} {B cap p d k : Nat} {M : PM} {G : GM} {R : RM} {G2 : GR} {a : PAct}
theorem Duo.box (h : Duo W B cap p d M G R G2) (a : PAct) {U : World} (hU : W.alloc (.cells (actL a).toArray 26) = U) : PB U B cap p d M G R G2 W.heap.size a ∧ Below W.heap.size W U := by
  have hb : Below W.heap.size W U := by rw [← hU]; exact (Below.refl _ W).alloc (Nat.le_refl _) _
  exact ⟨⟨h.mem.since hb, h.fm, h.ref.since hb, h.p, h.d, h.ap, by rw [← hU]; exact World.alloc_heap_new _ _, fun hd => by have := dom_ltM h.mem hd; omega, fun hd => by have := dom_ltR h.ref hd; omega⟩, hb⟩
theorem Duo.since (h : Duo W B cap p d M G R G2) (hb : Below W.heap.size W w') : Duo w' B cap p d M G R G2 := ⟨h.mem.since hb, h.fm, h.ref.since hb, h.p, h.d, h.ap, h.same⟩
theorem Duo.mono (h : Duo W B cap p d M G R G2) {cap' : Nat} (hc : cap ≤ cap') : Duo W B cap' p d M G R G2 := ⟨h.mem.mono hc, h.fm, h.ref.mono hc, h.p, h.d, h.ap, h.same⟩
theorem PB.duo (h : PB W B cap p d M G R G2 k a) (hs : Alike M R) : Duo W B cap p d M G R G2 := ⟨h.mem, h.fm, h.ref, h.p, h.d, h.ap, hs⟩
end

set_option maxRecDepth 100000 in
set_option maxHeartbeats 1000000 in
theorem does_0 {W : World} {B cap p d : Nat} {M : PM} {G : GM} {R : RM} {G2 : GR} {a : PAct} (h : Duo W B cap p d M G R G2) (hcap : cap + 2 ≤ 1099511627776) (ok : a.Ok) (hk : a.kind = 0) :
    Calls Try.prog 7 #[.pointer (some ⟨p, 0, none⟩), .pointer (some ⟨d, 0, none⟩), actV a] W (DuoPost W B cap p d (dm G G2) (enterM M).1) := by
  obtain ⟨U, hU⟩ : ∃ U, W.alloc (.cells #[.int .i64 a.kind, .int .i64 a.r, .int .i64 a.i, .int .i64 a.n, .int .i64 a.v.1, .string a.v.2.1, .int .i64 a.v.2.2, .bool a.st] 26) = U := ⟨_, rfl⟩
  obtain ⟨hpb, hbU⟩ := h.box a hU
  have HBW : RowKit.Hid (B ≤ W.heap.size ∧ Below W.heap.size W U) := Lib.hid ⟨by have := h.mem.plt; omega, hbU⟩
  have HAL := Lib.hid h.same
  have HNU := Lib.hid h.mem.num
  obtain ⟨b0, b1, b2, b3, b4, b5, b6, b7⟩ := hpb.cells
  rw [hk] at b0 hU
  have HS : RowKit.Hid (Alike (enterM M).1 (enterR R).1) := Lib.hid (enter_alike h.same h.mem.num).1
  have hv := (enter_alike h.same h.mem.num).2
  have cm := hpb.enter (by omega)
  have cr : ∀ u G1, PB u B (cap + 1) p d (enterM M).1 G1 R G2 W.heap.size a → _ := fun u G1 hh => hh.renter (by omega)
  obtain ⟨x, hx⟩ : ∃ x, (enterM M).2 = x := ⟨_, rfl⟩
  rw [hx] at hv cm
  rw [← hv] at cr
  have CM := Lib.hid cm
  have CR := Lib.hid cr
  clear cm cr hpb h hv hbU hcap ok
  unfold actV
  rw [hk]
  go_enter Try.func7, Try.ntmps7
  go_upto_region 1 with fail
  try rw [hU]
  clear hU
  go_wp2_with (first
    | (go_at_call 12; refine CM.out.mono ?_; rintro e u1 ⟨rfl, G1, h1, hb1⟩; have H1 := Lib.hid (And.intro h1 hb1); obtain ⟨c0, c1, c2, c3, c4, c5, c6, c7⟩ := h1.cells; clear h1 hb1)
    | (go_at_call 13; (with_reducible refine (CR.out u1 G1 H1.out.1).mono ?_); rintro e u2 ⟨rfl, G3, h2, hb2⟩; have H2 := Lib.hid (And.intro h2 hb2); clear h2 hb2))
  go_ret
  exact ⟨rfl, G1, _, G3, H2.out.1.duo HS.out, ((Stp.since HBW.out.1 HBW.out.2).trans H1.out.2).trans H2.out.2⟩

set_option maxRecDepth 100000 in
set_option maxHeartbeats 1000000 in
theorem does_1 {W : World} {B cap p d : Nat} {M : PM} {G : GM} {R : RM} {G2 : GR} {a : PAct} (h : Duo W B cap p d M G R G2) (hcap : cap + 2 ≤ 1099511627776) (ok : a.Ok) (hk : a.kind = 1) :
    Calls Try.prog 7 #[.pointer (some ⟨p, 0, none⟩), .pointer (some ⟨d, 0, none⟩), actV a] W (DuoPost W B cap p d (dm G G2) (leaveM M).1) := by
  obtain ⟨U, hU⟩ : ∃ U, W.alloc (.cells #[.int .i64 a.kind, .int .i64 a.r, .int .i64 a.i, .int .i64 a.n, .int .i64 a.v.1, .string a.v.2.1, .int .i64 a.v.2.2, .bool a.st] 26) = U := ⟨_, rfl⟩
  obtain ⟨hpb, hbU⟩ := h.box a hU
  have HBW : RowKit.Hid (B ≤ W.heap.size ∧ Below W.heap.size W U) := Lib.hid ⟨by have := h.mem.plt; omega, hbU⟩
  have HAL := Lib.hid h.same
  have HNU := Lib.hid h.mem.num
  obtain ⟨b0, b1, b2, b3, b4, b5, b6, b7⟩ := hpb.cells
  rw [hk] at b0 hU
  have HS : RowKit.Hid (Alike (leaveM M).1 (leaveR R).1) := Lib.hid (leave_alike h.same h.mem.num).1
  have hv := (leave_alike h.same h.mem.num).2
  have cm := hpb.leave (by omega)
  have cr : ∀ u G1, PB u B (cap + 1) p d (leaveM M).1 G1 R G2 W.heap.size a → _ := fun u G1 hh => hh.rleave (by omega)
  obtain ⟨x, hx⟩ : ∃ x, (leaveM M).2 = x := ⟨_, rfl⟩
  rw [hx] at hv cm
  rw [← hv] at cr
  have CM := Lib.hid cm
  have CR := Lib.hid cr
  clear cm cr hpb h hv hbU hcap ok
  unfold actV
  rw [hk]
  go_enter Try.func7, Try.ntmps7
  go_upto_region 1 with fail
  try rw [hU]
  clear hU
  go_wp2_with (first
    | (go_at_call 14; refine CM.out.mono ?_; rintro e u1 ⟨rfl, G1, h1, hb1⟩; have H1 := Lib.hid (And.intro h1 hb1); obtain ⟨c0, c1, c2, c3, c4, c5, c6, c7⟩ := h1.cells; clear h1 hb1)
    | (go_at_call 15; (with_reducible refine (CR.out u1 G1 H1.out.1).mono ?_); rintro e u2 ⟨rfl, G3, h2, hb2⟩; have H2 := Lib.hid (And.intro h2 hb2); clear h2 hb2))
  go_ret
  exact ⟨rfl, G1, _, G3, H2.out.1.duo HS.out, ((Stp.since HBW.out.1 HBW.out.2).trans H1.out.2).trans H2.out.2⟩

set_option maxRecDepth 100000 in
set_option maxHeartbeats 1000000 in
theorem does_3 {W : World} {B cap p d : Nat} {M : PM} {G : GM} {R : RM} {G2 : GR} {a : PAct} (h : Duo W B cap p d M G R G2) (hcap : cap + 2 ≤ 1099511627776) (ok : a.Ok) (hk : a.kind = 3) :
    Calls Try.prog 7 #[.pointer (some ⟨p, 0, none⟩), .pointer (some ⟨d, 0, none⟩), actV a] W (DuoPost W B cap p d (dm G G2) (sliceM M a.n a.st).1) := by
  obtain ⟨U, hU⟩ : ∃ U, W.alloc (.cells #[.int .i64 a.kind, .int .i64 a.r, .int .i64 a.i, .int .i64 a.n, .int .i64 a.v.1, .string a.v.2.1, .int .i64 a.v.2.2, .bool a.st] 26) = U := ⟨_, rfl⟩
  obtain ⟨hpb, hbU⟩ := h.box a hU
  have HBW : RowKit.Hid (B ≤ W.heap.size ∧ Below W.heap.size W U) := Lib.hid ⟨by have := h.mem.plt; omega, hbU⟩
  have HAL := Lib.hid h.same
  have HNU := Lib.hid h.mem.num
  obtain ⟨b0, b1, b2, b3, b4, b5, b6, b7⟩ := hpb.cells
  rw [hk] at b0 hU
  have HS : RowKit.Hid (Alike (sliceM M a.n a.st).1 (sliceR R a.n a.st).1) := Lib.hid (slice_alike h.same h.mem.num a.n a.st).1
  have hv := (slice_alike h.same h.mem.num a.n a.st).2
  have cm := hpb.slice (by omega) a.n a.st
  have cr : ∀ u G1, PB u B (cap + 1) p d (sliceM M a.n a.st).1 G1 R G2 W.heap.size a → _ := fun u G1 hh => hh.rslice (by omega) a.n a.st
  obtain ⟨x, y, hx⟩ : ∃ x y, (sliceM M a.n a.st).2 = (x, y) := ⟨_, _, rfl⟩
  rw [hx] at hv cm
  rw [← hv] at cr
  have CM := Lib.hid cm
  have CR := Lib.hid cr
  clear cm cr hpb h hv hbU hcap ok
  unfold actV
  rw [hk]
  go_enter Try.func7, Try.ntmps7
  go_upto_region 1 with fail
  try rw [hU]
  clear hU
  go_wp2_with (first
    | (go_at_call 18; refine CM.out.mono ?_; rintro e u1 ⟨rfl, G1, h1, hb1⟩; have H1 := Lib.hid (And.intro h1 hb1); obtain ⟨c0, c1, c2, c3, c4, c5, c6, c7⟩ := h1.cells; clear h1 hb1)
    | (go_at_call 19; (with_reducible refine (CR.out u1 G1 H1.out.1).mono ?_); rintro e u2 ⟨rfl, G3, h2, hb2⟩; have H2 := Lib.hid (And.intro h2 hb2); clear h2 hb2))
  go_ret
  exact ⟨rfl, G1, _, G3, H2.out.1.duo HS.out, ((Stp.since HBW.out.1 HBW.out.2).trans H1.out.2).trans H2.out.2⟩

set_option maxRecDepth 100000 in
set_option maxHeartbeats 1000000 in
theorem does_4 {W : World} {B cap p d : Nat} {M : PM} {G : GM} {R : RM} {G2 : GR} {a : PAct} (h : Duo W B cap p d M G R G2) (hcap : cap + 2 ≤ 1099511627776) (ok : a.Ok) (hk : a.kind = 4) :
    Calls Try.prog 7 #[.pointer (some ⟨p, 0, none⟩), .pointer (some ⟨d, 0, none⟩), actV a] W (DuoPost W B cap p d (dm G G2) (tableM M a.st).1) := by
  obtain ⟨U, hU⟩ : ∃ U, W.alloc (.cells #[.int .i64 a.kind, .int .i64 a.r, .int .i64 a.i, .int .i64 a.n, .int .i64 a.v.1, .string a.v.2.1, .int .i64 a.v.2.2, .bool a.st] 26) = U := ⟨_, rfl⟩
  obtain ⟨hpb, hbU⟩ := h.box a hU
  have HBW : RowKit.Hid (B ≤ W.heap.size ∧ Below W.heap.size W U) := Lib.hid ⟨by have := h.mem.plt; omega, hbU⟩
  have HAL := Lib.hid h.same
  have HNU := Lib.hid h.mem.num
  obtain ⟨b0, b1, b2, b3, b4, b5, b6, b7⟩ := hpb.cells
  rw [hk] at b0 hU
  have HS : RowKit.Hid (Alike (tableM M a.st).1 (makeR R tabT a.st).1) := Lib.hid (show Alike (tableM M a.st).1 _ ∧ (tableM M a.st).2 = _ from add_alike h.same h.mem.num (fresh_tab a.st)).1
  have hv := (show Alike (tableM M a.st).1 _ ∧ (tableM M a.st).2 = _ from add_alike h.same h.mem.num (fresh_tab a.st)).2
  have cm := hpb.table (by omega) a.st
  have cr : ∀ u G1, PB u B (cap + 1) p d (tableM M a.st).1 G1 R G2 W.heap.size a → _ := fun u G1 hh => hh.rtable (by omega) a.st
  obtain ⟨x, y, hx⟩ : ∃ x y, (tableM M a.st).2 = (x, y) := ⟨_, _, rfl⟩
  rw [hx] at hv cm
  rw [← hv] at cr
  have CM := Lib.hid cm
  have CR := Lib.hid cr
  clear cm cr hpb h hv hbU hcap ok
  unfold actV
  rw [hk]
  go_enter Try.func7, Try.ntmps7
  go_upto_region 1 with fail
  try rw [hU]
  clear hU
  go_wp2_with (first
    | (go_at_call 20; refine CM.out.mono ?_; rintro e u1 ⟨rfl, G1, h1, hb1⟩; have H1 := Lib.hid (And.intro h1 hb1); obtain ⟨c0, c1, c2, c3, c4, c5, c6, c7⟩ := h1.cells; clear h1 hb1)
    | (go_at_call 21; (with_reducible refine (CR.out u1 G1 H1.out.1).mono ?_); rintro e u2 ⟨rfl, G3, h2, hb2⟩; have H2 := Lib.hid (And.intro h2 hb2); clear h2 hb2))
  go_ret
  exact ⟨rfl, G1, _, G3, H2.out.1.duo HS.out, ((Stp.since HBW.out.1 HBW.out.2).trans H1.out.2).trans H2.out.2⟩

set_option maxRecDepth 100000 in
set_option maxHeartbeats 1000000 in
theorem asks_6 {W : World} {B cap p d : Nat} {M : PM} {G : GM} {R : RM} {G2 : GR} {a : PAct} (h : Duo W B cap p d M G R G2) (hcap : cap + 2 ≤ 1099511627776) (ok : a.Ok) (hk : a.kind = 6) :
    Calls Try.prog 22 #[.pointer (some ⟨p, 0, none⟩), .pointer (some ⟨d, 0, none⟩), actV a] W (DuoPost W B cap p d (dm G G2) (setM M a.r a.i a.v).1) := by
  obtain ⟨U, hU⟩ : ∃ U, W.alloc (.cells #[.int .i64 a.kind, .int .i64 a.r, .int .i64 a.i, .int .i64 a.n, .int .i64 a.v.1, .string a.v.2.1, .int .i64 a.v.2.2, .bool a.st] 26) = U := ⟨_, rfl⟩
  obtain ⟨hpb, hbU⟩ := h.box a hU
  have hpb := hpb.since (Below.refl _ U).drew
  have hbU := hbU.trans ((Below.refl W.heap.size U).drew)
  have HBW : RowKit.Hid (B ≤ W.heap.size ∧ Below W.heap.size W U.drew) := Lib.hid ⟨by have := h.mem.plt; omega, hbU⟩
  have HAL := Lib.hid h.same
  have HNU := Lib.hid h.mem.num
  obtain ⟨b0, b1, b2, b3, b4, b5, b6, b7⟩ := hpb.cells
  rw [hk] at b0 hU
  have z0 : U.cell? ⟨W.heap.size, 0, none⟩ = some (.int .i64 6) := b0
  have HS : RowKit.Hid (Alike (setM M a.r a.i a.v).1 (setR R a.r a.i a.v).1) := Lib.hid (set_alike h.same a.r a.i a.v).1
  have hv := (set_alike h.same a.r a.i a.v).2
  have cm := hpb.set (by omega) a.r a.i a.v ok.r
  have cr : ∀ u G1, PB u B (cap + 1) p d (setM M a.r a.i a.v).1 G1 R G2 W.heap.size a → _ := fun u G1 hh => hh.rset (by omega) a.r a.i a.v ok.r
  obtain ⟨x, hx⟩ : ∃ x, (setM M a.r a.i a.v).2 = x := ⟨_, rfl⟩
  rw [hx] at hv cm
  rw [← hv] at cr
  have CM := Lib.hid cm
  have CR := Lib.hid cr
  clear cm cr hpb h hv hbU hcap ok
  unfold actV
  rw [hk]
  go_enter Try.func22, Try.ntmps22
  go_upto_region 1 with fail
  try rw [hU]
  clear hU
  go_upto_region 7 with fail
  refine wp_region_T (S := (fun u : World => u.cell? ⟨W.heap.size, 1, none⟩ = some (.int .i64 a.r) ∧ u.cell? ⟨W.heap.size, 2, none⟩ = some (.int .i64 a.i) ∧ u.cell? ⟨W.heap.size, 3, none⟩ = some (.int .i64 a.n) ∧ u.cell? ⟨W.heap.size, 4, none⟩ = some (.int .i64 a.v.1) ∧ u.cell? ⟨W.heap.size, 5, none⟩ = some (.string a.v.2.1) ∧ u.cell? ⟨W.heap.size, 6, none⟩ = some (.int .i64 a.v.2.2))) 18 (by kernel_rfl) ⟨b1, b2, b3, b4, b5, b6⟩ (fun hHeld => ?_)
  refine wpAnyT_takeW (i := 0) (oi := ⟨some 55, _, _, _, _, _⟩) (v := ?_) rfl (by kernel_rfl) (by kernel_rfl) (by kernel_rfl) (fun _ _ _ h => h) (Or.inl ⟨by rfl, ?_⟩) ?_
  rotate_left
  · ((intro w _; go_simp); try with_reducible rfl)
  (try simp only [Act.put, List.setIfInBounds_toArray, List.set_cons_zero, List.set_cons_succ])
  refine wpAnyT_takeW (i := 1) (oi := ⟨some 56, _, _, _, _, _⟩) (v := ?_) rfl (by kernel_rfl) (by kernel_rfl) (by kernel_rfl) (fun _ _ _ h => h) (Or.inl ⟨by rfl, ?_⟩) ?_
  rotate_left
  · ((intro w _; go_simp); try with_reducible rfl)
  (try simp only [Act.put, List.setIfInBounds_toArray, List.set_cons_zero, List.set_cons_succ])
  refine wpAnyT_take (i := 2) (oi := ⟨some 57, _, _, _, _, _⟩) (v := ?_) 8 rfl (by kernel_rfl) (by kernel_rfl) (by kernel_rfl) (by kernel_rfl) (by kernel_rfl) (fun _ _ _ h => h) (Or.inl ⟨by rfl, ?_⟩) (by assumption) ?_
  rotate_left
  · ((intro w hSw; (try dsimp only at hSw); go_simp); try with_reducible rfl)
  (try simp only [Act.put, List.setIfInBounds_toArray, List.set_cons_zero, List.set_cons_succ])
  refine wpAnyT_takeW (i := 3) (oi := ⟨some 58, _, _, _, _, _⟩) (v := ?_) rfl (by kernel_rfl) (by kernel_rfl) (by kernel_rfl) (fun _ _ _ h => h) (Or.inl ⟨by rfl, ?_⟩) ?_
  rotate_left
  · ((intro w _; go_simp); try with_reducible rfl)
  (try simp only [Act.put, List.setIfInBounds_toArray, List.set_cons_zero, List.set_cons_succ])
  refine wpAnyT_take (i := 4) (oi := ⟨some 59, _, _, _, _, _⟩) (v := ?_) 8 rfl (by kernel_rfl) (by kernel_rfl) (by kernel_rfl) (by kernel_rfl) (by kernel_rfl) (fun _ _ _ h => h) (Or.inl ⟨by rfl, ?_⟩) (by assumption) ?_
  rotate_left
  · ((intro w hSw; (try dsimp only at hSw); go_simp); try with_reducible rfl)
  (try simp only [Act.put, List.setIfInBounds_toArray, List.set_cons_zero, List.set_cons_succ])
  refine wpAnyT_takeW (i := 5) (oi := ⟨some 60, _, _, _, _, _⟩) (v := ?_) rfl (by kernel_rfl) (by kernel_rfl) (by kernel_rfl) (fun _ _ _ h => h) (Or.inl ⟨by rfl, ?_⟩) ?_
  rotate_left
  · ((intro w _; go_simp); try with_reducible rfl)
  (try simp only [Act.put, List.setIfInBounds_toArray, List.set_cons_zero, List.set_cons_succ])
  refine wpAnyT_take (i := 6) (oi := ⟨some 61, _, _, _, _, _⟩) (v := ?_) 8 rfl (by kernel_rfl) (by kernel_rfl) (by kernel_rfl) (by kernel_rfl) (by kernel_rfl) (fun _ _ _ h => h) (Or.inl ⟨by rfl, ?_⟩) (by assumption) ?_
  rotate_left
  · ((intro w hSw; (try dsimp only at hSw); go_simp); try with_reducible rfl)
  (try simp only [Act.put, List.setIfInBounds_toArray, List.set_cons_zero, List.set_cons_succ])
  refine wpAnyT_takeW (i := 8) (oi := ⟨some 63, _, _, _, _, _⟩) (v := ?_) rfl (by kernel_rfl) (by kernel_rfl) (by kernel_rfl) (fun _ _ _ h => h) (Or.inl ⟨by rfl, ?_⟩) ?_
  rotate_left
  · ((intro w _; go_simp); try with_reducible rfl)
  (try simp only [Act.put, List.setIfInBounds_toArray, List.set_cons_zero, List.set_cons_succ])
  refine wpAnyT_takeW (i := 9) (oi := ⟨some 64, _, _, _, _, _⟩) (v := ?_) rfl (by kernel_rfl) (by kernel_rfl) (by kernel_rfl) (fun _ _ _ h => h) (Or.inl ⟨by rfl, ?_⟩) ?_
  rotate_left
  · ((intro w _; go_simp); try with_reducible rfl)
  (try simp only [Act.put, List.setIfInBounds_toArray, List.set_cons_zero, List.set_cons_succ])
  refine wpAnyT_take (i := 10) (oi := ⟨some 65, _, _, _, _, _⟩) (v := ?_) 8 rfl (by kernel_rfl) (by kernel_rfl) (by kernel_rfl) (by kernel_rfl) (by kernel_rfl) (fun _ _ _ h => h) (Or.inl ⟨by rfl, ?_⟩) (by assumption) ?_
  rotate_left
  · ((intro w hSw; (try dsimp only at hSw); go_simp); try with_reducible rfl)
  (try simp only [Act.put, List.setIfInBounds_toArray, List.set_cons_zero, List.set_cons_succ])
  refine wpAnyT_takeW (i := 11) (oi := ⟨some 66, _, _, _, _, _⟩) (v := ?_) rfl (by kernel_rfl) (by kernel_rfl) (by kernel_rfl) (fun _ _ _ h => h) (Or.inl ⟨by rfl, ?_⟩) ?_
  rotate_left
  · ((intro w _; go_simp); try with_reducible rfl)
  (try simp only [Act.put, List.setIfInBounds_toArray, List.set_cons_zero, List.set_cons_succ])
  refine wpAnyT_take (i := 12) (oi := ⟨some 67, _, _, _, _, _⟩) (v := ?_) 8 rfl (by kernel_rfl) (by kernel_rfl) (by kernel_rfl) (by kernel_rfl) (by kernel_rfl) (fun _ _ _ h => h) (Or.inl ⟨by rfl, ?_⟩) (by assumption) ?_
  rotate_left
  · ((intro w hSw; (try dsimp only at hSw); go_simp); try with_reducible rfl)
  (try simp only [Act.put, List.setIfInBounds_toArray, List.set_cons_zero, List.set_cons_succ])
  refine wpAnyT_takeW (i := 13) (oi := ⟨some 68, _, _, _, _, _⟩) (v := ?_) rfl (by kernel_rfl) (by kernel_rfl) (by kernel_rfl) (fun _ _ _ h => h) (Or.inl ⟨by rfl, ?_⟩) ?_
  rotate_left
  · ((intro w _; go_simp); try with_reducible rfl)
  (try simp only [Act.put, List.setIfInBounds_toArray, List.set_cons_zero, List.set_cons_succ])
  refine wpAnyT_take (i := 14) (oi := ⟨some 69, _, _, _, _, _⟩) (v := ?_) 8 rfl (by kernel_rfl) (by kernel_rfl) (by kernel_rfl) (by kernel_rfl) (by kernel_rfl) (fun _ _ _ h => h) (Or.inl ⟨by rfl, ?_⟩) (by assumption) ?_
  rotate_left
  · ((intro w hSw; (try dsimp only at hSw); go_simp); try with_reducible rfl)
  (try simp only [Act.put, List.setIfInBounds_toArray, List.set_cons_zero, List.set_cons_succ])
  refine wpAnyT_one (i := 7) (by kernel_rfl) rfl (fun K hK => ?_)
  rw [if_pos (by rfl)]
  go_simp
  go_at_call 34
  refine CM.out.mono ?_
  rintro e u1 ⟨rfl, G1, h1, hb1⟩
  have H1 := Lib.hid (And.intro h1 hb1)
  obtain ⟨c0, c1, c2, c3, c4, c5, c6, c7⟩ := h1.cells
  clear h1 hb1
  refine hK.out _ _ ⟨c1, c2, c3, c4, c5, c6⟩ (fun hHeld => ?_)
  clear hK K
  (try simp only [Act.put, List.setIfInBounds_toArray, List.set_cons_zero, List.set_cons_succ])
  refine wpAnyT_one (i := 15) (by kernel_rfl) rfl (fun K hK => ?_)
  rw [if_pos (by rfl)]
  go_simp
  go_at_call 35
  refine (CR.out u1 G1 H1.out.1).mono ?_
  rintro e u2 ⟨rfl, G3, h2, hb2⟩
  have H2 := Lib.hid (And.intro h2 hb2)
  obtain ⟨d0, d1, d2, d3, d4, d5, d6, d7⟩ := h2.cells
  clear h2 hb2
  refine hK.out _ _ ⟨d1, d2, d3, d4, d5, d6⟩ (fun hHeld => ?_)
  clear hK K
  (try simp only [Act.put, List.setIfInBounds_toArray, List.set_cons_zero, List.set_cons_succ])
  refine wpAnyT_takeW (i := 16) (oi := ⟨some 71, _, _, _, _, _⟩) (v := ?_) rfl (by kernel_rfl) (by kernel_rfl) (by kernel_rfl) (fun _ _ _ h => h) (Or.inl ⟨by rfl, ?_⟩) ?_
  rotate_left
  · ((intro w _; go_simp); try with_reducible rfl)
  (try simp only [Act.put, List.setIfInBounds_toArray, List.set_cons_zero, List.set_cons_succ])
  refine wpAnyT_takeW (i := 17) (oi := ⟨some 6, _, _, _, _, _⟩) (v := ?_) rfl (by kernel_rfl) (by kernel_rfl) (by kernel_rfl) (fun _ _ _ h => h) (Or.inl ⟨by rfl, ?_⟩) ?_
  rotate_left
  · ((intro w _; go_simp); try with_reducible rfl)
  (try simp only [Act.put, List.setIfInBounds_toArray, List.set_cons_zero, List.set_cons_succ])
  refine wpAnyT_done (by kernel_rfl) ?_
  go_wp2_with fail
  go_ret
  exact ⟨rfl, G1, _, G3, H2.out.1.duo HS.out, ((Stp.since HBW.out.1 HBW.out.2).trans H1.out.2).trans H2.out.2⟩

set_option maxRecDepth 100000 in
set_option maxHeartbeats 1000000 in
theorem asks_8 {W : World} {B cap p d : Nat} {M : PM} {G : GM} {R : RM} {G2 : GR} {a : PAct} (h : Duo W B cap p d M G R G2) (hcap : cap + 2 ≤ 1099511627776) (ok : a.Ok) (hk : a.kind = 8) :
    Calls Try.prog 22 #[.pointer (some ⟨p, 0, none⟩), .pointer (some ⟨d, 0, none⟩), actV a] W (DuoPost W B cap p d (dm G G2) (putM M a.r a.i a.n).1) := by
  obtain ⟨U, hU⟩ : ∃ U, W.alloc (.cells #[.int .i64 a.kind, .int .i64 a.r, .int .i64 a.i, .int .i64 a.n, .int .i64 a.v.1, .string a.v.2.1, .int .i64 a.v.2.2, .bool a.st] 26) = U := ⟨_, rfl⟩
  obtain ⟨hpb, hbU⟩ := h.box a hU
  have hpb := hpb.since (Below.refl _ U).drew
  have hbU := hbU.trans ((Below.refl W.heap.size U).drew)
  have HBW : RowKit.Hid (B ≤ W.heap.size ∧ Below W.heap.size W U.drew) := Lib.hid ⟨by have := h.mem.plt; omega, hbU⟩
  have HAL := Lib.hid h.same
  have HNU := Lib.hid h.mem.num
  obtain ⟨b0, b1, b2, b3, b4, b5, b6, b7⟩ := hpb.cells
  rw [hk] at b0 hU
  have z0 : U.cell? ⟨W.heap.size, 0, none⟩ = some (.int .i64 8) := b0
  have HS : RowKit.Hid (Alike (putM M a.r a.i a.n).1 (putR R a.r a.i a.n).1) := Lib.hid (put_alike h.same a.r a.i a.n).1
  have hv := (put_alike h.same a.r a.i a.n).2
  have cm := hpb.put (by omega) a.r a.i a.n ok.r ok.i ok.n
  have cr : ∀ u G1, PB u B (cap + 1) p d (putM M a.r a.i a.n).1 G1 R G2 W.heap.size a → _ := fun u G1 hh => hh.rput (by omega) a.r a.i a.n ok.r
  obtain ⟨x, hx⟩ : ∃ x, (putM M a.r a.i a.n).2 = x := ⟨_, rfl⟩
  rw [hx] at hv cm
  rw [← hv] at cr
  have CM := Lib.hid cm
  have CR := Lib.hid cr
  clear cm cr hpb h hv hbU hcap ok
  unfold actV
  rw [hk]
  go_enter Try.func22, Try.ntmps22
  go_upto_region 1 with fail
  try rw [hU]
  clear hU
  go_upto_region 13 with fail
  refine wp_region_T (S := (fun u : World => u.cell? ⟨W.heap.size, 1, none⟩ = some (.int .i64 a.r) ∧ u.cell? ⟨W.heap.size, 2, none⟩ = some (.int .i64 a.i) ∧ u.cell? ⟨W.heap.size, 3, none⟩ = some (.int .i64 a.n) ∧ u.cell? ⟨W.heap.size, 4, none⟩ = some (.int .i64 a.v.1) ∧ u.cell? ⟨W.heap.size, 5, none⟩ = some (.string a.v.2.1) ∧ u.cell? ⟨W.heap.size, 6, none⟩ = some (.int .i64 a.v.2.2))) 18 (by kernel_rfl) ⟨b1, b2, b3, b4, b5, b6⟩ (fun hHeld => ?_)
  refine wpAnyT_takeW (i := 0) (oi := ⟨some 98, _, _, _, _, _⟩) (v := ?_) rfl (by kernel_rfl) (by kernel_rfl) (by kernel_rfl) (fun _ _ _ h => h) (Or.inl ⟨by rfl, ?_⟩) ?_
  rotate_left
  · ((intro w _; go_simp); try with_reducible rfl)
  (try simp only [Act.put, List.setIfInBounds_toArray, List.set_cons_zero, List.set_cons_succ])
  refine wpAnyT_takeW (i := 1) (oi := ⟨some 99, _, _, _, _, _⟩) (v := ?_) rfl (by kernel_rfl) (by kernel_rfl) (by kernel_rfl) (fun _ _ _ h => h) (Or.inl ⟨by rfl, ?_⟩) ?_
  rotate_left
  · ((intro w _; go_simp); try with_reducible rfl)
  (try simp only [Act.put, List.setIfInBounds_toArray, List.set_cons_zero, List.set_cons_succ])
  refine wpAnyT_take (i := 2) (oi := ⟨some 100, _, _, _, _, _⟩) (v := ?_) 8 rfl (by kernel_rfl) (by kernel_rfl) (by kernel_rfl) (by kernel_rfl) (by kernel_rfl) (fun _ _ _ h => h) (Or.inl ⟨by rfl, ?_⟩) (by assumption) ?_
  rotate_left
  · ((intro w hSw; (try dsimp only at hSw); go_simp); try with_reducible rfl)
  (try simp only [Act.put, List.setIfInBounds_toArray, List.set_cons_zero, List.set_cons_succ])
  refine wpAnyT_takeW (i := 3) (oi := ⟨some 101, _, _, _, _, _⟩) (v := ?_) rfl (by kernel_rfl) (by kernel_rfl) (by kernel_rfl) (fun _ _ _ h => h) (Or.inl ⟨by rfl, ?_⟩) ?_
  rotate_left
  · ((intro w _; go_simp); try with_reducible rfl)
  (try simp only [Act.put, List.setIfInBounds_toArray, List.set_cons_zero, List.set_cons_succ])
  refine wpAnyT_take (i := 4) (oi := ⟨some 102, _, _, _, _, _⟩) (v := ?_) 8 rfl (by kernel_rfl) (by kernel_rfl) (by kernel_rfl) (by kernel_rfl) (by kernel_rfl) (fun _ _ _ h => h) (Or.inl ⟨by rfl, ?_⟩) (by assumption) ?_
  rotate_left
  · ((intro w hSw; (try dsimp only at hSw); go_simp); try with_reducible rfl)
  (try simp only [Act.put, List.setIfInBounds_toArray, List.set_cons_zero, List.set_cons_succ])
  refine wpAnyT_takeW (i := 5) (oi := ⟨some 103, _, _, _, _, _⟩) (v := ?_) rfl (by kernel_rfl) (by kernel_rfl) (by kernel_rfl) (fun _ _ _ h => h) (Or.inl ⟨by rfl, ?_⟩) ?_
  rotate_left
  · ((intro w _; go_simp); try with_reducible rfl)
  (try simp only [Act.put, List.setIfInBounds_toArray, List.set_cons_zero, List.set_cons_succ])
  refine wpAnyT_take (i := 6) (oi := ⟨some 104, _, _, _, _, _⟩) (v := ?_) 8 rfl (by kernel_rfl) (by kernel_rfl) (by kernel_rfl) (by kernel_rfl) (by kernel_rfl) (fun _ _ _ h => h) (Or.inl ⟨by rfl, ?_⟩) (by assumption) ?_
  rotate_left
  · ((intro w hSw; (try dsimp only at hSw); go_simp); try with_reducible rfl)
  (try simp only [Act.put, List.setIfInBounds_toArray, List.set_cons_zero, List.set_cons_succ])
  refine wpAnyT_takeW (i := 8) (oi := ⟨some 106, _, _, _, _, _⟩) (v := ?_) rfl (by kernel_rfl) (by kernel_rfl) (by kernel_rfl) (fun _ _ _ h => h) (Or.inl ⟨by rfl, ?_⟩) ?_
  rotate_left
  · ((intro w _; go_simp); try with_reducible rfl)
  (try simp only [Act.put, List.setIfInBounds_toArray, List.set_cons_zero, List.set_cons_succ])
  refine wpAnyT_takeW (i := 9) (oi := ⟨some 107, _, _, _, _, _⟩) (v := ?_) rfl (by kernel_rfl) (by kernel_rfl) (by kernel_rfl) (fun _ _ _ h => h) (Or.inl ⟨by rfl, ?_⟩) ?_
  rotate_left
  · ((intro w _; go_simp); try with_reducible rfl)
  (try simp only [Act.put, List.setIfInBounds_toArray, List.set_cons_zero, List.set_cons_succ])
  refine wpAnyT_take (i := 10) (oi := ⟨some 108, _, _, _, _, _⟩) (v := ?_) 8 rfl (by kernel_rfl) (by kernel_rfl) (by kernel_rfl) (by kernel_rfl) (by kernel_rfl) (fun _ _ _ h => h) (Or.inl ⟨by rfl, ?_⟩) (by assumption) ?_
  rotate_left
  · ((intro w hSw; (try dsimp only at hSw); go_simp); try with_reducible rfl)
  (try simp only [Act.put, List.setIfInBounds_toArray, List.set_cons_zero, List.set_cons_succ])
  refine wpAnyT_takeW (i := 11) (oi := ⟨some 109, _, _, _, _, _⟩) (v := ?_) rfl (by kernel_rfl) (by kernel_rfl) (by kernel_rfl) (fun _ _ _ h => h) (Or.inl ⟨by rfl, ?_⟩) ?_
  rotate_left
  · ((intro w _; go_simp); try with_reducible rfl)
  (try simp only [Act.put, List.setIfInBounds_toArray, List.set_cons_zero, List.set_cons_succ])
  refine wpAnyT_take (i := 12) (oi := ⟨some 110, _, _, _, _, _⟩) (v := ?_) 8 rfl (by kernel_rfl) (by kernel_rfl) (by kernel_rfl) (by kernel_rfl) (by kernel_rfl) (fun _ _ _ h => h) (Or.inl ⟨by rfl, ?_⟩) (by assumption) ?_
  rotate_left
  · ((intro w hSw; (try dsimp only at hSw); go_simp); try with_reducible rfl)
  (try simp only [Act.put, List.setIfInBounds_toArray, List.set_cons_zero, List.set_cons_succ])
  refine wpAnyT_takeW (i := 13) (oi := ⟨some 111, _, _, _, _, _⟩) (v := ?_) rfl (by kernel_rfl) (by kernel_rfl) (by kernel_rfl) (fun _ _ _ h => h) (Or.inl ⟨by rfl, ?_⟩) ?_
  rotate_left
  · ((intro w _; go_simp); try with_reducible rfl)
  (try simp only [Act.put, List.setIfInBounds_toArray, List.set_cons_zero, List.set_cons_succ])
  refine wpAnyT_take (i := 14) (oi := ⟨some 112, _, _, _, _, _⟩) (v := ?_) 8 rfl (by kernel_rfl) (by kernel_rfl) (by kernel_rfl) (by kernel_rfl) (by kernel_rfl) (fun _ _ _ h => h) (Or.inl ⟨by rfl, ?_⟩) (by assumption) ?_
  rotate_left
  · ((intro w hSw; (try dsimp only at hSw); go_simp); try with_reducible rfl)
  (try simp only [Act.put, List.setIfInBounds_toArray, List.set_cons_zero, List.set_cons_succ])
  refine wpAnyT_one (i := 7) (by kernel_rfl) rfl (fun K hK => ?_)
  rw [if_pos (by rfl)]
  go_simp
  go_at_call 27
  refine CM.out.mono ?_
  rintro e u1 ⟨rfl, G1, h1, hb1⟩
  have H1 := Lib.hid (And.intro h1 hb1)
  obtain ⟨c0, c1, c2, c3, c4, c5, c6, c7⟩ := h1.cells
  clear h1 hb1
  refine hK.out _ _ ⟨c1, c2, c3, c4, c5, c6⟩ (fun hHeld => ?_)
  clear hK K
  (try simp only [Act.put, List.setIfInBounds_toArray, List.set_cons_zero, List.set_cons_succ])
  refine wpAnyT_one (i := 15) (by kernel_rfl) rfl (fun K hK => ?_)
  rw [if_pos (by rfl)]
  go_simp
  go_at_call 37
  refine (CR.out u1 G1 H1.out.1).mono ?_
  rintro e u2 ⟨rfl, G3, h2, hb2⟩
  have H2 := Lib.hid (And.intro h2 hb2)
  obtain ⟨d0, d1, d2, d3, d4, d5, d6, d7⟩ := h2.cells
  clear h2 hb2
  refine hK.out _ _ ⟨d1, d2, d3, d4, d5, d6⟩ (fun hHeld => ?_)
  clear hK K
  (try simp only [Act.put, List.setIfInBounds_toArray, List.set_cons_zero, List.set_cons_succ])
  refine wpAnyT_takeW (i := 16) (oi := ⟨some 114, _, _, _, _, _⟩) (v := ?_) rfl (by kernel_rfl) (by kernel_rfl) (by kernel_rfl) (fun _ _ _ h => h) (Or.inl ⟨by rfl, ?_⟩) ?_
  rotate_left
  · ((intro w _; go_simp); try with_reducible rfl)
  (try simp only [Act.put, List.setIfInBounds_toArray, List.set_cons_zero, List.set_cons_succ])
  refine wpAnyT_takeW (i := 17) (oi := ⟨some 6, _, _, _, _, _⟩) (v := ?_) rfl (by kernel_rfl) (by kernel_rfl) (by kernel_rfl) (fun _ _ _ h => h) (Or.inl ⟨by rfl, ?_⟩) ?_
  rotate_left
  · ((intro w _; go_simp); try with_reducible rfl)
  (try simp only [Act.put, List.setIfInBounds_toArray, List.set_cons_zero, List.set_cons_succ])
  refine wpAnyT_done (by kernel_rfl) ?_
  go_wp2_with fail
  go_ret
  exact ⟨rfl, G1, _, G3, H2.out.1.duo HS.out, ((Stp.since HBW.out.1 HBW.out.2).trans H1.out.2).trans H2.out.2⟩

set_option maxRecDepth 100000 in
set_option maxHeartbeats 1000000 in
theorem asks_5 {W : World} {B cap p d : Nat} {M : PM} {G : GM} {R : RM} {G2 : GR} {a : PAct} (h : Duo W B cap p d M G R G2) (hcap : cap + 2 ≤ 1099511627776) (ok : a.Ok) (hk : a.kind = 5) :
    Calls Try.prog 22 #[.pointer (some ⟨p, 0, none⟩), .pointer (some ⟨d, 0, none⟩), actV a] W (DuoPost W B cap p d (dm G G2) M) := by
  obtain ⟨U, hU⟩ : ∃ U, W.alloc (.cells #[.int .i64 a.kind, .int .i64 a.r, .int .i64 a.i, .int .i64 a.n, .int .i64 a.v.1, .string a.v.2.1, .int .i64 a.v.2.2, .bool a.st] 26) = U := ⟨_, rfl⟩
  obtain ⟨hpb, hbU⟩ := h.box a hU
  have HBW : RowKit.Hid (B ≤ W.heap.size ∧ Below W.heap.size W U) := Lib.hid ⟨by have := h.mem.plt; omega, hbU⟩
  have HAL := Lib.hid h.same
  have HNU := Lib.hid h.mem.num
  obtain ⟨b0, b1, b2, b3, b4, b5, b6, b7⟩ := hpb.cells
  rw [hk] at b0 hU
  have hv := (get_alike h.same a.r a.i).1
  have cm := hpb.get (by omega) a.r a.i ok.r
  have cr : ∀ u, PB u B cap p d M G R G2 W.heap.size a → _ := fun u hh => hh.rget (by omega) a.r a.i ok.r
  obtain ⟨⟨x1, x2, x3⟩, y, hx⟩ : ∃ x y, getM M a.r a.i = (x, y) := ⟨_, _, rfl⟩
  rw [hx] at hv cm
  rw [← hv] at cr
  unfold vvV at cm cr
  have CM := Lib.hid cm
  have CR := Lib.hid cr
  clear cm cr hpb h hv hbU hcap ok
  unfold actV
  rw [hk]
  go_enter Try.func22, Try.ntmps22
  go_upto_region 1 with fail
  try rw [hU]
  clear hU
  go_upto_region 4 with (go_at_call 24; refine CM.out.mono ?_; rintro e u1 ⟨rfl, h1, hb1⟩; have H1 := Lib.hid (And.intro h1 hb1); clear h1 hb1)
  obtain ⟨U1, hU1⟩ : ∃ U1, u1.alloc (.cells #[.int .i64 x1, .string x2, .int .i64 x3] 24) = U1 := ⟨_, rfl⟩
  have hb1 : Below u1.heap.size u1 U1 := by rw [← hU1]; exact (Below.refl _ u1).alloc (Nat.le_refl _) _
  have hx1 : U1.heap[u1.heap.size]? = some (.cells #[.int .i64 x1, .string x2, .int .i64 x3] 24 (0, 0)) := by rw [← hU1]; exact World.alloc_heap_new _ _
  have H1B := Lib.hid (And.intro hb1 hx1)
  have hP1 := H1.out.1.since hb1
  have HP1 := Lib.hid hP1
  obtain ⟨c0, c1, c2, c3, c4, c5, c6, c7⟩ := hP1.cells
  rw [hU1]
  clear hU1 hb1 hx1 hP1
  go_upto_region 5 with (go_at_call 33; refine (CR.out U1 HP1.out).mono ?_; rintro e u2 ⟨rfl, h2, hb2⟩; have H2 := Lib.hid (And.intro h2 hb2); clear h2 hb2)
  obtain ⟨U2, hU2⟩ : ∃ U2, u2.alloc (.cells #[.int .i64 x1, .string x2, .int .i64 x3] 24) = U2 := ⟨_, rfl⟩
  have hb2 : Below u2.heap.size u2 U2 := by rw [← hU2]; exact (Below.refl _ u2).alloc (Nat.le_refl _) _
  have hx2 : U2.heap[u2.heap.size]? = some (.cells #[.int .i64 x1, .string x2, .int .i64 x3] 24 (0, 0)) := by rw [← hU2]; exact World.alloc_heap_new _ _
  have hz : u1.heap.size < U1.heap.size := (Array.getElem?_eq_some_iff.1 H1B.out.2).1
  have hx3 : U2.heap[u1.heap.size]? = some (.cells #[.int .i64 x1, .string x2, .int .i64 x3] 24 (0, 0)) := (hb2.block _ (by have := H2.out.2.size; omega)).trans ((H2.out.2.block _ hz).trans H1B.out.2)
  have p0 : U2.cell? ⟨u1.heap.size, 0, none⟩ = some (.int .i64 x1) := by simp [World.cell?, hx3]
  have p1 : U2.cell? ⟨u1.heap.size, 1, none⟩ = some (.string x2) := by simp [World.cell?, hx3]
  have p2 : U2.cell? ⟨u1.heap.size, 2, none⟩ = some (.int .i64 x3) := by simp [World.cell?, hx3]
  have q0 : U2.cell? ⟨u2.heap.size, 0, none⟩ = some (.int .i64 x1) := by simp [World.cell?, hx2]
  have q1 : U2.cell? ⟨u2.heap.size, 1, none⟩ = some (.string x2) := by simp [World.cell?, hx2]
  have q2 : U2.cell? ⟨u2.heap.size, 2, none⟩ = some (.int .i64 x3) := by simp [World.cell?, hx2]
  have HB2 := Lib.hid hb2
  rw [hU2]
  clear hU2 hb2 hx2 hx3 hz c0 c1 c2 c3 c4 c5 c6 c7
  go_wp2_with fail
  go_ret
  have s1 := H1.out.2
  have s2 := H1B.out.1
  have s3 := H2.out.2
  have s4 := HB2.out
  have s0 := HBW.out
  have e0 := s0.2.size
  have e1 := s1.size
  have e2 := s2.size
  have e3 := s3.size
  exact ⟨rfl, G, R, G2, ((H2.out.1.since s4).duo HAL.out).mono (by omega), ((((Stp.since s0.1 s0.2).trans (Stp.since (by omega) s1)).trans (Stp.since (by omega) s2)).trans (Stp.since (by omega) s3)).trans (Stp.since (by omega) s4)⟩

set_option maxRecDepth 100000 in
set_option maxHeartbeats 1000000 in
theorem asks_7 {W : World} {B cap p d : Nat} {M : PM} {G : GM} {R : RM} {G2 : GR} {a : PAct} (h : Duo W B cap p d M G R G2) (hcap : cap + 2 ≤ 1099511627776) (ok : a.Ok) (hk : a.kind = 7) :
    Calls Try.prog 22 #[.pointer (some ⟨p, 0, none⟩), .pointer (some ⟨d, 0, none⟩), actV a] W (DuoPost W B cap p d (dm G G2) M) := by
  obtain ⟨U, hU⟩ : ∃ U, W.alloc (.cells #[.int .i64 a.kind, .int .i64 a.r, .int .i64 a.i, .int .i64 a.n, .int .i64 a.v.1, .string a.v.2.1, .int .i64 a.v.2.2, .bool a.st] 26) = U := ⟨_, rfl⟩
  obtain ⟨hpb, hbU⟩ := h.box a hU
  have HBW : RowKit.Hid (B ≤ W.heap.size ∧ Below W.heap.size W U) := Lib.hid ⟨by have := h.mem.plt; omega, hbU⟩
  have HAL := Lib.hid h.same
  have HNU := Lib.hid h.mem.num
  obtain ⟨b0, b1, b2, b3, b4, b5, b6, b7⟩ := hpb.cells
  rw [hk] at b0 hU
  have hv := size_alike h.same a.r
  have cm := hpb.size (by omega) a.r ok.r
  have cr : ∀ u, PB u B cap p d M G R G2 W.heap.size a → _ := fun u hh => hh.rsize (by omega) a.r ok.r
  obtain ⟨x, y, hx⟩ : ∃ x y, sizeM M a.r = (x, y) := ⟨_, _, rfl⟩
  rw [hx] at hv cm
  rw [← hv] at cr
  have CM := Lib.hid cm
  have CR := Lib.hid cr
  clear cm cr hpb h hv hbU hcap ok
  unfold actV
  rw [hk]
  go_enter Try.func22, Try.ntmps22
  go_upto_region 1 with fail
  try rw [hU]
  clear hU
  go_wp2_with (first
    | (go_at_call 23; refine CM.out.mono ?_; rintro e u1 ⟨rfl, h1, hb1⟩; have H1 := Lib.hid (And.intro h1 hb1); obtain ⟨c0, c1, c2, c3, c4, c5, c6, c7⟩ := h1.cells; clear h1 hb1)
    | (go_at_call 36; (with_reducible refine (CR.out u1 H1.out.1).mono ?_); rintro e u2 ⟨rfl, h2, hb2⟩; have H2 := Lib.hid (And.intro h2 hb2); clear h2 hb2))
  go_ret
  exact ⟨rfl, G, R, G2, (H2.out.1.duo HAL.out).mono (by omega), ((Stp.since HBW.out.1 HBW.out.2).trans (Stp.since (by have := HBW.out.2.size; have := HBW.out.1; omega) H1.out.2)).trans (Stp.since (by have := H1.out.2.size; have := HBW.out.2.size; have := HBW.out.1; omega) H2.out.2)⟩

set_option maxRecDepth 100000 in
set_option maxHeartbeats 1000000 in
theorem asks_9 {W : World} {B cap p d : Nat} {M : PM} {G : GM} {R : RM} {G2 : GR} {a : PAct} (h : Duo W B cap p d M G R G2) (hcap : cap + 2 ≤ 1099511627776) (ok : a.Ok) (hk : a.kind = 9) :
    Calls Try.prog 22 #[.pointer (some ⟨p, 0, none⟩), .pointer (some ⟨d, 0, none⟩), actV a] W (DuoPost W B cap p d (dm G G2) M) := by
  obtain ⟨U, hU⟩ : ∃ U, W.alloc (.cells #[.int .i64 a.kind, .int .i64 a.r, .int .i64 a.i, .int .i64 a.n, .int .i64 a.v.1, .string a.v.2.1, .int .i64 a.v.2.2, .bool a.st] 26) = U := ⟨_, rfl⟩
  obtain ⟨hpb, hbU⟩ := h.box a hU
  have HBW : RowKit.Hid (B ≤ W.heap.size ∧ Below W.heap.size W U) := Lib.hid ⟨by have := h.mem.plt; omega, hbU⟩
  have HAL := Lib.hid h.same
  have HNU := Lib.hid h.mem.num
  obtain ⟨b0, b1, b2, b3, b4, b5, b6, b7⟩ := hpb.cells
  rw [hk] at b0 hU
  have hv := look_alike h.same a.r a.i
  have cm := hpb.look (by omega) a.r a.i ok.r ok.i
  have cr : ∀ u, PB u B cap p d M G R G2 W.heap.size a → _ := fun u hh => hh.rlook (by omega) a.r a.i ok.r
  obtain ⟨x, y, hx⟩ : ∃ x y, lookM M a.r a.i = (x, y) := ⟨_, _, rfl⟩
  rw [hx] at hv cm
  rw [← hv] at cr
  have CM := Lib.hid cm
  have CR := Lib.hid cr
  clear cm cr hpb h hv hbU hcap ok
  unfold actV
  rw [hk]
  go_enter Try.func22, Try.ntmps22
  go_upto_region 1 with fail
  try rw [hU]
  clear hU
  go_wp2_with (first
    | (go_at_call 26; refine CM.out.mono ?_; rintro e u1 ⟨rfl, h1, hb1⟩; have H1 := Lib.hid (And.intro h1 hb1); obtain ⟨c0, c1, c2, c3, c4, c5, c6, c7⟩ := h1.cells; clear h1 hb1)
    | (go_at_call 38; (with_reducible refine (CR.out u1 H1.out.1).mono ?_); rintro e u2 ⟨rfl, h2, hb2⟩; have H2 := Lib.hid (And.intro h2 hb2); clear h2 hb2))
  go_ret
  exact ⟨rfl, G, R, G2, (H2.out.1.duo HAL.out).mono (by omega), ((Stp.since HBW.out.1 HBW.out.2).trans (Stp.since (by have := HBW.out.2.size; have := HBW.out.1; omega) H1.out.2)).trans (Stp.since (by have := H1.out.2.size; have := HBW.out.2.size; have := HBW.out.1; omega) H2.out.2)⟩

set_option maxRecDepth 100000 in
set_option maxHeartbeats 1000000 in
theorem asks_10 {W : World} {B cap p d : Nat} {M : PM} {G : GM} {R : RM} {G2 : GR} {a : PAct} (h : Duo W B cap p d M G R G2) (hcap : cap + 2 ≤ 1099511627776) (ok : a.Ok) (hk : a.kind = 10) :
    Calls Try.prog 22 #[.pointer (some ⟨p, 0, none⟩), .pointer (some ⟨d, 0, none⟩), actV a] W (DuoPost W B cap p d (dm G G2) M) := by
  obtain ⟨U, hU⟩ : ∃ U, W.alloc (.cells #[.int .i64 a.kind, .int .i64 a.r, .int .i64 a.i, .int .i64 a.n, .int .i64 a.v.1, .string a.v.2.1, .int .i64 a.v.2.2, .bool a.st] 26) = U := ⟨_, rfl⟩
  obtain ⟨hpb, hbU⟩ := h.box a hU
  have HBW : RowKit.Hid (B ≤ W.heap.size ∧ Below W.heap.size W U) := Lib.hid ⟨by have := h.mem.plt; omega, hbU⟩
  have HAL := Lib.hid h.same
  have HNU := Lib.hid h.mem.num
  obtain ⟨b0, b1, b2, b3, b4, b5, b6, b7⟩ := hpb.cells
  rw [hk] at b0 hU
  have hv := key_alike h.same a.r a.i
  have cm := hpb.key (by omega) a.r a.i ok.r ok.i
  have cr : ∀ u, PB u B cap p d M G R G2 W.heap.size a → _ := fun u hh => hh.rkey (by omega) a.r a.i ok.r
  obtain ⟨x, y, hx⟩ : ∃ x y, keyM M a.r a.i = (x, y) := ⟨_, _, rfl⟩
  rw [hx] at hv cm
  rw [← hv] at cr
  have CM := Lib.hid cm
  have CR := Lib.hid cr
  clear cm cr hpb h hv hbU hcap ok
  unfold actV
  rw [hk]
  go_enter Try.func22, Try.ntmps22
  go_upto_region 1 with fail
  try rw [hU]
  clear hU
  go_wp2_with (first
    | (go_at_call 25; refine CM.out.mono ?_; rintro e u1 ⟨rfl, h1, hb1⟩; have H1 := Lib.hid (And.intro h1 hb1); obtain ⟨c0, c1, c2, c3, c4, c5, c6, c7⟩ := h1.cells; clear h1 hb1)
    | (go_at_call 39; (with_reducible refine (CR.out u1 H1.out.1).mono ?_); rintro e u2 ⟨rfl, h2, hb2⟩; have H2 := Lib.hid (And.intro h2 hb2); clear h2 hb2))
  go_ret
  exact ⟨rfl, G, R, G2, (H2.out.1.duo HAL.out).mono (by omega), ((Stp.since HBW.out.1 HBW.out.2).trans (Stp.since (by have := HBW.out.2.size; have := HBW.out.1; omega) H1.out.2)).trans (Stp.since (by have := H1.out.2.size; have := HBW.out.2.size; have := HBW.out.1; omega) H2.out.2)⟩

set_option maxRecDepth 100000 in
set_option maxHeartbeats 1000000 in
theorem asks_none {W : World} {B cap p d : Nat} {M : PM} {G : GM} {R : RM} {G2 : GR} {a : PAct} (h : Duo W B cap p d M G R G2) (hcap : cap + 2 ≤ 1099511627776) (ok : a.Ok) (hk : a.kind ≠ 5 ∧ a.kind ≠ 6 ∧ a.kind ≠ 7 ∧ a.kind ≠ 8 ∧ a.kind ≠ 9 ∧ a.kind ≠ 10) :
    Calls Try.prog 22 #[.pointer (some ⟨p, 0, none⟩), .pointer (some ⟨d, 0, none⟩), actV a] W (DuoPost W B cap p d (dm G G2) M) := by
  obtain ⟨U, hU⟩ : ∃ U, W.alloc (.cells #[.int .i64 a.kind, .int .i64 a.r, .int .i64 a.i, .int .i64 a.n, .int .i64 a.v.1, .string a.v.2.1, .int .i64 a.v.2.2, .bool a.st] 26) = U := ⟨_, rfl⟩
  obtain ⟨hpb, hbU⟩ := h.box a hU
  have HBW : RowKit.Hid (B ≤ W.heap.size ∧ Below W.heap.size W U) := Lib.hid ⟨by have := h.mem.plt; omega, hbU⟩
  have HAL := Lib.hid h.same
  have HNU := Lib.hid h.mem.num
  obtain ⟨b0, b1, b2, b3, b4, b5, b6, b7⟩ := hpb.cells
  obtain ⟨k5, k6, k7, k8, k9, k10⟩ := hk
  have e5 : (a.kind == 5) = false := by simpa using k5
  have e6 : (a.kind == 6) = false := by simpa using k6
  have e7 : (a.kind == 7) = false := by simpa using k7
  have e8 : (a.kind == 8) = false := by simpa using k8
  have e9 : (a.kind == 9) = false := by simpa using k9
  have e10 : (a.kind == 10) = false := by simpa using k10
  have HE : RowKit.Hid (DuoPost W B cap p d (dm G G2) M (.returned (.bool true)) U) := Lib.hid ⟨rfl, G, R, G2, (h.since hbU).mono (by omega), Stp.since HBW.out.1 hbU⟩
  clear h hpb hbU hcap ok k5 k6 k7 k8 k9 k10
  unfold actV
  go_enter Try.func22, Try.ntmps22
  go_upto_region 1 with fail
  try rw [hU]
  clear hU
  go_wp2_with fail
  go_ret
  exact HE.out

end Go.Proofs.Ytgnfinojnmkkkaa
