/- Layer 5: the document's reader (D): where it stands, and its small calls: num, count, form. -/
import Derived.Test.YtdmlogpaenbblaaDoorQT3
import Derived.Test.YtdmlogpaenbblaaDoorQT6
import Derived.Test.YtdmlogpaenbblaaDoorQWireRefT
import Derived.BigQuiet
namespace Go.Proofs.YtdmlogpaenbblaaDoor
open Go.RowKit (wrap64 intOf Below)
set_option linter.unusedVariables false
set_option linter.unusedSimpArgs false
attribute [local go_sem ↓] Go.wp_at_zero Go.wp_at_succ

/-- The reader in block d is of the bytes L (which lie ahead of it), at a place, with what is wrong. -/
structure DSt (d : Nat) (a : Option Addr) (n c : Nat) (L : List UInt8) (w : World) (p : Nat) (y : Int) : Prop where
  box : w.heap[d]? = some (.cells #[.slice a n c, .int .i64 (p : Int), .int .i64 y] 86 (0, 0))
  by_ : BytesAt w a n c L
  le : p ≤ n
  top : n ≤ 65536
  far : ∀ ad, a = some ad → 0 < n → ad.block < d
section
variable {d : Nat} {a : Option Addr} {n c : Nat} {L : List UInt8} {w u : World} {p : Nat} {y : Int}
theorem DSt.lt (h : DSt d a n c L w p y) : d < w.heap.size := (Array.getElem?_eq_some_iff.1 h.box).1
theorem DSt.c0 (h : DSt d a n c L w p y) : w.cell? ⟨d, 0, none⟩ = some (.slice a n c) := by simp [World.cell?, h.box]
theorem DSt.c1 (h : DSt d a n c L w p y) : w.cell? ⟨d, 1, none⟩ = some (.int .i64 (p : Int)) := by simp [World.cell?, h.box]
theorem DSt.c2 (h : DSt d a n c L w p y) : w.cell? ⟨d, 2, none⟩ = some (.int .i64 y) := by simp [World.cell?, h.box]
theorem DSt.free (h : DSt d a n c L w p y) (j : Nat) : w.frozen? ⟨d, j, none⟩ = false := by simp [World.frozen?, h.box]
theorem BytesAt.off {X : Nat → Prop} (h : BytesAt w a n c L) (ho : Off X w u) (hx : ∀ ad, a = some ad → 0 < n → ¬ X ad.block) : BytesAt u a n c L := by
  obtain ⟨h1, h2, h3, h4, h5, h6⟩ := h
  refine ⟨h1, h2, h3, h4, fun hn => ?_, fun ad ha j hj => ?_⟩
  · obtain ⟨g, off, e, hg⟩ := h5 hn
    exact ⟨g, off, e, Nat.lt_of_lt_of_le hg ho.size⟩
  · obtain ⟨g, off, e, hg⟩ := h5 (by omega)
    rw [ho.cell (p := ad.add j) (by rw [addr_block]; rw [e] at ha; cases ha; exact hg) (by rw [addr_block]; exact hx ad ha (by omega))]
    exact h6 ad ha j hj
/-- All but other blocks stand. -/
theorem DSt.stays {X : Nat → Prop} (h : DSt d a n c L w p y) (ho : Off X w u) (hx : ∀ k, X k → d < k) : DSt d a n c L u p y :=
  ⟨(ho.block d h.lt (fun hX => by have := hx d hX; omega)).trans h.box, h.by_.off ho (fun ad ha h0 hX => by have := hx _ hX; have := h.far ad ha h0; omega), h.le, h.top, h.far⟩
theorem DSt.since (h : DSt d a n c L w p y) (hb : Below w.heap.size w u) : DSt d a n c L u p y := h.stays (X := fun _ => False) (Off.since hb) (fun _ hk => hk.elim)
theorem DSt.drewN (h : DSt d a n c L w p y) (q : Nat) : DSt d a n c L (w.drewN q) p y := h.since (below_drewN _ (Below.refl _ _))
/-- What is wrong is noted. -/
theorem DSt.note (h : DSt d a n c L w p y) (z : Int) : DSt d a n c L (w.setCell ⟨d, 2, none⟩ (.int .i64 z)) p z :=
  ⟨by have := heap_setCell_same w d 2 _ _ (.int .i64 z) h.box; simpa using this, h.by_.off (X := fun k => k = d) (Off.setCell (p := ⟨d, 2, none⟩) (Off.refl (fun k => k = d) w) (.inl rfl) _) (fun ad ha h0 hX => by have := h.far ad ha h0; omega), h.le, h.top, h.far⟩
theorem DSt.move (h : DSt d a n c L w p y) (q : Nat) (hq : q ≤ n) : DSt d a n c L (w.setCell ⟨d, 1, none⟩ (.int .i64 (q : Int))) q y :=
  ⟨by have := heap_setCell_same w d 1 _ _ (.int .i64 (q : Int)) h.box; simpa using this, h.by_.off (X := fun k => k = d) (Off.setCell (p := ⟨d, 1, none⟩) (Off.refl (fun k => k = d) w) (.inl rfl) _) (fun ad ha h0 hX => by have := h.far ad ha h0; omega), hq, h.top, h.far⟩
end
/-- What a reader's call did: where it had read before, and nothing was wrong, it reads on. -/
def Ran {α : Type} (f : List UInt8 → PR α) (L : List UInt8) (p : Nat) (y : Int) (p' : Nat) (y' : Int) (x : α) : Prop :=
  (y ≠ 0 → y' = y) ∧ (y = 0 → (y' = 0 → f (L.drop p) = .ok x (L.drop p')) ∧ (y' ≠ 0 → f (L.drop p) = .no y'))
def DPost {α : Type} (d : Nat) (a : Option Addr) (n c : Nat) (L : List UInt8) (p : Nat) (y : Int) (f : List UInt8 → PR α) (V : World → (Nat → Prop) → Value → α → Prop) (w : World) (e : Ending) (w' : World) : Prop :=
  ∃ v x p' y', e = .returned v ∧ V w' (From w.heap.size) v x ∧ DSt d a n c L w' p' y' ∧ Off (fun k => k = d) w w' ∧ Ran f L p y p' y' x
def IntV (w : World) (S : Nat → Prop) (v : Value) (x : Int) : Prop := v = .int .i64 x ∧ InR x
/-- One of so many. -/
def NatV (most : Nat) (w : World) (S : Nat → Prop) (v : Value) (x : Nat) : Prop := v = .int .i64 (x : Int) ∧ x ≤ most
def BelowV (b : Int) (w : World) (S : Nat → Prop) (v : Value) (x : Int) : Prop := v = .int .i64 x ∧ 0 ≤ x ∧ x < b
theorem rdNum_rng {L : List UInt8} {x : Int} {r : List UInt8} (h : rdNum L = .ok x r) : InR x := rdNum_in h

set_option maxRecDepth 100000 in
set_option maxHeartbeats 2000000 in
theorem d_num (d : Nat) (a : Option Addr) (n c : Nat) (L : List UInt8) (p : Nat) (y : Int) (w : World) (h : DSt d a n c L w p y) :
    Calls Tryd.prog 46 #[.pointer (some ⟨d, 0, none⟩)] w (DPost d a n c L p y rdNum IntV w) := by
  have hc0 := h.c0
  have hc1 := h.c1
  have hc2 := h.c2
  by_cases hy : y = 0
  rotate_left
  · have hyb : (y != 0) = true := by rw [bne_iff_ne]; exact hy
    have HD := Lib.hid h
    have HY := Lib.hid hy
    clear h hy
    go_enter Tryd.func46, Tryd.ntmps46
    go_wp2_with fail
    go_ret
    exact ⟨_, 0, p, y, rfl, ⟨rfl, by decide, by decide⟩, HD.out, Off.refl _ _, fun _ => rfl, fun hh => absurd hh HY.out⟩
  subst hy
  have hat := h.by_.drop p h.le
  have hp := h.le
  have htop := h.top
  have hs := slice_from a n c p h.le
  obtain ⟨a', ha'⟩ : ∃ a', fromA a c p = a' := ⟨_, rfl⟩
  obtain ⟨n', hn'⟩ : ∃ n', n - p = n' := ⟨_, rfl⟩
  obtain ⟨c', hc'⟩ : ∃ c', c - p = c' := ⟨_, rfl⟩
  rw [ha', hn', hc'] at hs hat
  have hn3 : n' ≤ 140737488355328 := by omega
  have hfr1 := h.free 1
  have hfr2 := h.free 2
  have HD := Lib.hid h
  rcases gives_or_fails (L.drop p) with ⟨m, k, hg⟩ | ⟨er, hg⟩
  · have hk := hg.put
    have hlen : k ≤ n' := by have := hk.2.2.1; rw [List.length_drop, h.by_.1] at this; omega
    have HM : RowKit.Hid (InR m) := Lib.hid ⟨hk.2.2.2.2.1, hk.2.2.2.2.2⟩
    have HR : RowKit.Hid (rdNum (L.drop p) = .ok m (L.drop (p + k))) := Lib.hid (by rw [rdNum_yes hg, List.drop_drop])
    have CT : RowKit.Hid (∀ q, Calls Tryd.prog 84 #[.slice a' n' c'] (w.drewN q) fun e w' => e = .returned (.tuple #[.int .i64 m, .int .i64 (k : Int), .int .i64 0]) ∧ w' = w.drewN q) := Lib.hid fun q => (rtake_yes a' n' c' _ _ (hat.drewN q) hn3 m k hg).mono (by rintro e w' ⟨rfl, rfl⟩; exact ⟨rfl, rfl⟩)
    have hpk : p + k ≤ n := by omega
    clear h hat hk hg
    go_enter Tryd.func46, Tryd.ntmps46
    go_wp2_with fail
    go_quiet (((go_at_call 84; exact Calls.quiet_of ((CT.out _).mono fun e w' ⟨h1, h2⟩ => ⟨h1, 0, h2⟩))))
    go_wp2_with fail
    go_ret
    exact ⟨_, m, p + k, 0, rfl, ⟨rfl, HM.out⟩, by have h := ((HD.out.drewN nq).move (p + k) hpk).note 0; simpa using h, Off.setCell (p := ⟨d, 2, none⟩) (Off.setCell (p := ⟨d, 1, none⟩) ((Off.refl (fun k => k = d) w).drewN nq) (.inl rfl) _) (.inl rfl) _, fun hh => absurd rfl hh, fun _ => ⟨fun _ => HR.out, fun hh => absurd rfl hh⟩⟩
  · have HR : RowKit.Hid (rdNum (L.drop p) = .no er) := Lib.hid (rdNum_no hg)
    have HE : RowKit.Hid (er ≠ 0) := Lib.hid (by rcases hg.2 with rfl | rfl <;> decide)
    have CT : RowKit.Hid (∀ q, Calls Tryd.prog 84 #[.slice a' n' c'] (w.drewN q) fun e w' => e = .returned (.tuple #[.int .i64 0, .int .i64 0, .int .i64 er]) ∧ w' = w.drewN q) := Lib.hid fun q => (rtake_no a' n' c' _ _ (hat.drewN q) hn3 er hg).mono (by rintro e w' ⟨rfl, rfl⟩; exact ⟨rfl, rfl⟩)
    clear h hat hg
    go_enter Tryd.func46, Tryd.ntmps46
    go_wp2_with fail
    go_quiet (((go_at_call 84; exact Calls.quiet_of ((CT.out _).mono fun e w' ⟨h1, h2⟩ => ⟨h1, 0, h2⟩))))
    go_wp2_with fail
    go_ret
    exact ⟨_, 0, p, er, rfl, ⟨rfl, by decide, by decide⟩, by have h := ((HD.out.drewN nq).move p hp).note er; simpa using h, Off.setCell (p := ⟨d, 2, none⟩) (Off.setCell (p := ⟨d, 1, none⟩) ((Off.refl (fun k => k = d) w).drewN nq) (.inl rfl) _) (.inl rfl) _, fun hh => absurd rfl hh, fun _ => ⟨fun hh => absurd hh HE.out, fun _ => HR.out⟩⟩
/-- A first part that went wrong. -/
theorem Ran.stop {α β : Type} {f : List UInt8 → PR α} {g : List UInt8 → PR β} {L : List UInt8} {p p1 : Nat} {y y1 : Int} {x : α} (h : Ran f L p y p1 y1 x) (h1 : y1 ≠ 0) (hg : ∀ l e, f l = .no e → g l = .no e) (z : β) (p2 : Nat) : Ran g L p y p2 y1 z :=
  ⟨h.1, fun hy => ⟨fun h0 => absurd h0 h1, fun _ => hg _ _ ((h.2 hy).2 h1)⟩⟩
theorem Ran.went {α : Type} {f : List UInt8 → PR α} {L : List UInt8} {p p1 : Nat} {y y1 : Int} {x : α} (h : Ran f L p y p1 y1 x) (h1 : y1 = 0) : y = 0 ∧ f (L.drop p) = .ok x (L.drop p1) := by
  have hy : y = 0 := Classical.byContradiction fun hy => hy ((h.1 hy).symm.trans h1)
  exact ⟨hy, (h.2 hy).1 h1⟩
theorem Ran.fine {α : Type} {f : List UInt8 → PR α} {L : List UInt8} {p p1 : Nat} {y : Int} {x : α} (hy : y = 0) (h : f (L.drop p) = .ok x (L.drop p1)) : Ran f L p y p1 0 x := ⟨fun h' => absurd hy h', fun _ => ⟨fun _ => h, fun h' => absurd rfl h'⟩⟩
theorem Ran.fell {α : Type} {f : List UInt8 → PR α} {L : List UInt8} {p p1 : Nat} {y y1 : Int} (x : α) (hy : y = 0) (h1 : y1 ≠ 0) (h : f (L.drop p) = .no y1) : Ran f L p y p1 y1 x := ⟨fun h' => absurd hy h', fun _ => ⟨fun h' => absurd h' h1, fun _ => h⟩⟩
theorem PR.bind_no {α β : Type} {f : List UInt8 → PR α} {k : α → List UInt8 → PR β} {l : List UInt8} {e : Int} (h : f l = .no e) : (f l).bind k = .no e := by rw [h]; rfl
set_option maxRecDepth 100000 in
set_option maxHeartbeats 2000000 in
theorem d_count (d : Nat) (a : Option Addr) (n c : Nat) (L : List UInt8) (p : Nat) (y : Int) (most : Nat) (mi : Int) (hmi : mi = (most : Int)) (hmo : most ≤ 100000) (w : World) (h : DSt d a n c L w p y) :
    Calls Tryd.prog 44 #[.pointer (some ⟨d, 0, none⟩), .int .i64 mi] w (DPost d a n c L p y (rdCount most) (NatV most) w) := by
  have CN := Lib.hid (d_num d a n c L p y w h)
  have HL := Lib.hid h
  subst hmi
  clear h
  go_enter Tryd.func44, Tryd.ntmps44
  go_wp2_with fail
  refine CN.out.mono ?_
  rintro e w1 ⟨_, m, p1, y1, rfl, ⟨rfl, hm⟩, hd, ho, hr⟩
  have hc2 := hd.c2
  have hfr := hd.free 2
  have HD := Lib.hid hd
  have HO := Lib.hid ho
  have HR := Lib.hid hr
  have hmr : -9223372036854775808 ≤ m ∧ m ≤ 9223372036854775807 := hm
  clear hd ho hr hm CN
  by_cases h1 : y1 = 0
  rotate_left
  · have hyn : (y1 != 0) = true := by rw [bne_iff_ne]; exact h1
    have hye : (y1 == 0) = false := by rw [beq_eq_false_iff_ne]; exact h1
    have H1 := Lib.hid h1
    clear h1
    go_wp2_with fail
    go_ret
    exact ⟨_, 0, p1, y1, rfl, ⟨rfl, Nat.zero_le _⟩, HD.out, HO.out, HR.out.stop H1.out (fun l e h => PR.bind_no h) 0 p1⟩
  subst h1
  have HW := Lib.hid (HR.out.went rfl)
  clear HR
  by_cases hneg : m < 0
  · skip
    have HR2 : RowKit.Hid (rdCount most (L.drop p) = .no 4) := Lib.hid (by unfold rdCount; rw [HW.out.2]; simp only [PR.bind]; rw [if_pos hneg])
    go_wp2_with fail
    go_ret
    exact ⟨_, 0, p1, 4, rfl, ⟨rfl, Nat.zero_le _⟩, HD.out.note 4, Off.setCell (p := ⟨d, 2, none⟩) HO.out (.inl rfl) _, Ran.fell 0 HW.out.1 (by decide) HR2.out⟩
  by_cases hbig : (most : Int) < m
  · skip
    have HR2 : RowKit.Hid (rdCount most (L.drop p) = .no 2) := Lib.hid (by unfold rdCount; rw [HW.out.2]; simp only [PR.bind]; rw [if_neg hneg, if_pos hbig])
    go_wp2_with fail
    go_ret
    exact ⟨_, 0, p1, 2, rfl, ⟨rfl, Nat.zero_le _⟩, HD.out.note 2, Off.setCell (p := ⟨d, 2, none⟩) HO.out (.inl rfl) _, Ran.fell 0 HW.out.1 (by decide) HR2.out⟩
  obtain ⟨k, rfl⟩ := Int.eq_ofNat_of_zero_le (show 0 ≤ m by omega)
  have HR2 : RowKit.Hid (rdCount most (L.drop p) = .ok k (L.drop p1)) := Lib.hid (by unfold rdCount; rw [HW.out.2]; simp only [PR.bind]; rw [if_neg hneg, if_neg hbig]; rfl)
  have HK : RowKit.Hid (k ≤ most) := Lib.hid (by omega)
  go_wp2_with fail
  go_ret
  exact ⟨_, k, p1, 0, rfl, ⟨rfl, HK.out⟩, HD.out, HO.out, Ran.fine HW.out.1 HR2.out⟩
set_option maxRecDepth 100000 in
set_option maxHeartbeats 2000000 in
theorem d_form (d : Nat) (a : Option Addr) (n c : Nat) (L : List UInt8) (p : Nat) (y : Int) (most : Nat) (mi : Int) (hmi : mi = (most : Int)) (hmo : most ≤ 100000) (hm0 : 0 < most) (w : World) (h : DSt d a n c L w p y) :
    Calls Tryd.prog 117 #[.pointer (some ⟨d, 0, none⟩), .int .i64 mi] w (DPost d a n c L p y (rdBelow (most : Int)) (BelowV (most : Int)) w) := by
  have CN := Lib.hid (d_num d a n c L p y w h)
  have HL := Lib.hid h
  subst hmi
  have HP : RowKit.Hid ((0 : Int) < (most : Int)) := Lib.hid (by omega)
  clear h
  go_enter Tryd.func117, Tryd.ntmps117
  go_wp2_with fail
  refine CN.out.mono ?_
  rintro e w1 ⟨_, m, p1, y1, rfl, ⟨rfl, hm⟩, hd, ho, hr⟩
  have hc2 := hd.c2
  have hfr := hd.free 2
  have HD := Lib.hid hd
  have HO := Lib.hid ho
  have HR := Lib.hid hr
  have hmr : -9223372036854775808 ≤ m ∧ m ≤ 9223372036854775807 := hm
  clear hd ho hr hm CN
  by_cases h1 : y1 = 0
  rotate_left
  · have hyn : (y1 != 0) = true := by rw [bne_iff_ne]; exact h1
    have hye : (y1 == 0) = false := by rw [beq_eq_false_iff_ne]; exact h1
    have H1 := Lib.hid h1
    clear h1
    go_wp2_with fail
    go_ret
    exact ⟨_, 0, p1, y1, rfl, ⟨rfl, Int.le_refl _, HP.out⟩, HD.out, HO.out, HR.out.stop H1.out (fun l e h => PR.bind_no h) 0 p1⟩
  subst h1
  have HW := Lib.hid (HR.out.went rfl)
  clear HR
  by_cases hneg : m < 0
  · have hno : ¬ (0 ≤ m ∧ m < (most : Int)) := by omega
    have HR2 : RowKit.Hid (rdBelow (most : Int) (L.drop p) = .no 4) := Lib.hid (by unfold rdBelow; rw [HW.out.2]; simp only [PR.bind]; rw [if_neg hno])
    go_wp2_with fail
    go_ret
    exact ⟨_, 0, p1, 4, rfl, ⟨rfl, Int.le_refl _, HP.out⟩, HD.out.note 4, Off.setCell (p := ⟨d, 2, none⟩) HO.out (.inl rfl) _, Ran.fell 0 HW.out.1 (by decide) HR2.out⟩
  by_cases hbig : m < (most : Int)
  rotate_left
  · have hno : ¬ (0 ≤ m ∧ m < (most : Int)) := by omega
    have HR2 : RowKit.Hid (rdBelow (most : Int) (L.drop p) = .no 4) := Lib.hid (by unfold rdBelow; rw [HW.out.2]; simp only [PR.bind]; rw [if_neg hno])
    go_wp2_with fail
    go_ret
    exact ⟨_, 0, p1, 4, rfl, ⟨rfl, Int.le_refl _, HP.out⟩, HD.out.note 4, Off.setCell (p := ⟨d, 2, none⟩) HO.out (.inl rfl) _, Ran.fell 0 HW.out.1 (by decide) HR2.out⟩
  have HR2 : RowKit.Hid (rdBelow (most : Int) (L.drop p) = .ok m (L.drop p1)) := Lib.hid (by unfold rdBelow; rw [HW.out.2]; simp only [PR.bind]; rw [if_pos ⟨by omega, hbig⟩])
  have HK : RowKit.Hid (0 ≤ m ∧ m < (most : Int)) := Lib.hid ⟨by omega, hbig⟩
  go_wp2_with fail
  go_ret
  exact ⟨_, m, p1, 0, rfl, ⟨rfl, HK.out⟩, HD.out, HO.out, Ran.fine HW.out.1 HR2.out⟩
end Go.Proofs.YtdmlogpaenbblaaDoor
