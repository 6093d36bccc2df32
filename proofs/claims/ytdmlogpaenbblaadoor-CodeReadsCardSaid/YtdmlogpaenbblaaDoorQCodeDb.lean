/- Layer 5: the document's reader (D): its lists of numbers. -/
import Derived.Test.YtdmlogpaenbblaaDoorQCodeDa
import Derived.Test.YtdmlogpaenbblaaDoorQCodeRz
import Derived.Test.YtdmlogpaenbblaaDoorQT6

namespace Go.Proofs.YtdmlogpaenbblaaDoor
open Go.RowKit (wrap64 intOf Below)
set_option linter.unusedVariables false
set_option linter.unusedSimpArgs false
attribute [local go_sem ↓] Go.wp_at_zero Go.wp_at_succ

section
variable {α β : Type} {L : List UInt8} {p p1 p2 : Nat} {y y1 y2 : Int}
theorem Ran.bind {f : List UInt8 → PR α} {g : α → List UInt8 → PR β} {x : α} {z : β} (h1 : Ran f L p y p1 y1 x) (h2 : Ran (g x) L p1 y1 p2 y2 z) : Ran (fun l => (f l).bind g) L p y p2 y2 z := by
  refine ⟨fun hy => ?_, fun hy => ⟨fun h => ?_, fun h => ?_⟩⟩
  · have e := h1.1 hy
    exact (h2.1 (by rw [e]; exact hy)).trans e
  · have h0 : y1 = 0 := Classical.byContradiction fun hn => hn ((h2.1 hn).symm.trans h)
    simp only [(h1.2 hy).1 h0, PR.bind]
    exact (h2.2 h0).1 h
  · by_cases h0 : y1 = 0
    · simp only [(h1.2 hy).1 h0, PR.bind]
      exact (h2.2 h0).2 h
    · rw [h2.1 h0]
      simp only [(h1.2 hy).2 h0, PR.bind]
theorem Ran.pure (x : α) : Ran (fun l => PR.ok x l) L p y p y x := ⟨fun _ => rfl, fun hy => ⟨fun _ => rfl, fun h => absurd hy h⟩⟩
theorem Ran.of {f g : List UInt8 → PR α} {x : α} (h : Ran f L p y p1 y1 x) (he : ∀ l, f l = g l) : Ran g L p y p1 y1 x := by
  have e : f = g := funext he
  rw [← e]; exact h
theorem rdTimes_stays {f : List UInt8 → PR α} {l : List UInt8} {e : Int} {i : Nat} (h : rdTimes f i l = .no e) : ∀ {k : Nat}, i ≤ k → rdTimes f k l = .no e
  | 0, hk => by obtain rfl : i = 0 := by omega
                exact h
  | k + 1, hk => by
    by_cases he : i = k + 1
    · rw [← he]; exact h
    · rw [rdTimes_more, rdTimes_stays h (show i ≤ k by omega)]; rfl
theorem Ran.times0 {f : List UInt8 → PR α} : Ran (rdTimes f 0) L p y p y [] := Ran.pure []
theorem Ran.snoc {f : List UInt8 → PR α} {i : Nat} {xs : List α} {x : α} (h1 : Ran (rdTimes f i) L p y p1 y1 xs) (h2 : Ran f L p1 y1 p2 y2 x) : Ran (rdTimes f (i + 1)) L p y p2 y2 (xs ++ [x]) :=
  (h1.bind (g := fun xs r => (f r).bind fun x r' => .ok (xs ++ [x]) r') (h2.bind (Ran.pure _))).of (fun l => (rdTimes_more f i l).symm)
theorem Ran.enough {f : List UInt8 → PR α} {i k : Nat} {xs : List α} (h : Ran (rdTimes f i) L p y p1 y1 xs) (hk : i ≤ k) (hn : i = k ∨ y1 ≠ 0) : Ran (rdTimes f k) L p y p1 y1 xs := by
  rcases hn with rfl | hn
  · exact h
  · exact ⟨h.1, fun hy => ⟨fun h0 => absurd h0 hn, fun _ => rdTimes_stays ((h.2 hy).2 hn) hk⟩⟩
end
/-- A row of the call's own behind a reader's call. -/
theorem ownsRow_off {w w' : World} {d base B e k n : Nat} {v : Value} {xs : List Value} (h : w.ownsRow base e k v n xs) (ho : Off (fun i => i = d) w w') (hB : ∀ b, v.ownBlock = some b → B ≤ b) (hd : d < B) : w'.ownsRow base e k v n xs :=
  ownsRow_heap h (fun b hb hlt => ho.block b hlt (fun he => by have := hB b hb; omega))
/-- A reader's call, and then what turns new blocks alone. -/
theorem Off.news {d : Nat} {w w1 w2 : World} (h : Off (fun k => k = d) w w1) (hb : Below w.heap.size w1 w2) : Off (fun k => k = d) w w2 :=
  h.trans_new (Y := fun k => w.heap.size ≤ k) (Off.of_below hb (fun i hi _ => hi)) (fun i hi => .inr hi)
theorem DSt.news {d : Nat} {a : Option Addr} {n c : Nat} {L : List UInt8} {w1 w2 : World} {p : Nat} {y : Int} {B : Nat} (h : DSt d a n c L w1 p y) (hb : Below B w1 w2) (hB : d < B) : DSt d a n c L w2 p y :=
  h.stays (X := fun k => B ≤ k) (Off.of_below hb (fun i hi _ => hi)) (fun k hk => by omega)
def NumsOV (w : World) (S : Nat → Prop) (v : Value) (Z : List Int) : Prop := (∃ a n c, v = .slice a n c) ∧ NumsO w S v Z

set_option maxRecDepth 100000 in
set_option maxHeartbeats 4000000 in
theorem d_list (d : Nat) (a : Option Addr) (n c : Nat) (L : List UInt8) (p : Nat) (y : Int) (most : Nat) (mi : Int) (hmi : mi = (most : Int)) (hmo : most ≤ 1000) (w : World) (h : DSt d a n c L w p y) :
    Calls Tryd.prog 45 #[.pointer (some ⟨d, 0, none⟩), .int .i64 mi] w (DPost d a n c L p y (rdNums most) NumsOV w) := by
  subst hmi
  have hba : Below w.heap.size w (w.alloc (.cells #[] 3)) := (Below.refl _ _).alloc (Nat.le_refl _) _
  have CN := Lib.hid (d_count d a n c L p y most _ rfl (by omega) _ (h.since hba))
  have HD0 : RowKit.Hid (d < w.heap.size) := Lib.hid h.lt
  have HOW : RowKit.Hid (OwnsI (w.alloc (.cells #[] 3)) w.heap.size 3 (.slice (some ⟨w.heap.size, 0, none⟩) 0 0) []) := Lib.hid (OwnsI.empty w 3)
  have HBA := Lib.hid hba
  clear h hba
  go_enter Tryd.func45, Tryd.ntmps45
  go_wp2_with fail
  refine CN.out.mono ?_
  rintro e w1 ⟨_, k, p0, y0, rfl, ⟨rfl, hk⟩, hd, ho, hr⟩
  have HR0 := Lib.hid hr
  have HI0 : RowKit.Hid (OwnsI w1 w.heap.size 3 (.slice (some ⟨w.heap.size, 0, none⟩) 0 0) [] ∧ DSt d a n c L w1 p0 y0 ∧ Off (fun i => i = d) w w1) := Lib.hid ⟨ownsRow_off HOW.out ho (fun b hb => (HOW.out.lt b hb).1) HD0.out, hd, (Off.since HBA.out).trans ho⟩
  clear hd ho hr CN HOW HBA
  go_wp2_with fail
  go_loopw [5, 7] (fun sv iv wr => ∃ (i : Nat) (va : Option Addr) (vn vc : Nat) (xs : List Int) (p1 : Nat) (y1 : Int), i ≤ k ∧ iv = .int .i64 (i : Int) ∧ sv = .slice va vn vc ∧ wr.cell? ⟨d, 2, none⟩ = some (.int .i64 y1) ∧ RowKit.Hid (OwnsI wr w.heap.size 3 (.slice va vn vc) xs ∧ xs.length = i ∧ (∀ z ∈ xs, InR z) ∧ DSt d a n c L wr p1 y1 ∧ Off (fun i => i = d) w wr ∧ Ran (rdTimes rdNum i) L p0 y0 p1 y1 xs)) (fun _ iv _ => k - (intOf iv).toNat)
  case atStart => exact ⟨0, _, _, _, [], p0, y0, Nat.zero_le _, rfl, rfl, HI0.out.2.1.c2, Lib.hid ⟨HI0.out.1, rfl, fun z hz => (by cases hz), HI0.out.2.1, HI0.out.2.2, Ran.times0⟩⟩
  case round =>
    obtain ⟨i, va, vn, vc, xs, p1, y1, hi, rfl, rfl, hc2, HI⟩ := hrel
    by_cases hlt : i < k
    · by_cases h1 : y1 = 0
      · subst h1
        go_wp2_with fail
        refine (d_num d a n c L p1 0 wr HI.out.2.2.2.1).mono ?_
        rintro e w2 ⟨_, m, p2, y2, rfl, ⟨rfl, hm⟩, hd2, ho2, hr2⟩
        have HD2 := Lib.hid hd2
        have HO2 := Lib.hid (HI.out.2.2.2.2.1.trans ho2)
        have HR2 := Lib.hid (HI.out.2.2.2.2.2.snoc hr2)
        have HM := Lib.hid hm
        have HOW2 : RowKit.Hid (OwnsI w2 w.heap.size 3 (.slice va vn vc) xs) := Lib.hid (ownsRow_off HI.out.1 ho2 (fun b hb => (HI.out.1.lt b hb).1) HD0.out)
        have HZ2 : RowKit.Hid (w.heap.size ≤ w2.heap.size) := Lib.hid HO2.out.size
        have HLN : RowKit.Hid ((xs.length + 1) * 8 ≤ 140737488355328) := Lib.hid (by have := HI.out.2.1; omega)
        clear hd2 ho2 hr2 hm
        go_wp2_with (at_builtin; refine wpList_append_num w2 rfl _ _ 45 rfl 3 Tryd.underlying45 info_int w.heap.size (.slice va vn vc) xs rfl HOW2.out HZ2.out _ _ _ m rfl rfl rfl HLN.out ?_; intro v3 w3 hown3 hb3; obtain ⟨va3, vn3, vc3, rfl, _⟩ := hown3.nums; have HOW3 := Lib.hid hown3; have HB3 := Lib.hid hb3; clear hown3 hb3)
        go_roundw
        case rel => exact ⟨i + 1, va3, vn3, vc3, xs ++ [m], p2, y2, by omega, by go_num, rfl, (HD2.out.news HB3.out HD0.out).c2, Lib.hid ⟨HOW3.out, by rw [List.length_append, HI.out.2.1]; rfl, fun z hz => by rcases List.mem_append.1 hz with h | h; exact HI.out.2.2.1 z h; simp only [List.mem_singleton] at h; subst h; exact HM.out, HD2.out.news HB3.out HD0.out, HO2.out.news HB3.out, HR2.out⟩⟩
        case measure => simp [intOf]; omega
      · have hyb : (y1 == 0) = false := by rw [beq_eq_false_iff_ne]; exact h1
        have H1 := Lib.hid h1
        clear h1
        go_wp2_with fail
        go_ret
        exact ⟨_, xs, p1, y1, rfl, ⟨⟨_, _, _, rfl⟩, HI.out.1.mono (Nat.zero_le _), fun b hb => (HI.out.1.lt b hb).1, by have := HI.out.2.1; omega, HI.out.2.2.1⟩, HI.out.2.2.2.1, HI.out.2.2.2.2.1, HR0.out.bind (HI.out.2.2.2.2.2.enough hi (.inr H1.out))⟩
    · obtain rfl : i = k := by omega
      go_wp2_with fail
      go_ret
      exact ⟨_, xs, p1, y1, rfl, ⟨⟨_, _, _, rfl⟩, HI.out.1.mono (Nat.zero_le _), fun b hb => (HI.out.1.lt b hb).1, by have := HI.out.2.1; omega, HI.out.2.2.1⟩, HI.out.2.2.2.1, HI.out.2.2.2.2.1, HR0.out.bind HI.out.2.2.2.2.2⟩
end Go.Proofs.YtdmlogpaenbblaaDoor
