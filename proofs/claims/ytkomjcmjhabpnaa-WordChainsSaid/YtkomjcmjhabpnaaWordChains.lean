/- WordChains (P1.3), walked: for whatever signs and whatever numbers the statement returns true, and of what was there nothing turns. -/
import Derived.Test.YtkomjcmjhabpnaaWordChain
import Derived.Test.YtkomjcmjhabpnaaWordFacts
namespace Go.Proofs.Ytkomjcmjhabpnaa
open Go.RowKit (wrap64 intOf Below)

theorem info_int : (Try.prog.info? 3).map (fun i => (i.zero, i.size, i.bytes)) = some (some (.int .i64 0), 1, 8) := by kernel_rfl
theorem info_int64 : (Try.prog.info? 2).map (fun i => (i.zero, i.size, i.bytes)) = some (some (.int .i64 0), 1, 8) := by kernel_rfl

theorem below_drewN {B : Nat} {a w : World} (h : Below B a w) (n : Nat) : Below B a (w.drewN n) := ⟨h.os, h.tape, h.output, h.size, h.block⟩
theorem cells_drewN {w : World} {b off : Nat} {zs : List Int} (h : CellsAt w b off zs) (n : Nat) : CellsAt (w.drewN n) b off zs := h

/-- How far the statement's own loop has come. -/
def Came (S L : List Int) (k : Nat) (v e : Int) : Prop :=
  (e = -1 ∧ v = cval S L k ∧ k ≤ rounds S L ∧ ∀ j, j < k → good S L j = true) ∨ (0 ≤ e ∧ Ends S L v e)
theorem came_end {S L : List Int} {k : Nat} {v e : Int} (h : Came S L k v e) (hk : ¬ k < rounds S L ∨ 0 ≤ e) : Ends S L v e := by
  rcases h with ⟨rfl, rfl, hle, hg⟩ | ⟨_, h⟩
  · have : k = rounds S L := by rcases hk with hk | hk <;> omega
    subst this; exact Or.inr ⟨hg, rfl, rfl⟩
  · exact h
theorem came_on {S L : List Int} {k : Nat} {v : Int} (h : Came S L k v (-1)) (hk : k < rounds S L) (hok : good S L k = true) : Came S L (k + 1) (arV (nth S k) v (nth L (k + 1))) (-1) := by
  rcases h with ⟨_, rfl, hle, hg⟩ | ⟨h0, _⟩
  · exact Or.inl ⟨rfl, rfl, by omega, good_next hg hok⟩
  · omega
theorem came_off {S L : List Int} {k : Nat} {v : Int} (h : Came S L k v (-1)) (hk : k < rounds S L) (hok : good S L k = false) (k' : Nat) : Came S L k' v k := by
  rcases h with ⟨_, rfl, hle, hg⟩ | ⟨h0, _⟩
  · exact Or.inr ⟨by omega, Or.inl ⟨k, hk, hg, hok, rfl, rfl⟩⟩
  · omega
theorem came_range {S L : List Int} {k : Nat} {v e : Int} (h : Came S L k v e) : -1 ≤ e := by rcases h with ⟨rfl, _⟩ | ⟨h, _⟩ <;> omega


/-- No number: nothing is reckoned. -/
theorem chains_none (S : List Int) (sv : Value) (la : Option Addr) (lc : Nat) (w : World) (hS : IntsAt w sv S) (hL : IntsAt w (.slice la 0 lc) []) :
    Calls Try.prog 10 #[sv, .slice la 0 lc] w fun e w' => e = .returned (.bool true) ∧ Below w.heap.size w w' := by
  have HS := Lib.hid (hS.below ((Below.refl _ w).alloc (Nat.le_refl _) (.cells #[] 3)) (Nat.le_refl _))
  have HL := Lib.hid hL
  obtain ⟨sa, sc, hsv⟩ := hS.shape
  have hSl := hS.len
  clear hS hL
  subst hsv
  go_enter Try.func10, Try.ntmps10
  go_wp2_with (first | (at_builtin; refine wpList_copy_ints _ rfl _ _ 30 rfl 3 Try.underlying30 info_int w.heap.size rfl (heap_alloc_new w _) (by simp) (.slice sa S.length sc) S rfl HS.out ?_; intro g1 c1 w1 hg1 hlt1 hn1 hm1 hcl1 hb1; have HB1 := Lib.hid (((Below.refl _ w).alloc (Nat.le_refl _) (.cells #[] 3)).trans hb1); have HC1 := Lib.hid hcl1; have HL2 := Lib.hid ((HL.out.below HB1.out (Nat.le_refl _)).below ((Below.refl _ w1).alloc (Nat.le_refl _) (.cells #[] 2)) (Nat.le_refl _)); clear hcl1 hb1) | (at_builtin; refine wpList_copy_ints _ rfl _ _ 31 rfl 2 Try.underlying31 info_int64 _ rfl (heap_alloc_new _ _) (by simp) (.slice la 0 lc) [] rfl HL2.out ?_; intro g2 c2 w2 hg2 hlt2 hn2 hm2 hcl2 hb2; have HB2 := Lib.hid (HB1.out.trans ((((Below.refl _ w1).alloc (Nat.le_refl _) (.cells #[] 2)).trans hb2).mono HB1.out.size)); have HC2 := Lib.hid hcl2; have HC3 := Lib.hid (HC1.out.below (((Below.refl _ w1).alloc (Nat.le_refl _) (.cells #[] 2)).trans hb2) hlt1); clear hcl2 hb2) | (go_at_call 18; (with_reducible refine (chain_nil S _ _ c2 w2).mono ?_); rintro e w' ⟨x, y, he, rfl, rfl⟩; (obtain ⟨rfl, rfl⟩ := Ends.same he (Ends.none S)); clear he) | (go_at_call 14; (with_reducible refine (is_yes 0 1 2 3 _ (ok_s _ _ (by decide)) c_sum).mono ?_); rintro e w' ⟨rfl, rfl⟩))
  refine wp_loop_rounds 1 ?_
  rw [rounds_succ]
  go_wp2_with (go_at_call 14; (with_reducible refine (is_yes 0 1 2 3 _ (ok_s _ _ (by decide)) c_sum).mono ?_); rintro e w' ⟨rfl, rfl⟩)
  go_ret
  exact ⟨rfl, HB2.out⟩
theorem chain_any' (S L : List Int) (n b c b1 c1 : Nat) (w : World) (hn0 : S.length = n) (hc : L.length ≤ c) (hm : c ≤ maxLen) (hn : n ≤ c1) (hm1 : c1 ≤ maxLen) (hcl : CellsAt w b 0 L) (hcs : CellsAt w b1 0 S) :
    Calls Try.prog 18 #[.slice (some ⟨b1, 0, none⟩) n c1, .slice (some ⟨b, 0, none⟩) L.length c] w (SomeEnd S L w) := by
  subst hn0; exact chain_any S L b c b1 c1 w hc hm hn hm1 hcl hcs
theorem ends_nosign (L : List Int) : Ends [] L (nth L 0) (-1) := by
  have hr : rounds [] L = 0 := by simp [rounds]
  exact Or.inr ⟨fun j hj => by rw [hr] at hj; omega, by rw [hr]; rfl, rfl⟩
/-- No sign: the first number comes. -/
theorem chains_nosign (L : List Int) (sa : Option Addr) (sc lb lo lc : Nat) (w : World) (hS : IntsAt w (.slice sa 0 sc) []) (hL : IntsAt w (.slice (some ⟨lb, lo, none⟩) L.length lc) L)
    (hcl : CellsAt w lb lo L) (hlb : lb < w.heap.size) (hpos : 0 < L.length) :
    Calls Try.prog 10 #[.slice sa 0 sc, .slice (some ⟨lb, lo, none⟩) L.length lc] w fun e w' => e = .returned (.bool true) ∧ Below w.heap.size w w' := by
  have HS := Lib.hid (hS.below ((Below.refl _ w).alloc (Nat.le_refl _) (.cells #[] 3)) (Nat.le_refl _))
  have HL := Lib.hid hL
  have HCL := Lib.hid hcl
  have hLl := hL.len
  have hpos2 : decide (0 < L.length) = true := decide_eq_true hpos
  clear hS hL hcl
  by_cases h1 : 1 < L.length
  · go_enter Try.func10, Try.ntmps10
    go_wp2_with (first | (at_builtin; refine wpList_copy_ints _ rfl _ _ 30 rfl 3 Try.underlying30 info_int w.heap.size rfl (heap_alloc_new w _) (by simp) (.slice sa 0 sc) [] rfl HS.out ?_; intro g1 c1 w1 hg1 hlt1 hn1 hm1 hcl1 hb1; have HB1 := Lib.hid (((Below.refl _ w).alloc (Nat.le_refl _) (.cells #[] 3)).trans hb1); have HC1 := Lib.hid hcl1; have HL2 := Lib.hid ((HL.out.below HB1.out (Nat.le_refl _)).below ((Below.refl _ w1).alloc (Nat.le_refl _) (.cells #[] 2)) (Nat.le_refl _)); clear hcl1 hb1) | (at_builtin; refine wpList_copy_ints _ rfl _ _ 31 rfl 2 Try.underlying31 info_int64 _ rfl (heap_alloc_new _ _) (by simp) (.slice (some ⟨lb, lo, none⟩) L.length lc) L rfl HL2.out ?_; intro g2 c2 w2 hg2 hlt2 hn2 hm2 hcl2 hb2; have HB2 := Lib.hid (HB1.out.trans ((((Below.refl _ w1).alloc (Nat.le_refl _) (.cells #[] 2)).trans hb2).mono HB1.out.size)); have HC2 := Lib.hid hcl2; have HC3 := Lib.hid (HC1.out.below (((Below.refl _ w1).alloc (Nat.le_refl _) (.cells #[] 2)).trans hb2) hlt1); clear hcl2 hb2) | (go_at_call 18; (with_reducible refine (chain_any' [] L 0 g2 c2 g1 c1 w2 rfl hn2 hm2 (Nat.zero_le _) hm1 HC2.out HC3.out).mono ?_); rintro e w' ⟨x, y, he, rfl, rfl⟩; (obtain ⟨rfl, rfl⟩ := Ends.same he (ends_nosign L)); clear he; have hc0 : w2.cell? ⟨lb, lo, none⟩ = some (.int .i64 (nth L 0)) := (HCL.out.below HB2.out hlb) 0 hpos) | (go_at_call 14; (with_reducible refine (is_yes 0 1 2 3 _ (ok_s _ _ (by decide)) c_sum).mono ?_); rintro e w' ⟨rfl, rfl⟩))
    refine wp_loop_rounds 1 ?_
    rw [rounds_succ]
    go_wp2_with (go_at_call 14; (with_reducible refine (is_yes 0 1 2 3 _ (ok_s _ _ (by decide)) c_sum).mono ?_); rintro e w' ⟨rfl, rfl⟩)
    go_ret
    exact ⟨rfl, HB2.out⟩
  · go_enter Try.func10, Try.ntmps10
    go_wp2_with (first | (at_builtin; refine wpList_copy_ints _ rfl _ _ 30 rfl 3 Try.underlying30 info_int w.heap.size rfl (heap_alloc_new w _) (by simp) (.slice sa 0 sc) [] rfl HS.out ?_; intro g1 c1 w1 hg1 hlt1 hn1 hm1 hcl1 hb1; have HB1 := Lib.hid (((Below.refl _ w).alloc (Nat.le_refl _) (.cells #[] 3)).trans hb1); have HC1 := Lib.hid hcl1; have HL2 := Lib.hid ((HL.out.below HB1.out (Nat.le_refl _)).below ((Below.refl _ w1).alloc (Nat.le_refl _) (.cells #[] 2)) (Nat.le_refl _)); clear hcl1 hb1) | (at_builtin; refine wpList_copy_ints _ rfl _ _ 31 rfl 2 Try.underlying31 info_int64 _ rfl (heap_alloc_new _ _) (by simp) (.slice (some ⟨lb, lo, none⟩) L.length lc) L rfl HL2.out ?_; intro g2 c2 w2 hg2 hlt2 hn2 hm2 hcl2 hb2; have HB2 := Lib.hid (HB1.out.trans ((((Below.refl _ w1).alloc (Nat.le_refl _) (.cells #[] 2)).trans hb2).mono HB1.out.size)); have HC2 := Lib.hid hcl2; have HC3 := Lib.hid (HC1.out.below (((Below.refl _ w1).alloc (Nat.le_refl _) (.cells #[] 2)).trans hb2) hlt1); clear hcl2 hb2) | (go_at_call 18; (with_reducible refine (chain_any' [] L 0 g2 c2 g1 c1 w2 rfl hn2 hm2 (Nat.zero_le _) hm1 HC2.out HC3.out).mono ?_); rintro e w' ⟨x, y, he, rfl, rfl⟩; (obtain ⟨rfl, rfl⟩ := Ends.same he (ends_nosign L)); clear he; have hc0 : w2.cell? ⟨lb, lo, none⟩ = some (.int .i64 (nth L 0)) := (HCL.out.below HB2.out hlb) 0 hpos) | (go_at_call 14; (with_reducible refine (is_yes 0 1 2 3 _ (ok_s _ _ (by decide)) c_sum).mono ?_); rintro e w' ⟨rfl, rfl⟩))
    refine wp_loop_rounds 1 ?_
    rw [rounds_succ]
    go_wp2_with (go_at_call 14; (with_reducible refine (is_yes 0 1 2 3 _ (ok_s _ _ (by decide)) c_sum).mono ?_); rintro e w' ⟨rfl, rfl⟩)
    go_ret
    exact ⟨rfl, HB2.out⟩
theorem arV_bd (s a b : Int) (h : Bd a) : Bd (arV s a b) := arV_range s a b h
/-- Signs and numbers: the program's chain ends where the statement's own loop does. -/
theorem chains_both (S L : List Int) (sb so sc lb lo lc : Nat) (w : World) (hS : IntsAt w (.slice (some ⟨sb, so, none⟩) S.length sc) S) (hL : IntsAt w (.slice (some ⟨lb, lo, none⟩) L.length lc) L)
    (hcs : CellsAt w sb so S) (hsb : sb < w.heap.size) (hcl : CellsAt w lb lo L) (hlb : lb < w.heap.size) (hpos : 0 < L.length) (hbd : RowKit.Hid (∀ j, Bd (nth L j))) :
    Calls Try.prog 10 #[.slice (some ⟨sb, so, none⟩) S.length sc, .slice (some ⟨lb, lo, none⟩) L.length lc] w fun e w' => e = .returned (.bool true) ∧ Below w.heap.size w w' := by
  have HS := Lib.hid (hS.below ((Below.refl _ w).alloc (Nat.le_refl _) (.cells #[] 3)) (Nat.le_refl _))
  have HL := Lib.hid hL
  have HCL := Lib.hid hcl
  have HCS := Lib.hid hcs
  have hSl := hS.len
  have hLl := hL.len
  have hpos2 : decide (0 < L.length) = true := decide_eq_true hpos
  have HR : RowKit.Hid (rounds S L = min S.length (L.length - 1)) := Lib.hid rfl
  clear hS hL hcl hcs
  go_enter Try.func10, Try.ntmps10
  go_wp2_with (first | (at_builtin; refine wpList_copy_ints _ rfl _ _ 30 rfl 3 Try.underlying30 info_int w.heap.size rfl (heap_alloc_new w _) (by simp) (.slice (some ⟨sb, so, none⟩) S.length sc) S rfl HS.out ?_; intro g1 c1 w1 hg1 hlt1 hn1 hm1 hcl1 hb1; have HB1 := Lib.hid (((Below.refl _ w).alloc (Nat.le_refl _) (.cells #[] 3)).trans hb1); have HC1 := Lib.hid hcl1; have HL2 := Lib.hid ((HL.out.below HB1.out (Nat.le_refl _)).below ((Below.refl _ w1).alloc (Nat.le_refl _) (.cells #[] 2)) (Nat.le_refl _)); clear hcl1 hb1) | (at_builtin; refine wpList_copy_ints _ rfl _ _ 31 rfl 2 Try.underlying31 info_int64 _ rfl (heap_alloc_new _ _) (by simp) (.slice (some ⟨lb, lo, none⟩) L.length lc) L rfl HL2.out ?_; intro g2 c2 w2 hg2 hlt2 hn2 hm2 hcl2 hb2; have HB2 := Lib.hid (HB1.out.trans ((((Below.refl _ w1).alloc (Nat.le_refl _) (.cells #[] 2)).trans hb2).mono HB1.out.size)); have HC2 := Lib.hid hcl2; have HC3 := Lib.hid (HC1.out.below (((Below.refl _ w1).alloc (Nat.le_refl _) (.cells #[] 2)).trans hb2) hlt1); clear hcl2 hb2) | (go_at_call 18; (with_reducible refine (chain_any S L g2 c2 g1 c1 w2 hn2 hm2 hn1 hm1 HC2.out HC3.out).mono ?_); rintro e w' ⟨x, y, he, rfl, rfl⟩; have HE := Lib.hid he; clear he; have HW2 := Lib.hid (HCL.out.below HB2.out hlb); have HV2 := Lib.hid (HCS.out.below HB2.out hsb); have hc0 : w2.cell? ⟨lb, lo, none⟩ = some (.int .i64 (nth L 0)) := HW2.out 0 hpos) | (go_at_call 14; (with_reducible refine (is_yes 0 1 2 3 _ (ok_s _ _ (by decide)) c_sum).mono ?_); rintro e w' ⟨rfl, rfl⟩))
  clear hc0
  go_loopw [7, 8, 9] (fun v e t wr => ∃ (k : Nat) (p q : Int), k + 1 ≤ L.length ∧ t = .int .i64 ((k : Int) + 1) ∧ v = .int .i64 p ∧ e = .int .i64 q ∧ Bd p ∧ RowKit.Hid (Came S L k p q) ∧ ∃ d, wr = w2.drewN d) (fun _ _ t _ => L.length - (intOf t).toNat)
  case atStart => exact ⟨0, nth L 0, -1, hpos, rfl, rfl, rfl, hbd.out 0, Lib.hid (Or.inl ⟨rfl, rfl, by omega, fun j hj => by omega⟩), 0, rfl⟩
  case round =>
    obtain ⟨k, p, q, hk, rfl, rfl, rfl, hp, HC, d, rfl⟩ := hrel
    have hq := came_range HC.out
    by_cases hon : k + 1 < L.length ∧ k + 1 ≤ S.length ∧ q < 0
    · obtain ⟨hon1, hon2, hon3⟩ := hon
      obtain rfl : q = -1 := by omega
      have hrr : k < rounds S L := by rw [HR.out]; omega
      have hck : w2.cell? ⟨lb, lo + (k + 1), none⟩ = some (.int .i64 (nth L (k + 1))) := HW2.out (k + 1) hon1
      have hsk : w2.cell? ⟨sb, so + k, none⟩ = some (.int .i64 (nth S k)) := HV2.out k (by omega)
      have hb2 := Lib.hid (hbd.out (k + 1))
      have HP := Lib.hid hp
      clear hp
      by_cases hok : good S L k = true
      · have HC' := Lib.hid (came_on HC.out hrr hok)
        have h2 : arOk (nth S k) (nth L (k + 1)) = true := hok
        clear hok
        go_wp2
        go_quiet ((go_at_call 19; first | exact quiet_add_left (ra_any _ _ _ _ HP.out hb2.out) | exact quiet_left (ra_any _ _ _ _ HP.out hb2.out)))
        go_wp2
        go_roundw
        case rel => exact ⟨k + 1, _, -1, hon1, by go_num, rfl, rfl, arV_bd _ _ _ HP.out, HC', _, rfl⟩
        case measure => simp [intOf]; omega
      · have hok2 : good S L k = false := Bool.eq_false_iff.2 hok
        have HC' := Lib.hid (came_off HC.out hrr hok2 (k + 1))
        have h2 : arOk (nth S k) (nth L (k + 1)) = false := hok2
        clear hok hok2
        go_wp2
        go_quiet ((go_at_call 19; first | exact quiet_add_left (ra_any _ _ _ _ HP.out hb2.out) | exact quiet_left (ra_any _ _ _ _ HP.out hb2.out)))
        go_wp2
        go_roundw
        case rel => exact ⟨k + 1, _, (k : Int), hon1, by go_num, rfl, val_int (by omega), HP.out, HC', _, rfl⟩
        case measure => simp [intOf]; omega
    · obtain ⟨rfl, rfl⟩ := Ends.same HE.out (came_end HC.out (by rw [HR.out]; omega))
      have hfin : Below w.heap.size w (w2.drewN d) := below_drewN HB2.out d
      have HFin := Lib.hid hfin
      clear hfin
      rcases (show ¬ k + 1 < L.length ∨ (k + 1 < L.length ∧ ¬ k + 1 ≤ S.length) ∨ (k + 1 < L.length ∧ k + 1 ≤ S.length ∧ ¬ y < 0) by omega) with h1 | ⟨h1, h2⟩ | ⟨h1, h2, h3⟩
      all_goals
        clear hon
        go_wp2_with (go_at_call 14; (with_reducible refine (is_yes 0 1 2 3 _ (ok_s _ _ (by decide)) c_sum).mono ?_); rintro e w' ⟨rfl, rfl⟩)
        go_ret
        exact ⟨rfl, HFin.out⟩
/-- Whatever signs and whatever numbers. -/
theorem chains_walk (S L : List Int) (sv lv : Value) (w : World) (hS : IntsAt w sv S) (hL : IntsAt w lv L) (hbd : ∀ j, Bd (nth L j)) :
    Calls Try.prog 10 #[sv, lv] w fun e w' => e = .returned (.bool true) ∧ Below w.heap.size w w' := by
  by_cases hL0 : 0 < L.length
  · obtain ⟨lb, lo, lc, rfl, hlb, hcl⟩ := hL.cells hL0
    by_cases hS0 : 0 < S.length
    · obtain ⟨sb, so, sc, rfl, hsb, hcs⟩ := hS.cells hS0
      exact chains_both S L sb so sc lb lo lc w hS hL hcs hsb hcl hlb hL0 (Lib.hid hbd)
    · obtain rfl : S = [] := List.eq_nil_of_length_eq_zero (by omega)
      obtain ⟨sa, sc, rfl⟩ := hS.shape
      exact chains_nosign L sa sc lb lo lc w hS hL hcl hlb hL0
  · obtain rfl : L = [] := List.eq_nil_of_length_eq_zero (by omega)
    obtain ⟨la, lc, rfl⟩ := hL.shape
    exact chains_none S sv la lc w hS hL
end Go.Proofs.Ytkomjcmjhabpnaa
