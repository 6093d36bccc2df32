/- Layer 5: the walk's small calls, with a reader. -/
import Derived.Test.YtfnkmigcklmghaaDoorQT0
import Derived.Test.YtfnkmigcklmghaaDoorQT3

namespace Go.Proofs.YtfnkmigcklmghaaDoor
open Go.RowKit (wrap64 intOf Below)
set_option linter.unusedVariables false
set_option linter.unusedSimpArgs false
attribute [local go_sem ↓] Go.wp_at_zero Go.wp_at_succ

theorem Off.rbehind {w w1 : World} {r : Nat} {o : Obj} (h : Off (RX r) (w.alloc o) w1) : Off (RX r) w w1 := (Off.alloc (Off.refl _ _) o).trans h
set_option maxRecDepth 100000 in
theorem rk_below (r B : Nat) (L : List UInt8) (n0 bound : Int) (w : World) (h : RdAt w r B L) (hb0 : 0 ≤ bound) (hb1 : bound ≤ 1000) :
    Calls Tryd.prog 124 #[.agg #[.iface 97 (.pointer (some ⟨r, 0, none⟩))], .int .i64 n0, .int .i64 bound] w (RdPost r B (rdBelow bound L) intV w) := by
  have HW : RowKit.Hid (∀ o, RdAt (w.alloc o) r B L) := Lib.hid fun o => h.since ((Below.refl _ _).alloc (Nat.le_refl _) o)
  clear h
  rcases gives_or_fails L with ⟨m, k, hg⟩ | ⟨er, hf⟩
  · have hp := hg.put
    have hm0 := hp.2.2.2.2.1
    have hm1 := hp.2.2.2.2.2
    have HN := Lib.hid (rdNum_yes hg)
    clear hg hp
    by_cases hn : m < 0
    · have HO : RowKit.Hid (rdBelow bound L = .no 4) := Lib.hid (by unfold rdBelow; rw [HN.out]; simp only [PR.bind]; rw [if_neg (by omega)])
      go_enter Tryd.func124, Tryd.ntmps124
      go_wp2_with fail
      refine (rd_number r B L n0 _ (HW.out _)).mono ?_
      rintro e w1 (⟨x, rest, hx, rfl, hr1, ho1⟩ | ⟨er, hx, _⟩)
      case inr => rw [HN.out] at hx; cases hx
      obtain rfl : m = x := by rw [HN.out] at hx; cases hx; rfl
      have HE := Lib.hid ho1.rbehind
      clear hr1 ho1 hx
      unfold intV
      go_wp2_with fail
      exact ⟨rfl, .inr ⟨4, HO.out, rfl, HE.out⟩⟩
    · by_cases hm : bound ≤ m
      · have HO : RowKit.Hid (rdBelow bound L = .no 4) := Lib.hid (by unfold rdBelow; rw [HN.out]; simp only [PR.bind]; rw [if_neg (by omega)])
        go_enter Tryd.func124, Tryd.ntmps124
        go_wp2_with fail
        refine (rd_number r B L n0 _ (HW.out _)).mono ?_
        rintro e w1 (⟨x, rest, hx, rfl, hr1, ho1⟩ | ⟨er, hx, _⟩)
        case inr => rw [HN.out] at hx; cases hx
        obtain rfl : m = x := by rw [HN.out] at hx; cases hx; rfl
        have HE := Lib.hid ho1.rbehind
        clear hr1 ho1 hx
        unfold intV
        go_wp2_with fail
        exact ⟨rfl, .inr ⟨4, HO.out, rfl, HE.out⟩⟩
      · have HO : RowKit.Hid (rdBelow bound L = .ok m (L.drop k)) := Lib.hid (by unfold rdBelow; rw [HN.out]; simp only [PR.bind]; rw [if_pos (by omega)])
        have hm' : m < bound := by omega
        go_enter Tryd.func124, Tryd.ntmps124
        go_wp2_with fail
        refine (rd_number r B L n0 _ (HW.out _)).mono ?_
        rintro e w1 (⟨x, rest, hx, rfl, hr1, ho1⟩ | ⟨er, hx, _⟩)
        case inr => rw [HN.out] at hx; cases hx
        obtain ⟨rfl, rfl⟩ : m = x ∧ L.drop k = rest := by rw [HN.out] at hx; cases hx; exact ⟨rfl, rfl⟩
        have HE := Lib.hid ho1.rbehind
        have HR := Lib.hid hr1
        clear hr1 ho1 hx
        unfold intV
        go_wp2_with fail
        go_ret
        exact .inl ⟨m, _, HO.out, rfl, HR.out, HE.out⟩
  · have HN := Lib.hid (rdNum_no hf)
    have HO : RowKit.Hid (rdBelow bound L = .no er) := Lib.hid (by unfold rdBelow; rw [HN.out]; rfl)
    clear hf
    go_enter Tryd.func124, Tryd.ntmps124
    go_wp2_with fail
    refine (rd_number r B L n0 _ (HW.out _)).mono ?_
    rintro e w1 (⟨x, rest, hx, _⟩ | ⟨er', hx, rfl, ho1⟩)
    · rw [HN.out] at hx; cases hx
    obtain rfl : er = er' := by rw [HN.out] at hx; cases hx; rfl
    have HE := Lib.hid ho1.rbehind
    clear ho1 hx
    go_wp2_with fail
    exact ⟨rfl, .inr ⟨er, HO.out, rfl, HE.out⟩⟩

def natV (n : Nat) : Value := .int .i64 (n : Int)
set_option maxRecDepth 100000 in
theorem rk_count (r B : Nat) (L : List UInt8) (n0 : Int) (most : Nat) (mi : Int) (hmi : mi = (most : Int)) (w : World) (h : RdAt w r B L) (hb1 : most ≤ 1000) :
    Calls Tryd.prog 103 #[.agg #[.iface 97 (.pointer (some ⟨r, 0, none⟩))], .int .i64 n0, .int .i64 mi] w (RdPost r B (rdCount most L) natV w) := by
  subst hmi
  have HW : RowKit.Hid (∀ o, RdAt (w.alloc o) r B L) := Lib.hid fun o => h.since ((Below.refl _ _).alloc (Nat.le_refl _) o)
  clear h
  rcases gives_or_fails L with ⟨m, k, hg⟩ | ⟨er, hf⟩
  · have hp := hg.put
    have hm0 := hp.2.2.2.2.1
    have hm1 := hp.2.2.2.2.2
    have HN := Lib.hid (rdNum_yes hg)
    clear hg hp
    by_cases hn : m < 0
    · have HO : RowKit.Hid (rdCount most L = .no 4) := Lib.hid (by unfold rdCount; rw [HN.out]; simp only [PR.bind]; rw [if_pos hn])
      go_enter Tryd.func103, Tryd.ntmps103
      go_wp2_with fail
      refine (rd_number r B L n0 _ (HW.out _)).mono ?_
      rintro e w1 (⟨x, rest, hx, rfl, hr1, ho1⟩ | ⟨er, hx, _⟩)
      case inr => rw [HN.out] at hx; cases hx
      obtain rfl : m = x := by rw [HN.out] at hx; cases hx; rfl
      have HE := Lib.hid ho1.rbehind
      clear hr1 ho1 hx
      unfold intV
      go_wp2_with fail
      exact ⟨rfl, .inr ⟨4, HO.out, rfl, HE.out⟩⟩
    · obtain ⟨j, rfl⟩ := Int.eq_ofNat_of_zero_le (show 0 ≤ m by omega)
      by_cases hm : most < j
      · have HO : RowKit.Hid (rdCount most L = .no 2) := Lib.hid (by unfold rdCount; rw [HN.out]; simp only [PR.bind]; rw [if_neg hn, if_pos (by omega)])
        clear hn
        go_enter Tryd.func103, Tryd.ntmps103
        go_wp2_with fail
        refine (rd_number r B L n0 _ (HW.out _)).mono ?_
        rintro e w1 (⟨x, rest, hx, rfl, hr1, ho1⟩ | ⟨er, hx, _⟩)
        case inr => rw [HN.out] at hx; cases hx
        obtain rfl : (j : Int) = x := by rw [HN.out] at hx; cases hx; rfl
        have HE := Lib.hid ho1.rbehind
        clear hr1 ho1 hx
        unfold intV
        go_wp2_with fail
        exact ⟨rfl, .inr ⟨2, HO.out, rfl, HE.out⟩⟩
      · have HO : RowKit.Hid (rdCount most L = .ok j (L.drop k)) := Lib.hid (by unfold rdCount; rw [HN.out]; simp only [PR.bind]; rw [if_neg hn, if_neg (by omega)]; simp)
        have hm' : j ≤ most := by omega
        clear hn
        go_enter Tryd.func103, Tryd.ntmps103
        go_wp2_with fail
        refine (rd_number r B L n0 _ (HW.out _)).mono ?_
        rintro e w1 (⟨x, rest, hx, rfl, hr1, ho1⟩ | ⟨er, hx, _⟩)
        case inr => rw [HN.out] at hx; cases hx
        obtain ⟨rfl, rfl⟩ : (j : Int) = x ∧ L.drop k = rest := by rw [HN.out] at hx; cases hx; exact ⟨rfl, rfl⟩
        have HE := Lib.hid ho1.rbehind
        have HR := Lib.hid hr1
        clear hr1 ho1 hx
        unfold intV
        go_wp2_with fail
        go_ret
        exact .inl ⟨j, _, HO.out, rfl, HR.out, HE.out⟩
  · have HN := Lib.hid (rdNum_no hf)
    have HO : RowKit.Hid (rdCount most L = .no er) := Lib.hid (by unfold rdCount; rw [HN.out]; rfl)
    clear hf
    go_enter Tryd.func103, Tryd.ntmps103
    go_wp2_with fail
    refine (rd_number r B L n0 _ (HW.out _)).mono ?_
    rintro e w1 (⟨x, rest, hx, _⟩ | ⟨er', hx, rfl, ho1⟩)
    · rw [HN.out] at hx; cases hx
    obtain rfl : er = er' := by rw [HN.out] at hx; cases hx; rfl
    have HE := Lib.hid ho1.rbehind
    clear ho1 hx
    go_wp2_with fail
    exact ⟨rfl, .inr ⟨er, HO.out, rfl, HE.out⟩⟩

def rdTruth (L : List UInt8) : PR Bool := (rdBelow 2 L).bind fun n r => .ok (n == 1) r
def boolV (b : Bool) : Value := .bool b
set_option maxRecDepth 100000 in
theorem rk_truth (r B : Nat) (L : List UInt8) (t : Bool) (w : World) (h : RdAt w r B L) :
    Calls Tryd.prog 125 #[.agg #[.iface 97 (.pointer (some ⟨r, 0, none⟩))], .bool t] w (RdPost r B (rdTruth L) boolV w) := by
  have HW := Lib.hid (h.since ((Below.refl _ _).alloc (Nat.le_refl _) (.cells #[.iface 97 (.pointer (some ⟨r, 0, none⟩))] 110)))
  clear h
  cases t
  all_goals
    go_enter Tryd.func125, Tryd.ntmps125
    go_wp2_with fail
    refine (rk_below r B L _ 2 _ HW.out (by omega) (by omega)).mono ?_
    rintro e w1 (⟨x, rest, hx, rfl, hr1, ho1⟩ | ⟨er, hx, rfl, ho1⟩)
    · have HE := Lib.hid ho1.rbehind
      have HR := Lib.hid hr1
      have HO : RowKit.Hid (rdTruth L = .ok (x == 1) rest) := Lib.hid (by unfold rdTruth; rw [hx]; rfl)
      clear hr1 ho1 hx
      unfold intV
      go_wp2_with fail
      go_ret
      exact .inl ⟨_, _, HO.out, rfl, HR.out, HE.out⟩
    · have HE := Lib.hid ho1.rbehind
      have HO : RowKit.Hid (rdTruth L = .no er) := Lib.hid (by unfold rdTruth; rw [hx]; rfl)
      clear ho1 hx
      go_wp2_with fail
      exact ⟨rfl, .inr ⟨er, HO.out, rfl, HE.out⟩⟩
end Go.Proofs.YtfnkmigcklmghaaDoor
