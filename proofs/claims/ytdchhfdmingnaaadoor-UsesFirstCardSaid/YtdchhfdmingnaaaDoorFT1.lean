/- Layer 4, P4.1: the document's Uses, walked: the values that a step is of. -/
import Derived.Test.YtdchhfdmingnaaaDoorFCfgB
import Derived.Test.YtdchhfdmingnaaaDoorFCodePlain
import Derived.Test.YtdchhfdmingnaaaDoorFKindRef
import Derived.Test.YtdchhfdmingnaaaDoorFT0
import Derived.Deep.DeepCutAuto
import Derived.Deep.AppendLies
import Derived.Maps.OwnIn
import Derived.WalkSmall
import Derived.RangeFuncLeaves
import Derived.Lib.OthersKept
import Derived.RangeFuncNested
import Derived.RangeFuncBound
import Derived.RangeFuncCalls
import Derived.Shelf.Abstract
import Derived.Shelf.RegionOpen
import Derived.WalkKit
import Derived.OwnWalkIn
import Derived.TacticsInMore
import Derived.LoopNIn
import Derived.LoopIn
import Derived.Deep.RegionHeld3
import Derived.BigQuiet
namespace Go.Proofs.YtdchhfdmingnaaaDoor
open Go.RowKit (wrap64 intOf Below)
set_option linter.unusedVariables false
def oneL (b : Bool) (x : Int) : List Int := if b then [x] else []
def usesL (K A B C : Int) (L : List Int) : List Int := oneL (hasB K 65) A ++ oneL (hasB K 66) B ++ oneL (hasB K 67) C ++ pickL (hasB K 76) L
theorem oneL_len (b : Bool) (x : Int) : (oneL b x).length ≤ 1 := by unfold oneL; split <;> simp
theorem cell_first {w w2 : World} {C0 : Array Value} {t0 : TypeId} (hb : Below (w.heap.size + 1) (w.alloc (.cells C0 t0)) w2) : ∀ j, w2.cell? ⟨w.heap.size, j, none⟩ = C0[j]? := fun j => by
  rw [hb.cell (p := ⟨w.heap.size, j, none⟩) (by simp), World.cell?_alloc_mark]
theorem first_size {w w2 : World} {C0 : Array Value} {t0 : TypeId} (hb : Below (w.heap.size + 1) (w.alloc (.cells C0 t0)) w2) : w.heap.size + 1 ≤ w2.heap.size := by
  have := hb.size
  simpa using this
theorem first_below {w w2 : World} {C0 : Array Value} {t0 : TypeId} (hb : Below (w.heap.size + 1) (w.alloc (.cells C0 t0)) w2) : Below w.heap.size w w2 :=
  ((Below.refl w.heap.size w).alloc (Nat.le_refl _) _).trans (hb.mono (by omega))
set_option maxRecDepth 100000 in
set_option maxHeartbeats 2000000 in
theorem uses_any (K A B C N : Int) (S : ByteArray) (la : Option Addr) (ln lc : Nat) (T : Bool) (L : List Int) (w : World) (hat : NumsAt w la ln L) (hnil : la = none → lc = 0) (hn : ln ≤ 17592186044000) :
    Calls Tryd.prog 40 #[.agg #[.int .i64 K, .int .i64 A, .int .i64 B, .int .i64 C, .int .i64 N, .string S, .slice la ln lc, .bool T]] w
      fun e w' => ∃ va vn vc, e = .returned (.slice va vn vc) ∧ OwnsI w' w.heap.size 3 (.slice va vn vc) (usesL K A B C L) ∧ Below w.heap.size w w' := by
  obtain ⟨O, hO⟩ : ∃ O : Array Value, O = #[.int .i64 K, .int .i64 A, .int .i64 B, .int .i64 C, .int .i64 N, .string S, .slice la ln lc, .bool T] := ⟨_, rfl⟩
  have HA := Lib.hid hat
  have HNIL := Lib.hid hnil
  clear hat hnil
  go_enter Tryd.func40, Tryd.ntmps40
  go_upto_if 7 with (go_at_call 60; (with_reducible refine (has_A K _).mono ?_); rintro e w' ⟨rfl, rfl⟩)
  go_cut [3] (fun ov wc => RowKit.Hid (OwnsI wc (w.heap.size + 1) 3 ov (oneL (hasB K 65) A) ∧ Below (w.heap.size + 1) (w.alloc (.cells O 52)) wc))
  case first =>
    rcases Bool.eq_false_or_eq_true (hasB K 65) with h | h
    · have HP : RowKit.Hid (oneL (hasB K 65) A = [A]) := Lib.hid (by rw [h]; rfl)
      rw [h]
      go_wp2_with (at_builtin; refine wpList_append_num _ rfl _ _ 34 rfl 3 Tryd.underlying34 info_int (w.heap.size + 1) _ [] rfl (OwnsI.laid (by simp) (by omega)) (by simp) _ 1 _ A rfl (by simp) rfl (by simp) ?_; intro v2 w2 hown hb)
      go_meet
      rw [HP.out, hO]
      exact Lib.hid ⟨hown, ((Below.refl _ _).alloc (by simp) _).trans hb⟩
    · have HP : RowKit.Hid (oneL (hasB K 65) A = []) := Lib.hid (by rw [h]; rfl)
      rw [h]
      go_wp2_with fail
      go_meet
      rw [HP.out, hO]
      exact Lib.hid ⟨OwnsI.laid (by simp) (by omega), (Below.refl _ _).alloc (by simp) _⟩
  subst hO
  case rest =>
    have HC := hcut
    clear hcut
    have hc0 := cell_first HC.out.2
    have HSZ := Lib.hid (first_size HC.out.2)
    go_upto_if 15 with (go_at_call 60; (with_reducible refine (has_B K _).mono ?_); rintro e w' ⟨rfl, rfl⟩)
    go_cut [3] (fun ov wc => RowKit.Hid (OwnsI wc (w.heap.size + 1) 3 ov (oneL (hasB K 65) A ++ oneL (hasB K 66) B) ∧ Below (w.heap.size + 1) (w.alloc (.cells #[.int .i64 K, .int .i64 A, .int .i64 B, .int .i64 C, .int .i64 N, .string S, .slice la ln lc, .bool T] 52)) wc))
    case first =>
      rcases Bool.eq_false_or_eq_true (hasB K 66) with h | h
      · have HP : RowKit.Hid (oneL (hasB K 66) B = [B]) := Lib.hid (by rw [h]; rfl)
        have HL : RowKit.Hid (((oneL (hasB K 65) A).length + 1) * 8 ≤ 140737488355328) := Lib.hid (by (try simp only [List.length_append]); have := oneL_len (hasB K 65) A; omega)
        rw [h]
        go_wp2_with (at_builtin; refine wpList_append_num _ rfl _ _ 34 rfl 3 Tryd.underlying34 info_int (w.heap.size + 1) _ _ rfl HC.out.1 HSZ.out _ 1 _ B rfl (by simp) rfl HL.out ?_; intro v2 w2 hown hb)
        go_meet
        rw [HP.out]
        exact Lib.hid ⟨hown, HC.out.2.trans hb⟩
      · have HP : RowKit.Hid (oneL (hasB K 66) B = []) := Lib.hid (by rw [h]; rfl)
        rw [h]
        go_wp2_with fail
        go_meet
        rw [HP.out, List.append_nil]
        exact HC
    case rest =>
      have HC := hcut
      clear hcut
      have hc0 := cell_first HC.out.2
      have HSZ := Lib.hid (first_size HC.out.2)
      go_upto_if 23 with (go_at_call 60; (with_reducible refine (has_C K _).mono ?_); rintro e w' ⟨rfl, rfl⟩)
      go_cut [3] (fun ov wc => RowKit.Hid (OwnsI wc (w.heap.size + 1) 3 ov (oneL (hasB K 65) A ++ oneL (hasB K 66) B ++ oneL (hasB K 67) C) ∧ Below (w.heap.size + 1) (w.alloc (.cells #[.int .i64 K, .int .i64 A, .int .i64 B, .int .i64 C, .int .i64 N, .string S, .slice la ln lc, .bool T] 52)) wc))
      case first =>
        rcases Bool.eq_false_or_eq_true (hasB K 67) with h | h
        · have HP : RowKit.Hid (oneL (hasB K 67) C = [C]) := Lib.hid (by rw [h]; rfl)
          have HL : RowKit.Hid (((oneL (hasB K 65) A ++ oneL (hasB K 66) B).length + 1) * 8 ≤ 140737488355328) := Lib.hid (by (try simp only [List.length_append]); have := oneL_len (hasB K 65) A; have := oneL_len (hasB K 66) B; omega)
          rw [h]
          go_wp2_with (at_builtin; refine wpList_append_num _ rfl _ _ 34 rfl 3 Tryd.underlying34 info_int (w.heap.size + 1) _ _ rfl HC.out.1 HSZ.out _ 1 _ C rfl (by simp) rfl HL.out ?_; intro v2 w2 hown hb)
          go_meet
          rw [HP.out]
          exact Lib.hid ⟨hown, HC.out.2.trans hb⟩
        · have HP : RowKit.Hid (oneL (hasB K 67) C = []) := Lib.hid (by rw [h]; rfl)
          rw [h]
          go_wp2_with fail
          go_meet
          rw [HP.out, List.append_nil]
          exact HC
      case rest =>
        have HC := hcut
        clear hcut
        have hc0 := cell_first HC.out.2
        have HSZ := Lib.hid (first_size HC.out.2)
        have HW := Lib.hid (first_below HC.out.2)
        rcases Bool.eq_false_or_eq_true (hasB K 76) with h | h
        · have HP : RowKit.Hid (usesL K A B C L = oneL (hasB K 65) A ++ oneL (hasB K 66) B ++ oneL (hasB K 67) C ++ L) := Lib.hid (by unfold usesL pickL; rw [h]; rfl)
          have HL : RowKit.Hid (((oneL (hasB K 65) A ++ oneL (hasB K 66) B ++ oneL (hasB K 67) C).length + ln) * 8 ≤ 140737488355328) := Lib.hid (by (try simp only [List.length_append]); have := oneL_len (hasB K 65) A; have := oneL_len (hasB K 66) B; have := oneL_len (hasB K 67) C; omega)
          go_wp2_with (first | (go_at_call 60; (with_reducible refine (has_L K _).mono ?_); rintro e w' ⟨rfl, rfl⟩) | (at_builtin; refine wpList_append_nums _ rfl _ _ 34 rfl 3 Tryd.underlying34 info_int (w.heap.size + 1) _ _ rfl HC.out.1 HSZ.out la ln lc L rfl HNIL.out (HA.out.since HW.out) HL.out ?_; intro va vn vc w2 hown hb))
          rw [← HP.out] at hown
          go_ret
          exact ⟨va, vn, vc, rfl, hown.mono (by omega), HW.out.trans (hb.mono (by omega))⟩
        · have HP : RowKit.Hid (usesL K A B C L = oneL (hasB K 65) A ++ oneL (hasB K 66) B ++ oneL (hasB K 67) C) := Lib.hid (by unfold usesL pickL; rw [h]; simp)
          have hown := HC.out.1
          rw [← HP.out] at hown
          obtain ⟨va, vn, vc, rfl, hnn⟩ := hown.nums
          have HO := Lib.hid hown
          clear hown hnn
          go_wp2_with (go_at_call 60; (with_reducible refine (has_L K _).mono ?_); rintro e w' ⟨rfl, rfl⟩)
          go_ret
          exact ⟨va, vn, vc, rfl, HO.out.mono (by omega), HW.out⟩
end Go.Proofs.YtdchhfdmingnaaaDoor

/- Layer 13: where values are used, and where they are still needed: the plain words. -/
namespace Go.Proofs.YtdchhfdmingnaaaDoor
open Go.RowKit (wrap64 intOf Below)
set_option linter.unusedVariables false
set_option linter.unusedSimpArgs false
def szU (b : BlockD) : Nat := b.params.length + b.ops.length
def fstU (f : FuncD) (i : Nat) : Nat := ((f.blocks.take i).map szU).sum
def valU (f : FuncD) : Nat := fstU f f.blocks.length
theorem fstU_zero (f : FuncD) : fstU f 0 = 0 := by simp [fstU]
theorem fstU_more {f : FuncD} {i : Nat} (h : i < f.blocks.length) : fstU f (i + 1) = fstU f i + (f.blocks[i].params.length + f.blocks[i].ops.length) := by
  unfold fstU
  rw [List.take_succ_eq_append_getElem h, List.map_append, List.sum_append]
  simp [szU]
theorem fstU_mono (f : FuncD) {i j : Nat} (h : i ≤ j) : fstU f i ≤ fstU f j := by
  induction h with
  | refl => exact Nat.le_refl _
  | @step m _ ih =>
    refine Nat.le_trans ih ?_
    by_cases h : m < f.blocks.length
    · rw [fstU_more h]; omega
    · unfold fstU
      rw [List.take_of_length_le (by omega), List.take_of_length_le (by omega)]
      exact Nat.le_refl _
theorem fstU_le (f : FuncD) (i : Nat) : fstU f i ≤ valU f := by
  by_cases h : i ≤ f.blocks.length
  · exact fstU_mono f h
  · unfold fstU valU fstU
    rw [List.take_of_length_le (by omega), List.take_of_length_le (Nat.le_refl _)]
    exact Nat.le_refl _
def opU (o : OpD) : List Int := usesL o.K o.A o.B o.C o.L
def endA (ret : Int) (e : EndD) : List Int := if e.K = 1 ∨ e.K = 3 ∨ (e.K = 2 ∧ ret ≠ -1) then [e.A] else []
def endU (ret : Int) (e : EndD) : List Int := endA ret e ++ (tgts e).flatMap (·.2)
def blkU (f : FuncD) (i : Nat) : BlockD := match f.blocks[i]? with | some b => b | none => ⟨[], [], noEnd⟩
def lenU (f : FuncD) (i : Nat) : Nat := (blkU f i).ops.length
theorem blkU_at {f : FuncD} {i : Nat} (h : i < f.blocks.length) : blkU f i = f.blocks[i] := by simp [blkU, h]
theorem blkU_end (f : FuncD) (i : Nat) : (blkU f i).fin = theEnd f i := by
  unfold blkU theEnd
  cases f.blocks[i]? <;> rfl
def atU (f : FuncD) (i k : Nat) : List Int := match (blkU f i).ops[k]? with | some o => opU o | none => endU f.ret (blkU f i).fin
theorem atU_op {f : FuncD} {i k : Nat} (h : k < (blkU f i).ops.length) : atU f i k = opU (blkU f i).ops[k] := by simp [atU, h]
theorem atU_end (f : FuncD) (i k : Nat) (h : (blkU f i).ops.length ≤ k) : atU f i k = endU f.ret (blkU f i).fin := by
  unfold atU
  rw [List.getElem?_eq_none h]
def inU (V : Nat) (v : Int) : Bool := decide (0 ≤ v ∧ v < (V : Int))
abbrev SiteU := Nat × Nat
abbrev UseU := SiteU × Int
def pairsU (s : SiteU) (V : Nat) (l : List Int) : List UseU := (l.filter (inU V)).map fun v => (s, v)
theorem pairsU_more (s : SiteU) (V : Nat) (l : List Int) (v : Int) : pairsU s V (l ++ [v]) = pairsU s V l ++ (if inU V v then [(s, v)] else []) := by
  unfold pairsU
  rw [List.filter_append, List.map_append]
  congr 1
  cases h : inU V v <;> simp [h]
def siteU (f : FuncD) (i k : Nat) : List UseU := pairsU (i, k) (valU f) (atU f i k)
def partU (f : FuncD) (i m : Nat) : List UseU := (List.range m).flatMap (siteU f i)
def allU (f : FuncD) (m : Nat) : List UseU := (List.range m).flatMap fun i => partU f i (lenU f i + 1)
def usesU (f : FuncD) : List UseU := allU f f.blocks.length
theorem partU_more (f : FuncD) (i m : Nat) : partU f i (m + 1) = partU f i m ++ siteU f i m := by simp [partU, List.range_succ]
theorem allU_more (f : FuncD) (m : Nat) : allU f (m + 1) = allU f m ++ partU f m (lenU f m + 1) := by simp [allU, List.range_succ]
theorem mem_siteU {f : FuncD} {i k : Nat} {x : UseU} : x ∈ siteU f i k ↔ x.1 = (i, k) ∧ x.2 ∈ atU f i k ∧ inU (valU f) x.2 = true := by
  unfold siteU pairsU
  rw [List.mem_map]
  constructor
  · rintro ⟨v, hv, rfl⟩
    rw [List.mem_filter] at hv
    exact ⟨rfl, hv⟩
  · rintro ⟨h1, h2⟩
    exact ⟨x.2, List.mem_filter.2 h2, by rw [← h1]⟩
theorem mem_partU {f : FuncD} {i m : Nat} {x : UseU} : x ∈ partU f i m ↔ ∃ k, k < m ∧ x ∈ siteU f i k := by
  unfold partU
  rw [List.mem_flatMap]
  simp only [List.mem_range]
theorem mem_allU {f : FuncD} {m : Nat} {x : UseU} : x ∈ allU f m ↔ ∃ i, i < m ∧ ∃ k, k ≤ lenU f i ∧ x ∈ siteU f i k := by
  unfold allU
  rw [List.mem_flatMap]
  simp only [List.mem_range, mem_partU, Nat.lt_succ_iff]
def InU (f : FuncD) (v : Int) (i : Nat) : Prop := ∃ k, k ≤ lenU f i ∧ v ∈ atU f i k
theorem mem_usesU {f : FuncD} {x : UseU} : x ∈ usesU f ↔ x.1.1 < f.blocks.length ∧ x.1.2 ≤ lenU f x.1.1 ∧ x.2 ∈ atU f x.1.1 x.1.2 ∧ inU (valU f) x.2 = true := by
  unfold usesU
  rw [mem_allU]
  constructor
  · rintro ⟨i, hi, k, hk, hx⟩
    obtain ⟨h1, h2, h3⟩ := mem_siteU.1 hx
    rw [h1]
    exact ⟨hi, hk, h2, h3⟩
  · rintro ⟨h1, h2, h3, h4⟩
    exact ⟨_, h1, _, h2, mem_siteU.2 ⟨rfl, h3, h4⟩⟩
def ofStep (v : Int) (s : List SiteU) (x : UseU) : List SiteU := if x.2 = v ∧ s.getLast? ≠ some x.1 then s ++ [x.1] else s
def ofL (v : Int) (xs : List UseU) : List SiteU := xs.foldl (ofStep v) []
theorem ofL_more (v : Int) (xs : List UseU) (x : UseU) : ofL v (xs ++ [x]) = ofStep v (ofL v xs) x := by simp [ofL]
def MakesU (f : FuncD) (b : Nat) (v : Int) : Prop := (fstU f b : Int) ≤ v ∧ v < (fstU f (b + 1) : Int)
instance (f : FuncD) (b : Nat) (v : Int) : Decidable (MakesU f b v) := inferInstanceAs (Decidable (_ ∧ _))
inductive NeedU (f : FuncD) (v : Int) : Nat → Prop
  | here (b : Nat) : b < f.blocks.length → ¬ MakesU f b v → InU f v b → NeedU f v b
  | on (b c : Nat) : b < f.blocks.length → ¬ MakesU f b v → (c : Int) ∈ nxF f b → NeedU f v c → NeedU f v b
theorem NeedU.lt {f : FuncD} {v : Int} {b : Nat} (h : NeedU f v b) : b < f.blocks.length := by cases h <;> assumption
theorem NeedU.not {f : FuncD} {v : Int} {b : Nat} (h : NeedU f v b) : ¬ MakesU f b v := by cases h <;> assumption
def LeftU (f : FuncD) (v : Int) (b : Nat) : Prop := ∃ c : Nat, (c : Int) ∈ nxF f b ∧ NeedU f v c
open Classical in
noncomputable def needB (f : FuncD) (v : Int) (b : Nat) : Bool := decide (NeedU f v b)
open Classical in
noncomputable def leftB (f : FuncD) (v : Int) (b : Nat) : Bool := decide (LeftU f v b)
theorem need_iff {f : FuncD} {v : Int} {b : Nat} : needB f v b = true ↔ NeedU f v b := by unfold needB; simp
theorem left_iff {f : FuncD} {v : Int} {b : Nat} : leftB f v b = true ↔ LeftU f v b := by unfold leftB; simp
def risingU (p : Nat → Bool) (m : Nat) : List Int := ((List.range m).filter p).map Int.ofNat
theorem risingU_more (p : Nat → Bool) (m : Nat) : risingU p (m + 1) = risingU p m ++ (if p m then [(m : Int)] else []) := by
  unfold risingU
  rw [List.range_succ, List.filter_append, List.map_append]
  congr 1
  cases h : p m <;> simp [h]
theorem mem_risingU {p : Nat → Bool} {m : Nat} {z : Int} : z ∈ risingU p m ↔ ∃ v : Nat, z = (v : Int) ∧ v < m ∧ p v = true := by
  unfold risingU
  simp only [List.mem_map, List.mem_filter, List.mem_range]
  constructor
  · rintro ⟨v, ⟨h1, h2⟩, rfl⟩; exact ⟨v, rfl, h1, h2⟩
  · rintro ⟨v, rfl, h1, h2⟩; exact ⟨v, ⟨h1, h2⟩, rfl⟩
theorem risingU_len (p : Nat → Bool) (m : Nat) : (risingU p m).length ≤ m := by
  unfold risingU
  rw [List.length_map]
  exact Nat.le_trans (List.length_filter_le _ _) (by simp)
noncomputable def neededU (f : FuncD) (b : Nat) : List Int := risingU (fun v => needB f v b) (valU f)
noncomputable def leftU (f : FuncD) (b : Nat) : List Int := risingU (fun v => leftB f v b) (valU f)
theorem need_all {f : FuncD} {v : Int} {M : Nat → Prop} (h1 : ∀ b, M b → NeedU f v b) (h2 : ∀ b, b < f.blocks.length → InU f v b → ¬ MakesU f b v → M b)
    (h3 : ∀ c, M c → ∀ b, b < f.blocks.length → (c : Int) ∈ nxF f b → ¬ MakesU f b v → M b) (b : Nat) : M b ↔ NeedU f v b := by
  refine ⟨h1 b, fun h => ?_⟩
  induction h with
  | here b hb hm hu => exact h2 b hb hu hm
  | on b c hb hm hn _ ih => exact h3 c ih b hb hn hm
end Go.Proofs.YtdchhfdmingnaaaDoor

/- Layer 7: the document's Targets and Next. -/
namespace Go.Proofs.YtdchhfdmingnaaaDoor
open Go.RowKit (wrap64 intOf Below)
set_option linter.unusedVariables false
set_option linter.unusedSimpArgs false
def flatT (l : List TgV) : List Value := l.flatMap fun x => [.int .i64 x.1, .slice x.2.1 x.2.2.1 x.2.2.2]
theorem flatT_at : ∀ (l : List TgV) (i : Nat) (h : i < l.length), (flatT l)[i * 2]? = some (.int .i64 l[i].1) ∧ (flatT l)[i * 2 + 1]? = some (.slice l[i].2.1 l[i].2.2.1 l[i].2.2.2)
  | x :: l, 0, _ => ⟨rfl, rfl⟩
  | x :: l, i + 1, h => by
    have ih := flatT_at l i (by simpa using h)
    have e1 : (i + 1) * 2 = i * 2 + 2 := by omega
    refine ⟨?_, ?_⟩
    · rw [e1]; exact ih.1
    · rw [e1]; exact ih.2
def OwnsT (w : World) (B : Nat) (v : Value) (l : List TgV) : Prop := w.ownsRow B 83 2 v l.length (flatT l)
theorem info_tg : (Tryd.prog.info? 83).map (fun i => (i.zero, i.size, i.bytes)) = some (some (.agg #[.int .i64 0, .slice none 0 0]), 2, 32) := by kernel_rfl
theorem wpList_append_tg (w : World) {ops : Array Oper} {rest : List Oper} {o : Oper} {a : Act} {Q : Exit → Act → World → Prop} (hgd : o.guard = none) (s x : Operand)
    (ho : o.op = .call { callee := .builtin .append, args := #[s, x], argTypes := #[80, 80] })
    (B : Nat) (v : Value) (l : List TgV) (hs : a.eval s = v) (hown : OwnsT w B v l) (hB : B ≤ w.heap.size)
    (C : Array Value) (c g : Nat) (z : TgV) (hx : a.eval x = .slice (some ⟨g, 0, none⟩) 1 c) (hg : g = w.heap.size) (hC : C = #[.int .i64 z.1, .slice z.2.1 z.2.2.1 z.2.2.2])
    (hlen : l.length ≤ 100000)
    (h : ∀ va vn vc w', OwnsT w' B (.slice va vn vc) (l ++ [z]) → Below B w w' → wpList Tryd.prog ops Q rest (a.put o.dst (.slice va vn vc)) w') : wpList Tryd.prog ops Q (o :: rest) a (w.alloc (.cells C 83)) := by
  obtain ⟨i0, hi, hz0, hz1, hz2⟩ := info_parts info_tg
  subst hC hg
  refine wpList_append_own _ hgd s x 80 ho B 83 i0 (.agg #[.int .i64 0, .slice none 0 0]) 2 32 Tryd.underlying80 hi hz0 hz1 hz2 rfl (by decide) v l.length (flatT l) hs (World.ownsRow.alloc hown _) ⟨w.heap.size, 0, none⟩ 1 c [.int .i64 z.1, .slice z.2.1 z.2.2.1 z.2.2.2] hx rfl (fun j u hu => ?_) (by intro u hu; simp at hu; rcases hu with rfl | rfl <;> rfl) (by unfold maxLen; omega) (by omega) (by simp; omega) ?_
  · rw [addr_plain, Nat.zero_add, World.cell?_alloc_mark]
    simpa using hu
  · intro v' w' hown' hgrow _
    have h2 : OwnsT w' B v' (l ++ [z]) := by
      show w'.ownsRow B _ 2 v' (l ++ [z]).length (flatT (l ++ [z]))
      rw [show flatT (l ++ [z]) = flatT l ++ [.int .i64 z.1, .slice z.2.1 z.2.2.1 z.2.2.2] by simp [flatT], List.length_append]
      exact hown'
    obtain ⟨va, vn, vc, rfl⟩ : ∃ va vn vc, v' = .slice va vn vc := by
      rcases h2.2 with ⟨e, _⟩ | ⟨_, _, _, e, _⟩
      · exact ⟨_, _, _, e⟩
      · exact ⟨_, _, _, e⟩
    exact h va vn vc w' h2 (Below.grown ((Below.refl B w).alloc hB _) hgrow (by simp; omega) (fun k hk => (hown.lt k hk).1))
theorem wpList_append_numG {P : Program} (w : World) {ops : Array Oper} {rest : List Oper} {o : Oper} {a : Act} {Q : Exit → Act → World → Prop} (hgd : o.guard = none) (s x : Operand) (t : TypeId)
    (ho : o.op = .call { callee := .builtin .append, args := #[s, x], argTypes := #[t, t] }) (e : TypeId) (ht : P.underlying t = some (.slice e))
    (hinfo : (P.info? e).map (fun i => (i.zero, i.size, i.bytes)) = some (some (.int .i64 0), 1, 8))
    (B : Nat) (v : Value) (Z : List Int) (hs : a.eval s = v) (hown : OwnsI w B e v Z) (hB : B ≤ w.heap.size)
    (C : Array Value) (c g : Nat) (z : Int) (hx : a.eval x = .slice (some ⟨g, 0, none⟩) 1 c) (hg : g = w.heap.size) (hC : C = #[.int .i64 z])
    (hlen : (Z.length + 1) * 8 ≤ 140737488355328)
    (h : ∀ va vn vc w', OwnsI w' B e (.slice va vn vc) (Z ++ [z]) → (w.alloc (.cells C e)).grownBy w' v.ownBlock → wpList P ops Q rest (a.put o.dst (.slice va vn vc)) w') : wpList P ops Q (o :: rest) a (w.alloc (.cells C e)) := by
  obtain ⟨i0, hi, hz0, hz1, hz2⟩ := info_parts hinfo
  subst hC hg
  refine wpList_append_own _ hgd s x t ho B e i0 (.int .i64 0) 1 8 ht hi hz0 hz1 hz2 rfl (by decide) v Z.length (Z.map numV) hs (World.ownsRow.alloc hown _) ⟨w.heap.size, 0, none⟩ 1 c [.int .i64 z] hx rfl (fun j u hu => ?_) (by intro u hu; simp at hu; subst hu; rfl) (by unfold maxLen; omega) hlen (by simp; omega) ?_
  · rw [addr_plain, Nat.zero_add, World.cell?_alloc_mark]
    simpa using hu
  · intro v' w' hown' hgrow _
    have hown2 : OwnsI w' B e v' (Z ++ [z]) := by
      show w'.ownsRow B e 1 v' (Z ++ [z]).length ((Z ++ [z]).map numV)
      rw [List.map_append, List.length_append]
      exact hown'
    obtain ⟨va, vn, vc, rfl, _⟩ := hown2.nums
    exact h va vn vc w' hown2 hgrow
theorem OwnsT.mono {w : World} {B B' : Nat} {v : Value} {l : List TgV} (h : OwnsT w B v l) (hB : B' ≤ B) : OwnsT w B' v l := by
  refine ⟨h.1, ?_⟩
  rcases h.2 with hn | ⟨g, cap, cur, rfl, hg, rest⟩
  · exact .inl hn
  · exact .inr ⟨g, cap, cur, rfl, Nat.le_trans hB hg, rest⟩
theorem OwnsT.laid {w : World} {n B : Nat} (hn : n = w.heap.size) (hB : B ≤ n) : OwnsT (w.alloc (.cells #[] 83)) B (.slice (some ⟨n, 0, none⟩) 0 0) [] := by
  subst hn
  exact World.ownsRow_made w #[] 0 hB (by decide) rfl
theorem box_tg (w : World) (C : Array Value) {T1 T2 : TypeId} (W1 : World) (hb : Below (w.heap.size + 1) ((w.alloc (.cells C T1)).alloc (.cells #[] T2)) W1) (j : Nat) : W1.cell? ⟨w.heap.size, j, none⟩ = C[j]? := by
  rw [hb.cell (p := ⟨w.heap.size, j, none⟩) (by show w.heap.size < w.heap.size + 1; omega)]
  rw [World.cell?_of_block (a := ⟨w.heap.size, j, none⟩) ((World.grownBy_alloc (w.alloc (.cells C T1)) _ none).block w.heap.size (by simp) (fun e => by cases e))]
  exact World.cell?_alloc_mark _ _ _ _ _
set_option maxRecDepth 100000 in
set_option maxHeartbeats 2000000 in
theorem reftargets_any (K A T E : Int) (la : Option Addr) (ln lc : Nat) (ma : Option Addr) (mn mc : Nat) (w : World) :
    Calls Tryd.prog 41 #[.agg #[.int .i64 K, .int .i64 A, .int .i64 T, .int .i64 E, .slice la ln lc, .slice ma mn mc]] w fun e w' => ∃ va vn vc, e = .returned (.slice va vn vc) ∧ OwnsT w' w.heap.size (.slice va vn vc) (tgV K T E la ln lc ma mn mc) ∧ Below w.heap.size w w' := by
  have hbel : Below w.heap.size w ((w.alloc (.cells #[.int .i64 K, .int .i64 A, .int .i64 T, .int .i64 E, .slice la ln lc, .slice ma mn mc] 55)).alloc (.cells #[] 83)) := ((Below.refl w.heap.size w).alloc (Nat.le_refl _) _).alloc (by simp) _
  have HBE := Lib.hid hbel
  clear hbel
  by_cases hK0 : K = 0
  · subst hK0
    have HT : RowKit.Hid (tgV 0 T E la ln lc ma mn mc = [(T, la, ln, lc)]) := Lib.hid rfl
    go_enter Tryd.func41, Tryd.ntmps41
    go_wp2_with ((with_reducible refine wpList_append_tg _ rfl _ _ rfl (w.heap.size + 1) (.slice (some ⟨w.heap.size + 1, 0, none⟩) 0 0) [] ?_ ?_ ?_ _ 1 (w.heap.size + 1 + 1) (T, la, ln, lc) ?_ ?_ ?_ ?_ ?_); (next => rfl); (next => exact OwnsT.laid (by simp) (by omega)); (next => simp <;> omega); (next => rfl); (next => simp); (next => rfl); (next => simp); intro va vn vc w1 ho hb; have HO := Lib.hid ho; have HB := Lib.hid hb; have hc0 : w1.cell? ⟨w.heap.size, 0, none⟩ = some (.int .i64 0) := box_tg w _ w1 hb 0; clear ho hb)
    go_ret
    exact ⟨_, _, _, rfl, by rw [HT.out]; exact HO.out.mono (by omega), HBE.out.trans (HB.out.mono (by omega))⟩
  · have hk : (K == 0) = false := by simpa using hK0
    by_cases hK1 : K = 1
    · subst hK1
      have HT : RowKit.Hid (tgV 1 T E la ln lc ma mn mc = [(T, la, ln, lc), (E, ma, mn, mc)]) := Lib.hid rfl
      clear hK0 hk
      go_enter Tryd.func41, Tryd.ntmps41
      go_wp2_with (first | ((with_reducible refine wpList_append_tg w1 rfl _ _ rfl (w.heap.size + 1) (.slice va vn vc) [(T, la, ln, lc)] ?_ ?_ ?_ _ 1 w1.heap.size (E, ma, mn, mc) ?_ ?_ ?_ ?_ ?_); (next => rfl); (next => exact HO.out); (next => exact HZ.out); (next => rfl); (next => rfl); (next => rfl); (next => simp); intro va2 vn2 vc2 w2 ho2 hb2; have HO2 := Lib.hid ho2; have HB2 := Lib.hid hb2; clear ho2 hb2) | ((with_reducible refine wpList_append_tg _ rfl _ _ rfl (w.heap.size + 1) (.slice (some ⟨w.heap.size + 1, 0, none⟩) 0 0) [] ?_ ?_ ?_ _ 1 (w.heap.size + 1 + 1) (T, la, ln, lc) ?_ ?_ ?_ ?_ ?_); (next => rfl); (next => exact OwnsT.laid (by simp) (by omega)); (next => simp <;> omega); (next => rfl); (next => simp); (next => rfl); (next => simp); intro va vn vc w1 ho hb; have HO := Lib.hid ho; have HB := Lib.hid hb; have hc0 : w1.cell? ⟨w.heap.size, 0, none⟩ = some (.int .i64 1) := box_tg w _ w1 hb 0; have hc3 : w1.cell? ⟨w.heap.size, 3, none⟩ = some (.int .i64 E) := box_tg w _ w1 hb 3; have hc5 : w1.cell? ⟨w.heap.size, 5, none⟩ = some (.slice ma mn mc) := box_tg w _ w1 hb 5; have HZ : RowKit.Hid (w.heap.size + 1 ≤ w1.heap.size) := Lib.hid (by have := hb.size; simp at this; omega); clear ho hb))
      go_ret
      exact ⟨_, _, _, rfl, by rw [HT.out]; exact HO2.out.mono (by omega), (HBE.out.trans (HB.out.mono (by omega))).trans (HB2.out.mono (by omega))⟩
    · have hk1 : (K == 1) = false := by simpa using hK1
      have HT : RowKit.Hid (tgV K T E la ln lc ma mn mc = []) := Lib.hid (by unfold tgV; rw [if_neg hK0, if_neg hK1])
      clear hK0 hK1
      go_enter Tryd.func41, Tryd.ntmps41
      go_wp2_with fail
      go_ret
      exact ⟨_, _, _, rfl, by rw [HT.out]; exact OwnsT.laid (by simp) (by omega), HBE.out⟩
theorem OwnsT.read {w : World} {B : Nat} {va : Option Addr} {vn vc : Nat} {l : List TgV} (h : OwnsT w B (.slice va vn vc) l) : vn = l.length ∧ (0 < vn → ∃ g, va = some ⟨g, 0, none⟩ ∧ B ≤ g ∧ g < w.heap.size ∧ ∀ i (hi : i < l.length), w.cell? ⟨g, i * 2, none⟩ = some (.int .i64 l[i].1) ∧ w.cell? ⟨g, i * 2 + 1, none⟩ = some (.slice l[i].2.1 l[i].2.2.1 l[i].2.2.2)) := by
  have hown : w.ownsRow B 83 2 (.slice va vn vc) l.length (flatT l) := h
  rcases h.2 with ⟨e, h0⟩ | ⟨g, cap, cur, e, hB, hh, _⟩
  · cases e
    exact ⟨h0.symm, fun hp => by omega⟩
  · cases e
    refine ⟨rfl, fun _ => ⟨g, rfl, hB, (Array.getElem?_eq_some_iff.1 hh).1, fun i hi => ?_⟩⟩
    obtain ⟨h1, h2⟩ := flatT_at l i hi
    have c1 := World.ownsRow.cells hown rfl _ _ h1
    have c2 := World.ownsRow.cells hown rfl _ _ h2
    rw [addr_plain, Nat.zero_add] at c1 c2
    exact ⟨c1, c2⟩
theorem OwnsT.below {w w' : World} {B : Nat} {v : Value} {l : List TgV} (h : OwnsT w B v l) (hb : Below w.heap.size w w') : OwnsT w' B v l := by
  refine ⟨h.1, ?_⟩
  rcases h.2 with hn | ⟨g, cap, cur, rfl, hB, hg, rest⟩
  · exact .inl hn
  · refine .inr ⟨g, cap, cur, rfl, hB, ?_, rest⟩
    rw [hb.block g (Array.getElem?_eq_some_iff.1 hg).1]
    exact hg
theorem rowI_blk {W : World} {n0 : Nat} {e : TypeId} {v : Value} {way : List Int} (h : OwnsI W n0 e v way) {i : Nat} (hi : v.ownBlock = some i) : ∃ cur, W.heap[i]? = some (.cells cur e (0, 0)) ∧ n0 ≤ i := by
  rcases h.2 with ⟨e, _⟩ | ⟨g, cap, cur, e, hb, hh, _⟩
  · subst e; cases hi
  · subst e; cases hi; exact ⟨cur, hh, hb⟩
set_option maxRecDepth 100000 in
set_option maxHeartbeats 2000000 in
theorem refnext_any (pa : Option Addr) (pn pc : Nat) (oa : Option Addr) (on oc : Nat) (A : Int) (la : Option Addr) (ln lc : Nat) (ma : Option Addr) (mn mc : Nat) (e : EndD) (w : World) :
    Calls Tryd.prog 29 #[.agg #[.slice pa pn pc, .slice oa on oc, .int .i64 e.K, .int .i64 A, .int .i64 e.To, .int .i64 e.Else, .slice la ln lc, .slice ma mn mc]] w
      fun e' w' => ∃ va vn vc, e' = .returned (.slice va vn vc) ∧ OwnsI w' w.heap.size 3 (.slice va vn vc) (nextL e) ∧ Below w.heap.size w w' := by
  have HFST : RowKit.Hid ((tgV e.K e.To e.Else la ln lc ma mn mc).map (·.1) = tos e) := Lib.hid (tgV_tos e la ln lc ma mn mc)
  have HTL := Lib.hid (tgV_len e.K e.To e.Else la ln lc ma mn mc)
  have HNX := Lib.hid (addAll_tos e)
  generalize e.K = K at *
  generalize e.To = T at *
  generalize e.Else = E at *
  go_enter Tryd.func29, Tryd.ntmps29
  go_wp2_with (go_at_call 41; refine (reftargets_any K A T E la ln lc ma mn mc _).mono ?_; rintro e w1 ⟨va, vn, vc, rfl, ho, hb⟩; have HO := Lib.hid ho; have HB := Lib.hid hb; clear ho hb)
  generalize tgV K T E la ln lc ma mn mc = l at *
  obtain ⟨hvn, hrd⟩ := HO.out.read
  subst hvn
  have HRD := Lib.hid hrd
  clear hrd
  go_loopw [5, 3] (fun v5 v3 wr => ∃ i : Nat, i ≤ l.length ∧ v5 = .int .i64 (i : Int) ∧ ∃ xa xn xc, v3 = .slice xa xn xc ∧ RowKit.Hid (OwnsI wr (w.heap.size + 1) 3 (.slice xa xn xc) (addAll ((l.take i).map (·.1))) ∧ Below w.heap.size w wr ∧ OwnsT wr (w.heap.size + 2) (.slice va l.length vc) l ∧ w.heap.size + 2 ≤ wr.heap.size)) (fun v5 _ _ => l.length - (intOf v5).toNat)
  case atStart =>
    refine ⟨0, Nat.zero_le _, rfl, _, _, _, rfl, Lib.hid ⟨?_, ?_, ?_, ?_⟩⟩
    · exact (OwnsI.laid (by simp) (by omega)).below HB.out
    · exact (((Below.refl w.heap.size w).alloc (Nat.le_refl _) _).alloc (by simp) _).trans (HB.out.mono (by simp <;> omega))
    · exact HO.out.mono (by simp)
    · have := HB.out.size
      simp at this
      omega
  case round =>
    obtain ⟨i, hi, rfl, xa, xn, xc, rfl, HST⟩ := hrel
    by_cases hlt : i < l.length
    · have hln : l.length ≤ 2 := HTL.out
      obtain ⟨hvn2, hrd⟩ := HST.out.2.2.1.read
      obtain ⟨g, rfl, hg1, hg2, hcs⟩ := hrd (by omega)
      have hcell := (hcs i hlt).1
      obtain ⟨z, hz⟩ : ∃ z, z = l[i].1 := ⟨_, rfl⟩
      rw [← hz] at hcell
      have HSTEP : RowKit.Hid (addAll ((l.take (i + 1)).map (·.1)) = addN (addAll ((l.take i).map (·.1))) z) := Lib.hid (by
        rw [List.take_succ_eq_append_getElem hlt, List.map_append, List.map_cons, List.map_nil, addAll_snoc, hz])
      have HLZ : RowKit.Hid ((addAll ((l.take i).map (·.1))).length ≤ 2) := Lib.hid (by
        have h1 := addAll_len ((l.take i).map (·.1))
        have h2 := HTL.out
        rw [List.length_map, List.length_take] at h1
        omega)
      have hn := HST.out.1.read
      have hxn : xn ≤ 2 := by have := hn.1; have := HLZ.out; omega
      have CH := Lib.hid (chas_any xa xn xc _ z wr hn (by omega))
      have HRW := Lib.hid hg1
      clear hvn2 hrd hcs hn hg2 hz hg1
      cases hin : inL (addAll ((l.take i).map (·.1))) z with
      | true =>
        have HSN : RowKit.Hid (addN (addAll ((l.take i).map (·.1))) z = addAll ((l.take i).map (·.1))) := Lib.hid (by unfold addN; rw [if_pos hin])
        rw [hin] at CH
        clear hin
        go_wp2_with (go_at_call 20; refine CH.out.mono ?_; rintro e u ⟨rfl, rfl⟩)
        go_roundw
        case rel => exact ⟨i + 1, by omega, by go_num, xa, xn, xc, rfl, Lib.hid ⟨by rw [HSTEP.out, HSN.out]; exact HST.out.1, HST.out.2⟩⟩
        case measure => have hw : wrap64 ((i : Int) + 1) = (i : Int) + 1 := (by unfold wrap64; omega); simp [intOf, hw]; omega
      | false =>
        have HSN : RowKit.Hid (addN (addAll ((l.take i).map (·.1))) z = addAll ((l.take i).map (·.1)) ++ [z]) := Lib.hid (by unfold addN; rw [if_neg (by rw [hin]; decide)])
        rw [hin] at CH
        clear hin
        have HOW := Lib.hid HST.out.1
        have HSZ : RowKit.Hid (w.heap.size + 1 ≤ wr.heap.size) := Lib.hid (by have := HST.out.2.2.2; omega)
        have HLN : RowKit.Hid (((addAll ((l.take i).map (·.1))).length + 1) * 8 ≤ 140737488355328) := Lib.hid (by have := HLZ.out; omega)
        go_wp2_with (first | (go_at_call 20; refine CH.out.mono ?_; rintro e u ⟨rfl, rfl⟩) | (refine wpList_append_numG wr rfl _ _ 34 rfl 3 Tryd.underlying34 info_int (w.heap.size + 1) (.slice xa xn xc) _ rfl HOW.out HSZ.out _ 1 _ z rfl rfl rfl HLN.out ?_; intro ya yn yc w2 ho2 hg2; have HO2 := Lib.hid ho2; have HG2 := Lib.hid hg2; clear ho2 hg2))
        go_roundw
        case rel =>
          have hUb : ∀ k, (Value.slice xa xn xc).ownBlock = some k → w.heap.size + 1 ≤ k := fun k hk => (HOW.out.lt k hk).1
          refine ⟨i + 1, by omega, by go_num, ya, yn, yc, rfl, Lib.hid ⟨by rw [HSTEP.out, HSN.out]; exact HO2.out, HST.out.2.1.trans (Below.grown ((Below.refl w.heap.size wr).alloc (by have := HSZ.out; omega) _) HG2.out (by simp; have := HSZ.out; omega) (fun k hk => by have := hUb k hk; omega)), World.ownsRow.kept (World.ownsRow.alloc HST.out.2.2.1 _) HG2.out (.inr fun e => ?_), by have h1 := HG2.out.size; have h2 := HST.out.2.2.2; simp at h1; omega⟩⟩
          obtain ⟨cur, hc, _⟩ := rowI_blk HOW.out e.symm
          rcases HST.out.2.2.1.2 with ⟨e2, _⟩ | ⟨g2, cap2, cur2, e2, _, hh, _⟩
          · cases e2
          · cases e2
            rw [hc] at hh
            simp at hh
        case measure => have hw : wrap64 ((i : Int) + 1) = (i : Int) + 1 := (by unfold wrap64; omega); simp [intOf, hw]; omega
    · obtain rfl : i = l.length := by omega
      have HSTEP : RowKit.Hid (addAll ((l.take l.length).map (·.1)) = nextL _) := Lib.hid (by rw [List.take_length, HFST.out, HNX.out])
      go_wp2_with fail
      go_ret
      exact ⟨_, _, _, rfl, by rw [← HSTEP.out]; exact HST.out.1.mono (by omega), HST.out.2.1⟩
end Go.Proofs.YtdchhfdmingnaaaDoor

/- Layer 7: package cfg's Targets: a range over its targets, each target's list copied: the contract of the iterator by which of both it is; what the rounds keep. -/
namespace Go.Proofs.YtdchhfdmingnaaaDoor
open Go.RowKit
set_option linter.unusedVariables false
set_option linter.unusedSimpArgs false
attribute [local go_sem] Oper.semAt_some
def encB (T E : Int) (la : Option Addr) (ln lc : Nat) (ma : Option Addr) (mn mc : Nat) : Bool → Array Value
  | false => #[.agg #[.int .i64 T, .slice la ln lc]]
  | true => #[.agg #[.int .i64 E, .slice ma mn mc]]
def ixs (K : Int) : List Bool := if K = 0 then [false] else if K = 1 then [false, true] else []
theorem ixs_len (K : Int) : (ixs K).length ≤ 2 := by
  unfold ixs
  repeat' split
  all_goals simp
set_option maxRecDepth 100000 in
set_option maxHeartbeats 2000000 in
theorem tg_stopsB (K A T E : Int) (la : Option Addr) (ln lc : Nat) (ma : Option Addr) (mn mc : Nat) (b n : Nat) (w : World) (hb : ∀ j, w.cell? ⟨b, j, none⟩ = (#[.int .i64 K, .int .i64 A, .int .i64 T, .int .i64 E, .slice la ln lc, .slice ma mn mc] : Array Value)[j]?) :
    SeqStopsK Fence.wide n Tryd.prog 80 #[.pointer (some ⟨b, 0, none⟩)] (encB T E la ln lc ma mn mc) (KeptT b) (fun xs => xs = ixs K) (fun pre => ∃ q, pre = (ixs K).take q) (ixs K).length w := by
  intro l J Jx W hW hJ hJx hY h0
  have hlt : b < w.heap.size := World.block_lt_of_cell? (a := ⟨b, 0, none⟩) _ (hb 0)
  have HB : RowKit.Hid (∀ u, KeptT b W u → ∀ j, u.cell? ⟨b, j, none⟩ = (#[.int .i64 K, .int .i64 A, .int .i64 T, .int .i64 E, .slice la ln lc, .slice ma mn mc] : Array Value)[j]?) := Lib.hid fun u hu j => (hu.cells j).trans ((hW.cell (p := ⟨b, j, none⟩) hlt).trans (hb j))
  have c0 := HB.out W (KeptT.refl b W) 0
  have c2 := HB.out W (KeptT.refl b W) 2
  have c4 := HB.out W (KeptT.refl b W) 4
  clear hb hlt hW
  refine callsIn_of_wp Tryd.func80 rfl trivial ?_ rfl
  simp only [Tryd.ntmps80, List.size_toArray, List.length_cons, List.length_nil, Nat.reduceAdd, Nat.reduceSub, Array.replicate_succ, Array.replicate_zero, List.push_toArray, List.append_toArray, List.nil_append, List.cons_append]
  by_cases hK0 : K = 0
  · have hk : (K == 0) = true := by rw [hK0]; rfl
    have HT : RowKit.Hid (ixs K = [false]) := Lib.hid (by unfold ixs; rw [if_pos hK0])
    clear hK0
    have hy0 := hY [] false W h0 (by rw [HT.out]; simp)
    simp only [encB] at hy0
    obtain ⟨fn, tmps, assign, body, hy, hR⟩ := hy0
    clear hY
    gi_wp2
    refine ⟨(fun h => (nomatch h)), hR.mono ?_⟩
    rintro e W3 (⟨rfl, hJ3, hk3⟩ | ⟨rfl, hJx3⟩)
    · gi_wp2
      go_end0
      exact ⟨⟨_, rfl⟩, .inl ⟨_, HT.out.symm, hJ3⟩⟩
    · gi_wp2
      go_end0
      exact ⟨⟨_, rfl⟩, .inr ⟨_, ⟨1, by rw [HT.out]; rfl⟩, hJx3⟩⟩
  · have hk : (K == 0) = false := by simpa using hK0
    by_cases hK1 : K = 1
    · have hk1 : (K == 1) = true := by rw [hK1]; rfl
      have HT : RowKit.Hid (ixs K = [false, true]) := Lib.hid (by unfold ixs; rw [if_neg hK0, if_pos hK1])
      clear hK0 hK1
      have hy0 := hY [] false W h0 (by rw [HT.out]; simp)
      have HY1 := Lib.hid fun W1 h => hY [false] true W1 h (by rw [HT.out]; simp)
      simp only [encB] at hy0 HY1
      obtain ⟨fn, tmps, assign, body, hy, hR⟩ := hy0
      clear hY
      gi_wp2
      refine ⟨(fun h => (nomatch h)), hR.mono ?_⟩
      rintro e W3 (⟨rfl, hJ3, hk3⟩ | ⟨rfl, hJx3⟩)
      · have d3 := HB.out W3 hk3 3
        have d5 := HB.out W3 hk3 5
        obtain ⟨fn2, tmps2, assign2, body2, hy2, hR2⟩ := HY1.out W3 hJ3
        clear hJ3 hk3 hy hR c0 c2 c4
        gi_wp2
        refine ⟨(fun h => (nomatch h)), hR2.mono ?_⟩
        rintro e W4 (⟨rfl, hJ4, hk4⟩ | ⟨rfl, hJx4⟩)
        · gi_wp2
          go_end0
          exact ⟨⟨_, rfl⟩, .inl ⟨_, HT.out.symm, hJ4⟩⟩
        · gi_wp2
          go_end0
          exact ⟨⟨_, rfl⟩, .inr ⟨_, ⟨2, by rw [HT.out]; rfl⟩, hJx4⟩⟩
      · gi_wp2
        go_end0
        exact ⟨⟨_, rfl⟩, .inr ⟨_, ⟨1, by rw [HT.out]; rfl⟩, hJx3⟩⟩
    · have hk1 : (K == 1) = false := by simpa using hK1
      have HT : RowKit.Hid (ixs K = []) := Lib.hid (by unfold ixs; rw [if_neg hK0, if_neg hK1])
      clear hK0 hK1 hY
      gi_wp2
      go_end0
      exact ⟨⟨_, rfl⟩, .inl ⟨_, HT.out.symm, h0⟩⟩
def CopT (W : World) (B : Nat) (x : TgV) (t : Int × List Int) : Prop := x.1 = t.1 ∧ OwnsI W B 3 (.slice x.2.1 x.2.2.1 x.2.2.2) t.2
def Cops (W : World) (B : Nat) : List TgV → List (Int × List Int) → Prop
  | [], [] => True
  | x :: l, t :: ts => CopT W B x t ∧ Cops W B l ts
  | _, _ => False
theorem Cops.len {W : World} {B : Nat} : ∀ {l : List TgV} {ts : List (Int × List Int)}, Cops W B l ts → l.length = ts.length
  | [], [], _ => rfl
  | _ :: _, _ :: _, h => by have := Cops.len h.2; simp [this]
  | [], _ :: _, h => h.elim
  | _ :: _, [], h => h.elim
theorem Cops.snoc {W : World} {B : Nat} {x : TgV} {t : Int × List Int} (hx : CopT W B x t) : ∀ {l : List TgV} {ts : List (Int × List Int)}, Cops W B l ts → Cops W B (l ++ [x]) (ts ++ [t])
  | [], [], _ => ⟨hx, trivial⟩
  | _ :: _, _ :: _, h => ⟨h.1, Cops.snoc hx h.2⟩
  | [], _ :: _, h => h.elim
  | _ :: _, [], h => h.elim
theorem Cops.at {W : World} {B : Nat} : ∀ {l : List TgV} {ts : List (Int × List Int)}, Cops W B l ts → ∀ i (h1 : i < l.length) (h2 : i < ts.length), CopT W B l[i] ts[i]
  | [], [], _, i, h1, _ => absurd h1 (by simp)
  | _ :: _, _ :: _, h, 0, _, _ => h.1
  | _ :: _, _ :: _, h, i + 1, h1, h2 => Cops.at h.2 i (by simpa using h1) (by simpa using h2)
  | [], _ :: _, h, _, _, _ => h.elim
  | _ :: _, [], h, _, _, _ => h.elim
theorem Cops.all {W W' : World} {B B' : Nat} (hk : ∀ x t, CopT W B x t → CopT W' B' x t) : ∀ {l : List TgV} {ts : List (Int × List Int)}, Cops W B l ts → Cops W' B' l ts
  | [], [], _ => trivial
  | _ :: _, _ :: _, h => ⟨hk _ _ h.1, Cops.all hk h.2⟩
  | [], _ :: _, h => h.elim
  | _ :: _, [], h => h.elim
theorem CopT.grown {W W' : World} {B : Nat} {x : TgV} {t : Int × List Int} {row : Option Nat} (h : CopT W B x t) (hg : W.grownBy W' row) (hr : ∀ r, row = some r → ∀ (C : Array Value) (m : Nat × Nat), W.heap[r]? ≠ some (.cells C 3 m)) : CopT W' B x t := by
  refine ⟨h.1, World.ownsRow.kept h.2 hg ?_⟩
  rcases h.2.2 with ⟨he, _⟩ | ⟨g, cap, cur, he, _, hgb, _⟩
  · exact .inl (by rw [he]; rfl)
  · exact .inr fun e' => hr g (by rw [← e', he]; rfl) _ _ hgb
theorem ownT_block {W : World} {B : Nat} {v : Value} {l : List TgV} (h : OwnsT W B v l) {r : Nat} (hr : v.ownBlock = some r) : ∃ C, W.heap[r]? = some (.cells C 83 (0, 0)) ∧ B ≤ r := by
  rcases h.2 with ⟨rfl, _⟩ | ⟨g, cap, cur, rfl, hB, hgb, _⟩
  · cases hr
  · cases hr; exact ⟨_, hgb, hB⟩
structure TgtSt (w W : World) (v : Value) (l : List TgV) (ts : List (Int × List Int)) : Prop where
  box : Boxed W (w.heap.size + 1) 80 v
  own : OwnsT W (w.heap.size + 3) v l
  cop : Cops W (w.heap.size + 3) l ts
  bel : Below w.heap.size w W
  siz : w.heap.size + 3 ≤ W.heap.size
theorem TgtSt.grown {w W W' : World} {v : Value} {l : List TgV} {ts : List (Int × List Int)} {row : Option Nat} (h : TgtSt w W v l ts) (hg : W.grownBy W' row) (hr : ∀ r, row = some r → w.heap.size + 3 ≤ r ∧ ∃ o : Obj, W.heap[r]? = some o ∧ o.isCells = false) : TgtSt w W' v l ts := by
  have hb : Below (w.heap.size + 3) W W' := Below.grown (Below.refl _ W) hg h.siz (fun k e => (hr k e).1)
  refine ⟨Boxed.grownRow h.box hg (fun r e => (hr r e).2), ?_, h.cop.all fun x t hx => hx.grown hg fun r e C m hC => ?_, h.bel.trans (hb.mono (by omega)), Nat.le_trans h.siz hb.size⟩
  · refine World.ownsRow.kept h.own hg ?_
    by_cases hv : v.ownBlock = none
    · exact .inl hv
    · refine .inr fun e => ?_
      obtain ⟨r, hr'⟩ := Option.ne_none_iff_exists'.1 hv
      obtain ⟨C, hC, _⟩ := ownT_block h.own hr'
      obtain ⟨o, ho, hc⟩ := (hr r (by rw [← e]; exact hr')).2
      rw [hC] at ho; cases ho; cases hc
  · obtain ⟨o, ho, hc⟩ := (hr r e).2
    rw [hC] at ho; cases ho; cases hc
theorem TgtSt.alloc {w W : World} {v : Value} {l : List TgV} {ts : List (Int × List Int)} (h : TgtSt w W v l ts) (o : Obj) : TgtSt w (W.alloc o) v l ts := h.grown (World.grownBy_alloc W o none) (fun r e => by cases e)
end Go.Proofs.YtdchhfdmingnaaaDoor

/- Layer 7: the state of the walk that tells blocks as they are left: which were met, and the way, in memory of its own, beside a consumer; its steps. -/
namespace Go.Proofs.YtdchhfdmingnaaaDoor
open Go.RowKit
set_option linter.unusedVariables false
set_option linter.unusedSimpArgs false
theorem Owns.step {B : Nat} {t : TypeId} {W W' : World} {row : Option Nat} (hg : W.grownBy W' row) (hl : Lies B t W) (hr : ∀ r, row = some r → ¬ Owns B t W r) : (∀ i, Owns B t W' i ↔ Owns B t W i) ∧ Lies B t W' := by
  have hB : B < W.heap.size := hl.lt (.inl rfl)
  have h1 : W'.heap[B]? = W.heap[B]? := hg.block B hB (fun e => hr B e.symm (.inl rfl))
  have h2 := fun i => Owns.congr (t := t) h1 i
  refine ⟨h2, fun i hi => ?_⟩
  have hi' := (h2 i).1 hi
  obtain ⟨o, ho, hc⟩ := hl i hi'
  exact ⟨o, (hg.block i (hl.lt hi') (fun e => hr i e.symm hi')).trans ho, hc⟩
theorem Owns.new {B : Nat} {t : TypeId} {W : World} (hl : Lies B t W) {k : Nat} (hk : W.heap.size ≤ k) : ¬ Owns B t W k := fun h => by have := hl.lt h; omega
section
variable {w0 : World} {X : Nat → Prop} {B : Nat} {t : TypeId} {n0 bm bw q N : Nat} {W W' : World} {vw : Value} {met way : List Int}
theorem rowW_blk {n0 : Nat} {e : TypeId} {way : List Int} (h : OwnsI W n0 e vw way) {i : Nat} (hi : vw.ownBlock = some i) : ∃ cur, W.heap[i]? = some (.cells cur e (0, 0)) ∧ n0 ≤ i := by
  rcases h.2 with ⟨e, _⟩ | ⟨g, cap, cur, e, hb, hh, _⟩
  · subst e; cases hi
  · subst e; cases hi; exact ⟨cur, hh, hb⟩
theorem row_off {v : Value} {row : Option Nat} (h : ∀ r, row = some r → v.ownBlock ≠ some r) : v.ownBlock = none ∨ v.ownBlock ≠ row := by
  cases hv : v.ownBlock with
  | none => exact .inl rfl
  | some i => exact .inr fun e => h i e.symm hv
def Marks (n0 : Nat) (W : World) (Ds : List Nat) : Prop := Ds.Nodup ∧ ∀ D ∈ Ds, W.heap[D]? = some (.deferred (some [])) ∧ n0 ≤ D
theorem Marks.kept {n0 : Nat} {W W' : World} {Ds : List Nat} {row : Option Nat} (h : Marks n0 W Ds) (hg : W.grownBy W' row) (hr : ∀ r, row = some r → r ∉ Ds) : Marks n0 W' Ds :=
  ⟨h.1, fun D hD => by
    obtain ⟨h1, h2⟩ := h.2 D hD
    exact ⟨(hg.block D (Array.getElem?_eq_some_iff.1 h1).1 (fun e => hr D e.symm hD)).trans h1, h2⟩⟩
theorem Marks.cells {n0 : Nat} {W : World} {Ds : List Nat} (h : Marks n0 W Ds) {i : Nat} {o : Obj} (hi : W.heap[i]? = some o) (ho : o.isCells = true) : i ∉ Ds := fun hm => by
  rw [(h.2 i hm).1] at hi; cases hi; cases ho
theorem Marks.since {B n0 : Nat} {t : TypeId} {W W' : World} {Ds : List Nat} (h : Marks n0 W Ds) (hk : KeepX B t W W') (hl : Lies B t W) : Marks n0 W' Ds :=
  ⟨h.1, fun D hD => by
    obtain ⟨h1, h2⟩ := h.2 D hD
    exact ⟨(hk.same D (Array.getElem?_eq_some_iff.1 h1).1 (hl.not h1 rfl)).trans h1, h2⟩⟩
theorem Marks.lt {n0 : Nat} {W : World} {Ds : List Nat} (h : Marks n0 W Ds) {D : Nat} (hD : D ∈ Ds) : D < W.heap.size := (Array.getElem?_eq_some_iff.1 (h.2 D hD).1).1
end
end Go.Proofs.YtdchhfdmingnaaaDoor

/- Layer 4: small laws that all its walks use: nothing of the program is named here. -/
namespace Go.Proofs.YtdchhfdmingnaaaDoor
open Go.RowKit (wrap64 intOf Below)
set_option linter.unusedVariables false
theorem keepN {B : Nat} {w u u' : World} (h1 : Below B w u) (hB : B ≤ w.heap.size) (h2 : Below u.heap.size u u') : Below B w u' := h1.trans (h2.mono (Nat.le_trans hB h1.size))
theorem OwnsI.nilcap {w : World} {B : Nat} {e : TypeId} {a : Option Addr} {n c : Nat} {Z : List Int} (h : OwnsI w B e (.slice a n c) Z) : a = none → c = 0 := by
  intro ha
  subst ha
  rcases h.2 with ⟨he, _⟩ | ⟨g, cap, cur, he, _⟩
  · cases he; rfl
  · cases he
theorem cell_laid2 {w w2 : World} {C0 C1 : Array Value} {t0 t1 : TypeId} (hb : Below (w.heap.size + 2) ((w.alloc (.cells C0 t0)).alloc (.cells C1 t1)) w2) :
    (∀ j, w2.cell? ⟨w.heap.size, j, none⟩ = C0[j]?) ∧ (∀ j, w2.cell? ⟨w.heap.size + 1, j, none⟩ = C1[j]?) ∧ (∀ j, w2.frozen? ⟨w.heap.size, j, none⟩ = false) ∧ (∀ j, w2.frozen? ⟨w.heap.size + 1, j, none⟩ = false) := by
  refine ⟨fun j => ?_, fun j => ?_, fun j => ?_, fun j => ?_⟩
  · rw [hb.cell (p := ⟨w.heap.size, j, none⟩) (by simp), World.cell?_alloc_lt _ _ _ (by simp), World.cell?_alloc_mark]
  · have h1 : w.heap.size + 1 = (w.alloc (.cells C0 t0)).heap.size := by simp
    rw [hb.cell (p := ⟨w.heap.size + 1, j, none⟩) (by simp), h1, World.cell?_alloc_mark]
  · rw [hb.frozen (p := ⟨w.heap.size, j, none⟩) (by simp), RowKit.frozen?_alloc_cells, World.frozen?_alloc_at _ _ _ _ rfl]
  · rw [hb.frozen (p := ⟨w.heap.size + 1, j, none⟩) (by simp), World.frozen?_alloc_at _ _ _ _ (by simp)]
end Go.Proofs.YtdchhfdmingnaaaDoor

/- Layer 4, P4.1: the document's To and All, walked: numbers by other names. -/
namespace Go.Proofs.YtdchhfdmingnaaaDoor
open Go.RowKit (wrap64 intOf Below)
set_option linter.unusedVariables false
def toV (M : List Int) (n : Int) : Int := if 0 ≤ n ∧ n < M.length then M.getD n.toNat 0 else n
end Go.Proofs.YtdchhfdmingnaaaDoor

/- Layer 4, P4.1: the document's Renamed, walked: a step of values by other names. -/
namespace Go.Proofs.YtdchhfdmingnaaaDoor
open Go.RowKit (wrap64 intOf Below)
set_option linter.unusedVariables false
def Box (u : World) (g : Nat) (P : Array Value) : Prop := (∀ j, u.cell? ⟨g, j, none⟩ = P[j]?) ∧ (∀ j, u.frozen? ⟨g, j, none⟩ = false)
theorem Box.below {u u' : World} {g B : Nat} {P : Array Value} (h : Box u g P) (hb : Below B u u') (hg : g < B) : Box u' g P :=
  ⟨fun j => by rw [hb.cell (p := ⟨g, j, none⟩) hg]; exact h.1 j, fun j => by rw [hb.frozen (p := ⟨g, j, none⟩) hg]; exact h.2 j⟩
theorem Box.other {u : World} {g g' : Nat} {P : Array Value} (h : Box u g P) (hg : g' ≠ g) (j' : Nat) (v : Value) : Box (u.setCell ⟨g', j', none⟩ v) g P :=
  ⟨fun j => (World.cell?_setCell_other (w := u) (a := ⟨g', j', none⟩) (b := ⟨g, j, none⟩) (v := v) (by intro he; cases he; exact hg rfl)).trans (h.1 j), fun j => by rw [World.frozen?_setCell]; exact h.2 j⟩
theorem Box.set {u : World} {g : Nat} {P P' : Array Value} (h : Box u g P) (j : Nat) (v : Value) (hj : j < P.size) (hP : P' = P.setIfInBounds j v) : Box (u.setCell ⟨g, j, none⟩ v) g P' := by
  subst hP
  refine ⟨fun i => ?_, fun i => by rw [World.frozen?_setCell]; exact h.2 i⟩
  by_cases hij : i = j
  · subst hij
    exact (World.cell?_setCell_same (w := u) (a := ⟨g, i, none⟩) (v := v) (u := P[i]) (by rw [h.1 i]; exact Array.getElem?_eq_getElem hj)).trans (by rw [Array.getElem?_setIfInBounds_self_of_lt hj])
  · exact (World.cell?_setCell_other (w := u) (a := ⟨g, j, none⟩) (b := ⟨g, i, none⟩) (v := v) (by intro he; cases he; exact hij rfl)).trans (by rw [h.1 i, Array.getElem?_setIfInBounds_ne (Ne.symm hij)])
theorem Box.laid {w w2 : World} {C0 C1 : Array Value} {t0 t1 : TypeId} (hb : Below (w.heap.size + 2) ((w.alloc (.cells C0 t0)).alloc (.cells C1 t1)) w2) : Box w2 w.heap.size C0 ∧ Box w2 (w.heap.size + 1) C1 := by
  obtain ⟨h1, h2, h3, h4⟩ := cell_laid2 hb
  exact ⟨⟨h1, h3⟩, ⟨h2, h4⟩⟩
structure RenSt (w : World) (u : World) (P : Array Value) (va : Option Addr) (vn vc : Nat) (Z : List Int) : Prop where
  box : Box u w.heap.size P
  res : Box u (w.heap.size + 1) #[.int .i64 0, .int .i64 0, .int .i64 0, .int .i64 0, .int .i64 0, .string ⟨#[]⟩, .slice none 0 0, .bool false]
  own : OwnsI u (w.heap.size + 2) 3 (.slice va vn vc) Z
  bel : Below w.heap.size w u
  siz : w.heap.size + 2 ≤ u.heap.size
theorem RenSt.put {w u : World} {P P' : Array Value} {va : Option Addr} {vn vc : Nat} {Z : List Int} (h : RenSt w u P va vn vc Z) (j : Nat) (v : Value) (hj : j < P.size) (hP : P' = P.setIfInBounds j v) : RenSt w (u.setCell ⟨w.heap.size, j, none⟩ v) P' va vn vc Z :=
  ⟨h.box.set j v hj hP, h.res.other (by omega) _ _, h.own.setCell _ _ (by simp), h.bel.setCell (Nat.le_refl _) _, by simpa using h.siz⟩
theorem RenSt.step {w u u' : World} {P : Array Value} {va va' : Option Addr} {vn vc vn' vc' : Nat} {Z Z' : List Int} (h : RenSt w u P va vn vc Z) (hb : Below u.heap.size u u') (ho : OwnsI u' u.heap.size 3 (.slice va' vn' vc') Z') : RenSt w u' P va' vn' vc' Z' :=
  ⟨h.box.below hb (by have := h.siz; omega), h.res.below hb (by have := h.siz; omega), ho.mono h.siz, h.bel.trans (hb.mono (by have := h.siz; omega)), Nat.le_trans h.siz hb.size⟩
end Go.Proofs.YtdchhfdmingnaaaDoor

/- A string's iterator, moved on: what stands otherwise. Nothing of the program is named here. -/
namespace Go.Proofs.YtdchhfdmingnaaaDoor
open Go.RowKit (wrap64 intOf Below)
set_option linter.unusedVariables false
structure SameBut (r : Nat) (u u' : World) : Prop where
  size : u'.heap.size = u.heap.size
  same : ∀ i, i ≠ r → u'.heap[i]? = u.heap[i]?
  bel : ∀ B, B ≤ r → Below B u u'
  cell : ∀ p : Addr, p.block ≠ r → u'.cell? p = u.cell? p
  frozen : ∀ p : Addr, p.block ≠ r → u'.frozen? p = u.frozen? p
theorem iterAt_same (u : World) (r : Nat) (s : ByteArray) (pos : Nat) : SameBut r u (u.iterAt r s pos) := by
  refine ⟨Lib.iterAt_size u r s pos, fun i hi => Lib.iterAt_other u r i s pos hi, fun B hB => Lib.below_iterAt (Below.refl B u) hB s pos, fun p hp => ?_, fun p hp => ?_⟩
  · simp only [World.cell?, Lib.iterAt_other u r p.block s pos hp]
  · simp only [World.frozen?, Lib.iterAt_other u r p.block s pos hp]
theorem Box.same {u u' : World} {r g : Nat} {P : Array Value} (h : Box u g P) (hs : SameBut r u u') (hg : g ≠ r) : Box u' g P :=
  ⟨fun j => by rw [hs.cell ⟨g, j, none⟩ hg]; exact h.1 j, fun j => by rw [hs.frozen ⟨g, j, none⟩ hg]; exact h.2 j⟩
theorem Box.new (w : World) (C : Array Value) (t : TypeId) {n : Nat} (hn : n = w.heap.size) : Box (w.alloc (.cells C t)) n C := by
  subst hn
  exact ⟨fun j => World.cell?_alloc_mark _ _ _ _ _, fun j => World.frozen?_alloc_at _ _ _ _ rfl⟩
theorem Box.alloc {u : World} {g : Nat} {P : Array Value} (h : Box u g P) (hg : g < u.heap.size) (o : Obj) : Box (u.alloc o) g P := h.below ((Below.refl u.heap.size u).alloc (Nat.le_refl _) o) hg
theorem OwnsI.same {u u' : World} {r B : Nat} {e : TypeId} {v : Value} {Z : List Int} (h : OwnsI u B e v Z) (hs : SameBut r u u') (hr : r < B) : OwnsI u' B e v Z := by
  refine ⟨h.1, ?_⟩
  rcases h.2 with hn | ⟨g, cap, cur, rfl, hg, hh, rest⟩
  · exact .inl hn
  · refine .inr ⟨g, cap, cur, rfl, hg, ?_, rest⟩
    rw [hs.same g (by omega)]
    exact hh
theorem NumsAt.same {u u' : World} {r : Nat} {a : Option Addr} {n : Nat} {Z : List Int} (h : NumsAt u a n Z) (hs : SameBut r u u') (hr : ∀ ad, a = some ad → ad.block ≠ r) : NumsAt u' a n Z := by
  refine ⟨h.1, fun hn => ?_⟩
  obtain ⟨g, off, e, hg, hc⟩ := h.2 hn
  refine ⟨g, off, e, by rw [hs.size]; exact hg, fun j hj => ?_⟩
  rw [hs.cell ⟨g, off + j, none⟩ (hr ⟨g, off, none⟩ e)]
  exact hc j hj
end Go.Proofs.YtdchhfdmingnaaaDoor

/- Layer 4, P4.1: package kind's Plain, walked: the letters are gone through one by one, and each field that plays a part is taken over. -/
namespace Go.Proofs.YtdchhfdmingnaaaDoor
open Go.RowKit (wrap64 intOf Below)
set_option linter.unusedVariables false
def hasT (K : Int) (k : Nat) (f : UInt8) : Bool := ((fieldsL K).take k).contains f
theorem hasT_zero (K : Int) (f : UInt8) : hasT K 0 f = false := by simp [hasT]
theorem letters (K : Int) : ∀ f ∈ fieldsL K, f = 78 ∨ f = 83 ∨ f = 65 ∨ f = 66 ∨ f = 67 ∨ f = 76 ∨ f = 75 := by
  rcases kinds K with h | h
  · rcases h with rfl | rfl | rfl | rfl | rfl | rfl | rfl | rfl | rfl | rfl | rfl | rfl | rfl | rfl | rfl | rfl | rfl | rfl | rfl | rfl | rfl | rfl | rfl | rfl | rfl | rfl
    all_goals decide
  · rw [fields_none h]
    intro f hf
    cases hf
def fstr (K : Int) : ByteArray := mk (fieldsL K)
def plainT (K A B C N : Int) (S : ByteArray) (T : Bool) (k : Nat) (l : Value) : Array Value := #[.int .i64 K, .int .i64 (pickI (hasT K k 65) A), .int .i64 (pickI (hasT K k 66) B), .int .i64 (pickI (hasT K k 67) C), .int .i64 (pickI (hasT K k 78) N), .string (pickS (hasT K k 83) S), l, .bool (hasT K k 75 && T)]
structure PlSt (w : World) (u : World) (K A B C N : Int) (S : ByteArray) (la : Option Addr) (ln lc : Nat) (T : Bool) (L : List Int) (k : Nat) (va : Option Addr) (vn vc : Nat) : Prop where
  inb : Box u w.heap.size #[.int .i64 K, .int .i64 A, .int .i64 B, .int .i64 C, .int .i64 N, .string S, .slice la ln lc, .bool T]
  res : Box u (w.heap.size + 1) #[.int .i64 0, .int .i64 0, .int .i64 0, .int .i64 0, .int .i64 0, .string ⟨#[]⟩, .slice none 0 0, .bool false]
  box : Box u (w.heap.size + 2) (plainT K A B C N S T k (.slice va vn vc))
  it : u.heap[w.heap.size + 3]? = some (.stringIter (fstr K) k)
  own : OwnsI u (w.heap.size + 4) 3 (.slice va vn vc) (pickL (hasT K k 76) L)
  bel : Below w.heap.size w u
  siz : w.heap.size + 4 ≤ u.heap.size
theorem PlSt.at_ {w u : World} {K A B C N : Int} {S : ByteArray} {la : Option Addr} {ln lc : Nat} {T : Bool} {L : List Int} {k : Nat} {va : Option Addr} {vn vc : Nat} (h : PlSt w u K A B C N S la ln lc T L k va vn vc) : True := trivial
structure PlMv (w : World) (u : World) (K A B C N : Int) (S : ByteArray) (la : Option Addr) (ln lc : Nat) (T : Bool) (L : List Int) (k : Nat) (va : Option Addr) (vn vc : Nat) : Prop where
  inb : Box u w.heap.size #[.int .i64 K, .int .i64 A, .int .i64 B, .int .i64 C, .int .i64 N, .string S, .slice la ln lc, .bool T]
  res : Box u (w.heap.size + 1) #[.int .i64 0, .int .i64 0, .int .i64 0, .int .i64 0, .int .i64 0, .string ⟨#[]⟩, .slice none 0 0, .bool false]
  box : Box u (w.heap.size + 2) (plainT K A B C N S T k (.slice va vn vc))
  it : u.heap[w.heap.size + 3]? = some (.stringIter (fstr K) (k + 1))
  own : OwnsI u (w.heap.size + 4) 3 (.slice va vn vc) (pickL (hasT K k 76) L)
  bel : Below w.heap.size w u
  siz : w.heap.size + 4 ≤ u.heap.size
theorem PlSt.move {w u : World} {K A B C N : Int} {S : ByteArray} {la : Option Addr} {ln lc : Nat} {T : Bool} {L : List Int} {k : Nat} {va : Option Addr} {vn vc : Nat} (h : PlSt w u K A B C N S la ln lc T L k va vn vc) :
    PlMv w (u.iterAt (w.heap.size + 3) (fstr K) (k + 1)) K A B C N S la ln lc T L k va vn vc :=
  have hs := iterAt_same u (w.heap.size + 3) (fstr K) (k + 1)
  ⟨h.inb.same hs (by omega), h.res.same hs (by omega), h.box.same hs (by omega), Lib.iterAt_heap _ _ _ _ _ h.it, h.own.same hs (by omega), h.bel.trans (hs.bel _ (by omega)), by rw [hs.size]; exact h.siz⟩
theorem heap_setCell_other {u : World} {p : Addr} {v : Value} {i : Nat} (h : i ≠ p.block) : (u.setCell p v).heap[i]? = u.heap[i]? := Below.heap_setCell u p v i h
theorem setCell_size (u : World) (p : Addr) (v : Value) : (u.setCell p v).heap.size = u.heap.size := by
  show (u.heap.modify _ _).size = _
  rw [Array.size_modify]
theorem PlMv.put {w u : World} {K A B C N : Int} {S : ByteArray} {la : Option Addr} {ln lc : Nat} {T : Bool} {L : List Int} {k : Nat} {va : Option Addr} {vn vc : Nat} (h : PlMv w u K A B C N S la ln lc T L k va vn vc)
    (j : Nat) (v : Value) (hj : j < 8) (hP : plainT K A B C N S T (k + 1) (.slice va vn vc) = (plainT K A B C N S T k (.slice va vn vc)).setIfInBounds j v) (hL : hasT K (k + 1) 76 = hasT K k 76) :
    PlSt w (u.setCell ⟨w.heap.size + 2, j, none⟩ v) K A B C N S la ln lc T L (k + 1) va vn vc :=
  ⟨h.inb.other (by omega) _ _, h.res.other (by omega) _ _, h.box.set j v hj hP, by rw [heap_setCell_other (by show w.heap.size + 3 ≠ w.heap.size + 2; omega)]; exact h.it, by rw [hL]; exact h.own.setCell _ _ (by show w.heap.size + 2 < w.heap.size + 4; omega), h.bel.setCell (by show w.heap.size ≤ w.heap.size + 2; omega) _, by rw [setCell_size]; exact h.siz⟩
theorem PlMv.putL {w u u' : World} {K A B C N : Int} {S : ByteArray} {la : Option Addr} {ln lc : Nat} {T : Bool} {L : List Int} {k : Nat} {va va' : Option Addr} {vn vc vn' vc' : Nat} (h : PlMv w u K A B C N S la ln lc T L k va vn vc)
    (hb : Below (w.heap.size + 4) u u') (ho : OwnsI u' (w.heap.size + 4) 3 (.slice va' vn' vc') L) (hP : plainT K A B C N S T (k + 1) (.slice va' vn' vc') = (plainT K A B C N S T k (.slice va vn vc)).setIfInBounds 6 (.slice va' vn' vc')) (hL : hasT K (k + 1) 76 = true) :
    PlSt w (u'.setCell ⟨w.heap.size + 2, 6, none⟩ (.slice va' vn' vc')) K A B C N S la ln lc T L (k + 1) va' vn' vc' :=
  ⟨(h.inb.below hb (by omega)).other (by omega) _ _, (h.res.below hb (by omega)).other (by omega) _ _, (h.box.below hb (by omega)).set 6 _ (by simp [plainT]) hP, by rw [heap_setCell_other (by show w.heap.size + 3 ≠ w.heap.size + 2; omega), hb.block _ (by omega)]; exact h.it, by rw [hL]; exact ho.setCell _ _ (by show w.heap.size + 2 < w.heap.size + 4; omega), (h.bel.trans (hb.mono (by omega))).setCell (by show w.heap.size ≤ w.heap.size + 2; omega) _, by rw [setCell_size]; exact Nat.le_trans h.siz hb.size⟩
section
variable {K A B C N : Int} {S : ByteArray} {T : Bool} {k : Nat} {l : Value}
theorem plainT_zero (K A B C N : Int) (S : ByteArray) (T : Bool) (l : Value) : plainT K A B C N S T 0 l = #[.int .i64 K, .int .i64 0, .int .i64 0, .int .i64 0, .int .i64 0, .string ⟨#[]⟩, l, .bool false] := by
  simp [plainT, hasT_zero, pickI, pickS]
end
theorem fstr_at {K : Int} {k : Nat} (h : k < (fieldsL K).length) (h' : k < (fstr K).size) : (fstr K)[k] = (fieldsL K)[k] := by
  show (fieldsL K).toArray[k]'(by simpa using h) = _
  rfl
end Go.Proofs.YtdchhfdmingnaaaDoor

/- Layer 4: package kind's places: where a step names the values that it is of, one by one: the contract of the iterator. -/
namespace Go.Proofs.YtdchhfdmingnaaaDoor
open Go.RowKit
set_option linter.unusedVariables false
attribute [local go_sem] Oper.semAt_some
theorem places_any (p : Option Addr) (w : World) :
    Calls Tryd.prog 58 #[.pointer p] w fun e w' => e = .returned (.func (.func 70) #[] #[.pointer (some ⟨w.heap.size, 0, none⟩)]) ∧ w' = w.alloc (.cells #[.pointer p] 106) := by
  go_enter Tryd.func58, Tryd.ntmps58
  go_wp2_with fail
  go_ret
  exact ⟨rfl, rfl⟩
theorem yield_depth {F : Fence} (hd : F.depth = none) {m m' : Nat} {P : Program} {l : Nat} {args : Array Value} {W : World} {R : Ending → World → Prop} (h : YieldAt F m P l args W R) : YieldAt F m' P l args W R :=
  have room : ∀ k, F.room k := fun k d e => nomatch hd.symm.trans e
  let ⟨fn, tmps, assign, body, hy, hR⟩ := h
  ⟨fn, tmps, assign, body, hy, hR.1, fun c cs _ => hR.2 c cs (room _)⟩
def firsts (N k : Nat) : List (Fin N) := (List.finRange N).take k
theorem firsts_len {N k : Nat} (h : k ≤ N) : (firsts N k).length = k := by simp [firsts, h]
theorem firsts_next {N k : Nat} (h : k < N) : firsts N k ++ [⟨k, h⟩] = firsts N (k + 1) := by
  unfold firsts
  rw [List.take_succ_eq_append_getElem (by simpa using h)]
  simp
def Yields (N n l : Nat) (pl : Fin N → Addr) (J Jx : List (Fin N) → World → Prop) (Kp : World → World → Prop) : Prop :=
  ∀ (k : Nat) (h : k < N) (W : World), J (firsts N k) W → YieldAt Fence.wide n Tryd.prog l #[.pointer (some (pl ⟨k, h⟩))] W fun e W' =>
    (e = .returned (.bool true) ∧ J (firsts N (k + 1)) W' ∧ Kp W W') ∨ (e = .returned (.bool false) ∧ Jx (firsts N (k + 1)) W')
set_option maxRecDepth 100000 in
set_option maxHeartbeats 2000000 in
theorem each_in (N l : Nat) (pl : Fin N → Addr) (J Jx : List (Fin N) → World → Prop) (Kp : World → World → Prop) (hKr : ∀ W, Kp W W) (hKt : ∀ {A B C : World}, Kp A B → Kp B C → Kp A C) (hY : ∀ n, Yields N n l pl J Jx Kp)
    (m g off ln lc : Nat) (la : Option Addr) (hla : 0 < ln → la = some ⟨g, off, none⟩) (hln : ln ≤ 140737488355328) (hm : m + ln ≤ N) (hpl : ∀ j (h : j < ln), pl ⟨m + j, by omega⟩ = ⟨g, off + j, none⟩) (n : Nat) (W : World) (hJ : J (firsts N m) W) :
    CallsIn Fence.wide n Tryd.prog 72 #[.slice la ln lc, .func (.yield l) #[] #[]] W fun e W' =>
      (e = .returned (.bool true) ∧ J (firsts N (m + ln)) W' ∧ Kp W W') ∨ (e = .returned (.bool false) ∧ ∃ q, q ≤ N ∧ Jx (firsts N q) W') := by
  refine callsIn_of_wp Tryd.func72 rfl trivial ?_ rfl
  simp only [Tryd.ntmps72, List.size_toArray, List.length_cons, List.length_nil, Nat.reduceAdd, Nat.reduceSub, Array.replicate_succ, Array.replicate_zero, List.push_toArray, List.append_toArray, List.nil_append, List.cons_append]
  gi_wp2
  gi_loopw [8] (fun iv wr => ∃ k : Nat, k ≤ ln ∧ iv = .int .i64 (k : Int) ∧ J (firsts N (m + k)) wr ∧ Kp W wr) (fun iv _ => ln - (intOf iv).toNat)
  case atStart => exact ⟨0, Nat.zero_le _, rfl, hJ, hKr W⟩
  case round =>
    obtain ⟨k, hk, rfl, hJs, hKs⟩ := hrel
    by_cases hlt : k < ln
    · obtain rfl := hla (by omega)
      have hy0 := hY (n - 1) (m + k) (by omega) wr hJs
      rw [hpl k hlt] at hy0
      obtain ⟨fn, tmps, assign, body, hy, hR⟩ := hy0
      gi_wp2
      refine ⟨(fun h => (nomatch h)), hR.mono ?_⟩
      rintro e W3 (⟨rfl, hJ3, hk3⟩ | ⟨rfl, hJx3⟩)
      · gi_wp2
        go_roundw
        case rel => exact ⟨k + 1, by omega, by simp, by rw [← Nat.add_assoc]; exact hJ3, hKt hKs hk3⟩
        case measure => simp [intOf]; omega
      · gi_wp2
        go_ret
        exact .inr ⟨rfl, m + k + 1, by omega, hJx3⟩
    · obtain rfl : k = ln := by omega
      gi_wp2
      go_ret
      exact .inl ⟨rfl, hJs, hKs⟩
end Go.Proofs.YtdchhfdmingnaaaDoor

/- Layer 4: package kind's places: the iterator itself: letter by letter, place by place. -/
namespace Go.Proofs.YtdchhfdmingnaaaDoor
open Go.RowKit
set_option linter.unusedVariables false
attribute [local go_sem] Oper.semAt_some
section
variable (b g off ln : Nat) (K : Int)
def placeL (f : UInt8) : List Addr := if f = 65 then [⟨b, 1, none⟩] else if f = 66 then [⟨b, 2, none⟩] else if f = 67 then [⟨b, 3, none⟩] else if f = 76 then (List.range ln).map fun j => ⟨g, off + j, none⟩ else []
def placesT (k : Nat) : List Addr := ((fieldsL K).take k).flatMap (placeL b g off ln)
def placesL : List Addr := (fieldsL K).flatMap (placeL b g off ln)
variable {b g off ln K}
theorem placesT_next {k : Nat} {f : UInt8} (hk : k < (fieldsL K).length) (hf : (fieldsL K)[k] = f) : placesT b g off ln K (k + 1) = placesT b g off ln K k ++ placeL b g off ln f := by
  unfold placesT
  rw [List.take_succ_eq_append_getElem hk, hf, List.flatMap_append]
  simp
theorem placesT_all {k : Nat} (hk : (fieldsL K).length ≤ k) : placesT b g off ln K k = placesL b g off ln K := by
  unfold placesT placesL
  rw [List.take_of_length_le hk]
theorem placesT_split (k : Nat) : ∃ r, placesL b g off ln K = placesT b g off ln K k ++ r :=
  ⟨((fieldsL K).drop k).flatMap (placeL b g off ln), by unfold placesT placesL; rw [← List.flatMap_append, List.take_append_drop]⟩
theorem places_at {k : Nat} {f : UInt8} (hk : k < (fieldsL K).length) (hf : (fieldsL K)[k] = f) :
    (placesT b g off ln K k).length + (placeL b g off ln f).length ≤ (placesL b g off ln K).length ∧
    (placesT b g off ln K (k + 1)).length = (placesT b g off ln K k).length + (placeL b g off ln f).length ∧
    ∀ j (h : j < (placeL b g off ln f).length) (h' : (placesT b g off ln K k).length + j < (placesL b g off ln K).length), (placesL b g off ln K)[(placesT b g off ln K k).length + j] = (placeL b g off ln f)[j] := by
  obtain ⟨r, hr⟩ := placesT_split (b := b) (g := g) (off := off) (ln := ln) (K := K) (k + 1)
  rw [placesT_next hk hf] at hr
  refine ⟨by rw [hr]; simp, by rw [placesT_next hk hf]; simp, fun j h h' => ?_⟩
  simp only [hr, List.append_assoc]
  rw [List.getElem_append_right (by omega), List.getElem_append_left (by omega)]
  congr 1
  omega
end
def placeF (b g off ln : Nat) (K : Int) (i : Fin (placesL b g off ln K).length) : Addr := (placesL b g off ln K)[i.1]'i.2
structure Kept (Bo b : Nat) (W W' : World) : Prop where
  walks : KeepsWalks W W'
  c0 : W'.cell? ⟨Bo, 0, none⟩ = W.cell? ⟨Bo, 0, none⟩
  c6 : W'.cell? ⟨b, 6, none⟩ = W.cell? ⟨b, 6, none⟩
theorem Kept.refl (Bo b : Nat) (W : World) : Kept Bo b W W := ⟨KeepsWalks.refl W, rfl, rfl⟩
theorem Kept.trans {Bo b : Nat} {A B C : World} (h : Kept Bo b A B) (k : Kept Bo b B C) : Kept Bo b A C := ⟨h.walks.trans k.walks, k.c0.trans h.c0, k.c6.trans h.c6⟩
theorem grown_iterAt (w : World) (k : Nat) (s : ByteArray) (pos : Nat) : w.grownBy (w.iterAt k s pos) (some k) :=
  ⟨rfl, rfl, rfl, by rw [Lib.iterAt_size]; exact Nat.le_refl _, fun i _ hi => Lib.iterAt_other w k i s pos (fun e => hi (by rw [e]))⟩
structure ItSt (u : World) (n0 Bo b : Nat) (K : Int) (la : Option Addr) (ln lc k : Nat) : Prop where
  it : u.heap[n0]? = some (.stringIter (fstr K) k)
  c0 : u.cell? ⟨Bo, 0, none⟩ = some (.pointer (some ⟨b, 0, none⟩))
  c6 : u.cell? ⟨b, 6, none⟩ = some (.slice la ln lc)
theorem ItSt.kept {u u' : World} {n0 Bo b : Nat} {K : Int} {la : Option Addr} {ln lc k : Nat} (h : ItSt u n0 Bo b K la ln lc k) (hk : Kept Bo b u u') : ItSt u' n0 Bo b K la ln lc k :=
  ⟨hk.walks.same _ _ h.it rfl, hk.c0.trans h.c0, hk.c6.trans h.c6⟩
theorem ItSt.move {u : World} {n0 Bo b : Nat} {K : Int} {la : Option Addr} {ln lc k : Nat} (h : ItSt u n0 Bo b K la ln lc k) (h0 : Bo ≠ n0) (h1 : b ≠ n0) : ItSt (u.iterAt n0 (fstr K) (k + 1)) n0 Bo b K la ln lc (k + 1) :=
  have hs := iterAt_same u n0 (fstr K) (k + 1)
  ⟨Lib.iterAt_heap _ _ _ _ _ h.it, (hs.cell ⟨Bo, 0, none⟩ h0).trans h.c0, (hs.cell ⟨b, 6, none⟩ h1).trans h.c6⟩
theorem it_end {u u' : World} {n0 Bo b : Nat} {K : Int} {la : Option Addr} {ln lc k : Nat} (hlt : k < (fieldsL K).length) (h : ItSt u n0 Bo b K la ln lc k) (h' : ItSt u' n0 Bo b K la ln lc (k + 1)) :
    k + 1 ≤ (fieldsL K).length ∧ (fieldsL K).length - u'.iterPos n0 < (fieldsL K).length - u.iterPos n0 := by
  refine ⟨hlt, ?_⟩
  simp only [World.iterPos, h.it, h'.it]
  omega
set_option maxRecDepth 100000 in
set_option maxHeartbeats 4000000 in
theorem places1_in (K : Int) (l Bo b g off ln lc : Nat) (la : Option Addr) (hla : 0 < ln → la = some ⟨g, off, none⟩) (hln : ln ≤ 140737488355328) (n : Nat)
    (J Jx : List (Fin (placesL b g off ln K).length) → World → Prop) (W : World) (hJ : AbidesFrom W.heap.size J)
    (hY : ∀ n, Yields (placesL b g off ln K).length n l (placeF b g off ln K) J Jx (Kept Bo b))
    (hft : FT W) (hc0 : W.cell? ⟨Bo, 0, none⟩ = some (.pointer (some ⟨b, 0, none⟩))) (hcK : W.cell? ⟨b, 0, none⟩ = some (.int .i64 K)) (hc6 : W.cell? ⟨b, 6, none⟩ = some (.slice la ln lc)) (h0 : J [] W) :
    CallsIn Fence.wide n Tryd.prog 70 #[.func (.yield l) #[] #[], .pointer (some ⟨Bo, 0, none⟩)] W fun e W' => (∃ v, e = .returned v) ∧
      ((∃ xs, xs = firsts (placesL b g off ln K).length (placesL b g off ln K).length ∧ J xs W') ∨ (∃ pre, (∃ q, q ≤ (placesL b g off ln K).length ∧ pre = firsts _ q) ∧ Jx pre W')) := by
  have HB : RowKit.Hid (Bo ≠ W.heap.size ∧ b ≠ W.heap.size) := Lib.hid ⟨Nat.ne_of_lt (World.block_lt_of_cell? _ _ hc0), Nat.ne_of_lt (World.block_lt_of_cell? _ _ hc6)⟩
  have HF := Lib.hid (kfields_any K W hft)
  clear hft
  refine callsIn_of_wp Tryd.func70 rfl trivial ?_ rfl
  simp only [Tryd.ntmps70, List.size_toArray, List.length_cons, List.length_nil, Nat.reduceAdd, Nat.reduceSub, Array.replicate_succ, Array.replicate_zero, List.push_toArray, List.append_toArray, List.nil_append, List.cons_append]
  gi_wp2_with (refine ⟨trivial, (fun h => (nomatch h)), ?_⟩; gi_at_call 71; refine (callsIn_wide.2 HF.out).mono ?_; rintro e w' ⟨rfl, rfl⟩)
  gi_loopw [] (fun wr => ∃ k : Nat, k ≤ (fieldsL K).length ∧ RowKit.Hid (ItSt wr W.heap.size Bo b K la ln lc k) ∧ J (firsts (placesL b g off ln K).length (placesT b g off ln K k).length) wr) (fun wr => (fieldsL K).length - wr.iterPos W.heap.size)
  case atStart =>
    refine ⟨0, Nat.zero_le _, Lib.hid ⟨World.iter_heap W (fstr K) 0, ?_, ?_⟩, ?_⟩
    · exact (((Below.refl W.heap.size W).alloc (Nat.le_refl _) (.stringIter (fstr K) 0)).cell (p := ⟨Bo, 0, none⟩) (World.block_lt_of_cell? _ _ hc0)).trans hc0
    · exact (((Below.refl W.heap.size W).alloc (Nat.le_refl _) (.stringIter (fstr K) 0)).cell (p := ⟨b, 6, none⟩) (World.block_lt_of_cell? _ _ hc6)).trans hc6
    · exact hJ [] W (W.iter (fstr K) 0) none h0 (World.grownBy_alloc W _ none) (fun r e => by cases e)
  case round =>
    obtain ⟨k, hk, HS, hJs⟩ := hrel
    have hit := HS.out.it
    by_cases hlt : k < (fieldsL K).length
    · obtain ⟨c, hg⟩ : ∃ c, (fieldsL K)[k] = c := ⟨_, rfl⟩
      have hks : k < (fstr K).size := by unfold fstr; rw [mk_size]; exact hlt
      have hgs : (fstr K)[k] = c := by rw [← hg]; exact fstr_at hlt hks
      have hlet := letters K c (by rw [← hg]; exact List.getElem_mem _)
      have hnx0 := fun ty => Lib.run_next_ascii_at (P := Tryd.prog) wr W.heap.size (fstr K) k ty hit hks (by rw [hgs]; rcases hlet with rfl | rfl | rfl | rfl | rfl | rfl | rfl <;> decide)
      rw [hgs] at hnx0
      have HU := Lib.hid (HS.out.move HB.out.1 HB.out.2)
      have hJu := hJ _ wr (wr.iterAt W.heap.size (fstr K) (k + 1)) (some W.heap.size) hJs (grown_iterAt _ _ _ _) (fun r e => by cases e; exact ⟨Nat.le_refl _, _, hit, rfl⟩)
      obtain ⟨u, hu⟩ : ∃ u, wr.iterAt W.heap.size (fstr K) (k + 1) = u := ⟨_, rfl⟩
      rw [hu] at hnx0 HU hJu
      have hat := places_at (b := b) (g := g) (off := off) (ln := ln) hlt hg
      have hcu0 := HU.out.c0
      have hcu6 := HU.out.c6
      clear hu hgs hit hks hJs
      rcases hlet with rfl | rfl | rfl | rfl | rfl | rfl | rfl
      · -- the letter N: no place
        have hnext : (placesT b g off ln K (k + 1)).length = (placesT b g off ln K k).length := by have := hat.2.1; simpa [placeL] using this
        rw [← hnext] at hJu
        clear hat hg hnext
        have HLT := Lib.hid hlt
        have HE := Lib.hid (it_end HLT.out HS.out HU.out)
        clear hlt
        gi_wp2
        go_roundw
        case rel => exact ⟨k + 1, HE.out.1, HU, hJu⟩
        case measure => exact HE.out.2
      · -- the letter S: no place
        have hnext : (placesT b g off ln K (k + 1)).length = (placesT b g off ln K k).length := by have := hat.2.1; simpa [placeL] using this
        rw [← hnext] at hJu
        clear hat hg hnext
        have HLT := Lib.hid hlt
        have HE := Lib.hid (it_end HLT.out HS.out HU.out)
        clear hlt
        gi_wp2
        go_roundw
        case rel => exact ⟨k + 1, HE.out.1, HU, hJu⟩
        case measure => exact HE.out.2
      · -- the letter A
        have hpl : placeF b g off ln K ⟨(placesT b g off ln K k).length, by have := hat.1; simp [placeL] at this; omega⟩ = ⟨b, 1, none⟩ := by have := hat.2.2 0 (by simp [placeL]) (by have := hat.1; simp [placeL] at this; omega); simpa [placeL, placeF] using this
        have hy0 := hY (n - 1) (placesT b g off ln K k).length (by have := hat.1; simp [placeL] at this; omega) u hJu
        have hnext : (placesT b g off ln K (k + 1)).length = (placesT b g off ln K k).length + 1 := by have := hat.2.1; simpa [placeL] using this
        have hle : (placesT b g off ln K k).length + 1 ≤ (placesL b g off ln K).length := by have := hat.1; simpa [placeL] using this
        rw [hpl] at hy0
        rw [← hnext] at hy0 hle
        obtain ⟨fn, tmps, assign, body, hy, hR⟩ := hy0
        clear hat hg hpl hnext
        have HLT := Lib.hid hlt
        clear hlt
        gi_wp2
        refine ⟨(fun h => (nomatch h)), hR.mono ?_⟩
        rintro e W3 (⟨rfl, hJ3, hk3⟩ | ⟨rfl, hJx3⟩)
        · have HS3 := Lib.hid (HU.out.kept hk3)
          have HE := Lib.hid (it_end HLT.out HS.out HS3.out)
          clear hk3
          gi_wp2
          go_roundw
          case rel => exact ⟨k + 1, HE.out.1, HS3, hJ3⟩
          case measure => exact HE.out.2
        · gi_wp2
          refine bodyPost_ret (results_none rfl _ _ _) rfl ?_
          exact ⟨⟨_, rfl⟩, .inr ⟨_, ⟨_, hle, rfl⟩, hJx3⟩⟩
      · -- the letter B
        have hpl : placeF b g off ln K ⟨(placesT b g off ln K k).length, by have := hat.1; simp [placeL] at this; omega⟩ = ⟨b, 2, none⟩ := by have := hat.2.2 0 (by simp [placeL]) (by have := hat.1; simp [placeL] at this; omega); simpa [placeL, placeF] using this
        have hy0 := hY (n - 1) (placesT b g off ln K k).length (by have := hat.1; simp [placeL] at this; omega) u hJu
        have hnext : (placesT b g off ln K (k + 1)).length = (placesT b g off ln K k).length + 1 := by have := hat.2.1; simpa [placeL] using this
        have hle : (placesT b g off ln K k).length + 1 ≤ (placesL b g off ln K).length := by have := hat.1; simpa [placeL] using this
        rw [hpl] at hy0
        rw [← hnext] at hy0 hle
        obtain ⟨fn, tmps, assign, body, hy, hR⟩ := hy0
        clear hat hg hpl hnext
        have HLT := Lib.hid hlt
        clear hlt
        gi_wp2
        refine ⟨(fun h => (nomatch h)), hR.mono ?_⟩
        rintro e W3 (⟨rfl, hJ3, hk3⟩ | ⟨rfl, hJx3⟩)
        · have HS3 := Lib.hid (HU.out.kept hk3)
          have HE := Lib.hid (it_end HLT.out HS.out HS3.out)
          clear hk3
          gi_wp2
          go_roundw
          case rel => exact ⟨k + 1, HE.out.1, HS3, hJ3⟩
          case measure => exact HE.out.2
        · gi_wp2
          refine bodyPost_ret (results_none rfl _ _ _) rfl ?_
          exact ⟨⟨_, rfl⟩, .inr ⟨_, ⟨_, hle, rfl⟩, hJx3⟩⟩
      · -- the letter C
        have hpl : placeF b g off ln K ⟨(placesT b g off ln K k).length, by have := hat.1; simp [placeL] at this; omega⟩ = ⟨b, 3, none⟩ := by have := hat.2.2 0 (by simp [placeL]) (by have := hat.1; simp [placeL] at this; omega); simpa [placeL, placeF] using this
        have hy0 := hY (n - 1) (placesT b g off ln K k).length (by have := hat.1; simp [placeL] at this; omega) u hJu
        have hnext : (placesT b g off ln K (k + 1)).length = (placesT b g off ln K k).length + 1 := by have := hat.2.1; simpa [placeL] using this
        have hle : (placesT b g off ln K k).length + 1 ≤ (placesL b g off ln K).length := by have := hat.1; simpa [placeL] using this
        rw [hpl] at hy0
        rw [← hnext] at hy0 hle
        obtain ⟨fn, tmps, assign, body, hy, hR⟩ := hy0
        clear hat hg hpl hnext
        have HLT := Lib.hid hlt
        clear hlt
        gi_wp2
        refine ⟨(fun h => (nomatch h)), hR.mono ?_⟩
        rintro e W3 (⟨rfl, hJ3, hk3⟩ | ⟨rfl, hJx3⟩)
        · have HS3 := Lib.hid (HU.out.kept hk3)
          have HE := Lib.hid (it_end HLT.out HS.out HS3.out)
          clear hk3
          gi_wp2
          go_roundw
          case rel => exact ⟨k + 1, HE.out.1, HS3, hJ3⟩
          case measure => exact HE.out.2
        · gi_wp2
          refine bodyPost_ret (results_none rfl _ _ _) rfl ?_
          exact ⟨⟨_, rfl⟩, .inr ⟨_, ⟨_, hle, rfl⟩, hJx3⟩⟩
      · -- the list
        have hnext : (placesT b g off ln K (k + 1)).length = (placesT b g off ln K k).length + ln := by have := hat.2.1; simpa [placeL] using this
        have hle : (placesT b g off ln K k).length + ln ≤ (placesL b g off ln K).length := by have := hat.1; simpa [placeL] using this
        have HC := Lib.hid (each_in (placesL b g off ln K).length l (placeF b g off ln K) J Jx (Kept Bo b) (Kept.refl Bo b) Kept.trans hY (placesT b g off ln K k).length g off ln lc la hla hln hle
          (fun j hj => by have := hat.2.2 j (by simpa [placeL] using hj) (by omega); simpa [placeL, placeF] using this) (n - 1) u hJu)
        rw [← hnext] at HC
        clear hat hg hnext hle
        have HLT := Lib.hid hlt
        clear hlt
        gi_wp2_with (refine ⟨trivial, (fun h => (nomatch h)), ?_⟩; gi_at_call 72; refine HC.out.mono ?_; rintro e W3 (⟨rfl, hJ3, hk3⟩ | ⟨rfl, q, hq, hJx3⟩))
        · have HS3 := Lib.hid (HU.out.kept hk3)
          have HE := Lib.hid (it_end HLT.out HS.out HS3.out)
          clear hk3
          gi_wp2
          go_roundw
          case rel => exact ⟨k + 1, HE.out.1, HS3, hJ3⟩
          case measure => exact HE.out.2
        · gi_wp2
          refine bodyPost_ret (results_none rfl _ _ _) rfl ?_
          exact ⟨⟨_, rfl⟩, .inr ⟨_, ⟨_, hq, rfl⟩, hJx3⟩⟩
      · -- the letter K: no place
        have hnext : (placesT b g off ln K (k + 1)).length = (placesT b g off ln K k).length := by have := hat.2.1; simpa [placeL] using this
        rw [← hnext] at hJu
        clear hat hg hnext
        have HLT := Lib.hid hlt
        have HE := Lib.hid (it_end HLT.out HS.out HU.out)
        clear hlt
        gi_wp2
        go_roundw
        case rel => exact ⟨k + 1, HE.out.1, HU, hJu⟩
        case measure => exact HE.out.2
    · have hks : ¬ k < (fstr K).size := by unfold fstr; rw [mk_size]; exact hlt
      have hnx0 := fun ty => Lib.run_next_end_at (P := Tryd.prog) wr W.heap.size (fstr K) k ty hit hks
      have he : (placesT b g off ln K k).length = (placesL b g off ln K).length := by rw [placesT_all (by omega)]
      rw [he] at hJs
      gi_wp2
      go_end0
      exact ⟨⟨_, rfl⟩, .inl ⟨_, rfl, hJs⟩⟩
end Go.Proofs.YtdchhfdmingnaaaDoor

/- Layer 4: the places of a step and what stands there. -/
namespace Go.Proofs.YtdchhfdmingnaaaDoor
open Go.RowKit
set_option linter.unusedVariables false
section
variable (b g off ln : Nat) (K A B C : Int) (L : List Int)
def placeV (f : UInt8) : List (Addr × Int) := if f = 65 then [(⟨b, 1, none⟩, A)] else if f = 66 then [(⟨b, 2, none⟩, B)] else if f = 67 then [(⟨b, 3, none⟩, C)] else if f = 76 then (List.range ln).map fun j => (⟨g, off + j, none⟩, nth L j) else []
def pairsL : List (Addr × Int) := (fieldsL K).flatMap (placeV b g off ln A B C L)
variable {b g off ln K A B C L}
theorem placeV_fst (f : UInt8) : (placeV b g off ln A B C L f).map (·.1) = placeL b g off ln f := by
  unfold placeV placeL
  split
  · rfl
  · split
    · rfl
    · split
      · rfl
      · split
        · simp [Function.comp_def]
        · rfl
theorem pairs_fst : (pairsL b g off ln K A B C L).map (·.1) = placesL b g off ln K := by
  unfold pairsL placesL
  rw [List.map_flatMap]
  congr 1
  funext f
  exact placeV_fst f
theorem pairs_len : (pairsL b g off ln K A B C L).length = (placesL b g off ln K).length := by rw [← pairs_fst (A := A) (B := B) (C := C) (L := L), List.length_map]
theorem range_nth {L : List Int} : ∀ {n : Nat}, L.length = n → (List.range n).map (fun j => nth L j) = L := by
  intro n h
  subst h
  apply List.ext_getElem
  · simp
  · intro i h1 h2
    simp only [List.getElem_map, List.getElem_range]
    exact nth_is h2
theorem pairs_snd (hL : L.length = ln) : (pairsL b g off ln K A B C L).map (·.2) = usesL K A B C L := by
  have hr := range_nth hL
  unfold pairsL
  rw [List.map_flatMap]
  rcases kinds K with h | h
  · rcases h with rfl | rfl | rfl | rfl | rfl | rfl | rfl | rfl | rfl | rfl | rfl | rfl | rfl | rfl | rfl | rfl | rfl | rfl | rfl | rfl | rfl | rfl | rfl | rfl | rfl | rfl
    all_goals simp [fieldsL, placeV, usesL, hasB, oneL, pickL, Function.comp_def, hr]
  · rw [fields_none h]
    simp [usesL, hasB, fields_none h, oneL, pickL]
theorem pairs_cells {u : World} {la : Option Addr} {N : Int} {S : ByteArray} {lc : Nat} {T : Bool} (hL : L.length = ln) (hla : 0 < ln → la = some ⟨g, off, none⟩) (hb : ∀ j, u.cell? ⟨b, j, none⟩ = (#[.int .i64 K, .int .i64 A, .int .i64 B, .int .i64 C, .int .i64 N, .string S, .slice la ln lc, .bool T] : Array Value)[j]?) (hat : NumsAt u la ln L) :
    ∀ x ∈ pairsL b g off ln K A B C L, u.cell? x.1 = some (numV x.2) := by
  intro x hx
  obtain ⟨f, _, hf⟩ := List.mem_flatMap.1 hx
  unfold placeV at hf
  split at hf
  · simp only [List.mem_singleton] at hf; subst hf; rw [hb]; rfl
  · split at hf
    · simp only [List.mem_singleton] at hf; subst hf; rw [hb]; rfl
    · split at hf
      · simp only [List.mem_singleton] at hf; subst hf; rw [hb]; rfl
      · split at hf
        · obtain ⟨j, hj, rfl⟩ := List.mem_map.1 hf
          rw [List.mem_range] at hj
          obtain ⟨g', off', he, _, hc⟩ := hat.2 (by omega)
          rw [hla (by omega)] at he
          cases he
          rw [hc j (by omega), nth_is (by omega)]
        · cases hf
end
def valF (b g off ln : Nat) (K A B C : Int) (L : List Int) (i : Fin (placesL b g off ln K).length) : Int := ((pairsL b g off ln K A B C L)[i.1]'(by rw [pairs_len]; exact i.2)).2
theorem pair_mem {b g off ln : Nat} {K A B C : Int} {L : List Int} (i : Fin (placesL b g off ln K).length) : (placeF b g off ln K i, valF b g off ln K A B C L i) ∈ pairsL b g off ln K A B C L := by
  have h : (pairsL b g off ln K A B C L)[i.1]'(by rw [pairs_len]; exact i.2) = (placeF b g off ln K i, valF b g off ln K A B C L i) := by
    refine Prod.ext ?_ rfl
    have := congrArg (·[i.1]?) (pairs_fst (b := b) (g := g) (off := off) (ln := ln) (K := K) (A := A) (B := B) (C := C) (L := L))
    simp only [List.getElem?_map, List.getElem?_eq_getElem (show i.1 < (pairsL b g off ln K A B C L).length by rw [pairs_len]; exact i.2), List.getElem?_eq_getElem i.2, Option.map_some, Option.some.injEq] at this
    exact this
  rw [← h]
  exact List.getElem_mem _
theorem vals_all {b g off ln : Nat} {K A B C : Int} {L : List Int} (hL : L.length = ln) : (firsts (placesL b g off ln K).length (placesL b g off ln K).length).map (valF b g off ln K A B C L) = usesL K A B C L := by
  rw [← pairs_snd (b := b) (g := g) (off := off) hL]
  apply List.ext_getElem
  · simp [firsts, pairs_len]
  · intro i h1 h2
    simp [firsts, valF]
theorem places_stops (K : Int) (Bo b g off ln lc : Nat) (la : Option Addr) (hla : 0 < ln → la = some ⟨g, off, none⟩) (hln : ln ≤ 140737488355328) (n : Nat) (w : World) (hft : FT w)
    (hc0 : w.cell? ⟨Bo, 0, none⟩ = some (.pointer (some ⟨b, 0, none⟩))) (hcK : w.cell? ⟨b, 0, none⟩ = some (.int .i64 K)) (hc6 : w.cell? ⟨b, 6, none⟩ = some (.slice la ln lc)) :
    SeqStopsK Fence.wide n Tryd.prog 70 #[.pointer (some ⟨Bo, 0, none⟩)] (fun i : Fin (placesL b g off ln K).length => #[Value.pointer (some (placeF b g off ln K i))]) (Kept Bo b)
      (fun xs => xs = firsts (placesL b g off ln K).length (placesL b g off ln K).length) (fun pre => ∃ q, q ≤ (placesL b g off ln K).length ∧ pre = firsts _ q) (placesL b g off ln K).length w := by
  intro l J Jx W hW hJ hJx hY h0
  refine places1_in K l Bo b g off ln lc la hla hln n J Jx W hJ (fun m k h W1 hj => ?_) (hft.since hW) ((hW.cell (p := ⟨Bo, 0, none⟩) (World.block_lt_of_cell? _ _ hc0)).trans hc0) ((hW.cell (p := ⟨b, 0, none⟩) (World.block_lt_of_cell? _ _ hcK)).trans hcK) ((hW.cell (p := ⟨b, 6, none⟩) (World.block_lt_of_cell? _ _ hc6)).trans hc6) h0
  have := hY (firsts _ k) ⟨k, h⟩ W1 hj (by rw [firsts_len (Nat.le_of_lt h)]; exact h)
  rw [firsts_next h] at this
  exact yield_depth rfl this
end Go.Proofs.YtdchhfdmingnaaaDoor

/- Layer 4, P4.3: package kind's Type, walked. -/
namespace Go.Proofs.YtdchhfdmingnaaaDoor
open Go.RowKit (wrap64 intOf Below)
set_option linter.unusedVariables false
def typB (n : Nat) (t : Int) : Bool := decide ((0 ≤ t ∧ t ≤ 5) ∨ (6 ≤ t ∧ t - 6 < n))
theorem typB_yes {n : Nat} {t : Int} (h : (0 ≤ t ∧ t ≤ 5) ∨ (6 ≤ t ∧ t - 6 < n)) : typB n t = true := decide_eq_true h
theorem typB_no {n : Nat} {t : Int} (h : ¬ ((0 ≤ t ∧ t ≤ 5) ∨ (6 ≤ t ∧ t - 6 < n))) : typB n t = false := decide_eq_false h
end Go.Proofs.YtdchhfdmingnaaaDoor

/- Layer 4, P4.3: what stands on layer 1: which signs there are (as in layer 1's own texts); among and sign of package kind. -/
namespace Go.Proofs.YtdchhfdmingnaaaDoor
open Go.RowKit (wrap64 intOf Below)
set_option linter.unusedVariables false
def tlV (s : Int) : Int := if 0 ≤ s ∧ s ≤ 13 then (if 10 ≤ s then 1 else 0) else -1
theorem rt_any (s : Int) (w : World) :
    Calls Tryd.prog 78 #[.int .i64 s] w fun e w' => e = .returned (.int .i64 (tlV s)) ∧ w = w' := by
  rcases (show s < 0 ∨ 13 < s ∨ (10 ≤ s ∧ s ≤ 13) ∨ (0 ≤ s ∧ s < 10) by omega) with h | h | h | h
  · have e1 : tlV s = -1 := by unfold tlV; rw [if_neg (by omega)]
    rw [e1]
    clear e1
    go_enter Tryd.func78, Tryd.ntmps78
    go_wp2
    go_ret
    exact ⟨rfl, rfl⟩
  · have e1 : tlV s = -1 := by unfold tlV; rw [if_neg (by omega)]
    rw [e1]
    clear e1
    go_enter Tryd.func78, Tryd.ntmps78
    go_wp2
    go_ret
    exact ⟨rfl, rfl⟩
  · have e1 : tlV s = 1 := by unfold tlV; rw [if_pos (by omega), if_pos (by omega)]
    rw [e1]
    clear e1
    go_enter Tryd.func78, Tryd.ntmps78
    go_wp2
    go_ret
    exact ⟨rfl, rfl⟩
  · have e1 : tlV s = 0 := by unfold tlV; rw [if_pos (by omega), if_neg (by omega)]
    rw [e1]
    clear e1
    go_enter Tryd.func78, Tryd.ntmps78
    go_wp2
    go_ret
    exact ⟨rfl, rfl⟩
def kinB (n m : Int) : Bool := decide (0 ≤ n ∧ n < m)
end Go.Proofs.YtdchhfdmingnaaaDoor

/- Layer 4, P4.3: package kind's are, match (with the library's EqualFunc at its closure), pointer, walked. -/
namespace Go.Proofs.YtdchhfdmingnaaaDoor
open Go.RowKit (wrap64 intOf Below)
set_option linter.unusedVariables false
def tyAt (ts : List Int) (v : Int) : Int := nth ts v.toNat
def Among (vs : List Int) (n : Nat) : Prop := ∀ v ∈ vs, 0 ≤ v ∧ v < (n : Int)
theorem NumsAt.type {w : World} {a : Option Addr} {n : Nat} {ts : List Int} (h : NumsAt w a n ts) {v : Int} (hv : 0 ≤ v ∧ v < (n : Int)) : ∃ (g off k : Nat), a = some ⟨g, off, none⟩ ∧ v = (k : Int) ∧ k < n ∧ w.cell? ⟨g, off + k, none⟩ = some (.int .i64 (tyAt ts v)) := by
  obtain ⟨k, rfl⟩ := Int.eq_ofNat_of_zero_le hv.1
  have hk : k < n := by omega
  obtain ⟨g, off, e, _, hc⟩ := h.2 (by omega)
  refine ⟨g, off, k, e, rfl, hk, ?_⟩
  have hl := h.1
  rw [hc k (by omega)]
  show some (Value.int .i64 _) = _
  rw [show tyAt ts (k : Int) = nth ts k from rfl, nth_is (by omega)]
def ptrB (n : Nat) (t : Int) : Bool := decide (6 ≤ t ∧ t - 6 < n)
end Go.Proofs.YtdchhfdmingnaaaDoor

/- Layer 4, P4.3: package kind's field and call, walked: what they read of a program. -/
namespace Go.Proofs.YtdchhfdmingnaaaDoor
open Go.RowKit (wrap64 intOf Below)
set_option linter.unusedVariables false
structure ProgAt (W : World) (g : Nat) (sa : Option Addr) (sn sc : Nat) (ca : Option Addr) (cn cc : Nat) (fa : Option Addr) (fn fc : Nat) (P : ProgD) : Prop where
  c0 : W.cell? ⟨g, 0, none⟩ = some (.slice sa sn sc)
  c1 : W.cell? ⟨g, 1, none⟩ = some (.slice ca cn cc)
  c2 : W.cell? ⟨g, 2, none⟩ = some (.slice fa fn fc)
  s : RowV SigQ 2 W (.slice sa sn sc) P.sigs
  c : RowV ClassQ 2 W (.slice ca cn cc) P.classes
  f : RowV FuncQ 2 W (.slice fa fn fc) P.funcs
theorem ProgAt.since {W W' : World} {g : Nat} {sa : Option Addr} {sn sc : Nat} {ca : Option Addr} {cn cc : Nat} {fa : Option Addr} {fn fc : Nat} {P : ProgD} (h : ProgAt W g sa sn sc ca cn cc fa fn fc P) (hb : Below W.heap.size W W') : ProgAt W' g sa sn sc ca cn cc fa fn fc P :=
  ⟨(hb.cell (p := ⟨g, 0, none⟩) (World.block_lt_of_cell? _ _ h.c0)).trans h.c0, (hb.cell (p := ⟨g, 1, none⟩) (World.block_lt_of_cell? _ _ h.c1)).trans h.c1, (hb.cell (p := ⟨g, 2, none⟩) (World.block_lt_of_cell? _ _ h.c2)).trans h.c2, h.s.since SigQ.lasts hb, h.c.since ClassQ.lasts hb, h.f.since FuncQ.lasts hb⟩
theorem RowV.len {α : Type} {Q : World → List Value → α → Prop} {k : Nat} {W : World} {a : Option Addr} {n c : Nat} {xs : List α} (h : RowV Q k W (.slice a n c) xs) : xs.length = n ∧ n ≤ 140737488351232 := by
  obtain ⟨a', n', c', e, hl, _, hm, _⟩ := h
  cases e
  exact ⟨hl, hm⟩
theorem RowV.elem {α : Type} {Q : World → List Value → α → Prop} {k : Nat} {W : World} {a : Option Addr} {n c : Nat} {xs : List α} (h : RowV Q k W (.slice a n c) xs) {i : Nat} (hi : i < n) :
    ∃ (g off : Nat) (cs : List Value) (hx : i < xs.length), a = some ⟨g, off, none⟩ ∧ cs.length = k ∧ (∀ j (hj : j < cs.length), W.cell? ⟨g, off + i * k + j, none⟩ = some cs[j]) ∧ Q W cs xs[i] := by
  obtain ⟨a', n', c', e, hl, _, hm, hc⟩ := h
  cases e
  obtain ⟨g, off, ea, _, hat⟩ := hc (by omega)
  obtain ⟨cs, h1, h2, h3⟩ := hat i (by omega)
  exact ⟨g, off, cs, by omega, ea, h1, h2, h3⟩
def fieldsOf (P : ProgD) (k : Nat) : List Int := match P.classes[k]? with | some c => c.fields | none => []
def fieldS (P : ProgD) (t n : Int) : Int × Bool := if 6 ≤ t ∧ t - 6 < P.classes.length then (if 0 ≤ n ∧ n < (fieldsOf P (t - 6).toNat).length then (nth (fieldsOf P (t - 6).toNat) n.toNat, true) else (-1, false)) else (-1, false)
def paramsOf (F : FuncD) : List Int := match F.blocks with | b :: _ => b.params | [] => []
end Go.Proofs.YtdchhfdmingnaaaDoor

/- Layer 4, P4.3, plain: what the chapter's table says of a step whose values are of the types l. -/
namespace Go.Proofs.YtdchhfdmingnaaaDoor
open Go.RowKit (wrap64 intOf Below)
set_option linter.unusedVariables false
def sigOf (P : ProgD) (k : Nat) : SigD := match P.sigs[k]? with | some s => s | none => ⟨[], 0⟩
def funcOf (P : ProgD) (k : Nat) : FuncD := match P.funcs[k]? with | some f => f | none => ⟨0, []⟩
def rowS (P : ProgD) (K N : Int) (S : ByteArray) (l : List Int) : Int × Bool :=
  if K = 0 then (0, true) else if K = 1 then (1, N == 0 || N == 1) else if K = 2 then (2, decide (S.size ≤ 64)) else
  if K = 3 then (tlV N, decide (0 ≤ N ∧ N ≤ 13) && sameB l [0, 0]) else if K = 4 then (1, sameB l [1]) else if K = 5 then (2, sameB l [2, 2]) else
  if K = 6 then (0, sameB l [2]) else if K = 7 then (0, sameB l [2, 0]) else if K = 8 then (1, sameB l [2, 2]) else
  if K = 9 then (if 0 ≤ N ∧ N < P.classes.length then (6 + N, sameB l (fieldsOf P N.toNat)) else (-1, false)) else
  if K = 10 then fieldS P (nth l 0) N else
  if K = 11 then (-1, (fieldS P (nth l 0) N).2 && (nth l 1 == (fieldS P (nth l 0) N).1)) else
  if K = 12 then (3, decide (0 ≤ N ∧ N ≤ 128)) else if K = 13 then (3, sameB l [0]) else if K = 14 then (0, sameB l [3]) else if K = 15 then (0, sameB l [3, 0]) else
  if K = 16 then (-1, sameB l [3, 0, 0]) else if K = 17 then (4, true) else if K = 18 then (-1, sameB l [4, 0, 0]) else if K = 19 then (0, sameB l [4, 0]) else
  if K = 20 then (0, sameB l [4]) else if K = 21 then (0, sameB l [4, 0]) else if K = 22 then (5, ptrB P.classes.length (nth l 0)) else
  if K = 23 then (if 0 ≤ N ∧ N < P.funcs.length ∧ (funcOf P N.toNat).blocks.length ≠ 0 then ((funcOf P N.toNat).ret, sameB l (paramsOf (funcOf P N.toNat))) else (-1, false)) else
  if K = 24 then (if 0 ≤ N ∧ N < P.sigs.length then ((sigOf P N.toNat).ret, nth l 0 == 5 && sameB (l.drop 1) (sigOf P N.toNat).params) else (-1, false)) else
  if K = 25 then (-1, sameB l [0] || sameB l [2]) else (-1, false)
def RowPost (r : Int × Bool) (w : World) (e : Ending) (w' : World) : Prop := ∃ t, e = .returned (.tuple #[.int .i64 t, .bool r.2]) ∧ (r.2 = true → t = r.1) ∧ Below w.heap.size w w'
theorem sameB_one (x y : Int) : sameB [x] [y] = (x == y) := by
  rw [Bool.eq_iff_iff]; simp [sameB]
theorem below2 (w : World) (C0 C1 : Array Value) (t0 t1 : TypeId) : Below w.heap.size w ((w.alloc (.cells C0 t0)).alloc (.cells C1 t1)) := ((Below.refl w.heap.size w).alloc (Nat.le_refl _) _).alloc (by simp) _
theorem below1 (w : World) (C0 : Array Value) (t0 : TypeId) : Below w.heap.size w (w.alloc (.cells C0 t0)) := (Below.refl w.heap.size w).alloc (Nat.le_refl _) _
theorem nums_laid {w : World} {e : TypeId} {n0 : Nat} (n : Nat) (Z : List Int) (C : Array Value) (hC : C = (Z.map numV).toArray) (hn : Z.length = n) (h0 : n0 = w.heap.size) : NumsAt (w.alloc (.cells C e)) (some ⟨n0, 0, none⟩) n Z := by
  subst hC hn h0
  refine ⟨rfl, fun _ => ⟨w.heap.size, 0, rfl, by simp, fun j hj => ?_⟩⟩
  rw [Nat.zero_add, World.cell?_alloc_mark]
  simp [hj]
theorem tyAt_mem {ts : List Int} {n : Nat} (hl : ts.length = n) {v : Int} (hv : 0 ≤ v ∧ v < (n : Int)) : tyAt ts v ∈ ts := by
  unfold tyAt
  rw [nth_is (by omega)]
  exact List.getElem_mem _
theorem _root_.Go.RowKit.Below.drewq {B : Nat} {w w' : World} (h : Below B w w') (q : Nat) : Below B w (w'.drewN q) := h.trans ⟨rfl, rfl, rfl, Nat.le_refl _, fun _ _ => rfl⟩
end Go.Proofs.YtdchhfdmingnaaaDoor

/- Layer 5, plain: which program bytes are, or why none (P5.2). Nothing of the program is named here. -/
namespace Go.Proofs.YtdchhfdmingnaaaDoor
set_option linter.unusedVariables false
inductive PR (α : Type) where
  | no (e : Int)
  | ok (x : α) (rest : List UInt8)
def PR.bind {α β : Type} (p : PR α) (f : α → List UInt8 → PR β) : PR β := match p with | .no e => .no e | .ok x r => f x r
def rdNum (L : List UInt8) : PR Int := if (takeL L 0 0).2.2 = 0 then .ok (takeL L 0 0).1 (L.drop (takeL L 0 0).2.1) else .no (takeL L 0 0).2.2
def rdBelow (bound : Int) (L : List UInt8) : PR Int := (rdNum L).bind fun n r => if 0 ≤ n ∧ n < bound then .ok n r else .no 4
def rdCount (most : Nat) (L : List UInt8) : PR Nat := (rdNum L).bind fun n r => if n < 0 then .no 4 else if (most : Int) < n then .no 2 else .ok n.toNat r
def rdTimes {α : Type} (f : List UInt8 → PR α) : Nat → List UInt8 → PR (List α)
  | 0, L => .ok [] L
  | n + 1, L => (f L).bind fun x r => (rdTimes f n r).bind fun xs r' => .ok (x :: xs) r'
def rdList {α : Type} (most : Nat) (f : List UInt8 → PR α) (L : List UInt8) : PR (List α) := (rdCount most L).bind fun n r => rdTimes f n r
def rdNums (most : Nat) (L : List UInt8) : PR (List Int) := rdList most rdNum L
theorem rdTimes_more {α : Type} (f : List UInt8 → PR α) : ∀ (n : Nat) (L : List UInt8), rdTimes f (n + 1) L = (rdTimes f n L).bind fun xs r => (f r).bind fun x r' => .ok (xs ++ [x]) r'
  | 0, L => by
    simp only [rdTimes, PR.bind]
    cases f L <;> rfl
  | n + 1, L => by
    have ih := rdTimes_more f n
    rw [show rdTimes f (n + 1 + 1) L = (f L).bind fun x r => (rdTimes f (n + 1) r).bind fun xs r' => .ok (x :: xs) r' from rfl]
    rw [show rdTimes f (n + 1) L = (f L).bind fun x r => (rdTimes f n r).bind fun xs r' => .ok (x :: xs) r' from rfl]
    cases hf : f L with
    | no e => rfl
    | ok x r =>
      simp only [PR.bind] at ih ⊢
      rw [ih r]
      cases rdTimes f n r with
      | no e => rfl
      | ok xs r' =>
        simp only
        cases f r' <;> rfl
end Go.Proofs.YtdchhfdmingnaaaDoor

/- Layer 5, plain: which end bytes begin with (P5.1, P5.2). Nothing of the program is named here. -/
namespace Go.Proofs.YtdchhfdmingnaaaDoor
set_option linter.unusedVariables false
def rdTarget (L : List UInt8) : PR (Int × List Int) := (rdNum L).bind fun t r => (rdNums 8 r).bind fun Z r' => .ok (t, Z) r'
end Go.Proofs.YtdchhfdmingnaaaDoor

/- Layer 4, P4.3: the document's wants and result, walked at the kinds that ask for types alone. (Its text: by wip/gen/refres.py.) -/
namespace Go.Proofs.YtdchhfdmingnaaaDoor
open Go.RowKit (wrap64 intOf Below)
set_option linter.unusedVariables false
theorem wants_0 (w : World) : Calls Tryd.prog 77 #[.int .i64 0] w fun e w' => e = .returned (.tuple #[.slice (some ⟨w.heap.size, 0, none⟩) 0 0, .int .i64 0, .bool true]) ∧ w' = w.alloc (.cells #[] 3) := by
  go_enter Tryd.func77, Tryd.ntmps77
  go_wp2
  exact bodyPost_ret (v := .tuple #[.slice (some ⟨w.heap.size, 0, none⟩) 0 0, .int .i64 0, .bool true]) (by simp [results, Tryd.results77, go_sem]) rfl ⟨rfl, rfl⟩
theorem wants_1 (w : World) : Calls Tryd.prog 77 #[.int .i64 1] w fun e w' => e = .returned (.tuple #[.slice (some ⟨w.heap.size, 0, none⟩) 0 0, .int .i64 1, .bool true]) ∧ w' = w.alloc (.cells #[] 3) := by
  go_enter Tryd.func77, Tryd.ntmps77
  go_wp2
  exact bodyPost_ret (v := .tuple #[.slice (some ⟨w.heap.size, 0, none⟩) 0 0, .int .i64 1, .bool true]) (by simp [results, Tryd.results77, go_sem]) rfl ⟨rfl, rfl⟩
theorem wants_2 (w : World) : Calls Tryd.prog 77 #[.int .i64 2] w fun e w' => e = .returned (.tuple #[.slice (some ⟨w.heap.size, 0, none⟩) 0 0, .int .i64 2, .bool true]) ∧ w' = w.alloc (.cells #[] 3) := by
  go_enter Tryd.func77, Tryd.ntmps77
  go_wp2
  exact bodyPost_ret (v := .tuple #[.slice (some ⟨w.heap.size, 0, none⟩) 0 0, .int .i64 2, .bool true]) (by simp [results, Tryd.results77, go_sem]) rfl ⟨rfl, rfl⟩
theorem wants_12 (w : World) : Calls Tryd.prog 77 #[.int .i64 12] w fun e w' => e = .returned (.tuple #[.slice (some ⟨w.heap.size, 0, none⟩) 0 0, .int .i64 3, .bool true]) ∧ w' = w.alloc (.cells #[] 3) := by
  go_enter Tryd.func77, Tryd.ntmps77
  go_wp2
  exact bodyPost_ret (v := .tuple #[.slice (some ⟨w.heap.size, 0, none⟩) 0 0, .int .i64 3, .bool true]) (by simp [results, Tryd.results77, go_sem]) rfl ⟨rfl, rfl⟩
theorem wants_17 (w : World) : Calls Tryd.prog 77 #[.int .i64 17] w fun e w' => e = .returned (.tuple #[.slice (some ⟨w.heap.size, 0, none⟩) 0 0, .int .i64 4, .bool true]) ∧ w' = w.alloc (.cells #[] 3) := by
  go_enter Tryd.func77, Tryd.ntmps77
  go_wp2
  exact bodyPost_ret (v := .tuple #[.slice (some ⟨w.heap.size, 0, none⟩) 0 0, .int .i64 4, .bool true]) (by simp [results, Tryd.results77, go_sem]) rfl ⟨rfl, rfl⟩
theorem wants_4 (w : World) : Calls Tryd.prog 77 #[.int .i64 4] w fun e w' => e = .returned (.tuple #[.slice (some ⟨w.heap.size, 0, none⟩) 1 1, .int .i64 1, .bool true]) ∧ w' = w.alloc (.cells #[.int .i64 1] 3) := by
  go_enter Tryd.func77, Tryd.ntmps77
  go_wp2
  exact bodyPost_ret (v := .tuple #[.slice (some ⟨w.heap.size, 0, none⟩) 1 1, .int .i64 1, .bool true]) (by simp [results, Tryd.results77, go_sem]) rfl ⟨rfl, rfl⟩
theorem wants_5 (w : World) : Calls Tryd.prog 77 #[.int .i64 5] w fun e w' => e = .returned (.tuple #[.slice (some ⟨w.heap.size, 0, none⟩) 2 2, .int .i64 2, .bool true]) ∧ w' = w.alloc (.cells #[.int .i64 2, .int .i64 2] 3) := by
  go_enter Tryd.func77, Tryd.ntmps77
  go_wp2
  exact bodyPost_ret (v := .tuple #[.slice (some ⟨w.heap.size, 0, none⟩) 2 2, .int .i64 2, .bool true]) (by simp [results, Tryd.results77, go_sem]) rfl ⟨rfl, rfl⟩
theorem wants_8 (w : World) : Calls Tryd.prog 77 #[.int .i64 8] w fun e w' => e = .returned (.tuple #[.slice (some ⟨w.heap.size, 0, none⟩) 2 2, .int .i64 1, .bool true]) ∧ w' = w.alloc (.cells #[.int .i64 2, .int .i64 2] 3) := by
  go_enter Tryd.func77, Tryd.ntmps77
  go_wp2
  exact bodyPost_ret (v := .tuple #[.slice (some ⟨w.heap.size, 0, none⟩) 2 2, .int .i64 1, .bool true]) (by simp [results, Tryd.results77, go_sem]) rfl ⟨rfl, rfl⟩
theorem wants_6 (w : World) : Calls Tryd.prog 77 #[.int .i64 6] w fun e w' => e = .returned (.tuple #[.slice (some ⟨w.heap.size, 0, none⟩) 1 1, .int .i64 0, .bool true]) ∧ w' = w.alloc (.cells #[.int .i64 2] 3) := by
  go_enter Tryd.func77, Tryd.ntmps77
  go_wp2
  exact bodyPost_ret (v := .tuple #[.slice (some ⟨w.heap.size, 0, none⟩) 1 1, .int .i64 0, .bool true]) (by simp [results, Tryd.results77, go_sem]) rfl ⟨rfl, rfl⟩
theorem wants_7 (w : World) : Calls Tryd.prog 77 #[.int .i64 7] w fun e w' => e = .returned (.tuple #[.slice (some ⟨w.heap.size, 0, none⟩) 2 2, .int .i64 0, .bool true]) ∧ w' = w.alloc (.cells #[.int .i64 2, .int .i64 0] 3) := by
  go_enter Tryd.func77, Tryd.ntmps77
  go_wp2
  exact bodyPost_ret (v := .tuple #[.slice (some ⟨w.heap.size, 0, none⟩) 2 2, .int .i64 0, .bool true]) (by simp [results, Tryd.results77, go_sem]) rfl ⟨rfl, rfl⟩
theorem wants_13 (w : World) : Calls Tryd.prog 77 #[.int .i64 13] w fun e w' => e = .returned (.tuple #[.slice (some ⟨w.heap.size, 0, none⟩) 1 1, .int .i64 3, .bool true]) ∧ w' = w.alloc (.cells #[.int .i64 0] 3) := by
  go_enter Tryd.func77, Tryd.ntmps77
  go_wp2
  exact bodyPost_ret (v := .tuple #[.slice (some ⟨w.heap.size, 0, none⟩) 1 1, .int .i64 3, .bool true]) (by simp [results, Tryd.results77, go_sem]) rfl ⟨rfl, rfl⟩
theorem wants_14 (w : World) : Calls Tryd.prog 77 #[.int .i64 14] w fun e w' => e = .returned (.tuple #[.slice (some ⟨w.heap.size, 0, none⟩) 1 1, .int .i64 0, .bool true]) ∧ w' = w.alloc (.cells #[.int .i64 3] 3) := by
  go_enter Tryd.func77, Tryd.ntmps77
  go_wp2
  exact bodyPost_ret (v := .tuple #[.slice (some ⟨w.heap.size, 0, none⟩) 1 1, .int .i64 0, .bool true]) (by simp [results, Tryd.results77, go_sem]) rfl ⟨rfl, rfl⟩
theorem wants_15 (w : World) : Calls Tryd.prog 77 #[.int .i64 15] w fun e w' => e = .returned (.tuple #[.slice (some ⟨w.heap.size, 0, none⟩) 2 2, .int .i64 0, .bool true]) ∧ w' = w.alloc (.cells #[.int .i64 3, .int .i64 0] 3) := by
  go_enter Tryd.func77, Tryd.ntmps77
  go_wp2
  exact bodyPost_ret (v := .tuple #[.slice (some ⟨w.heap.size, 0, none⟩) 2 2, .int .i64 0, .bool true]) (by simp [results, Tryd.results77, go_sem]) rfl ⟨rfl, rfl⟩
theorem wants_16 (w : World) : Calls Tryd.prog 77 #[.int .i64 16] w fun e w' => e = .returned (.tuple #[.slice (some ⟨w.heap.size, 0, none⟩) 3 3, .int .i64 (-1), .bool true]) ∧ w' = w.alloc (.cells #[.int .i64 3, .int .i64 0, .int .i64 0] 3) := by
  go_enter Tryd.func77, Tryd.ntmps77
  go_wp2
  exact bodyPost_ret (v := .tuple #[.slice (some ⟨w.heap.size, 0, none⟩) 3 3, .int .i64 (-1), .bool true]) (by simp [results, Tryd.results77, go_sem]) rfl ⟨rfl, rfl⟩
theorem wants_18 (w : World) : Calls Tryd.prog 77 #[.int .i64 18] w fun e w' => e = .returned (.tuple #[.slice (some ⟨w.heap.size, 0, none⟩) 3 3, .int .i64 (-1), .bool true]) ∧ w' = w.alloc (.cells #[.int .i64 4, .int .i64 0, .int .i64 0] 3) := by
  go_enter Tryd.func77, Tryd.ntmps77
  go_wp2
  exact bodyPost_ret (v := .tuple #[.slice (some ⟨w.heap.size, 0, none⟩) 3 3, .int .i64 (-1), .bool true]) (by simp [results, Tryd.results77, go_sem]) rfl ⟨rfl, rfl⟩
theorem wants_19 (w : World) : Calls Tryd.prog 77 #[.int .i64 19] w fun e w' => e = .returned (.tuple #[.slice (some ⟨w.heap.size, 0, none⟩) 2 2, .int .i64 0, .bool true]) ∧ w' = w.alloc (.cells #[.int .i64 4, .int .i64 0] 3) := by
  go_enter Tryd.func77, Tryd.ntmps77
  go_wp2
  exact bodyPost_ret (v := .tuple #[.slice (some ⟨w.heap.size, 0, none⟩) 2 2, .int .i64 0, .bool true]) (by simp [results, Tryd.results77, go_sem]) rfl ⟨rfl, rfl⟩
theorem wants_21 (w : World) : Calls Tryd.prog 77 #[.int .i64 21] w fun e w' => e = .returned (.tuple #[.slice (some ⟨w.heap.size, 0, none⟩) 2 2, .int .i64 0, .bool true]) ∧ w' = w.alloc (.cells #[.int .i64 4, .int .i64 0] 3) := by
  go_enter Tryd.func77, Tryd.ntmps77
  go_wp2
  exact bodyPost_ret (v := .tuple #[.slice (some ⟨w.heap.size, 0, none⟩) 2 2, .int .i64 0, .bool true]) (by simp [results, Tryd.results77, go_sem]) rfl ⟨rfl, rfl⟩
theorem wants_20 (w : World) : Calls Tryd.prog 77 #[.int .i64 20] w fun e w' => e = .returned (.tuple #[.slice (some ⟨w.heap.size, 0, none⟩) 1 1, .int .i64 0, .bool true]) ∧ w' = w.alloc (.cells #[.int .i64 4] 3) := by
  go_enter Tryd.func77, Tryd.ntmps77
  go_wp2
  exact bodyPost_ret (v := .tuple #[.slice (some ⟨w.heap.size, 0, none⟩) 1 1, .int .i64 0, .bool true]) (by simp [results, Tryd.results77, go_sem]) rfl ⟨rfl, rfl⟩
theorem wants_3 (w : World) : Calls Tryd.prog 77 #[.int .i64 3] w fun e w' => e = .returned (.tuple #[.slice none 0 0, .int .i64 (-1), .bool false]) ∧ w' = w := by
  go_enter Tryd.func77, Tryd.ntmps77
  go_wp2
  exact bodyPost_ret (v := .tuple #[.slice none 0 0, .int .i64 (-1), .bool false]) (by simp [results, Tryd.results77, go_sem]) rfl ⟨rfl, rfl⟩
theorem wants_9 (w : World) : Calls Tryd.prog 77 #[.int .i64 9] w fun e w' => e = .returned (.tuple #[.slice none 0 0, .int .i64 (-1), .bool false]) ∧ w' = w := by
  go_enter Tryd.func77, Tryd.ntmps77
  go_wp2
  exact bodyPost_ret (v := .tuple #[.slice none 0 0, .int .i64 (-1), .bool false]) (by simp [results, Tryd.results77, go_sem]) rfl ⟨rfl, rfl⟩
theorem wants_10 (w : World) : Calls Tryd.prog 77 #[.int .i64 10] w fun e w' => e = .returned (.tuple #[.slice none 0 0, .int .i64 (-1), .bool false]) ∧ w' = w := by
  go_enter Tryd.func77, Tryd.ntmps77
  go_wp2
  exact bodyPost_ret (v := .tuple #[.slice none 0 0, .int .i64 (-1), .bool false]) (by simp [results, Tryd.results77, go_sem]) rfl ⟨rfl, rfl⟩
theorem wants_11 (w : World) : Calls Tryd.prog 77 #[.int .i64 11] w fun e w' => e = .returned (.tuple #[.slice none 0 0, .int .i64 (-1), .bool false]) ∧ w' = w := by
  go_enter Tryd.func77, Tryd.ntmps77
  go_wp2
  exact bodyPost_ret (v := .tuple #[.slice none 0 0, .int .i64 (-1), .bool false]) (by simp [results, Tryd.results77, go_sem]) rfl ⟨rfl, rfl⟩
theorem wants_22 (w : World) : Calls Tryd.prog 77 #[.int .i64 22] w fun e w' => e = .returned (.tuple #[.slice none 0 0, .int .i64 (-1), .bool false]) ∧ w' = w := by
  go_enter Tryd.func77, Tryd.ntmps77
  go_wp2
  exact bodyPost_ret (v := .tuple #[.slice none 0 0, .int .i64 (-1), .bool false]) (by simp [results, Tryd.results77, go_sem]) rfl ⟨rfl, rfl⟩
theorem wants_23 (w : World) : Calls Tryd.prog 77 #[.int .i64 23] w fun e w' => e = .returned (.tuple #[.slice none 0 0, .int .i64 (-1), .bool false]) ∧ w' = w := by
  go_enter Tryd.func77, Tryd.ntmps77
  go_wp2
  exact bodyPost_ret (v := .tuple #[.slice none 0 0, .int .i64 (-1), .bool false]) (by simp [results, Tryd.results77, go_sem]) rfl ⟨rfl, rfl⟩
theorem wants_24 (w : World) : Calls Tryd.prog 77 #[.int .i64 24] w fun e w' => e = .returned (.tuple #[.slice none 0 0, .int .i64 (-1), .bool false]) ∧ w' = w := by
  go_enter Tryd.func77, Tryd.ntmps77
  go_wp2
  exact bodyPost_ret (v := .tuple #[.slice none 0 0, .int .i64 (-1), .bool false]) (by simp [results, Tryd.results77, go_sem]) rfl ⟨rfl, rfl⟩
theorem wants_25 (w : World) : Calls Tryd.prog 77 #[.int .i64 25] w fun e w' => e = .returned (.tuple #[.slice none 0 0, .int .i64 (-1), .bool false]) ∧ w' = w := by
  go_enter Tryd.func77, Tryd.ntmps77
  go_wp2
  exact bodyPost_ret (v := .tuple #[.slice none 0 0, .int .i64 (-1), .bool false]) (by simp [results, Tryd.results77, go_sem]) rfl ⟨rfl, rfl⟩
end Go.Proofs.YtdchhfdmingnaaaDoor

/- Layer 4, P4.3: the document's wants and result, walked at the kinds that ask for types alone. (Its text: by wip/gen/refres.py.) -/
namespace Go.Proofs.YtdchhfdmingnaaaDoor
open Go.RowKit (wrap64 intOf Below)
set_option linter.unusedVariables false
set_option maxRecDepth 100000 in
theorem rres_15 (pv : Value) (P : ProgD) (A B C N : Int) (S : ByteArray) (la : Option Addr) (ln lc : Nat) (T : Bool) (va : Option Addr) (vn vc : Nat) (l : List Int) (w : World) (hv : NumsAt w va vn l) (hvn : vn ≤ 140737488355328) :
    Calls Tryd.prog 68 #[pv, .agg #[.int .i64 15, .int .i64 A, .int .i64 B, .int .i64 C, .int .i64 N, .string S, .slice la ln lc, .bool T], .slice va vn vc] w (RowPost (rowS P 15 N S l) w) := by
  have HB : RowKit.Hid (∀ q, Below w.heap.size w (((w.alloc (.cells #[.int .i64 15, .int .i64 A, .int .i64 B, .int .i64 C, .int .i64 N, .string S, .slice la ln lc, .bool T] 52)).alloc (.cells #[.int .i64 3, .int .i64 0] 3)).drewN q)) := Lib.hid (fun q => (below2 _ _ _ _ _).drewq q)
  have hci : ∀ q, Calls Tryd.prog 16 #[.slice va vn vc, .slice (some ⟨w.heap.size + 1, 0, none⟩) 2 2] (((w.alloc (.cells #[.int .i64 15, .int .i64 A, .int .i64 B, .int .i64 C, .int .i64 N, .string S, .slice la ln lc, .bool T] 52)).alloc (.cells #[.int .i64 3, .int .i64 0] 3)).drewN q) (BoolPost (sameB l [3, 0]) (((w.alloc (.cells #[.int .i64 15, .int .i64 A, .int .i64 B, .int .i64 C, .int .i64 N, .string S, .slice la ln lc, .bool T] 52)).alloc (.cells #[.int .i64 3, .int .i64 0] 3)).drewN q)) := fun q => ints_any va _ vn 2 vc 2 l [3, 0] _ (hv.since (HB.out q)) ((nums_laid 2 [3, 0] _ rfl rfl (by simp)).drewN q) (by omega) (by decide)
  have HR1 : RowKit.Hid ((rowS P 15 N S l).1 = 0) := Lib.hid rfl
  have hr : (rowS P 15 N S l).2 = sameB l [3, 0] := rfl
  clear hv
  cases hb : sameB l [3, 0] with
  | false =>
    have HR : RowKit.Hid ((rowS P 15 N S l).2 = false) := Lib.hid (by rw [hr, hb])
    rw [hb] at hci
    have CI := Lib.hid hci
    clear hr hb hci
    go_enter Tryd.func68, Tryd.ntmps68
    go_wp2_with (go_at_call 77; (with_reducible refine (wants_15 _).mono ?_); rintro e w' ⟨rfl, rfl⟩)
    go_quiet ((go_at_call 16; exact Calls.quiet_of (CI.out _)))
    go_wp2_with fail
    refine bodyPost_ret (v := .tuple #[.int .i64 0, .bool false]) (by simp [results, Tryd.results68, go_sem]) rfl ⟨0, by rw [HR.out], fun _ => HR1.out.symm, HB.out _⟩
  | true =>
    have HR : RowKit.Hid ((rowS P 15 N S l).2 = true) := Lib.hid (by rw [hr, hb])
    rw [hb] at hci
    have CI := Lib.hid hci
    clear hr hb hci
    go_enter Tryd.func68, Tryd.ntmps68
    go_wp2_with (go_at_call 77; (with_reducible refine (wants_15 _).mono ?_); rintro e w' ⟨rfl, rfl⟩)
    go_quiet ((go_at_call 16; exact Calls.quiet_of (CI.out _)))
    go_wp2_with fail
    refine bodyPost_ret (v := .tuple #[.int .i64 0, .bool true]) (by simp [results, Tryd.results68, go_sem]) rfl ⟨0, by rw [HR.out], fun _ => HR1.out.symm, HB.out _⟩
set_option maxRecDepth 100000 in
theorem rres_16 (pv : Value) (P : ProgD) (A B C N : Int) (S : ByteArray) (la : Option Addr) (ln lc : Nat) (T : Bool) (va : Option Addr) (vn vc : Nat) (l : List Int) (w : World) (hv : NumsAt w va vn l) (hvn : vn ≤ 140737488355328) :
    Calls Tryd.prog 68 #[pv, .agg #[.int .i64 16, .int .i64 A, .int .i64 B, .int .i64 C, .int .i64 N, .string S, .slice la ln lc, .bool T], .slice va vn vc] w (RowPost (rowS P 16 N S l) w) := by
  have HB : RowKit.Hid (∀ q, Below w.heap.size w (((w.alloc (.cells #[.int .i64 16, .int .i64 A, .int .i64 B, .int .i64 C, .int .i64 N, .string S, .slice la ln lc, .bool T] 52)).alloc (.cells #[.int .i64 3, .int .i64 0, .int .i64 0] 3)).drewN q)) := Lib.hid (fun q => (below2 _ _ _ _ _).drewq q)
  have hci : ∀ q, Calls Tryd.prog 16 #[.slice va vn vc, .slice (some ⟨w.heap.size + 1, 0, none⟩) 3 3] (((w.alloc (.cells #[.int .i64 16, .int .i64 A, .int .i64 B, .int .i64 C, .int .i64 N, .string S, .slice la ln lc, .bool T] 52)).alloc (.cells #[.int .i64 3, .int .i64 0, .int .i64 0] 3)).drewN q) (BoolPost (sameB l [3, 0, 0]) (((w.alloc (.cells #[.int .i64 16, .int .i64 A, .int .i64 B, .int .i64 C, .int .i64 N, .string S, .slice la ln lc, .bool T] 52)).alloc (.cells #[.int .i64 3, .int .i64 0, .int .i64 0] 3)).drewN q)) := fun q => ints_any va _ vn 3 vc 3 l [3, 0, 0] _ (hv.since (HB.out q)) ((nums_laid 3 [3, 0, 0] _ rfl rfl (by simp)).drewN q) (by omega) (by decide)
  have HR1 : RowKit.Hid ((rowS P 16 N S l).1 = (-1)) := Lib.hid rfl
  have hr : (rowS P 16 N S l).2 = sameB l [3, 0, 0] := rfl
  clear hv
  cases hb : sameB l [3, 0, 0] with
  | false =>
    have HR : RowKit.Hid ((rowS P 16 N S l).2 = false) := Lib.hid (by rw [hr, hb])
    rw [hb] at hci
    have CI := Lib.hid hci
    clear hr hb hci
    go_enter Tryd.func68, Tryd.ntmps68
    go_wp2_with (go_at_call 77; (with_reducible refine (wants_16 _).mono ?_); rintro e w' ⟨rfl, rfl⟩)
    go_quiet ((go_at_call 16; exact Calls.quiet_of (CI.out _)))
    go_wp2_with fail
    refine bodyPost_ret (v := .tuple #[.int .i64 (-1), .bool false]) (by simp [results, Tryd.results68, go_sem]) rfl ⟨(-1), by rw [HR.out], fun _ => HR1.out.symm, HB.out _⟩
  | true =>
    have HR : RowKit.Hid ((rowS P 16 N S l).2 = true) := Lib.hid (by rw [hr, hb])
    rw [hb] at hci
    have CI := Lib.hid hci
    clear hr hb hci
    go_enter Tryd.func68, Tryd.ntmps68
    go_wp2_with (go_at_call 77; (with_reducible refine (wants_16 _).mono ?_); rintro e w' ⟨rfl, rfl⟩)
    go_quiet ((go_at_call 16; exact Calls.quiet_of (CI.out _)))
    go_wp2_with fail
    refine bodyPost_ret (v := .tuple #[.int .i64 (-1), .bool true]) (by simp [results, Tryd.results68, go_sem]) rfl ⟨(-1), by rw [HR.out], fun _ => HR1.out.symm, HB.out _⟩
set_option maxRecDepth 100000 in
theorem rres_18 (pv : Value) (P : ProgD) (A B C N : Int) (S : ByteArray) (la : Option Addr) (ln lc : Nat) (T : Bool) (va : Option Addr) (vn vc : Nat) (l : List Int) (w : World) (hv : NumsAt w va vn l) (hvn : vn ≤ 140737488355328) :
    Calls Tryd.prog 68 #[pv, .agg #[.int .i64 18, .int .i64 A, .int .i64 B, .int .i64 C, .int .i64 N, .string S, .slice la ln lc, .bool T], .slice va vn vc] w (RowPost (rowS P 18 N S l) w) := by
  have HB : RowKit.Hid (∀ q, Below w.heap.size w (((w.alloc (.cells #[.int .i64 18, .int .i64 A, .int .i64 B, .int .i64 C, .int .i64 N, .string S, .slice la ln lc, .bool T] 52)).alloc (.cells #[.int .i64 4, .int .i64 0, .int .i64 0] 3)).drewN q)) := Lib.hid (fun q => (below2 _ _ _ _ _).drewq q)
  have hci : ∀ q, Calls Tryd.prog 16 #[.slice va vn vc, .slice (some ⟨w.heap.size + 1, 0, none⟩) 3 3] (((w.alloc (.cells #[.int .i64 18, .int .i64 A, .int .i64 B, .int .i64 C, .int .i64 N, .string S, .slice la ln lc, .bool T] 52)).alloc (.cells #[.int .i64 4, .int .i64 0, .int .i64 0] 3)).drewN q) (BoolPost (sameB l [4, 0, 0]) (((w.alloc (.cells #[.int .i64 18, .int .i64 A, .int .i64 B, .int .i64 C, .int .i64 N, .string S, .slice la ln lc, .bool T] 52)).alloc (.cells #[.int .i64 4, .int .i64 0, .int .i64 0] 3)).drewN q)) := fun q => ints_any va _ vn 3 vc 3 l [4, 0, 0] _ (hv.since (HB.out q)) ((nums_laid 3 [4, 0, 0] _ rfl rfl (by simp)).drewN q) (by omega) (by decide)
  have HR1 : RowKit.Hid ((rowS P 18 N S l).1 = (-1)) := Lib.hid rfl
  have hr : (rowS P 18 N S l).2 = sameB l [4, 0, 0] := rfl
  clear hv
  cases hb : sameB l [4, 0, 0] with
  | false =>
    have HR : RowKit.Hid ((rowS P 18 N S l).2 = false) := Lib.hid (by rw [hr, hb])
    rw [hb] at hci
    have CI := Lib.hid hci
    clear hr hb hci
    go_enter Tryd.func68, Tryd.ntmps68
    go_wp2_with (go_at_call 77; (with_reducible refine (wants_18 _).mono ?_); rintro e w' ⟨rfl, rfl⟩)
    go_quiet ((go_at_call 16; exact Calls.quiet_of (CI.out _)))
    go_wp2_with fail
    refine bodyPost_ret (v := .tuple #[.int .i64 (-1), .bool false]) (by simp [results, Tryd.results68, go_sem]) rfl ⟨(-1), by rw [HR.out], fun _ => HR1.out.symm, HB.out _⟩
  | true =>
    have HR : RowKit.Hid ((rowS P 18 N S l).2 = true) := Lib.hid (by rw [hr, hb])
    rw [hb] at hci
    have CI := Lib.hid hci
    clear hr hb hci
    go_enter Tryd.func68, Tryd.ntmps68
    go_wp2_with (go_at_call 77; (with_reducible refine (wants_18 _).mono ?_); rintro e w' ⟨rfl, rfl⟩)
    go_quiet ((go_at_call 16; exact Calls.quiet_of (CI.out _)))
    go_wp2_with fail
    refine bodyPost_ret (v := .tuple #[.int .i64 (-1), .bool true]) (by simp [results, Tryd.results68, go_sem]) rfl ⟨(-1), by rw [HR.out], fun _ => HR1.out.symm, HB.out _⟩
set_option maxRecDepth 100000 in
theorem rres_19 (pv : Value) (P : ProgD) (A B C N : Int) (S : ByteArray) (la : Option Addr) (ln lc : Nat) (T : Bool) (va : Option Addr) (vn vc : Nat) (l : List Int) (w : World) (hv : NumsAt w va vn l) (hvn : vn ≤ 140737488355328) :
    Calls Tryd.prog 68 #[pv, .agg #[.int .i64 19, .int .i64 A, .int .i64 B, .int .i64 C, .int .i64 N, .string S, .slice la ln lc, .bool T], .slice va vn vc] w (RowPost (rowS P 19 N S l) w) := by
  have HB : RowKit.Hid (∀ q, Below w.heap.size w (((w.alloc (.cells #[.int .i64 19, .int .i64 A, .int .i64 B, .int .i64 C, .int .i64 N, .string S, .slice la ln lc, .bool T] 52)).alloc (.cells #[.int .i64 4, .int .i64 0] 3)).drewN q)) := Lib.hid (fun q => (below2 _ _ _ _ _).drewq q)
  have hci : ∀ q, Calls Tryd.prog 16 #[.slice va vn vc, .slice (some ⟨w.heap.size + 1, 0, none⟩) 2 2] (((w.alloc (.cells #[.int .i64 19, .int .i64 A, .int .i64 B, .int .i64 C, .int .i64 N, .string S, .slice la ln lc, .bool T] 52)).alloc (.cells #[.int .i64 4, .int .i64 0] 3)).drewN q) (BoolPost (sameB l [4, 0]) (((w.alloc (.cells #[.int .i64 19, .int .i64 A, .int .i64 B, .int .i64 C, .int .i64 N, .string S, .slice la ln lc, .bool T] 52)).alloc (.cells #[.int .i64 4, .int .i64 0] 3)).drewN q)) := fun q => ints_any va _ vn 2 vc 2 l [4, 0] _ (hv.since (HB.out q)) ((nums_laid 2 [4, 0] _ rfl rfl (by simp)).drewN q) (by omega) (by decide)
  have HR1 : RowKit.Hid ((rowS P 19 N S l).1 = 0) := Lib.hid rfl
  have hr : (rowS P 19 N S l).2 = sameB l [4, 0] := rfl
  clear hv
  cases hb : sameB l [4, 0] with
  | false =>
    have HR : RowKit.Hid ((rowS P 19 N S l).2 = false) := Lib.hid (by rw [hr, hb])
    rw [hb] at hci
    have CI := Lib.hid hci
    clear hr hb hci
    go_enter Tryd.func68, Tryd.ntmps68
    go_wp2_with (go_at_call 77; (with_reducible refine (wants_19 _).mono ?_); rintro e w' ⟨rfl, rfl⟩)
    go_quiet ((go_at_call 16; exact Calls.quiet_of (CI.out _)))
    go_wp2_with fail
    refine bodyPost_ret (v := .tuple #[.int .i64 0, .bool false]) (by simp [results, Tryd.results68, go_sem]) rfl ⟨0, by rw [HR.out], fun _ => HR1.out.symm, HB.out _⟩
  | true =>
    have HR : RowKit.Hid ((rowS P 19 N S l).2 = true) := Lib.hid (by rw [hr, hb])
    rw [hb] at hci
    have CI := Lib.hid hci
    clear hr hb hci
    go_enter Tryd.func68, Tryd.ntmps68
    go_wp2_with (go_at_call 77; (with_reducible refine (wants_19 _).mono ?_); rintro e w' ⟨rfl, rfl⟩)
    go_quiet ((go_at_call 16; exact Calls.quiet_of (CI.out _)))
    go_wp2_with fail
    refine bodyPost_ret (v := .tuple #[.int .i64 0, .bool true]) (by simp [results, Tryd.results68, go_sem]) rfl ⟨0, by rw [HR.out], fun _ => HR1.out.symm, HB.out _⟩
set_option maxRecDepth 100000 in
theorem rres_21 (pv : Value) (P : ProgD) (A B C N : Int) (S : ByteArray) (la : Option Addr) (ln lc : Nat) (T : Bool) (va : Option Addr) (vn vc : Nat) (l : List Int) (w : World) (hv : NumsAt w va vn l) (hvn : vn ≤ 140737488355328) :
    Calls Tryd.prog 68 #[pv, .agg #[.int .i64 21, .int .i64 A, .int .i64 B, .int .i64 C, .int .i64 N, .string S, .slice la ln lc, .bool T], .slice va vn vc] w (RowPost (rowS P 21 N S l) w) := by
  have HB : RowKit.Hid (∀ q, Below w.heap.size w (((w.alloc (.cells #[.int .i64 21, .int .i64 A, .int .i64 B, .int .i64 C, .int .i64 N, .string S, .slice la ln lc, .bool T] 52)).alloc (.cells #[.int .i64 4, .int .i64 0] 3)).drewN q)) := Lib.hid (fun q => (below2 _ _ _ _ _).drewq q)
  have hci : ∀ q, Calls Tryd.prog 16 #[.slice va vn vc, .slice (some ⟨w.heap.size + 1, 0, none⟩) 2 2] (((w.alloc (.cells #[.int .i64 21, .int .i64 A, .int .i64 B, .int .i64 C, .int .i64 N, .string S, .slice la ln lc, .bool T] 52)).alloc (.cells #[.int .i64 4, .int .i64 0] 3)).drewN q) (BoolPost (sameB l [4, 0]) (((w.alloc (.cells #[.int .i64 21, .int .i64 A, .int .i64 B, .int .i64 C, .int .i64 N, .string S, .slice la ln lc, .bool T] 52)).alloc (.cells #[.int .i64 4, .int .i64 0] 3)).drewN q)) := fun q => ints_any va _ vn 2 vc 2 l [4, 0] _ (hv.since (HB.out q)) ((nums_laid 2 [4, 0] _ rfl rfl (by simp)).drewN q) (by omega) (by decide)
  have HR1 : RowKit.Hid ((rowS P 21 N S l).1 = 0) := Lib.hid rfl
  have hr : (rowS P 21 N S l).2 = sameB l [4, 0] := rfl
  clear hv
  cases hb : sameB l [4, 0] with
  | false =>
    have HR : RowKit.Hid ((rowS P 21 N S l).2 = false) := Lib.hid (by rw [hr, hb])
    rw [hb] at hci
    have CI := Lib.hid hci
    clear hr hb hci
    go_enter Tryd.func68, Tryd.ntmps68
    go_wp2_with (go_at_call 77; (with_reducible refine (wants_21 _).mono ?_); rintro e w' ⟨rfl, rfl⟩)
    go_quiet ((go_at_call 16; exact Calls.quiet_of (CI.out _)))
    go_wp2_with fail
    refine bodyPost_ret (v := .tuple #[.int .i64 0, .bool false]) (by simp [results, Tryd.results68, go_sem]) rfl ⟨0, by rw [HR.out], fun _ => HR1.out.symm, HB.out _⟩
  | true =>
    have HR : RowKit.Hid ((rowS P 21 N S l).2 = true) := Lib.hid (by rw [hr, hb])
    rw [hb] at hci
    have CI := Lib.hid hci
    clear hr hb hci
    go_enter Tryd.func68, Tryd.ntmps68
    go_wp2_with (go_at_call 77; (with_reducible refine (wants_21 _).mono ?_); rintro e w' ⟨rfl, rfl⟩)
    go_quiet ((go_at_call 16; exact Calls.quiet_of (CI.out _)))
    go_wp2_with fail
    refine bodyPost_ret (v := .tuple #[.int .i64 0, .bool true]) (by simp [results, Tryd.results68, go_sem]) rfl ⟨0, by rw [HR.out], fun _ => HR1.out.symm, HB.out _⟩
set_option maxRecDepth 100000 in
theorem rres_20 (pv : Value) (P : ProgD) (A B C N : Int) (S : ByteArray) (la : Option Addr) (ln lc : Nat) (T : Bool) (va : Option Addr) (vn vc : Nat) (l : List Int) (w : World) (hv : NumsAt w va vn l) (hvn : vn ≤ 140737488355328) :
    Calls Tryd.prog 68 #[pv, .agg #[.int .i64 20, .int .i64 A, .int .i64 B, .int .i64 C, .int .i64 N, .string S, .slice la ln lc, .bool T], .slice va vn vc] w (RowPost (rowS P 20 N S l) w) := by
  have HB : RowKit.Hid (∀ q, Below w.heap.size w (((w.alloc (.cells #[.int .i64 20, .int .i64 A, .int .i64 B, .int .i64 C, .int .i64 N, .string S, .slice la ln lc, .bool T] 52)).alloc (.cells #[.int .i64 4] 3)).drewN q)) := Lib.hid (fun q => (below2 _ _ _ _ _).drewq q)
  have hci : ∀ q, Calls Tryd.prog 16 #[.slice va vn vc, .slice (some ⟨w.heap.size + 1, 0, none⟩) 1 1] (((w.alloc (.cells #[.int .i64 20, .int .i64 A, .int .i64 B, .int .i64 C, .int .i64 N, .string S, .slice la ln lc, .bool T] 52)).alloc (.cells #[.int .i64 4] 3)).drewN q) (BoolPost (sameB l [4]) (((w.alloc (.cells #[.int .i64 20, .int .i64 A, .int .i64 B, .int .i64 C, .int .i64 N, .string S, .slice la ln lc, .bool T] 52)).alloc (.cells #[.int .i64 4] 3)).drewN q)) := fun q => ints_any va _ vn 1 vc 1 l [4] _ (hv.since (HB.out q)) ((nums_laid 1 [4] _ rfl rfl (by simp)).drewN q) (by omega) (by decide)
  have HR1 : RowKit.Hid ((rowS P 20 N S l).1 = 0) := Lib.hid rfl
  have hr : (rowS P 20 N S l).2 = sameB l [4] := rfl
  clear hv
  cases hb : sameB l [4] with
  | false =>
    have HR : RowKit.Hid ((rowS P 20 N S l).2 = false) := Lib.hid (by rw [hr, hb])
    rw [hb] at hci
    have CI := Lib.hid hci
    clear hr hb hci
    go_enter Tryd.func68, Tryd.ntmps68
    go_wp2_with (go_at_call 77; (with_reducible refine (wants_20 _).mono ?_); rintro e w' ⟨rfl, rfl⟩)
    go_quiet ((go_at_call 16; exact Calls.quiet_of (CI.out _)))
    go_wp2_with fail
    refine bodyPost_ret (v := .tuple #[.int .i64 0, .bool false]) (by simp [results, Tryd.results68, go_sem]) rfl ⟨0, by rw [HR.out], fun _ => HR1.out.symm, HB.out _⟩
  | true =>
    have HR : RowKit.Hid ((rowS P 20 N S l).2 = true) := Lib.hid (by rw [hr, hb])
    rw [hb] at hci
    have CI := Lib.hid hci
    clear hr hb hci
    go_enter Tryd.func68, Tryd.ntmps68
    go_wp2_with (go_at_call 77; (with_reducible refine (wants_20 _).mono ?_); rintro e w' ⟨rfl, rfl⟩)
    go_quiet ((go_at_call 16; exact Calls.quiet_of (CI.out _)))
    go_wp2_with fail
    refine bodyPost_ret (v := .tuple #[.int .i64 0, .bool true]) (by simp [results, Tryd.results68, go_sem]) rfl ⟨0, by rw [HR.out], fun _ => HR1.out.symm, HB.out _⟩
end Go.Proofs.YtdchhfdmingnaaaDoor
