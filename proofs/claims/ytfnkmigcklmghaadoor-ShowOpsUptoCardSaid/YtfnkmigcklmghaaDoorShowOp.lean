/- Layer 6, P6.2: package show's Op, walked: a step's name, and each field that shows behind a blank. -/
import Derived.Test.YtfnkmigcklmghaaDoorShowTy
import Derived.Test.YtfnkmigcklmghaaDoorShowB
import Derived.Test.YtfnkmigcklmghaaDoorKindTab
import Derived.Test.YtfnkmigcklmghaaDoorKindPlainK
import Derived.Lib.OthersKept
import Derived.Lib.AppendIntMem
import Derived.BigCall
import Derived.Deep.DeepCutAuto
import Derived.Outline
namespace Go.Proofs.YtfnkmigcklmghaaDoor
open Go.RowKit (wrap64 intOf Below)
set_option linter.unusedVariables false
set_option linter.unusedSimpArgs false

theorem str_same {a b : ByteArray} (h : a = b) : (a.toList != b.toList) = false := by rw [h]; simp
theorem str_diff {a b : ByteArray} (h : a ≠ b) : (a.toList != b.toList) = true := by
  rw [bne_iff_ne]
  intro he
  have h1 := Lib.toList_data a
  have h2 := Lib.toList_data b
  rw [h1, h2] at he
  exact h (by cases a; cases b; simp at he; rw [he])
theorem keepS {w u w' : World} (h1 : Below w.heap.size w u) (h2 : Below u.heap.size u w') : Below w.heap.size w w' := h1.trans (h2.mono h1.size)
theorem builderAt_news {T e : TypeId} {B b : Nat} {p : Value} {bs : List Value} {w w' : World} (h : Lib.BuilderAtF T e B b p bs w) (hb : Below w.heap.size w w') : Lib.BuilderAtF T e B b p bs w' := by
  obtain ⟨hB, v, hbk, hown, hne⟩ := h
  refine ⟨hB, v, (hb.block b (Array.getElem?_eq_some_iff.1 hbk).1).trans hbk, ⟨hown.1, ?_⟩, hne⟩
  rcases hown.2 with h' | ⟨g, cap, cur, fz, hv, hg, hh, rest⟩
  · exact .inl h'
  · exact .inr ⟨g, cap, cur, fz, hv, hg, (hb.block g (Array.getElem?_eq_some_iff.1 hh).1).trans hh, rest⟩
theorem builder_news {T e : TypeId} {B b : Nat} {bs : List Value} {w w' : World} (h : Lib.IsBuilderF T e B b bs w) (hb : Below w.heap.size w w') : Lib.IsBuilderF T e B b bs w' :=
  h.elim (fun x => .inl (builderAt_news x hb)) (fun x => .inr (builderAt_news x hb))
theorem builder_lt {T e : TypeId} {B b : Nat} {bs : List Value} {w : World} (h : Lib.IsBuilderF T e B b bs w) : b < w.heap.size := by
  rcases h with ⟨_, v, hbk, _⟩ | ⟨_, v, hbk, _⟩ <;> exact (Array.getElem?_eq_some_iff.1 hbk).1

/-- One field behind a blank, if it shows. -/
def shownF (F : UInt8 → List UInt8) (c : UInt8) : List UInt8 := if F c = [] then [] else 32 :: F c
def fieldsText (F : UInt8 → List UInt8) (cs : List UInt8) : List UInt8 := (cs.map (shownF F)).flatten
def opText (K : Int) (F : UInt8 → List UInt8) : List UInt8 := nameOf stepNames K ++ fieldsText F (fieldsL K)
theorem fieldsText_snoc (F : UInt8 → List UInt8) (cs : List UInt8) (c : UInt8) : fieldsText F (cs ++ [c]) = fieldsText F cs ++ shownF F c := by simp [fieldsText]
theorem fieldsText_len {F : UInt8 → List UInt8} {M : Nat} : ∀ (cs : List UInt8), (∀ c ∈ cs, (F c).length ≤ M) → (fieldsText F cs).length ≤ cs.length * (M + 1)
  | [], _ => by simp [fieldsText]
  | c :: cs, h => by
    have h1 := fieldsText_len cs (fun x hx => h x (by simp [hx]))
    have h2 := h c (by simp)
    have h3 : (shownF F c).length ≤ M + 1 := by unfold shownF; split <;> simp <;> omega
    have h4 : fieldsText F (c :: cs) = shownF F c ++ fieldsText F cs := by simp [fieldsText]
    rw [h4, List.length_append, List.length_cons, Nat.add_mul]
    omega
theorem names_len : ∀ n : Int, (nameOf stepNames n).length ≤ 5 := by
  intro n
  unfold nameOf
  split
  · simp
  · rename_i h
    obtain ⟨k, rfl⟩ := Int.eq_ofNat_of_zero_le (show 0 ≤ n by omega)
    have hk : k < stepNames.length := by omega
    have hall : ∀ k, k < stepNames.length → (stepNames.getD k []).length ≤ 5 := by decide
    exact hall k hk

theorem fields_few (K : Int) : (fieldsL K).length ≤ 7 := by
  rcases kinds K with h | h
  · rcases h with rfl | rfl | rfl | rfl | rfl | rfl | rfl | rfl | rfl | rfl | rfl | rfl | rfl | rfl | rfl | rfl | rfl | rfl | rfl | rfl | rfl | rfl | rfl | rfl | rfl | rfl
    all_goals decide
  · rw [fields_none h]; decide
set_option maxRecDepth 100000 in
theorem step_any (K : Int) (w : World) (hs : SN w) :
    Calls Tryd.prog 35 #[.int .i64 K] w fun e w' => e = .returned (.string (mk (nameOf stepNames K))) ∧ w = w' := by
  by_cases h0 : K < 0
  · have HF : RowKit.Hid (nameOf stepNames K = [63]) := Lib.hid (by unfold nameOf; rw [if_pos (.inl h0)])
    clear hs
    go_enter Tryd.func35, Tryd.ntmps35
    go_wp2
    go_ret
    exact ⟨by rw [HF.out]; rfl, rfl⟩
  · by_cases h1 : 25 < K
    · have HF : RowKit.Hid (nameOf stepNames K = [63]) := Lib.hid (by unfold nameOf; rw [if_pos (.inr (by simp [stepNames]; omega))])
      have h0' : 0 ≤ K := by omega
      have h1' : 26 ≤ K := by omega
      clear hs h0
      go_enter Tryd.func35, Tryd.ntmps35
      go_wp2
      go_ret
      exact ⟨by rw [HF.out]; rfl, rfl⟩
    · obtain ⟨k, rfl⟩ := Int.eq_ofNat_of_zero_le (show 0 ≤ K by omega)
      have hk : k < 26 := by omega
      have hcell := hs k hk
      have HF : RowKit.Hid (nameOf stepNames (k : Int) = stepNames[k]) := Lib.hid (by unfold nameOf; rw [if_neg (by simp [stepNames]; omega), Int.toNat_natCast, List.getD_eq_getElem?_getD, List.getElem?_eq_getElem hk]; rfl)
      have h0' : ¬ ((k : Int) < 0) := by omega
      have h1' : ¬ (26 ≤ (k : Int)) := by omega
      clear hs h0 h1
      go_enter Tryd.func35, Tryd.ntmps35
      go_wp2
      go_ret
      exact ⟨by rw [HF.out]; rfl, rfl⟩

/-- What a field's call comes to, wherever the walk stands. -/
def FieldsAre (w : World) (v : Value) (K : Int) (F : UInt8 → List UInt8) (M : Nat) : Prop :=
  ∀ c ∈ fieldsL K, (F c).length ≤ M ∧ ∀ u, Below w.heap.size w u → Calls Tryd.prog 37 #[v, .int .i32 (c.toNat : Int)] u fun e u' => e = .returned (.string (mk (F c))) ∧ Below u.heap.size u u'

set_option maxRecDepth 100000 in
set_option maxHeartbeats 4000000 in
theorem show_op (K A B C N : Int) (S : ByteArray) (la : Option Addr) (ln lc : Nat) (T : Bool) (F : UInt8 → List UInt8) (M : Nat) (hM : M ≤ 1000000000000) (w : World) (hft : FT w) (hs : SN w)
    (HF : FieldsAre w (.agg #[.int .i64 K, .int .i64 A, .int .i64 B, .int .i64 C, .int .i64 N, .string S, .slice la ln lc, .bool T]) K F M) :
    Calls Tryd.prog 13 #[.agg #[.int .i64 K, .int .i64 A, .int .i64 B, .int .i64 C, .int .i64 N, .string S, .slice la ln lc, .bool T]] w fun e w' => e = .returned (.string (mk (opText K F))) ∧ Below w.heap.size w w' := by
  obtain ⟨X, hX⟩ : ∃ X, X = w.heap.size := ⟨_, rfl⟩
  obtain ⟨W1, hW1⟩ : ∃ W1, W1 = w.alloc (.cells #[.int .i64 K, .int .i64 A, .int .i64 B, .int .i64 C, .int .i64 N, .string S, .slice la ln lc, .bool T] 38) := ⟨_, rfl⟩
  have hbx : W1.heap[X]? = some (.cells #[.int .i64 K, .int .i64 A, .int .i64 B, .int .i64 C, .int .i64 N, .string S, .slice la ln lc, .bool T] 38 (0, 0)) := by rw [hW1, hX]; exact heap_alloc_new w _
  have hz1 : W1.heap.size = X + 1 := by rw [hW1, hX]; simp
  have hb1 : Below w.heap.size w W1 := by rw [hW1]; exact (Below.refl _ _).alloc (Nat.le_refl _) _
  obtain ⟨W2, hW2⟩ : ∃ W2, W2 = W1.alloc (.cells #[.pointer none, .slice none 0 0] 78) := ⟨_, rfl⟩
  have HB2 : RowKit.Hid (Lib.IsBuilderF 78 5 (X + 1) (X + 1) (Lib.byteCells []) W2) := Lib.hid (by rw [hW2, ← hz1]; exact Lib.IsBuilderF.of (Lib.fresh_isBuilder _ _ W1))
  have hb2 : Below W1.heap.size W1 W2 := by rw [hW2]; exact (Below.refl _ _).alloc (Nat.le_refl _) _
  have HZ2 : RowKit.Hid (X + 1 ≤ W2.heap.size) := Lib.hid (by rw [hW2]; simp; omega)
  have HW2 : RowKit.Hid (Below w.heap.size w W2) := Lib.hid (keepS hb1 hb2)
  have HBX : RowKit.Hid (∀ u, Below (X + 1) W2 u → Below w.heap.size w u ∧ (∀ j, u.cell? ⟨X, j, none⟩ = (#[.int .i64 K, .int .i64 A, .int .i64 B, .int .i64 C, .int .i64 N, .string S, .slice la ln lc, .bool T] : Array Value)[j]?)) := Lib.hid fun u hb =>
    ⟨HW2.out.trans (hb.mono (by omega)), fun j => by
      have : u.heap[X]? = _ := (hb.block X (by omega)).trans ((hb2.block X (by omega)).trans hbx)
      simp [World.cell?, this]⟩
  have HX := Lib.hid hX
  have HS := Lib.hid hs
  have HFT := Lib.hid hft
  have HN := Lib.hid (names_len K)
  have HFF := Lib.hid HF
  clear hs hft hb1 hb2 hbx HF
  go_enter Tryd.func13, Tryd.ntmps13
  go_upto_region 2 with fail
  rw [← hX, ← hW1]
  try rw [hz1]
  rw [← hW2]
  clear hW2 hW1 hX hz1
  have x0 := (HBX.out W2 (Below.refl _ _)).2 0
  go_wp2_with fail
  refine (step_any K W2 (StrTab.since HS.out HW2.out)).mono ?_
  rintro e w1 ⟨rfl, rfl⟩
  go_wp2_with fail
  refine (write_text (X + 1) (X + 1) _ (mk (nameOf stepNames K)) W2 HB2.out (by rw [mk_size]; simp [Lib.byteCells]; have := HN.out; omega) HZ2.out).mono ?_
  rintro e w3 ⟨rfl, h3, hb3, hk3⟩
  have HB3 : RowKit.Hid (Lib.IsBuilderF 78 5 (X + 1) (X + 1) (Lib.byteCells (nameOf stepNames K)) w3) := Lib.hid (.inr (by rw [Lib.strCells_eq, mk_list] at h3; simpa [Lib.byteCells] using h3))
  have HC3 := Lib.hid hb3
  have x3 := (HBX.out w3 hb3).2 0
  have HF3 := Lib.hid (HFT.out.since (HBX.out w3 hb3).1)
  clear h3 hb3 hk3 x0
  go_wp2_with fail
  refine (kfields_any K w3 HF3.out).mono ?_
  rintro e w4 ⟨rfl, rfl⟩
  clear x3
  obtain ⟨it, hit⟩ : ∃ it, it = w3.heap.size := ⟨_, rfl⟩
  have HSZ : RowKit.Hid ((mk (fieldsL K)).size = (fieldsL K).length) := Lib.hid (mk_size _)
  have HIT : RowKit.Hid (X + 1 < it) := Lib.hid (by rw [hit]; exact builder_lt HB3.out)
  have hstart : RowKit.Hid (Lib.IsBuilderF 78 5 (X + 1) (X + 1) (Lib.byteCells (nameOf stepNames K ++ fieldsText F ((fieldsL K).take 0))) (w3.iter (mk (fieldsL K)) 0) ∧ (w3.iter (mk (fieldsL K)) 0).heap[it]? = some (.stringIter (mk (fieldsL K)) 0) ∧ Below (X + 1) W2 (w3.iter (mk (fieldsL K)) 0)) := Lib.hid ⟨by have h : Lib.IsBuilderF 78 5 (X + 1) (X + 1) (Lib.byteCells (nameOf stepNames K)) (w3.iter (mk (fieldsL K)) 0) := HB3.out.alloc _; simpa [fieldsText] using h, by rw [hit]; exact World.iter_heap w3 (mk (fieldsL K)) 0, HC3.out.alloc (Nat.le_trans HZ2.out HC3.out.size) _⟩
  clear HB3 HC3 HF3
  go_wp2_with fail
  rw [← hit]
  generalize hw4 : w3.iter (mk (fieldsL K)) 0 = w4 at hstart ⊢
  clear hw4 hit
  go_loopw [] (fun wr => ∃ k : Nat, k ≤ (fieldsL K).length ∧ RowKit.Hid (Lib.IsBuilderF 78 5 (X + 1) (X + 1) (Lib.byteCells (nameOf stepNames K ++ fieldsText F ((fieldsL K).take k))) wr ∧ wr.heap[it]? = some (.stringIter (mk (fieldsL K)) k) ∧ Below (X + 1) W2 wr)) (fun wr => (fieldsL K).length - wr.iterPos it)
  case atStart => exact ⟨0, Nat.zero_le _, hstart⟩
  case round =>
    obtain ⟨k, hk, HI⟩ := hrel
    have hitp := HI.out.2.1
    have HLEN : RowKit.Hid (∀ q, q ≤ (fieldsL K).length → (nameOf stepNames K ++ fieldsText F ((fieldsL K).take q)).length ≤ 5 + (fieldsL K).length * (M + 1)) := Lib.hid fun q hq => by
      have h1 := fieldsText_len (F := F) (M := M) ((fieldsL K).take q) (fun c hc => (HFF.out c (List.mem_of_mem_take hc)).1)
      have h2 := HN.out
      have h3 : ((fieldsL K).take q).length * (M + 1) ≤ (fieldsL K).length * (M + 1) := Nat.mul_le_mul_right _ (by rw [List.length_take]; omega)
      rw [List.length_append]
      omega
    by_cases hlt : k < (fieldsL K).length
    · obtain ⟨c, hg⟩ : ∃ c, (fieldsL K)[k] = c := ⟨_, rfl⟩
      have hmem : c ∈ fieldsL K := by rw [← hg]; exact List.getElem_mem _
      have hks : k < (mk (fieldsL K)).size := by rw [HSZ.out]; exact hlt
      have hgs : (mk (fieldsL K))[k]'hks = c := by rw [← hg]; rfl
      have h128 : c.toNat < 128 := by
        rcases letters K c hmem with rfl | rfl | rfl | rfl | rfl | rfl | rfl <;> decide
      have hnx := fun ty => Lib.run_next_ascii_at (P := Tryd.prog) wr it (mk (fieldsL K)) k ty hitp hks (by rw [hgs]; exact h128)
      rw [hgs] at hnx
      have HT : RowKit.Hid (fieldsText F ((fieldsL K).take (k + 1)) = fieldsText F ((fieldsL K).take k) ++ shownF F c) := Lib.hid (by rw [List.take_succ_eq_append_getElem hlt, hg, fieldsText_snoc])
      obtain ⟨u, hu⟩ : ∃ u, u = wr.iterAt it (mk (fieldsL K)) (k + 1) := ⟨_, rfl⟩
      rw [← hu] at hnx
      have HU : RowKit.Hid (Lib.IsBuilderF 78 5 (X + 1) (X + 1) (Lib.byteCells (nameOf stepNames K ++ fieldsText F ((fieldsL K).take k))) u ∧ u.heap[it]? = some (.stringIter (mk (fieldsL K)) (k + 1)) ∧ Below (X + 1) W2 u) := Lib.hid (by rw [hu]; exact ⟨HI.out.1.iterAt hitp _, Lib.iterAt_heap wr it _ k _ hitp, Lib.below_iterAt HI.out.2.2 (by have := HIT.out; omega) _ _⟩)
      have HPOS : RowKit.Hid (wr.iterPos it = k) := Lib.hid (by simp [World.iterPos, hitp])
      have hbx := HBX.out u HU.out.2.2
      have x0 : u.cell? ⟨X, 0, none⟩ = some (.int .i64 K) := hbx.2 0
      have x1 : u.cell? ⟨X, 1, none⟩ = some (.int .i64 A) := hbx.2 1
      have x2 : u.cell? ⟨X, 2, none⟩ = some (.int .i64 B) := hbx.2 2
      have x3 : u.cell? ⟨X, 3, none⟩ = some (.int .i64 C) := hbx.2 3
      have x4 : u.cell? ⟨X, 4, none⟩ = some (.int .i64 N) := hbx.2 4
      have x5 : u.cell? ⟨X, 5, none⟩ = some (.string S) := hbx.2 5
      have x6 : u.cell? ⟨X, 6, none⟩ = some (.slice la ln lc) := hbx.2 6
      have x7 : u.cell? ⟨X, 7, none⟩ = some (.bool T) := hbx.2 7
      have HFC := Lib.hid ((HFF.out c hmem).2 u hbx.1)
      have HFM := Lib.hid (HFF.out c hmem).1
      have HKL : RowKit.Hid ((nameOf stepNames K ++ fieldsText F ((fieldsL K).take k)).length ≤ 5 + (fieldsL K).length * (M + 1)) := Lib.hid (HLEN.out k (by omega))
      have HFL : RowKit.Hid ((fieldsL K).length ≤ 7) := Lib.hid (fields_few K)
      clear hu hbx hgs hg hitp hmem h128
      go_wp2_with fail
      refine HFC.out.mono ?_
      rintro e w5 ⟨rfl, hb5⟩
      have HB5 := Lib.hid (builder_news HU.out.1 hb5)
      have HI5 : RowKit.Hid (w5.heap[it]? = some (.stringIter (mk (fieldsL K)) (k + 1))) := Lib.hid ((hb5.block it (Array.getElem?_eq_some_iff.1 HU.out.2.1).1).trans HU.out.2.1)
      have HC5 : RowKit.Hid (Below (X + 1) W2 w5) := Lib.hid (HU.out.2.2.trans (hb5.mono (Nat.le_trans HZ2.out HU.out.2.2.size)))
      clear hb5 x0 x1 x2 x3 x4 x5 x6 x7 hnx
      by_cases hempty : F c = []
      · have HE : RowKit.Hid (shownF F c = []) := Lib.hid (by unfold shownF; rw [if_pos hempty])
        have HP5 : RowKit.Hid (w5.iterPos it = k + 1) := Lib.hid (by simp [World.iterPos, HI5.out])
        rw [show mk (F c) = ⟨#[]⟩ by rw [hempty]; rfl]
        clear hempty
        go_wp2_with fail
        go_roundw
        case rel => exact ⟨k + 1, by omega, Lib.hid ⟨by rw [HT.out, HE.out, List.append_nil]; exact HB5.out, HI5.out, HC5.out⟩⟩
        case measure => rw [HP5.out, HPOS.out]; omega
      · have HE : RowKit.Hid (shownF F c = 32 :: F c) := Lib.hid (by unfold shownF; rw [if_neg hempty])
        have HNE : RowKit.Hid (mk (F c) ≠ ⟨#[]⟩) := Lib.hid (fun h => hempty (by have := congrArg (fun b : ByteArray => b.data.toList) h; simpa [mk] using this))
        have hsz : (mk (F c)).size ≤ 1000000000000 := by rw [mk_size]; have := HFM.out; omega
        obtain ⟨t, ht⟩ : ∃ t, t = mk (F c) := ⟨_, rfl⟩
        have HT' := Lib.hid ht
        rw [← ht] at hsz
        have hne : (!t.toList.isEmpty) = true := by
          have h := str_diff (a := t) (b := ⟨#[]⟩) (by rw [ht]; exact HNE.out)
          simpa using h
        have HW : RowKit.Hid (mkB [32] ++ t = mk (32 :: F c)) := Lib.hid (by rw [ht]; exact mkB_append [32] (F c))
        rw [← ht]
        clear ht hempty
        go_wp2_with fail
        refine (write_text (X + 1) (X + 1) _ (mkB [32] ++ t) w5 HB5.out (by rw [HW.out, mk_size, Lib.byteCells_length]; have h1 := HKL.out; have h2 := HFM.out; have h3 : (fieldsL K).length * (M + 1) ≤ 7 * (M + 1) := Nat.mul_le_mul_right _ HFL.out; simp only [List.length_cons]; omega) (Nat.le_trans HZ2.out HC5.out.size)).mono ?_
        rintro e w6 ⟨rfl, h6, hb6, hk6⟩
        have HB6 : RowKit.Hid (Lib.IsBuilderF 78 5 (X + 1) (X + 1) (Lib.byteCells (nameOf stepNames K ++ fieldsText F ((fieldsL K).take (k + 1)))) w6) := Lib.hid (by
          rw [HW.out, Lib.strCells_eq, mk_list, ← Lib.byteCells_append] at h6
          rw [HT.out, HE.out, ← List.append_assoc]
          exact .inr h6)
        have HI6 := Lib.hid (hk6.iter HI5.out (by have := HIT.out; omega))
        have HC6 := Lib.hid (HC5.out.trans hb6)
        have HP6 : RowKit.Hid (w6.iterPos it = k + 1) := Lib.hid (by simp [World.iterPos, HI6.out])
        clear h6 hb6 hk6
        go_wp2_with fail
        go_roundw
        case rel => exact ⟨k + 1, by omega, Lib.hid ⟨HB6.out, HI6.out, HC6.out⟩⟩
        case measure => rw [HP6.out, HPOS.out]; omega
    · have HE : RowKit.Hid (nameOf stepNames K ++ fieldsText F ((fieldsL K).take k) = opText K F) := Lib.hid (by unfold opText; rw [List.take_of_length_le (by omega)])
      have hnx := fun ty => Lib.run_next_end_at (P := Tryd.prog) wr it (mk (fieldsL K)) k ty hitp (by rw [HSZ.out]; exact hlt)
      have HB9 : RowKit.Hid (Lib.IsBuilderF 78 5 (X + 1) (X + 1) (Lib.byteCells (opText K F)) wr) := Lib.hid (by rw [← HE.out]; exact HI.out.1)
      have HC9 := Lib.hid (HBX.out wr HI.out.2.2).1
      have hzr : X + 1 ≤ wr.heap.size := Nat.le_trans HZ2.out HI.out.2.2.size
      clear hitp
      go_wp2_with fail
      refine (Tryd.Builder_String_any_k (X + 1) (X + 1) (opText K F) wr HB9.out hzr).mono ?_
      rintro e w9 ⟨rfl, _, hb9, _⟩
      have HD9 : RowKit.Hid (Below w.heap.size w w9) := Lib.hid (HC9.out.trans (hb9.mono (by have := HX.out; omega)))
      clear hb9 hnx
      go_wp2_with fail
      go_ret
      exact ⟨rfl, HD9.out⟩
end Go.Proofs.YtfnkmigcklmghaaDoor
