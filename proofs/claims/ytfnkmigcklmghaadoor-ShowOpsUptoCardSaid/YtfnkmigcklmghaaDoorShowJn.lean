/- Layer 6: numbers as a list, with commas between: package show's joined, values and types, and the document's list. -/
import Derived.Test.YtfnkmigcklmghaaDoorShowFd
import Derived.Test.YtfnkmigcklmghaaDoorTextCut
import Derived.Test.YtfnkmigcklmghaaDoorNums
import Derived.Lib.Join
namespace Go.Proofs.YtfnkmigcklmghaaDoor
open Go.RowKit (wrap64 intOf Below)
set_option linter.unusedVariables false
set_option linter.unusedSimpArgs false

def listText (T : Int → List UInt8) (Z : List Int) : List UInt8 := Lib.join (Z.map T) [44]
theorem join_tail (sep : List UInt8) (r : List (List UInt8)) (x : List UInt8) : Lib.joinTail sep (r ++ [x]) = Lib.joinTail sep r ++ (sep ++ x) := by simp [Lib.joinTail]
theorem listText_snoc (T : Int → List UInt8) : ∀ (Z : List Int) (z : Int), listText T (Z ++ [z]) = (if Z = [] then [] else listText T Z ++ [44]) ++ T z
  | [], z => by simp [listText, Lib.join_one]
  | y :: Z, z => by
    simp only [listText, List.cons_append, List.map_cons, List.map_append, List.map_nil, Lib.join_cons, join_tail]
    simp
theorem listText_nil (T : Int → List UInt8) : listText T [] = [] := rfl
theorem listText_len {T : Int → List UInt8} {M : Nat} : ∀ (Z : List Int), (∀ z ∈ Z, (T z).length ≤ M) → (listText T Z).length ≤ Z.length * (M + 1)
  | [], _ => by simp [listText_nil]
  | y :: Z, hM => by
    have htail : ∀ r : List Int, (∀ z ∈ r, (T z).length ≤ M) → (Lib.joinTail [44] (r.map T)).length ≤ r.length * (M + 1) := by
      intro r
      induction r with
      | nil => intro _; simp [Lib.joinTail]
      | cons a r ih =>
        intro hr
        have h0 := ih (fun z hz => hr z (by simp [hz]))
        have h1 := hr a (by simp)
        have h2 : Lib.joinTail [44] ((a :: r).map T) = [44] ++ T a ++ Lib.joinTail [44] (r.map T) := by simp [Lib.joinTail]
        rw [h2]
        simp only [List.length_append, List.length_cons, List.length_nil, Nat.add_mul]
        omega
    have h1 := hM y (by simp)
    have h2 := htail Z (fun z hz => hM z (by simp [hz]))
    show (Lib.join (T y :: Z.map T) [44]).length ≤ _
    rw [Lib.join_cons]
    simp only [List.length_append, List.length_cons, Nat.add_mul]
    omega
theorem joinBytes (T : Int → List UInt8) (Z : List Int) : Lib.join ((Z.map fun z => mk (T z)).map (·.data.toList)) (mk [44]).data.toList = listText T Z := by
  rw [mk_list, List.map_map]
  unfold listText
  first
    | rfl
    | (congr 1
       apply List.map_congr_left
       intro z _
       exact mk_list _)
theorem ownsRow_news {w w' : World} {B e k n : Nat} {v : Value} {xs : List Value} (h : w.ownsRow B e k v n xs) (hb : Below w.heap.size w w') : w'.ownsRow B e k v n xs := by
  refine ⟨h.1, ?_⟩
  rcases h.2 with h' | ⟨g, cap, cur, hv, hg, hh, rest⟩
  · exact .inl h'
  · exact .inr ⟨g, cap, cur, hv, hg, (hb.block g (Array.getElem?_eq_some_iff.1 hh).1).trans hh, rest⟩
theorem OwnsS.form {w : World} {B : Nat} {e : TypeId} {v : Value} {l : List ByteArray} (h : OwnsS w B e v l) : ∃ a n c, v = .slice a n c := by
  rcases h.2 with ⟨hv, _⟩ | ⟨g, cap, cur, hv, _⟩
  · exact ⟨_, _, _, hv⟩
  · exact ⟨_, _, _, hv⟩
theorem OwnsS.made {w : World} {B : Nat} {e : TypeId} (cur : Array Value) (cap : Nat) (hB : B ≤ w.heap.size) (hm : cap ≤ maxLen) (hs : cur.size = cap) : OwnsS (w.alloc (.cells cur e)) B e (.slice (some ⟨w.heap.size, 0, none⟩) 0 cap) [] :=
  ⟨rfl, .inr ⟨w.heap.size, cap, cur, rfl, hB, heap_alloc_new w _, Nat.zero_le _, hm, by simpa using hs, by simp⟩⟩
/-- A function's answer to each number of a list, wherever the walk stands. -/
def ShownBy (w : World) (fid : Nat) (T : Int → List UInt8) (Z : List Int) : Prop :=
  ∀ z ∈ Z, ∀ u, Below w.heap.size w u → Calls Tryd.prog fid #[.int .i64 z] u fun e u' => e = .returned (.string (mk (T z))) ∧ Below u.heap.size u u'

set_option maxRecDepth 100000 in
set_option maxHeartbeats 2000000 in
theorem joined_any (fid : Nat) (hfid : ∀ args w, (callFunc fid args).run Tryd.prog w = .ok (.enter fid args) w) (T : Int → List UInt8) (M : Nat) (hM2 : M ≤ 1000) (a : Option Addr) (n c : Nat) (Z : List Int) (hM : ∀ z ∈ Z, (T z).length ≤ M) (w : World) (hat : NumsAt w a n Z) (hn : n ≤ 1048576) (hF : ShownBy w fid T Z) :
    Calls Tryd.prog 76 #[.slice a n c, .func (.func fid) #[] #[]] w fun e w' => e = .returned (.string (mk (listText T Z))) ∧ Below w.heap.size w w' := by
  obtain ⟨i0, hi, hz0, hz1, hz2⟩ := info_parts info_str
  have hmk : ∀ u : World, (Instr.makeSlice 142 (.int .i64 0) (.int .i64 (n : Int))).run Tryd.prog u =
      .ok (.slice (some ⟨u.heap.size, 0, none⟩) 0 n) (u.alloc (.cells (madeCells #[.string ⟨#[]⟩] n) 9)) := fun u => by
    have h := run_make (P := Tryd.prog) u 142 9 i0 (.string ⟨#[]⟩) Tryd.underlying142 hi hz0 .i64 .i64 0 (n : Int) (by omega) (by omega) (by rw [hz2]; omega) (by omega)
    rw [Int.toNat_natCast] at h
    simpa [hz1, Value.cells] using h
  have hlen := hat.1
  have HL : RowKit.Hid (Z.length = n) := Lib.hid hlen
  have HAT := Lib.hid hat
  have HF := Lib.hid hF
  have HMM := Lib.hid hM
  have HS0 : RowKit.Hid (OwnsS (w.alloc (.cells (madeCells #[.string ⟨#[]⟩] n) 9)) w.heap.size 9 (.slice (some ⟨w.heap.size, 0, none⟩) 0 n) ((Z.take 0).map fun z => mk (T z)) ∧ Below w.heap.size w (w.alloc (.cells (madeCells #[.string ⟨#[]⟩] n) 9))) := Lib.hid ⟨OwnsS.made _ _ (Nat.le_refl _) (by unfold maxLen; omega) (by simp [size_madeCells]), (Below.refl _ _).alloc (Nat.le_refl _) _⟩
  clear hat hF hM hz0 hz1 hz2 hi hlen
  go_enter Tryd.func76, Tryd.ntmps76
  go_wp2_with fail
  go_loopw [5, 13] (fun pv iv wr => ∃ (k : Nat) (va : Option Addr) (vn vc : Nat), k ≤ n ∧ iv = .int .i64 (k : Int) ∧ pv = .slice va vn vc ∧ RowKit.Hid (OwnsS wr w.heap.size 9 (.slice va vn vc) ((Z.take k).map fun z => mk (T z)) ∧ Below w.heap.size w wr)) (fun _ iv _ => n - (intOf iv).toNat)
  case atStart => exact ⟨0, _, _, _, Nat.zero_le _, rfl, rfl, HS0⟩
  case round =>
    obtain ⟨k, va, vn, vc, hk, rfl, rfl, HI⟩ := hrel
    by_cases hlt : k < n
    · have hkz : k < Z.length := by rw [HL.out]; exact hlt
      obtain ⟨g, off, ea, hg, hcell⟩ := HAT.out.2 (by omega)
      subst ea
      obtain ⟨z, hz⟩ : ∃ z, z = Z[k] := ⟨_, rfl⟩
      have hc0 := (HI.out.2.cell (p := ⟨g, off + k, none⟩) hg).trans (hcell k hkz)
      rw [← hz] at hc0
      have HC := Lib.hid (HF.out z (by rw [hz]; exact List.getElem_mem hkz) wr HI.out.2)
      have HTK : RowKit.Hid ((Z.take (k + 1)).map (fun z => mk (T z)) = (Z.take k).map (fun z => mk (T z)) ++ [mk (T z)]) := Lib.hid (by rw [List.take_succ_eq_append_getElem hkz, List.map_append, hz]; rfl)
      have HTL : RowKit.Hid (((Z.take k).map fun z => mk (T z)).length ≤ 1048576) := Lib.hid (by rw [List.length_map, List.length_take]; omega)
      clear hcell hz hmk
      go_wp2_with fail
      refine HC.out.mono ?_
      rintro e w1 ⟨rfl, hb1⟩
      have HO1 : RowKit.Hid (OwnsS w1 w.heap.size 9 (.slice va vn vc) ((Z.take k).map fun z => mk (T z))) := Lib.hid (ownsRow_news HI.out.1 hb1)
      have HB1 := Lib.hid (keepS HI.out.2 hb1)
      have hsz := HB1.out.size
      clear hb1 hc0
      go_wp2_with (at_builtin; refine wpList_append_str w1 rfl _ _ 142 rfl 9 Tryd.underlying142 info_str w.heap.size (.slice va vn vc) ((Z.take k).map fun z => mk (T z)) rfl HO1.out hsz _ 1 _ (mk (T z)) rfl rfl rfl (by have := HTL.out; omega) ?_; intro v2 w2 hown2 hb2; obtain ⟨va2, vn2, vc2, rfl⟩ := hown2.form; have HO2 := Lib.hid hown2; have HB2 := Lib.hid (HB1.out.trans hb2); clear hown2 hb2)
      go_roundw
      case rel => exact ⟨k + 1, va2, vn2, vc2, by omega, by go_num, rfl, Lib.hid ⟨by rw [HTK.out]; exact HO2.out, HB2.out⟩⟩
      case measure => simp [intOf]; omega
    · have hkn : k = n := by omega
      subst hkn
      have HO : RowKit.Hid (OwnsS wr w.heap.size 9 (.slice va vn vc) (Z.map fun z => mk (T z))) := Lib.hid (by have h := HI.out.1; rw [List.take_of_length_le (by rw [HL.out]; exact Nat.le_refl _)] at h; exact h)
      have HB := Lib.hid HI.out.2
      have HJ : RowKit.Hid ((Lib.join ((Z.map fun z => mk (T z)).map (·.data.toList)) (mk [44]).data.toList).length ≤ 140737488355328) := Lib.hid (by
        rw [joinBytes]
        have h1 := listText_len Z HMM.out
        have h2 : Z.length * (M + 1) ≤ 1048576 * 1001 := Nat.mul_le_mul (by rw [HL.out]; exact hn) (by omega)
        omega)
      clear hmk
      rcases HO.out.shape with ⟨hv, h0⟩ | ⟨g, cp, hv, h1, h2, h3, h4⟩
      · cases hv
        have HZ : RowKit.Hid (Z = []) := Lib.hid (by simpa using h0)
        clear h0
        go_wp2_with fail
        refine (Tryd.strings_Join_none none 0 (mk [44]) wr).mono ?_
        rintro e w9 ⟨rfl, rfl⟩
        go_wp2_with fail
        go_ret
        exact ⟨by rw [HZ.out]; rfl, HB.out⟩
      · cases hv
        have HG := Lib.hid h3
        have HC4 := Lib.hid h4
        have HCP := Lib.hid h1
        clear h1 h2 h3 h4
        have HJC := Lib.hid (Tryd.strings_Join g 0 vc (Z.map fun z => mk (T z)) (mk [44]) wr (fun j x hx => by
          obtain ⟨hj, rfl⟩ := List.getElem?_eq_some_iff.1 hx
          rw [Nat.zero_add]
          exact HC4.out j hj) HG.out (by rw [List.length_map, HL.out]; omega) HCP.out HJ.out)
        rw [joinBytes] at HJC
        generalize hln : (Z.map fun z => mk (T z)).length = ln at HJC ⊢
        clear hln
        go_wp2_with fail
        refine HJC.out.mono ?_
        rintro e w9 ⟨rfl, hb9⟩
        have HB9 := Lib.hid (keepS HB.out hb9)
        clear hb9
        go_wp2_with fail
        go_ret
        exact ⟨rfl, HB9.out⟩
end Go.Proofs.YtfnkmigcklmghaaDoor
