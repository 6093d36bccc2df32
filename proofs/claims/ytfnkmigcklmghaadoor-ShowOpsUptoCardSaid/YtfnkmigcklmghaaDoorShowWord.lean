/- Layer 6: the document's word: a word of some with blanks between; and its Type. -/
import Derived.Test.YtfnkmigcklmghaaDoorShowDig
import Derived.Test.YtfnkmigcklmghaaDoorTextPlain
import Derived.Laws.IdiomStrings
namespace Go.Proofs.YtfnkmigcklmghaaDoor
open Go.RowKit (wrap64 intOf Below)
set_option linter.unusedVariables false
set_option linter.unusedSimpArgs false

def wordGo : List UInt8 → List UInt8 → Int → Int → List UInt8
  | [], cur, at', n => if at' = n then cur else [63]
  | c :: r, cur, at', n => if c = 32 then (if at' = n then cur else wordGo r [] (at' + 1) n) else wordGo r (cur ++ [c]) at' n
def wordL (l : List UInt8) (n : Int) : List UInt8 := wordGo l [] 0 n
theorem wordGo_low : ∀ (l cur : List UInt8) (a n : Int), n < a → wordGo l cur a n = [63]
  | [], cur, a, n, h => by unfold wordGo; rw [if_neg (by omega)]
  | c :: r, cur, a, n, h => by
    unfold wordGo
    rw [if_neg (show ¬ a = n by omega), wordGo_low r [] (a + 1) n (by omega), wordGo_low r (cur ++ [c]) a n h]
    simp
theorem wordGo_high : ∀ (l cur : List UInt8) (a n : Int), a + (l.filter (· = 32)).length < n → wordGo l cur a n = [63]
  | [], cur, a, n, h => by unfold wordGo; simp at h; rw [if_neg (by omega)]
  | c :: r, cur, a, n, h => by
    by_cases hc : c = 32
    · subst hc
      simp at h
      unfold wordGo
      rw [if_pos rfl, if_neg (by omega), wordGo_high r [] (a + 1) n (by omega)]
    · simp [hc] at h
      unfold wordGo
      rw [if_neg hc, wordGo_high r (cur ++ [c]) a n (by simpa using h)]
theorem wordGo_sp {c : UInt8} {r cur : List UInt8} {a n : Int} (h : c = 32) (hn : ¬ a = n) : wordGo (c :: r) cur a n = wordGo r [] (a + 1) n := by rw [wordGo, if_pos h, if_neg hn]
theorem wordGo_ch {c : UInt8} {r cur : List UInt8} {a n : Int} (h : ¬ c = 32) : wordGo (c :: r) cur a n = wordGo r (cur ++ [c]) a n := by rw [wordGo, if_neg h]
theorem drop_cons {l : List UInt8} {i : Nat} (h : i < l.length) : l.drop i = l[i] :: l.drop (i + 1) := List.drop_eq_getElem_cons h
theorem mid_snoc {l : List UInt8} {p i : Nat} (hp : p ≤ i) (h : i < l.length) : (l.drop p).take (i + 1 - p) = (l.drop p).take (i - p) ++ [l[i]] := by
  rw [show i + 1 - p = (i - p) + 1 by omega, List.take_succ_eq_append_getElem (by rw [List.length_drop]; omega)]
  congr 2
  rw [List.getElem_drop]
  congr 1
  omega
theorem extract_mid (s : ByteArray) (p i : Nat) : s.extract p i = mk ((s.data.toList.drop p).take (i - p)) := by
  apply ByteArray.ext
  apply Array.toList_inj.1
  rw [mk_list, Lib.extract_data]

set_option maxRecDepth 100000 in
set_option maxHeartbeats 2000000 in
theorem word_any (s : ByteArray) (n : Int) (w : World) (hs : s.size ≤ 1000000) :
    Calls Tryd.prog 39 #[.string s, .int .i64 n] w fun e w' => e = .returned (.string (mk (wordL s.data.toList n))) ∧ w = w' := by
  have hsl : s.data.toList.length = s.size := by rw [Array.length_toList]; rfl
  have HSL := Lib.hid hsl
  clear hsl
  go_enter Tryd.func39, Tryd.ntmps39
  go_wp2_with fail
  go_loopw [5, 6, 7] (fun av fv iv wr => ∃ (a p i : Nat), p ≤ i ∧ a ≤ i ∧ i ≤ s.size + 1 ∧ av = .int .i64 (a : Int) ∧ fv = .int .i64 (p : Int) ∧ iv = .int .i64 (i : Int) ∧ w = wr ∧ RowKit.Hid ((i ≤ s.size → wordGo (s.data.toList.drop i) ((s.data.toList.drop p).take (i - p)) a n = wordL s.data.toList n) ∧ (i = s.size + 1 → wordL s.data.toList n = [63]))) (fun _ _ iv _ => s.size + 1 - (intOf iv).toNat)
  case atStart => exact ⟨0, 0, 0, Nat.le_refl _, Nat.le_refl _, Nat.zero_le _, rfl, rfl, rfl, rfl, Lib.hid ⟨fun _ => by simp [wordL], fun h => by omega⟩⟩
  case round =>
    obtain ⟨a, p, i, hpi, hai, hi, rfl, rfl, rfl, rfl, HI⟩ := hrel
    by_cases hlt : i ≤ s.size
    · by_cases he : i = s.size
      · subst he
        have hr := HI.out.1 (Nat.le_refl _)
        rw [List.drop_of_length_le (by rw [HSL.out]; exact Nat.le_refl _)] at hr
        by_cases hn : (a : Int) = n
        · subst hn
          have HR : RowKit.Hid (mk (wordL s.data.toList (a : Int)) = s.extract p s.size) := Lib.hid (by rw [extract_mid, ← hr]; unfold wordGo; rw [if_pos rfl])
          clear hr
          go_wp2_with fail
          go_ret
          exact ⟨by rw [HR.out]; rfl, rfl⟩
        · have HR : RowKit.Hid (wordL s.data.toList n = [63]) := Lib.hid (by rw [← hr]; unfold wordGo; rw [if_neg hn])
          clear hr
          go_wp2_with fail
          go_roundw
          case rel => exact ⟨a + 1, s.size + 1, s.size + 1, by omega, by omega, by omega, by go_num, by go_num, by go_num, (by first | rfl | trivial), Lib.hid ⟨fun h => by omega, fun _ => HR.out⟩⟩
          case measure => simp [intOf] <;> omega
      · have hil : i < s.size := by omega
        have hr := HI.out.1 hlt
        rw [drop_cons (by rw [HSL.out]; exact hil)] at hr
        obtain ⟨c, hc⟩ : ∃ c, c = s[i]'hil := ⟨_, rfl⟩
        have hci : s.data.toList[i]'(by rw [HSL.out]; exact hil) = c := by rw [hc]; rfl
        have HCI := Lib.hid hci
        rw [hci] at hr
        by_cases hsp : c = 32
        · have h32 : (s[i]'hil) = 32 := by rw [← hc, hsp]
          have HR := Lib.hid hr
          clear hr hc hci
          by_cases hn : (a : Int) = n
          · subst hn
            have HQ : RowKit.Hid (mk (wordL s.data.toList (a : Int)) = s.extract p i) := Lib.hid (by rw [extract_mid, ← HR.out]; unfold wordGo; rw [if_pos hsp, if_pos rfl])
            go_wp2_with fail
            go_ret
            exact ⟨by rw [HQ.out]; rfl, rfl⟩
          · have HQ : RowKit.Hid (wordGo (s.data.toList.drop (i + 1)) ((s.data.toList.drop (i + 1)).take (i + 1 - (i + 1))) ((a + 1 : Nat) : Int) n = wordL s.data.toList n) := Lib.hid (by rw [← HR.out, Nat.sub_self, List.take_zero, wordGo_sp hsp hn]; rfl)
            go_wp2_with fail
            go_roundw
            case rel => exact ⟨a + 1, i + 1, i + 1, by omega, by omega, by omega, by go_num, by go_num, by go_num, (by first | rfl | trivial), Lib.hid ⟨fun _ => HQ.out, fun h => by omega⟩⟩
            case measure => simp [intOf]; omega
        · have h32 : ¬ (s[i]'hil) = 32 := by rw [← hc]; exact hsp
          have hb : (((s[i]'hil).toNat : Int) == 32) = false := by
            rw [beq_eq_false_iff_ne]
            intro hh
            exact h32 (UInt8.toNat.inj (by have : (s[i]'hil).toNat = 32 := by omega
                                           rw [this]; rfl))
          have HQ : RowKit.Hid (wordGo (s.data.toList.drop (i + 1)) ((s.data.toList.drop p).take (i + 1 - p)) a n = wordL s.data.toList n) := Lib.hid (by
            rw [← hr, mid_snoc hpi (by rw [HSL.out]; exact hil), HCI.out, wordGo_ch hsp])
          clear hr hc hci
          go_wp2_with fail
          go_roundw
          case rel => exact ⟨a, p, i + 1, by omega, by omega, by omega, by go_num, by go_num, by go_num, (by first | rfl | trivial), Lib.hid ⟨fun _ => HQ.out, fun h => by omega⟩⟩
          case measure => simp [intOf]; omega
    · have HR : RowKit.Hid (wordL s.data.toList n = [63]) := Lib.hid (HI.out.2 (by omega))
      go_wp2_with fail
      go_ret
      exact ⟨by rw [HR.out]; rfl, rfl⟩
end Go.Proofs.YtfnkmigcklmghaaDoor
