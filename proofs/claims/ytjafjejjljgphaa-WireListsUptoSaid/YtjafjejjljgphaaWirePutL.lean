/- Layer 3, P3.2: wire.PutList and the document's PutList, walked; and whether two lists are one. -/
import Derived.Test.YtjafjejjljgphaaWirePuts
import Derived.Test.YtjafjejjljgphaaWirePlainL
import Derived.Test.YtjafjejjljgphaaNums
namespace Go.Proofs.Ytjafjejjljgphaa
open Go.RowKit (wrap64 intOf Below)
set_option linter.unusedVariables false

theorem info_i64 : (Try.prog.info? 2).map (fun i => (i.zero, i.size, i.bytes)) = some (some (.int .i64 0), 1, 8) := by kernel_rfl
theorem putZ_step {L : List UInt8} {Z : List Int} {k : Nat} (h : k < Z.length) : (L ++ (putL (Z.length : Int) ++ putNs (Z.take k))) ++ putL Z[k] = L ++ (putL (Z.length : Int) ++ putNs (Z.take (k + 1))) := by
  rw [take_next Z k h, putNs_snoc]; simp only [List.append_assoc]
theorem putZ_room {L : List UInt8} {Z : List Int} {k n m : Nat} (hL : L.length = n) (hZ : Z.length = m) (hk : k ≤ m) : (L ++ (putL (Z.length : Int) ++ putNs (Z.take k))).length ≤ n + (10 + 10 * k) := by
  have h1 := putL_len (Z.length : Int)
  have h2 := putNs_len (Z.take k)
  rw [List.length_take] at h2
  simp only [List.length_append]
  omega
theorem putZ_all {L : List UInt8} {Z : List Int} {m : Nat} (hZ : Z.length = m) : L ++ (putL (Z.length : Int) ++ putNs (Z.take m)) = L ++ putZ Z := by
  rw [← hZ, List.take_length]; rfl
theorem putZ_none {L : List UInt8} {Z : List Int} (hZ : Z.length = 0) : L ++ putL (Z.length : Int) = L ++ putZ Z := by
  have : Z = [] := List.eq_nil_of_length_eq_zero hZ
  subst this
  simp [putZ, putNs]

theorem put_list (a : Option Addr) (n c : Nat) (L : List UInt8) (za : Option Addr) (m zc : Nat) (Z : List Int) (w : World) (hat : BytesAt w a n c L) (hz : NumsAt w za m Z) (hin : ∀ z ∈ Z, InI z) (hn : n + (10 + 10 * m) ≤ 140737488355328) :
    Calls Try.prog 19 #[.slice a n c, .slice za m zc] w (BytesPost w.heap.size (L ++ putZ Z) w) := by
  have C1 : ∀ w, BytesAt w a n c L → Calls Try.prog 25 #[.slice a n c, .int .i64 (10 + (m : Int))] w (BytesPost w.heap.size L w) := fun w h => apart_any a n c L (10 + m) w h (by omega)
  have C1 := Lib.hid C1
  have HA := Lib.hid hat
  have HL := Lib.hid hat.1
  have HZ := Lib.hid hz.1
  have HI := Lib.hid hin
  have HN := Lib.hid hz.2
  have HR : RowKit.Hid (L.length + 10 ≤ 140737488355328) := Lib.hid (by rw [hat.1]; omega)
  clear hat hz hin
  by_cases h0 : 0 < m
  · obtain ⟨g, off, rfl, hg, hcell⟩ := HN.out h0
    have HC := Lib.hid hcell
    clear hcell
    go_enter Try.func19, Try.ntmps19
    go_wp2_with fail
    refine (C1.out _ HA.out).mono ?_
    rintro e w1 ⟨va, vn, vc, rfl, hown1, hb1⟩
    have HB1 := Lib.hid hb1
    have HO1 := Lib.hid hown1
    clear hb1 hown1
    go_wp2_with fail
    refine (grown_any w.heap.size _ L (m : Int) _ HO1.out HB1.out.size HR.out (by omega) (by omega)).mono ?_
    rintro e w2 ⟨va2, vn2, vc2, rfl, hown2, hb2⟩
    have HB2 := Lib.hid (HB1.out.trans hb2)
    have HO2 : RowKit.Hid (OwnsB w2 w.heap.size 5 (.slice va2 vn2 vc2) (L ++ (putL (Z.length : Int) ++ putNs (Z.take 0)))) := Lib.hid (by rw [HZ.out]; simpa [putNs] using hown2)
    clear hb2 hown2
    go_wp2_with fail
    go_loopw [5, 18] (fun bv iv wr => ∃ k : Nat, k ≤ m ∧ iv = .int .i64 (k : Int) ∧ RowKit.Hid (∃ va vn vc, bv = .slice va vn vc ∧ OwnsB wr w.heap.size 5 bv (L ++ (putL (Z.length : Int) ++ putNs (Z.take k)))) ∧ RowKit.Hid (Below w.heap.size w wr)) (fun _ iv _ => m - (intOf iv).toNat)
    case atStart => exact ⟨0, Nat.zero_le _, rfl, Lib.hid ⟨va2, vn2, vc2, rfl, HO2.out⟩, HB2⟩
    case round =>
      obtain ⟨k, hk, rfl, HW, HB⟩ := hrel
      obtain ⟨va, vn, vc, rfl, hown⟩ := HW.out
      have HO := Lib.hid hown
      clear hown HW
      by_cases hlt : k < m
      · have hkl : k < Z.length := by rw [HZ.out]; exact hlt
        obtain ⟨z, hzk⟩ : ∃ z, Z[k] = z := ⟨_, rfl⟩
        have hcell : wr.cell? ⟨g, off + k, none⟩ = some (.int .i64 z) := by rw [HB.out.cell (p := ⟨g, off + k, none⟩) hg, HC.out k hkl, hzk]; rfl
        have hzin : InI z := by rw [← hzk]; exact HI.out _ (List.getElem_mem _)
        obtain ⟨hz0, hz1⟩ := hzin
        have HST : RowKit.Hid ((L ++ (putL (Z.length : Int) ++ putNs (Z.take k))) ++ putL z = L ++ (putL (Z.length : Int) ++ putNs (Z.take (k + 1)))) := Lib.hid (by rw [← hzk]; exact putZ_step hkl)
        have HRM := Lib.hid (putZ_room HL.out HZ.out hk)
        clear hzk
        go_wp2_with fail
        refine (grown_any w.heap.size _ (L ++ (putL (Z.length : Int) ++ putNs (Z.take k))) z _ HO.out HB.out.size (by have := HRM.out; omega) hz0 hz1).mono ?_
        rintro e w3 ⟨va3, vn3, vc3, rfl, hown3, hb3⟩
        rw [HST.out] at hown3
        have HO3 := Lib.hid hown3
        have HB3 := Lib.hid (HB.out.trans hb3)
        clear hb3 hown3 hcell
        go_wp2_with fail
        go_roundw
        case rel => exact ⟨k + 1, by omega, by go_num, Lib.hid ⟨va3, vn3, vc3, rfl, HO3.out⟩, HB3⟩
        case measure => simp [intOf]; omega
      · obtain rfl : k = m := by omega
        have HF := Lib.hid HO.out
        rw [putZ_all HZ.out] at HF
        go_wp2_with fail
        go_ret
        exact ⟨va, vn, vc, rfl, HF.out, HB.out⟩
  · obtain rfl : m = 0 := by omega
    go_enter Try.func19, Try.ntmps19
    go_wp2_with fail
    refine (C1.out _ HA.out).mono ?_
    rintro e w1 ⟨va, vn, vc, rfl, hown1, hb1⟩
    have HB1 := Lib.hid hb1
    have HO1 := Lib.hid hown1
    clear hb1 hown1
    go_wp2_with fail
    refine (grown_any w.heap.size _ L 0 _ HO1.out HB1.out.size HR.out (by decide) (by decide)).mono ?_
    rintro e w2 ⟨va2, vn2, vc2, rfl, hown2, hb2⟩
    have HB2 := Lib.hid (HB1.out.trans hb2)
    have HO2 : RowKit.Hid (OwnsB w2 w.heap.size 5 (.slice va2 vn2 vc2) (L ++ putZ Z)) := Lib.hid (by rw [← putZ_none HZ.out, HZ.out]; exact hown2)
    clear hb2 hown2
    go_wp2_with fail
    refine wp_loop_rounds 1 ?_
    rw [rounds_succ]
    go_wp2_with fail
    go_ret
    exact ⟨va2, vn2, vc2, rfl, HO2.out, HB2.out⟩

theorem ref_put_list (a : Option Addr) (n c : Nat) (L : List UInt8) (za : Option Addr) (m zc : Nat) (Z : List Int) (w : World) (hat : BytesAt w a n c L) (hz : NumsAt w za m Z) (hin : ∀ z ∈ Z, InI z) (hn : n + (20 + 10 * m) ≤ 140737488355328) :
    Calls Try.prog 20 #[.slice a n c, .slice za m zc] w (BytesPost w.heap.size (L ++ putZ Z) w) := by
  have C1 := Lib.hid (ref_put a n c L (m : Int) w hat (by omega) (by omega) (by omega))
  have HL := Lib.hid hat.1
  have HZ := Lib.hid hz.1
  have HI := Lib.hid hin
  have HN := Lib.hid hz.2
  clear hat hz hin
  by_cases h0 : 0 < m
  · obtain ⟨g, off, rfl, hg, hcell⟩ := HN.out h0
    have HC := Lib.hid hcell
    clear hcell
    go_enter Try.func20, Try.ntmps20
    go_wp2_with fail
    refine C1.out.mono ?_
    rintro e w2 ⟨va2, vn2, vc2, rfl, hown2, hb2⟩
    have HB2 := Lib.hid hb2
    have HO2 : RowKit.Hid (OwnsB w2 w.heap.size 5 (.slice va2 vn2 vc2) (L ++ (putL (Z.length : Int) ++ putNs (Z.take 0)))) := Lib.hid (by rw [HZ.out]; simpa [putNs] using hown2)
    clear hb2 hown2
    go_wp2_with fail
    go_loopw [5, 6] (fun bv iv wr => ∃ k : Nat, k ≤ m ∧ iv = .int .i64 (k : Int) ∧ RowKit.Hid (∃ va vn vc, bv = .slice va vn vc ∧ OwnsB wr w.heap.size 5 bv (L ++ (putL (Z.length : Int) ++ putNs (Z.take k)))) ∧ RowKit.Hid (Below w.heap.size w wr)) (fun _ iv _ => m - (intOf iv).toNat)
    case atStart => exact ⟨0, Nat.zero_le _, rfl, Lib.hid ⟨va2, vn2, vc2, rfl, HO2.out⟩, HB2⟩
    case round =>
      obtain ⟨k, hk, rfl, HW, HB⟩ := hrel
      obtain ⟨va, vn, vc, rfl, hown⟩ := HW.out
      have HO := Lib.hid hown
      clear hown HW
      by_cases hlt : k < m
      · have hkl : k < Z.length := by rw [HZ.out]; exact hlt
        obtain ⟨z, hzk⟩ : ∃ z, Z[k] = z := ⟨_, rfl⟩
        have hcell : wr.cell? ⟨g, off + k, none⟩ = some (.int .i64 z) := by rw [HB.out.cell (p := ⟨g, off + k, none⟩) hg, HC.out k hkl, hzk]; rfl
        have hzin : InI z := by rw [← hzk]; exact HI.out _ (List.getElem_mem _)
        obtain ⟨hz0, hz1⟩ := hzin
        have HST : RowKit.Hid ((L ++ (putL (Z.length : Int) ++ putNs (Z.take k))) ++ putL z = L ++ (putL (Z.length : Int) ++ putNs (Z.take (k + 1)))) := Lib.hid (by rw [← hzk]; exact putZ_step hkl)
        have HRM := Lib.hid (putZ_room HL.out HZ.out hk)
        clear hzk
        go_wp2_with fail
        refine (ref_put _ _ _ (L ++ (putL (Z.length : Int) ++ putNs (Z.take k))) z _ HO.out.read (by have h1 := HRM.out; rw [HO.out.len] at h1; omega) hz0 hz1).mono ?_
        rintro e w3 ⟨va3, vn3, vc3, rfl, hown3, hb3⟩
        rw [HST.out] at hown3
        have HO3 := Lib.hid (hown3.mono HB.out.size)
        have HB3 := Lib.hid (keepB HB.out hb3)
        clear hb3 hown3 hcell
        go_wp2_with fail
        go_roundw
        case rel => exact ⟨k + 1, by omega, by go_num, Lib.hid ⟨va3, vn3, vc3, rfl, HO3.out⟩, HB3⟩
        case measure => simp [intOf]; omega
      · obtain rfl : k = m := by omega
        have HF := Lib.hid HO.out
        rw [putZ_all HZ.out] at HF
        go_wp2_with fail
        go_ret
        exact ⟨va, vn, vc, rfl, HF.out, HB.out⟩
  · obtain rfl : m = 0 := by omega
    go_enter Try.func20, Try.ntmps20
    go_wp2_with fail
    refine C1.out.mono ?_
    rintro e w2 ⟨va2, vn2, vc2, rfl, hown2, hb2⟩
    have HB2 := Lib.hid hb2
    have HO2 : RowKit.Hid (OwnsB w2 w.heap.size 5 (.slice va2 vn2 vc2) (L ++ putZ Z)) := Lib.hid (by rw [← putZ_none HZ.out, HZ.out]; exact hown2)
    clear hb2 hown2
    go_wp2_with fail
    refine wp_loop_rounds 1 ?_
    rw [rounds_succ]
    go_wp2_with fail
    go_ret
    exact ⟨va2, vn2, vc2, rfl, HO2.out, HB2.out⟩

/-- Two lists that are one are told as that. -/
theorem same_yes (a1 a2 : Option Addr) (n c1 c2 : Nat) (Z : List Int) (w : World) (h1 : NumsAt w a1 n Z) (h2 : NumsAt w a2 n Z) (hn : n ≤ 140737488355328) :
    Calls Try.prog 23 #[.slice a1 n c1, .slice a2 n c2] w fun e w' => e = .returned (.bool true) ∧ ∃ q, w' = w.drewN q := by
  have HZ := Lib.hid h1.1
  have H1 := Lib.hid h1.2
  have H2 := Lib.hid h2.2
  clear h1 h2
  by_cases h0 : 0 < n
  · obtain ⟨g1, o1, rfl, hg1, hc1⟩ := H1.out h0
    obtain ⟨g2, o2, rfl, hg2, hc2⟩ := H2.out h0
    have HC1 := Lib.hid hc1
    have HC2 := Lib.hid hc2
    clear hc1 hc2 H1 H2
    go_enter Try.func23, Try.ntmps23
    go_wp2_with fail
    go_loopw [5] (fun iv wr => ∃ k : Nat, k ≤ n ∧ iv = .int .i64 (k : Int) ∧ ∃ d, wr = w.drewN d) (fun iv _ => n - (intOf iv).toNat)
    case atStart => exact ⟨0, Nat.zero_le _, rfl, 0, rfl⟩
    case round =>
      obtain ⟨k, hk, rfl, d, rfl⟩ := hrel
      by_cases hlt : k < n
      · have hkl : k < Z.length := by rw [HZ.out]; exact hlt
        obtain ⟨z, hzk⟩ : ∃ z, Z[k] = z := ⟨_, rfl⟩
        have hcell1 : w.cell? ⟨g1, o1 + k, none⟩ = some (.int .i64 z) := by rw [HC1.out k hkl, hzk]; rfl
        have hcell2 : w.cell? ⟨g2, o2 + k, none⟩ = some (.int .i64 z) := by rw [HC2.out k hkl, hzk]; rfl
        clear hzk
        go_wp2_with fail
        go_quiet (fail)
        go_wp2_with fail
        go_roundw
        case rel => exact ⟨k + 1, by omega, by go_num, _, rfl⟩
        case measure => simp [intOf]; omega
      · go_wp2_with fail
        go_ret
        exact ⟨rfl, d, rfl⟩
  · obtain rfl : n = 0 := by omega
    go_enter Try.func23, Try.ntmps23
    go_wp2_with fail
    refine wp_loop_rounds 1 ?_
    rw [rounds_succ]
    go_wp2_with fail
    go_ret
    exact ⟨rfl, 0, rfl⟩
end Go.Proofs.Ytjafjejjljgphaa
