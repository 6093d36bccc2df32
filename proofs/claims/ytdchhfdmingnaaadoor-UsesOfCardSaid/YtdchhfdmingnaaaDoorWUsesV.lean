/- Layer 13: the document's Count: how often a value is used. -/
import Derived.Test.YtdchhfdmingnaaaDoorWT7
import Derived.Test.YtdchhfdmingnaaaDoorWUsesT

namespace Go.Proofs.YtdchhfdmingnaaaDoor
open Go.RowKit (wrap64 intOf Below)
set_option linter.unusedVariables false
set_option linter.unusedSimpArgs false
theorem cntPart_mono (f : FuncD) (x : Int) (i : Nat) {m m' : Nat} (h : m ≤ m') : cntPart f x i m ≤ cntPart f x i m' := by
  induction h with
  | refl => exact Nat.le_refl _
  | step _ ih => rw [cntPart_more]; omega
theorem cntAll_mono (f : FuncD) (x : Int) {m m' : Nat} (h : m ≤ m') : cntAll f x m ≤ cntAll f x m' := by
  induction h with
  | refl => exact Nat.le_refl _
  | step _ ih => rw [cntAll_more]; omega
theorem cnt_le {f : FuncD} {x : Int} {i k : Nat} (hi : i < f.blocks.length) (hk : k ≤ lenU f i) : cntAll f x i + cntPart f x i k + (atU f i k).count x ≤ cntU f x := by
  have h2 := cntPart_mono f x i (show k + 1 ≤ lenU f i + 1 by omega)
  rw [cntPart_more] at h2
  have h3 := cntAll_mono f x (show i + 1 ≤ f.blocks.length from hi)
  rw [cntAll_more] at h3
  unfold cntU
  omega
theorem count_take {L : List Int} {j : Nat} (x : Int) (h : j < L.length) : (L.take (j + 1)).count x = (L.take j).count x + (if L[j] = x then 1 else 0) := by
  rw [List.take_succ_eq_append_getElem h, List.count_append, List.count_singleton]
  by_cases he : L[j] = x <;> simp [he]
theorem count_take_le (L : List Int) (j : Nat) (x : Int) : (L.take j).count x ≤ L.count x := List.Sublist.count_le _ (List.take_sublist _ _)
theorem law_enter13 (w : World) (r : Int) (a : Option Addr) (n c : Nat) : LawSt w r a n c none 0 [] (w.alloc (.cells #[.int .i64 r, .slice a n c] 30)) := by
  have hc : ∀ j, (w.alloc (.cells #[.int .i64 r, .slice a n c] 30)).cell? ⟨w.heap.size, j, none⟩ = (#[.int .i64 r, .slice a n c] : Array Value)[j]? := fun j => World.cell?_alloc_mark _ _ _ _ _
  exact ⟨(Below.refl w.heap.size w).alloc (Nat.le_refl _) _, by simp, hc 0, hc 1, NumsAt.nil _ _⟩
set_option maxRecDepth 100000 in
set_option maxHeartbeats 4000000 in
theorem refcount_any (r : Int) (a : Option Addr) (n c : Nat) (f : FuncD) (x : Int) (w : World) (hq : FuncQ w [.int .i64 r, .slice a n c] f) (hsm : SmU f) (hcb : cntU f x ≤ 900000) :
    Calls Tryd.prog 13 #[.agg #[.int .i64 r, .slice a n c], .int .i64 x] w fun e w' => e = .returned (.int .i64 (cntU f x : Int)) ∧ Below w.heap.size w w' := by
  have HQ := Lib.hid hq
  have HSM := Lib.hid hsm
  have HCB := Lib.hid hcb
  have HRW : RowKit.Hid (RowV BlockQ 8 w (.slice a n c) f.blocks) := Lib.hid (by
    obtain ⟨bv, he, _, hr⟩ := hq
    simp only [List.cons.injEq, and_true] at he
    obtain ⟨_, rfl⟩ := he
    exact hr)
  have HN : RowKit.Hid (n = f.blocks.length) := Lib.hid (by obtain ⟨_, _, _, e, h, _⟩ := HRW.out; cases e; exact h.symm)
  have hnb : n ≤ 100000 := by rw [HN.out]; exact hsm.blocks
  have CA : RowKit.Hid (∀ u (i k : Nat), Below w.heap.size w u → i < n → k ≤ lenU f i → Calls Tryd.prog 26 #[.agg #[.int .i64 r, .slice a n c], .int .i64 (i : Int), .int .i64 (k : Int)] u (ListPostU (atU f i k) u)) := Lib.hid fun u i k hu hi hk => refat_any r a n c f i k u (FuncQ.lasts _ _ _ _ hu HQ.out) HSM.out hi hk
  have HAL : RowKit.Hid (∀ i k, i < n → k ≤ lenU f i → (atU f i k).length ≤ 140737488355328) := Lib.hid fun i k hi hk => atU_len HQ.out HSM.out hi hk
  clear hq hsm hcb
  obtain ⟨W0, hW0⟩ : ∃ u, u = w.alloc (.cells #[.int .i64 r, .slice a n c] 30) := ⟨_, rfl⟩
  have HS0 : RowKit.Hid (LawSt w r a n c none 0 [] W0) := Lib.hid (by rw [hW0]; exact law_enter13 w r a n c)
  go_enter Tryd.func13, Tryd.ntmps13
  go_upto_region 1 with fail
  rw [← hW0]
  clear hW0
  go_wp2_with fail
  go_loopw [5, 6] (fun v5 v6 wr => ∃ i t : Nat, i ≤ n ∧ v6 = .int .i64 (i : Int) ∧ v5 = .int .i64 (t : Int) ∧ RowKit.Hid (LawSt w r a n c none 0 [] wr ∧ t = cntAll f x i)) (fun _ v6 _ => n - (intOf v6).toNat)
  case atStart => exact ⟨0, 0, Nat.zero_le _, rfl, rfl, Lib.hid ⟨HS0.out, by simp [cntAll]⟩⟩
  case round =>
    obtain ⟨i, t, hi, rfl, rfl, HI⟩ := hrel
    clear HS0
    obtain ⟨wp, hwp⟩ : ∃ u, u = wr := ⟨_, rfl⟩
    rw [← hwp] at HI ⊢
    clear hwp
    have f1 := HI.out.1.c1
    by_cases hlt : i < n
    · have hltz : (i : Int) < (n : Int) := by omega
      obtain ⟨g, off, pa, pn, pc, oa, on, oc, la, ln, lc, ma, mn, mc, rfl, hg, hblk, hops, hla, hma⟩ := block_atO HRW.out hlt
      have HON : RowKit.Hid (on = lenU f i) := Lib.hid (by obtain ⟨_, _, _, e, h, _⟩ := hops; cases e; exact h.symm)
      have hob : on ≤ 100000 := by have h1 := HON.out; have h2 := lenU_le (f := f) (i := i) (by have := HN.out; omega); have h3 := fstU_le f (i + 1); have h4 := HSM.out.vals; omega
      have HBK : RowKit.Hid (∀ u, Below w.heap.size w u → u.cell? ⟨g, off + i * 8 + 1, none⟩ = some (.slice oa on oc)) := Lib.hid fun u hu => by
        obtain ⟨_, b1, _⟩ := hblk u hu
        exact b1
      clear hblk hops hla hma hg
      go_upto_region 5 with fail
      go_wp2_with fail
      clear f1
      go_loopw [5, 7] (fun v5 v7 wr => ∃ k t : Nat, k ≤ on + 1 ∧ v7 = .int .i64 (k : Int) ∧ v5 = .int .i64 (t : Int) ∧ RowKit.Hid (LawSt w r (some ⟨g, off, none⟩) n c none 0 [] wr ∧ t = cntAll f x i + cntPart f x i k)) (fun _ v7 _ => on + 1 - (intOf v7).toNat)
      case atStart => exact ⟨0, t, Nat.zero_le _, rfl, rfl, Lib.hid ⟨HI.out.1, by simpa [cntPart] using HI.out.2⟩⟩
      case round =>
        obtain ⟨k, t, hk, rfl, rfl, HK⟩ := hrel
        clear HI
        obtain ⟨wq, hwq⟩ : ∃ u, u = wr := ⟨_, rfl⟩
        rw [← hwq] at HK ⊢
        clear hwq
        have f0 := HK.out.1.c0
        have f1 := HK.out.1.c1
        have b1 := HBK.out wq HK.out.1.bel
        by_cases hlk : k ≤ on
        · have hlkz : (k : Int) ≤ (on : Int) := by omega
          have HKL : RowKit.Hid (k ≤ lenU f i) := Lib.hid (by rw [← HON.out]; exact hlk)
          go_upto_region 9 with (go_at_call 26; (with_reducible refine (CA.out _ i k HK.out.1.bel hlt HKL.out).mono ?_); rintro e w5 ⟨ua, un, uc, rfl, ho5, hb5⟩; have HK5 := Lib.hid (HK.out.1.since hb5); have HO5 := Lib.hid ho5; clear ho5 hb5)
          clear f0 f1 b1
          have hul : (atU f i k).length = un := HO5.out.read.1
          have HUL := Lib.hid hul
          have hub : un ≤ 140737488355328 := by have := HAL.out i k hlt HKL.out; omega
          have HTOT : RowKit.Hid (∀ j, cntAll f x i + cntPart f x i k + ((atU f i k).take j).count x ≤ 900000) := Lib.hid fun j => by
            have h1 := cnt_le (x := x) (show i < f.blocks.length by have := HN.out; omega) HKL.out
            have h2 := count_take_le (atU f i k) j x
            have h3 := HCB.out
            omega
          clear hul
          go_wp2_with fail
          go_loopw [5, 9] (fun v5 v9 wr => ∃ j t : Nat, j ≤ un ∧ v9 = .int .i64 (j : Int) ∧ v5 = .int .i64 (t : Int) ∧ RowKit.Hid (t = cntAll f x i + cntPart f x i k + ((atU f i k).take j).count x) ∧ wr = w5) (fun _ v9 _ => un - (intOf v9).toNat)
          case atStart => exact ⟨0, t, Nat.zero_le _, rfl, rfl, Lib.hid (by simpa using HK.out.2), rfl⟩
          case round =>
            obtain ⟨j, t, hj, rfl, rfl, HT, rfl⟩ := hrel
            clear HK
            by_cases hlj : j < un
            · have hljz : (j : Int) < (un : Int) := by omega
              have hj0 : (0 : Int) ≤ (j : Int) := by omega
              have HJL : RowKit.Hid (j < (atU f i k).length) := Lib.hid (by rw [HUL.out]; exact hlj)
              obtain ⟨gu, ou, rfl, hgu, hcu⟩ := HO5.out.read.2 (by omega)
              have hcell := hcu j HJL.out
              obtain ⟨z, hz⟩ : ∃ z, z = (atU f i k)[j]'HJL.out := ⟨_, rfl⟩
              rw [← hz] at hcell
              unfold numV at hcell
              have HST := Lib.hid (count_take x HJL.out)
              have HZ := Lib.hid hz
              have htb : t + 1 ≤ 900001 := by have h1 := HTOT.out j; have h2 := HT.out; omega
              clear hcu hgu hz
              by_cases hzx : z = x
              · have hzb : (z == x) = true := by simpa using hzx
                have HN1 : RowKit.Hid (t + 1 = cntAll f x i + cntPart f x i k + ((atU f i k).take (j + 1)).count x) := Lib.hid (by rw [HST.out, if_pos (by rw [← HZ.out]; exact hzx), HT.out]; omega)
                clear hzx
                go_wp2_with fail
                go_roundw
                case rel => exact ⟨j + 1, t + 1, by omega, by go_num, by go_num, Lib.hid HN1.out, by simp⟩
                case measure => simp [intOf]; omega
              · have hzb : (z == x) = false := by simpa using hzx
                have HN1 : RowKit.Hid (t = cntAll f x i + cntPart f x i k + ((atU f i k).take (j + 1)).count x) := Lib.hid (by rw [HST.out, if_neg (by rw [← HZ.out]; exact hzx), HT.out]; omega)
                clear hzx
                go_wp2_with fail
                go_roundw
                case rel => exact ⟨j + 1, t, by omega, by go_num, rfl, Lib.hid HN1.out, by simp⟩
                case measure => simp [intOf]; omega
            · obtain rfl : j = un := by omega
              have hjz : ¬ ((j : Int) < (j : Int)) := by omega
              have HE : RowKit.Hid (t = cntAll f x i + cntPart f x i (k + 1)) := Lib.hid (by rw [cntPart_more]; have h := HT.out; rw [List.take_of_length_le (by rw [HUL.out]; exact Nat.le_refl _)] at h; omega)
              go_wp2_with fail
              go_roundw
              case rel => exact ⟨k + 1, t, by omega, by go_num, rfl, Lib.hid ⟨HK5.out, HE.out⟩⟩
              case measure => simp [intOf]; omega
        · have hkz : ¬ ((k : Int) ≤ (on : Int)) := by omega
          have HE : RowKit.Hid (t = cntAll f x (i + 1)) := Lib.hid (by rw [cntAll_more, ← HON.out]; have h := HK.out.2; rw [show k = on + 1 by omega] at h; exact h)
          go_wp2_with fail
          go_roundw
          case rel => exact ⟨i + 1, t, by omega, by go_num, rfl, Lib.hid ⟨HK.out.1, HE.out⟩⟩
          case measure => simp [intOf]; omega
    · obtain rfl : i = n := by omega
      have hge : ¬ ((i : Int) < (i : Int)) := by omega
      have HR : RowKit.Hid (t = cntU f x) := Lib.hid (by rw [HI.out.2]; unfold cntU; rw [← HN.out])
      go_wp2_with fail
      go_ret
      exact ⟨by rw [← HR.out]; rfl, HI.out.1.bel⟩
end Go.Proofs.YtdchhfdmingnaaaDoor
