/- slices.Repeat of a list of one number. -/
import Derived.Test.YtdnihphnoibpgaaCfgJ
import Derived.Test.YtdnihphnoibpgaaShelf
import Derived.Laws.CopyOwn
import Derived.Deep.RegionLaw
namespace Go.Proofs.Ytdnihphnoibpgaa
open Go.RowKit (wrap64 intOf Below)
set_option linter.unusedVariables false
set_option linter.unusedSimpArgs false

/-- The first k are v, the others 0. -/
def filled (n k : Nat) (v : Int) : List Value := List.replicate k (numV v) ++ List.replicate (n - k) (numV 0)
theorem filled_len {n k : Nat} (v : Int) (h : k ≤ n) : (filled n k v).length = n := by simp [filled]; omega
theorem filled_more {n k m : Nat} (v : Int) (h : k + m ≤ n) : splice (filled n k v) k (List.replicate m (numV v)) = filled n (k + m) v := by
  unfold splice filled
  rw [List.take_left' (by simp), List.length_replicate, List.drop_append]
  simp only [List.length_replicate, List.drop_replicate]
  rw [show k - (k + m) = 0 by omega, List.replicate_zero, List.nil_append, show k + m - k = m by omega, show n - k - m = n - (k + m) by omega, ← List.append_assoc, List.replicate_append_replicate]
theorem filled_at {n k j : Nat} {v : Int} (hj : j < k) (hk : k ≤ n) : (filled n k v)[j]? = some (.int .i64 v) := by
  unfold filled
  rw [List.getElem?_append_left (by simpa using hj), List.getElem?_replicate, if_pos hj]; rfl
theorem filled_made (n : Nat) (v : Int) : (madeCells #[Value.int .i64 0] n) = (filled n 0 v).toArray := by
  apply Array.ext
  · simp [madeCells, filled]
  · intro i h1 h2
    simp [madeCells, filled, Nat.mod_one, numV]
theorem filled_full (n : Nat) (v : Int) : filled n n v = (List.replicate n v).map numV := by simp [filled]
theorem make_intsR (q : Int) (Q : Nat) (hq : q = Q) (hQ : Q ≤ 1099511627776) (u : World) : (Instr.makeSlice 30 (.int .i64 q) (.int .i64 q)).run Try.prog u = .ok (.slice (some ⟨u.heap.size, 0, none⟩) Q Q) (u.alloc (.cells (madeCells #[.int .i64 0] Q) 3)) := by
  obtain ⟨i0, hi, hz0, hz1, hz2⟩ := info_parts info_int
  subst hq
  have h := run_make (P := Try.prog) u 30 3 i0 (.int .i64 0) Try.underlying30 hi hz0 .i64 .i64 (Q : Int) (Q : Int) (by omega) (by omega) (by rw [hz2]; omega) (by omega)
  simpa [hz1, Value.cells] using h
set_option maxRecDepth 100000 in
set_option maxHeartbeats 2000000 in
theorem repeat_any (g cx : Nat) (v : Int) (n : Nat) (w : World) (hx : w.cell? ⟨g, 0, none⟩ = some (.int .i64 v)) (hn : n ≤ 1099511627776) :
    Calls Try.prog 40 #[.slice (some ⟨g, 0, none⟩) 1 cx, .int .i64 (n : Int)] w fun e w' => e = .returned (.slice (some ⟨w.heap.size, 0, none⟩) n n) ∧ OwnsI w' w.heap.size 3 (.slice (some ⟨w.heap.size, 0, none⟩) n n) (List.replicate n v) ∧ Below w.heap.size w w' := by
  have hmk := make_intsR n n rfl hn
  have hsz : (Try.prog.info? 3).map (·.size) = some 1 := by kernel_rfl
  have hgl : g < w.heap.size := World.block_lt_of_cell? (a := ⟨g, 0, none⟩) _ hx
  have HGL := Lib.hid hgl
  have HX := Lib.hid hx
  have CB := Lib.hid (Try.bits_Mul 1 n (by decide) (by omega))
  have e1 : ((1 * n / 18446744073709551616 : Nat) : Int) = 0 := by rw [Nat.one_mul, Nat.div_eq_of_lt (by omega)]; rfl
  have e2 : ((1 * n % 18446744073709551616 : Nat) : Int) = (n : Int) := by rw [Nat.one_mul, Nat.mod_eq_of_lt (by omega)]
  have e3 : ¬ ((n : Int) < 0) := by omega
  have e4 : IntKind.u64.wrap (n : Int) = (n : Int) := by simp [IntKind.wrap, IntKind.bits, IntKind.signed]; omega
  have e5 : IntKind.i64.wrap (n : Int) = (n : Int) := by simp [IntKind.wrap, IntKind.bits, IntKind.signed]; omega
  have e6 : ¬ ((9223372036854775807 : Int) < (n : Int)) := by omega
  rw [e1, e2] at CB
  clear hx hgl
  go_enter Try.func40, Try.ntmps40
  obtain ⟨k0, hk0⟩ : ∃ k0, k0 = min 1 n := ⟨_, rfl⟩
  have hG : (w.alloc (.cells (madeCells #[.int .i64 0] n) 3)).heap[w.heap.size]? = some (.cells (filled n 0 v).toArray 3 (0, 0)) := by rw [filled_made n v]; exact World.alloc_heap_new w _
  have HG := Lib.hid hG
  have HK0 : RowKit.Hid (k0 ≤ n ∧ (0 < n → 1 ≤ k0) ∧ (List.replicate k0 (numV v)).length = Nat.min 1 n) := Lib.hid ⟨by omega, by omega, by rw [List.length_replicate]; exact hk0⟩
  clear hG hk0
  go_upto_region 7 with (go_at_call 53; refine (CB.out _).mono ?_; rintro e w1 ⟨rfl, hw1⟩; rw [hw1]; clear hw1 w1)
  refine wp_region_lit ?_
  refine wpList_plain rfl fun K hK => ?_
  go_simp
  refine hK _ _ ?_
  refine wpList_plain rfl fun K hK => ?_
  go_simp
  refine hK _ _ ?_
  refine wpList_copy_splice rfl (.tmp 31) (.tmp 32) 30 30 rfl 3 Try.underlying30 hsz (some ⟨w.heap.size, 0, none⟩) (some ⟨g, 0, none⟩) n n 1 cx rfl rfl w.heap.size 0 (filled n 0 v) 3 HG.out (List.replicate k0 (numV v)) HK0.out.2.2 (fun h => ⟨rfl, _, rfl, fun j u hu => ?_⟩) ?_ ?_ w.heap.size w ?_ (Nat.le_refl _) ?_
  · rw [List.getElem?_replicate] at hu
    split at hu
    · have hj : j = 0 := by
        have := HK0.out.2.2
        rw [List.length_replicate] at this
        have h1 : Nat.min 1 n ≤ 1 := Nat.min_le_left _ _
        omega
      subst hj
      simp only [Option.some.injEq] at hu
      subst hu
      rw [addr_plain]
      exact (((Below.refl w.heap.size w).alloc (Nat.le_refl _) _).cell (p := ⟨g, 0, none⟩) HGL.out).trans HX.out
    · cases hu
  · rw [filled_len v (Nat.zero_le _), List.length_replicate]; have := HK0.out.1; omega
  · intro u hu; rw [List.mem_replicate] at hu; rw [hu.2]; rfl
  · exact (Below.refl w.heap.size w).alloc (Nat.le_refl _) _
  intro w2 hg2 hb2
  have HG2 : RowKit.Hid (w2.heap[w.heap.size]? = some (.cells (filled n k0 v).toArray 3 (0, 0))) := Lib.hid (by have h := hg2.out; rw [filled_more v (by have := HK0.out.1; omega), Nat.zero_add] at h; exact h)
  have HB2 := Lib.hid hb2
  clear hg2 hb2 hmk
  rw [List.length_replicate]
  go_wp2_with fail
  go_loopw [8] (fun v8 wr => ∃ k : Nat, k ≤ n ∧ (0 < n → 1 ≤ k) ∧ v8 = .int .i64 (k : Int) ∧ RowKit.Hid (wr.heap[w.heap.size]? = some (.cells (filled n k v).toArray 3 (0, 0)) ∧ Below w.heap.size w wr)) (fun v8 _ => n - (intOf v8).toNat)
  case atStart => exact ⟨k0, HK0.out.1, HK0.out.2.1, rfl, Lib.hid ⟨HG2.out, HB2.out⟩⟩
  case round =>
    obtain ⟨k, hk, hk1, rfl, HI⟩ := hrel
    clear HG HG2 HB2 CB HK0
    obtain ⟨wo, hwo⟩ : ∃ u, u = wr := ⟨_, rfl⟩
    rw [← hwo] at HI ⊢
    clear hwo
    by_cases hlt : k < n
    · obtain ⟨m, hm⟩ : ∃ m, m = min k (n - k) := ⟨_, rfl⟩
      have HM : RowKit.Hid (k + m ≤ n ∧ 1 ≤ m ∧ (List.replicate m (numV v)).length = Nat.min k (n - k)) := Lib.hid ⟨by omega, by omega, by rw [List.length_replicate]; exact hm⟩
      have hne : ¬ n = k := by omega
      have hki : (k : Int) < (n : Int) := by omega
      have hkn : (k : Int) ≤ (n : Int) := by omega
      have hk0' : (0 : Int) ≤ (k : Int) := by omega
      clear hm
      have HPOS : RowKit.Hid (0 < (List.replicate m (numV v)).length → (some (⟨w.heap.size, k, none⟩ : Addr) = some ⟨w.heap.size, k, none⟩) ∧ ∃ ad, some (⟨w.heap.size, 0, none⟩ : Addr) = some ad ∧ ∀ j u, (List.replicate m (numV v))[j]? = some u → wo.drew.cell? (ad.add j) = some u) := Lib.hid fun h => ⟨rfl, _, rfl, fun j u hu => by
        rw [List.getElem?_replicate] at hu
        split at hu
        · simp only [Option.some.injEq] at hu
          subst hu
          rw [addr_plain, Nat.zero_add]
          have h2 := HM.out.2.2
          rw [List.length_replicate] at h2
          have h3 : Nat.min k (n - k) ≤ k := Nat.min_le_left _ _
          have h1 := filled_at (v := v) (show j < k by omega) (Nat.le_of_lt hlt)
          have h4 := HI.out.1
          simp only [World.cell?, World.drew, h4, Option.isSome_none, Bool.false_eq_true, if_false]
          simpa [numV] using h1
        · cases hu⟩
      go_upto_region 9 with fail
      go_region_law (refine step_copy_splice rfl (.tmp 41) (.tmp 44) 30 30 rfl 3 Try.underlying30 hsz (some ⟨w.heap.size, k, none⟩) (some ⟨w.heap.size, 0, none⟩) (n - k) (n - k) k n (by simp [Act.eval, Act.put]) (by simp [Act.eval, Act.put]) w.heap.size k (filled n k v) 3 HI.out.1 (List.replicate m (numV v)) HM.out.2.2 HPOS.out (by rw [filled_len v (Nat.le_of_lt hlt), List.length_replicate]; exact HM.out.1) (by intro u hu; rw [List.mem_replicate] at hu; rw [hu.2]; rfl) w.heap.size w HI.out.2.drew (Nat.le_refl _) ?_; intro w4 hg4 hb4; have HG4 : RowKit.Hid (w4.heap[w.heap.size]? = some (.cells (filled n (k + m) v).toArray 3 (0, 0))) := Lib.hid (by have h := hg4.out; rw [filled_more v HM.out.1] at h; exact h); have HB4 := Lib.hid hb4; clear hg4 hb4; rw [List.length_replicate])
      have hwkm : IntKind.i64.wrap ((k : Int) + (m : Int)) = ((k + m : Nat) : Int) := by have := HM.out.1; simp [IntKind.wrap, IntKind.bits, IntKind.signed]; omega
      have HM1 := HM.out.1
      have HM2 := HM.out.2.1
      go_wp2_with fail
      go_roundw
      case rel => exact ⟨k + m, HM1, fun _ => by omega, (by first | omega | rfl | (simp; done) | go_num), Lib.hid ⟨HG4.out, HB4.out⟩⟩
      case measure => simp only [intOf, hwkm]; omega
    · obtain rfl : k = n := by omega
      go_wp2_with fail
      go_ret
      refine ⟨rfl, ⟨by simp, .inr ⟨w.heap.size, k, _, by simp, Nat.le_refl _, HI.out.1, by simp, by unfold maxLen; omega, by simp [filled], by rw [filled_full]; simp⟩⟩, HI.out.2⟩
end Go.Proofs.Ytdnihphnoibpgaa
