/- Layer 10: the law HeapAlone, walked. -/
import Derived.Test.YtgnfinojnmkkkaaQHeapRR

namespace Go.Proofs.Ytgnfinojnmkkkaa
open Go.RowKit (wrap64 intOf Below)
set_option linter.unusedVariables false
set_option linter.unusedSimpArgs false

/-- What is on the stack alone. -/
structure Lone (M : PM) : Prop where
  used : M.used = 0
  makes : M.makes = 0
  tabs : ∀ o ∈ M.objs, o.tab = true → o.stack = true
def onStack (a : PAct) : PAct := {a with st := true}
theorem lone_add {M : PM} (h : Lone M) {o : PO} (ho : o.tab = true → o.stack = true) : Lone (addM M o true).1 := by
  unfold addM
  rw [if_pos rfl]
  exact ⟨h.used, h.makes, fun x hx ht => (List.mem_append.1 hx).elim (fun h1 => h.tabs x h1 ht) (fun h1 => by rw [List.mem_singleton.1 h1] at ht ⊢; exact ho ht)⟩
theorem lone_does {M : PM} (h : Lone M) (a : PAct) : Lone (doesM M (onStack a)) := by
  unfold doesM
  split
  · exact ⟨h.used, h.makes, h.tabs⟩
  · split
    · unfold leaveM
      split
      · exact h
      · exact ⟨h.used, h.makes, h.tabs⟩
    · split
      · exact lone_add h (fun e => by cases e)
      · split
        · unfold sliceM
          split
          · exact h
          · exact lone_add h (fun e => by cases e)
        · split
          · exact lone_add h (fun _ => rfl)
          · split
            · unfold setM
              split
              · split
                · exact h
                · rename_i o ho
                  refine ⟨h.used, h.makes, fun x hx ht => ?_⟩
                  rcases List.mem_or_eq_of_mem_set hx with h1 | h1
                  · exact h.tabs x h1 ht
                  · rw [h1] at ht ⊢
                    have hm : o ∈ M.objs := by
                      unfold PM.obj at ho
                      split at ho
                      · exact List.mem_of_getElem? ho
                      · cases ho
                    exact h.tabs o hm ht
              · exact h
            · split
              · unfold putM
                split
                · split
                  · rename_i ha _ o ho
                    have hm : o ∈ M.objs := by
                      unfold PM.obj at ho
                      split at ho
                      · exact List.mem_of_getElem? ho
                      · cases ho
                    have ht : o.tab = true := by
                      unfold ansT at ha
                      rw [ho] at ha
                      cases ht : o.tab with
                      | true => rfl
                      | false => simp [ht] at ha
                    rw [if_pos (.inr (h.tabs o hm ht))]
                    refine ⟨h.used, h.makes, fun x hx hxt => ?_⟩
                    rcases List.mem_or_eq_of_mem_set hx with h1 | h1
                    · exact h.tabs x h1 hxt
                    · rw [h1]; exact h.tabs o hm ht
                  · exact h
                · exact h
              · exact h
/-- The acts, as they came in. -/
def ActsAt (W : World) (a : Option Addr) (n : Nat) (L : List PAct) : Prop :=
  L.length = n ∧ (∀ x ∈ L, x.Ok) ∧ (0 < n → ∃ g off, a = some ⟨g, off, none⟩ ∧ g < W.heap.size ∧ ∀ i (h : i < L.length) j v, (actL L[i])[j]? = some v → W.cell? ⟨g, off + i * 8 + j, none⟩ = some v)
theorem ActsAt.since {W W' : World} {a : Option Addr} {n : Nat} {L : List PAct} (h : ActsAt W a n L) (hb : Below W.heap.size W W') : ActsAt W' a n L := by
  refine ⟨h.1, h.2.1, fun hn => ?_⟩
  obtain ⟨g, off, e, hg, hc⟩ := h.2.2 hn
  exact ⟨g, off, e, Nat.lt_of_lt_of_le hg hb.size, fun i hi j v hv => (hb.cell (p := ⟨g, off + i * 8 + j, none⟩) hg).trans (hc i hi j v hv)⟩
theorem duo_new {B : Nat} {u0 u1 : World} {G0 : GM} {G2 : GR} {l : Int} (h0 : MemAt u0 B 0 (newM l) G0) (h1 : RefAt u1 B 0 (newR l) G2) (hb1 : Below u0.heap.size u0 u1) (hd : ∀ b, dom G2.ρ b → b = u0.heap.size) : Duo u1 B 0 G0.p G2.p (newM l) G0 (newR l) G2 :=
  ⟨h0.since hb1, fmAt_nil rfl, h1, rfl, rfl, fun b hb hb2 => by have := dom_ltM h0 hb; have := hd b hb2; omega, new_alike l⟩
set_option maxRecDepth 100000 in
set_option maxHeartbeats 4000000 in
theorem heapalone_walk (a : Option Addr) (n c : Nat) (L : List PAct) (w : World) (hL : ActsAt w a n L) (hn : n ≤ 140737488351232) :
    Calls Try.prog 4 #[.slice a n c] w fun e w' => e = .returned (.bool true) ∧ Below w.heap.size w w' := by
  obtain ⟨B, hB⟩ : ∃ B, B = w.heap.size := ⟨_, rfl⟩
  have C0 := Lib.hid (new_any 1048576 w)
  have C1 : RowKit.Hid (∀ u, Below w.heap.size w u → Calls Try.prog 6 #[.int .i64 1048576] u fun e w' => ∃ G : GR, e = .returned (.pointer (some ⟨G.p, 0, none⟩)) ∧ RefAt w' w.heap.size 0 (newR 1048576) G ∧ Below u.heap.size u w' ∧ ∀ b, dom G.ρ b → b = u.heap.size) := Lib.hid fun u hu => refnew_any 1048576 u hu.size
  have HAC : RowKit.Hid (∀ u, Below w.heap.size w u → ActsAt u a n L) := Lib.hid fun u hu => hL.since hu
  have HL0 : RowKit.Hid (Lone (newM 1048576)) := Lib.hid ⟨rfl, rfl, fun o ho => absurd ho (by simp [newM])⟩
  have hnl := hL.1
  rw [← hB] at C0 C1 HAC ⊢
  have HBE := Lib.hid hB
  have HBS : RowKit.Hid (∀ u : World, Below B w u → B ≤ u.heap.size) := Lib.hid fun u hu => by have := hu.size; omega
  clear hL
  go_enter Try.func4, Try.ntmps4
  go_upto_region 2 with (first
    | (go_at_call 5; refine C0.out.mono ?_; rintro e u0 ⟨G0, rfl, hm, hb⟩; have H0 := Lib.hid (And.intro hm hb); clear hm hb)
    | (go_at_call 6; (with_reducible refine (C1.out u0 H0.out.2).mono ?_); rintro e u1 ⟨G2, rfl, hm, hb, hd⟩; have H1 := Lib.hid (And.intro hm (And.intro hb hd)); clear hm hb hd))
  have hduo := duo_new H0.out.1 H1.out.1 H1.out.2.1 H1.out.2.2
  have hbw : Below B w u1 := H0.out.2.trans (H1.out.2.1.mono (HBS.out _ H0.out.2))
  obtain ⟨p, hp⟩ : ∃ p, G0.p = p := ⟨_, rfl⟩
  obtain ⟨d, hd⟩ : ∃ d, G2.p = d := ⟨_, rfl⟩
  rw [hp, hd] at hduo
  try rw [hp]
  try rw [hd]
  have HS0 : RowKit.Hid (Duo u1 B (2 * 0) p d (newM 1048576) G0 (newR 1048576) G2 ∧ Lone (newM 1048576) ∧ Below B w u1) := Lib.hid ⟨hduo, HL0.out, hbw⟩
  clear hduo hbw hp hd H0 H1 HL0 C0 C1 hB
  go_wp2_with fail
  go_loopw [5] (fun v5 wr => ∃ (i : Nat) (M : PM) (G : GM) (R : RM) (G2 : GR), i ≤ n ∧ i ≤ 100 ∧ v5 = .int .i64 (i : Int) ∧ RowKit.Hid (Duo wr B (2 * i) p d M G R G2 ∧ Lone M ∧ Below B w wr)) (fun v5 _ => n - (intOf v5).toNat)
  case atStart => exact ⟨0, _, _, _, _, Nat.zero_le _, by omega, rfl, HS0⟩
  case round =>
    obtain ⟨i, M, G, R, G2, hi, hi2, rfl, HI⟩ := hrel
    clear HS0
    obtain ⟨wo, hwo⟩ : ∃ u, u = wr := ⟨_, rfl⟩
    rw [← hwo] at HI ⊢
    clear hwo
    have HW : RowKit.Hid (wrap64 ((i : Int) + 1) = (i : Int) + 1) := Lib.hid (by unfold wrap64; omega)
    have hBo : B ≤ wo.heap.size := by have := HI.out.1.mem.plt; omega
    by_cases hlt : i < n ∧ i < 100
    · obtain ⟨hl1, hl2⟩ := hlt
      obtain ⟨hal, hok, hac⟩ := HAC.out wo HI.out.2.2
      have hil : i < L.length := by omega
      obtain ⟨g, off, rfl, hgl, hcs⟩ := hac (by omega)
      have q0 : wo.cell? ⟨g, off + i * 8, none⟩ = some (.int .i64 L[i].kind) := hcs i hil 0 _ rfl
      have q1 : wo.cell? ⟨g, off + i * 8 + 1, none⟩ = some (.int .i64 L[i].r) := hcs i hil 1 _ rfl
      have q2 : wo.cell? ⟨g, off + i * 8 + 2, none⟩ = some (.int .i64 L[i].i) := hcs i hil 2 _ rfl
      have q3 : wo.cell? ⟨g, off + i * 8 + 3, none⟩ = some (.int .i64 L[i].n) := hcs i hil 3 _ rfl
      have q4 : wo.cell? ⟨g, off + i * 8 + 4, none⟩ = some (.int .i64 L[i].v.1) := hcs i hil 4 _ rfl
      have q5 : wo.cell? ⟨g, off + i * 8 + 5, none⟩ = some (.string L[i].v.2.1) := hcs i hil 5 _ rfl
      have q6 : wo.cell? ⟨g, off + i * 8 + 6, none⟩ = some (.int .i64 L[i].v.2.2) := hcs i hil 6 _ rfl
      have q7 : wo.cell? ⟨g, off + i * 8 + 7, none⟩ = some (.bool L[i].st) := hcs i hil 7 _ rfl
      have HOK : RowKit.Hid ((onStack L[i]).Ok) := Lib.hid (let k := hok _ (List.getElem_mem hil); ⟨k.kind, k.r, k.i, k.n⟩)
      have hin : (i : Int) < (n : Int) := by omega
      have hi0 : (0 : Int) ≤ (i : Int) := by omega
      have hih : (i : Int) < 100 := by omega
      generalize L[i] = x at *
      clear hcs hac hok hal
      have CD : RowKit.Hid (∀ X, Calls Try.prog 7 #[.pointer (some ⟨p, 0, none⟩), .pointer (some ⟨d, 0, none⟩), .agg #[.int .i64 x.kind, .int .i64 x.r, .int .i64 x.i, .int .i64 x.n, .int .i64 x.v.1, .string x.v.2.1, .int .i64 x.v.2.2, .bool true]] (wo.alloc X) (DuoPost (wo.alloc X) B (2 * i) p d (dm G G2) (doesM M (onStack x)))) := Lib.hid fun X => does_any (a := onStack x) (HI.out.1.since ((Below.refl _ wo).alloc (Nat.le_refl _) X)) (by omega) HOK.out
      go_wp2_with (go_at_call 7; (with_reducible refine (CD.out _).mono ?_); rintro e u2 ⟨rfl, G', R', G2', h2, hb2⟩; have H2 := Lib.hid (And.intro h2 hb2); clear h2 hb2)
      go_roundw
      case rel => exact ⟨i + 1, doesM M (onStack x), G', R', G2', by omega, by omega, by go_num, Lib.hid ⟨by rw [show 2 * (i + 1) = 2 * i + 2 by omega]; exact H2.out.1, lone_does HI.out.2.1 x, HI.out.2.2.trans (((Below.refl B wo).alloc hBo _).trans H2.out.2.bel)⟩⟩
      case measure => simp [intOf, HW.out]; omega
    · have hfin : RowKit.Hid (Lone M) := Lib.hid HI.out.2.1
      have hus : M.used = 0 := hfin.out.used
      have hmk : M.makes = 0 := hfin.out.makes
      have CU := used_any HI.out.1.mem
      have CK := makes_any HI.out.1.mem
      rw [HI.out.1.p, hus] at CU
      rw [HI.out.1.p, hmk] at CK
      have HCU := Lib.hid CU
      have HCK := Lib.hid CK
      have CV := Lib.hid (lives10_any wo)
      clear CU CK hus hmk hfin
      by_cases hl1 : i < n
      · have hin : (i : Int) < (n : Int) := by omega
        obtain rfl : i = 100 := by omega
        clear hlt
        go_wp2_with (first
          | (go_at_call 10; (with_reducible refine HCU.out.mono ?_); rintro e u3 ⟨rfl, hu⟩; rw [hu]; clear hu u3)
          | (go_at_call 11; (with_reducible refine HCK.out.mono ?_); rintro e u4 ⟨rfl, hu⟩; rw [hu]; clear hu u4)
          | (go_at_call 9; (with_reducible refine CV.out.mono ?_); rintro e u5 ⟨rfl, hb⟩; have HB5 := Lib.hid hb; clear hb))
        go_ret
        exact ⟨rfl, HI.out.2.2.trans (HB5.out.mono hBo)⟩
      · obtain rfl : i = n := by omega
        clear hlt
        go_wp2_with (first
          | (go_at_call 10; (with_reducible refine HCU.out.mono ?_); rintro e u3 ⟨rfl, hu⟩; rw [hu]; clear hu u3)
          | (go_at_call 11; (with_reducible refine HCK.out.mono ?_); rintro e u4 ⟨rfl, hu⟩; rw [hu]; clear hu u4)
          | (go_at_call 9; (with_reducible refine CV.out.mono ?_); rintro e u5 ⟨rfl, hb⟩; have HB5 := Lib.hid hb; clear hb))
        go_ret
        exact ⟨rfl, HI.out.2.2.trans (HB5.out.mono hBo)⟩
end Go.Proofs.Ytgnfinojnmkkkaa
