/- Layer 10: the law HeapTables, walked. -/
import Derived.Test.YtnnccahpgailiaaQHeapL
import Derived.Test.YtnnccahpgailiaaQLiftI8

namespace Go.Proofs.Ytnnccahpgailiaa
open Go.RowKit (wrap64 intOf Below)
set_option linter.unusedVariables false
set_option linter.unusedSimpArgs false

/-- A memory of one table on the heap. -/
def tbM (K : List Int) (U : Int → Int) : PM := { limit := 1048576, used := 8 + 16 * (K.length : Int), makes := 1, entered := 0, objs := [{ newTab false with keys := K, under := U }], frs := [] }
def addK (K : List Int) (k : Int) : List Int := if k ∈ K then K else K ++ [k]
theorem tb_new : (tableM (newM 1048576) false).1 = tbM [] (fun _ => 0) ∧ (tableM (newM 1048576) false).2 = (1, 0) := ⟨rfl, by decide⟩
theorem tb_obj (K : List Int) (U : Int → Int) : (tbM K U).obj 1 = some { newTab false with keys := K, under := U } := rfl
theorem tb_ans (K : List Int) (U : Int → Int) : ansT (tbM K U) 1 = 0 := rfl
theorem tb_look (K : List Int) (U : Int → Int) (k : Int) : lookM (tbM K U) 1 k = (U k, 0) := rfl
theorem tb_size (K : List Int) (U : Int → Int) : sizeM (tbM K U) 1 = ((K.length : Int), 0) := rfl
theorem tb_key {K : List Int} {U : Int → Int} {j : Nat} (h : j < K.length) : keyM (tbM K U) 1 (j : Int) = (nth K j, 0) := by
  unfold keyM
  rw [tb_ans, if_pos rfl, tb_obj]
  show (if (j : Int) < 0 ∨ (K.length : Int) ≤ (j : Int) then ((0 : Int), (2 : Int)) else (nth K (j : Int).toNat, 0)) = _
  rw [if_neg (by omega)]
  rfl
theorem tb_keyEnd (K : List Int) (U : Int → Int) : keyM (tbM K U) 1 (K.length : Int) = (0, 2) := by
  unfold keyM
  rw [tb_ans, if_pos rfl, tb_obj]
  show (if (K.length : Int) < 0 ∨ (K.length : Int) ≤ (K.length : Int) then ((0 : Int), (2 : Int)) else _) = _
  rw [if_pos (.inr (Int.le_refl _))]
theorem tb_put {K : List Int} {U : Int → Int} (hK : K.length < 1000) (k n : Int) : putM (tbM K U) 1 k n = (tbM (addK K k) (fun x => if x = k then n else U x), 0) := by
  unfold putM
  rw [tb_ans, if_pos rfl, tb_obj]
  show (if k ∈ K ∨ false = true then _ else _) = _
  by_cases h : k ∈ K
  · rw [if_pos (.inl h)]
    have e : addK K k = K := if_pos h
    rw [e]
    have e2 : keysUp { newTab false with keys := K, under := U } k = K := if_pos h
    show (putO (tbM K U) 0 _ k n, (0 : Int)) = _
    unfold putO tabUp
    rw [e2]
    rfl
  · rw [if_neg (by simp [h])]
    have hf : fits (tbM K U) 16 = true := decide_eq_true (by show 8 + 16 * (K.length : Int) + 16 ≤ 1048576; omega)
    rw [if_pos hf]
    have e : addK K k = K ++ [k] := if_neg h
    have e2 : keysUp { newTab false with keys := K, under := U } k = K ++ [k] := if_neg h
    show (putO (takeM (tbM K U) 16) 0 _ k n, (0 : Int)) = _
    unfold putO takeM tabUp
    rw [if_pos hf, e2, e]
    unfold tbM
    simp only [List.set_cons_zero, List.length_append, List.length_cons, List.length_nil, Prod.mk.injEq, and_true]
    congr 1
theorem addK_len (K : List Int) (k : Int) : (addK K k).length ≤ K.length + 1 := by unfold addK; split <;> simp
theorem own_at10 {W W' : World} {B : Nat} {e : TypeId} {v : Value} {L : List Int} (h : OwnsI W B e v L) (hk : ∀ i, v.ownBlock = some i → W'.heap[i]? = W.heap[i]?) : OwnsI W' B e v L := by
  refine ⟨h.1, ?_⟩
  rcases h.2 with hn | ⟨g, cap, cur, rfl, hB, hg, rest⟩
  · exact .inl hn
  · exact .inr ⟨g, cap, cur, rfl, hB, (hk g rfl).trans hg, rest⟩
/-- Where the law stands. -/
structure TbSt (w : World) (B cap p : Nat) (K KO : List Int) (U : Int → Int) (ya : Option Addr) (yn yc : Nat) (G : GM) (W : World) : Prop where
  mem : MemAt W B cap (tbM K U) G
  p : G.p = p
  own : OwnsI W B 2 (.slice ya yn yc) KO
  ap : ∀ b, (Value.slice ya yn yc).ownBlock = some b → ¬ dom G.ρ b
  bel : Below B w W
section
variable {w W W' : World} {B cap p : Nat} {K KO : List Int} {U : Int → Int} {ya : Option Addr} {yn yc : Nat} {G : GM}
theorem TbSt.since (h : TbSt w B cap p K KO U ya yn yc G W) (hb : Below W.heap.size W W') : TbSt w B cap p K KO U ya yn yc G W' :=
  ⟨h.mem.since hb, h.p, h.own.below hb, h.ap, h.bel.trans (hb.mono (by have := h.mem.plt; omega))⟩
theorem TbSt.put (h : TbSt w B cap p K KO U ya yn yc G W) {K' : List Int} {U' : Int → Int} {G' : GM} (hm : MemAt W' B (cap + 1) (tbM K' U') G') (hp : G'.p = p) (hb : Below B W W') (hs : Sep W W' G.ρ G'.ρ) : TbSt w B (cap + 1) p K' KO U' ya yn yc G' W' :=
  ⟨hm, hp, own_at10 h.own (fun b hk => (hs.free (h.own.lt b hk).2 (h.ap b hk)).1), fun b hk => (hs.free (h.own.lt b hk).2 (h.ap b hk)).2, h.bel.trans hb⟩
theorem TbSt.app {C : Array Value} {va : Option Addr} {vn vc : Nat} {Z : List Int} (h : TbSt w B cap p K KO U ya yn yc G W) (hg : (W.alloc (.cells C 2)).grownBy W' (Value.slice ya yn yc).ownBlock) (ho : OwnsI W' B 2 (.slice va vn vc) Z) (hw : ∀ b, (Value.slice va vn vc).ownBlock = some b → (Value.slice ya yn yc).ownBlock = some b ∨ W.heap.size ≤ b) : TbSt w B cap p K Z U va vn vc G W' := by
  have hoff : Off (fun b => (Value.slice ya yn yc).ownBlock = some b) W W' := ((Off.refl _ W).alloc _).grown hg (fun b hb => .inl hb)
  refine ⟨h.mem.beside hoff h.ap, h.p, ho, fun b hb hd => ?_, h.bel.trans (hoff.below (by have := h.mem.plt; omega) (fun b hb => (h.own.lt b hb).1))⟩
  rcases hw b hb with h1 | h1
  · exact h.ap b h1 hd
  · obtain ⟨r, hr⟩ := hd
    have := (h.mem.range b r hr).2
    omega
end
/-- Whether k is among the first j. -/
def inTake (K : List Int) (k : Int) (j : Nat) : Bool := decide (k ∈ K.take j)
theorem inTake_more {K : List Int} {k : Int} {j : Nat} (h : j < K.length) : inTake K k (j + 1) = (inTake K k j || (nth K j == k)) := by
  unfold inTake
  rw [List.take_succ_eq_append_getElem h, nth_is h, Bool.eq_iff_iff]
  simp only [decide_eq_true_eq, Bool.or_eq_true, List.mem_append, List.mem_singleton, beq_iff_eq]
  exact ⟨fun h => h.imp id (fun e => e.symm), fun h => h.imp id (fun e => e.symm)⟩
set_option maxRecDepth 100000 in
set_option maxHeartbeats 4000000 in
theorem heaptables_walk (a : Option Addr) (n c : Nat) (Z : List Int) (w : World) (hat : I8sAt w a n Z) (hn : n ≤ 140737488351232) :
    Calls Try.prog 8 #[.slice a n c] w fun e w' => e = .returned (.bool true) ∧ Below w.heap.size w w' := by
  obtain ⟨B, hB⟩ : ∃ B, B = w.heap.size := ⟨_, rfl⟩
  have C0 := Lib.hid (new_any 1048576 w)
  have C1 : RowKit.Hid (∀ u G p, MemAt u B 0 (newM 1048576) G → G.p = p → Calls Try.prog 28 #[.pointer (some ⟨p, 0, none⟩), .bool false] u fun e w' => e = .returned (.tuple #[.int .i64 1, .int .i64 0]) ∧ ∃ G', MemAt w' B 1 (tbM [] (fun _ => 0)) G' ∧ G'.p = p ∧ Below B u w') := Lib.hid fun u G p h hp => by
    subst hp
    have := mtable_any h (by omega) false (layOk_nil rfl) (fmAt_nil rfl)
    exact this.mono fun e w' ⟨he, G', h1, h2, h3, _⟩ => ⟨by rw [he, tb_new.2], G', by rw [tb_new.1] at h1; exact h1, h2, h3⟩
  have HAT : RowKit.Hid (∀ W, Below B w W → I8sAt W a n Z) := Lib.hid fun W hb => hat.since (by rw [← hB]; exact hb)
  have HZN : RowKit.Hid (Z.length = n) := Lib.hid hat.1
  rw [← hB] at C0 ⊢
  clear hat
  go_enter Try.func8, Try.ntmps8
  go_upto_region 6 with (first
    | (go_at_call 17; refine C0.out.mono ?_; rintro e u0 ⟨G0, rfl, hm, hb⟩; obtain ⟨p, hp⟩ : ∃ p, G0.p = p := ⟨_, rfl⟩; have HM0 : RowKit.Hid (MemAt u0 B 0 (newM 1048576) G0 ∧ G0.p = p) := Lib.hid ⟨hm, hp⟩; have HB0 := Lib.hid hb; rw [hp]; clear hm hb hp C0)
    | (go_at_call 28; (with_reducible refine (C1.out u0 G0 p HM0.out.1 HM0.out.2).mono ?_); rintro e u1 ⟨rfl, G1, hm, hp, hb⟩; have HM1 : RowKit.Hid (MemAt u1 B 1 (tbM [] (fun _ => 0)) G1 ∧ G1.p = p) := Lib.hid ⟨hm, hp⟩; have HB1 := Lib.hid hb; clear hm hb hp C1))
  have HS0 : RowKit.Hid (TbSt w B 1 p [] [] (fun _ => 0) (some ⟨u1.heap.size, 0, none⟩) 0 0 G1 (u1.alloc (.cells #[] 2))) := Lib.hid (by
    have hbl : Below u1.heap.size u1 (u1.alloc (.cells #[] 2)) := (Below.refl _ u1).alloc (Nat.le_refl _) _
    have hsz : B ≤ u1.heap.size := by have := HM1.out.1.plt; omega
    refine ⟨HM1.out.1.since hbl, HM1.out.2, (OwnsI.empty u1 2).mono hsz, fun b hb hd => ?_, (HB0.out.trans HB1.out).trans (hbl.mono hsz)⟩
    obtain ⟨r, hr⟩ := hd
    have h1 := (HM1.out.1.range b r hr).2
    have h2 : u1.heap.size = b := Option.some.inj hb
    omega)
  clear HM0 HB0 HM1 HB1
  go_wp2_with fail
  go_loopw [6, 7] (fun v6 v7 wr => ∃ (i : Nat) (K : List Int) (U : Int → Int) (ya : Option Addr) (yn yc : Nat) (G : GM), i ≤ n ∧ i ≤ 100 ∧ v6 = .slice ya yn yc ∧ v7 = .int .i64 (i : Int) ∧ RowKit.Hid (TbSt w B (1 + i) p K K U ya yn yc G wr ∧ K.length ≤ i)) (fun _ v7 _ => n - (intOf v7).toNat)
  case atStart => exact ⟨0, [], _, _, _, _, G1, Nat.zero_le _, by omega, rfl, rfl, Lib.hid ⟨HS0.out, Nat.le_refl _⟩⟩
  case round =>
    obtain ⟨i, K, U, ya, yn, yc, G, hi, hi100, rfl, rfl, HI⟩ := hrel
    clear HS0
    obtain ⟨wo, hwo⟩ : ∃ u, u = wr := ⟨_, rfl⟩
    rw [← hwo] at HI ⊢
    clear hwo
    have HW : RowKit.Hid (wrap64 ((i : Int) + 1) = (i : Int) + 1) := Lib.hid (by unfold wrap64; omega)
    have hyn : K.length = yn := (OwnsI.read HI.out.1.own).1
    have HYN := Lib.hid hyn
    have hyn100 : yn ≤ 100 := by have := HI.out.2; omega
    clear hyn
    by_cases hlt : i < n ∧ i < 100
    · obtain ⟨hlt1, hlt2⟩ := hlt
      have hiZ : i < Z.length := by rw [HZN.out]; exact hlt1
      obtain ⟨gl, offl, rfl, hgl, hcl⟩ := (HAT.out wo HI.out.1.bel).2.1 (by omega)
      obtain ⟨k, hk⟩ : ∃ k, Z[i] = k := ⟨_, rfl⟩
      have hcz : wo.cell? ⟨gl, offl + i, none⟩ = some (.int .i8 k) := by rw [← hk]; exact hcl i hiZ
      have hkr : -128 ≤ k ∧ k ≤ 127 := by rw [← hk]; exact (HAT.out wo HI.out.1.bel).2.2 _ (List.getElem_mem hiZ)
      have hin : (i : Int) < (n : Int) := by omega
      have hi00 : (0 : Int) ≤ (i : Int) := by omega
      have hi10 : (i : Int) < 100 := by omega
      have HI0 : RowKit.Hid (Value.bool false = Value.bool (inTake K k 0)) := Lib.hid (by unfold inTake; simp)
      clear hk hcl hgl hiZ
      go_wp2_with fail
      clear hcz
      go_loop [9, 10] (fun v9 v10 => ∃ j : Nat, j ≤ yn ∧ v9 = .bool (inTake K k j) ∧ v10 = .int .i64 (j : Int)) (fun _ v10 => yn - (intOf v10).toNat)
      case atStart => exact ⟨0, Nat.zero_le _, HI0.out, rfl⟩
      case round =>
        obtain ⟨j, hj, rfl, rfl⟩ := hrel
        clear HI0
        have HWJ : RowKit.Hid (wrap64 ((j : Int) + 1) = (j : Int) + 1) := Lib.hid (by unfold wrap64; omega)
        obtain ⟨q, hq⟩ : ∃ q, inTake K k j = q := ⟨_, rfl⟩
        have HQ := Lib.hid hq
        rw [hq]
        clear hq
        by_cases hjl : j < yn
        · have hjK : j < K.length := by rw [HYN.out]; exact hjl
          obtain ⟨gy, offy, hye, hgy, hcy⟩ := (OwnsI.read HI.out.1.own).2 (by omega)
          have hcj : wo.cell? ⟨gy, offy + j, none⟩ = some (.int .i64 (nth K j)) := by rw [hcy j hjK, nth_is hjK]; rfl
          have HMO := Lib.hid (inTake_more (k := k) hjK)
          subst hye
          have hj0 : (0 : Int) ≤ (j : Int) := by omega
          have hji : (j : Int) < (yn : Int) := by omega
          clear hcy hgy hjK
          cases q with
          | true =>
            have HV : RowKit.Hid (Value.bool true = Value.bool (inTake K k (j + 1))) := Lib.hid (by rw [HMO.out, HQ.out]; rfl)
            go_wp2_with fail
            go_round
            case rel => exact ⟨j + 1, hjl, HV.out, by go_num⟩
            case measure => simp [intOf, HWJ.out]; omega
          | false =>
            obtain ⟨y, hy⟩ : ∃ y, nth K j = y := ⟨_, rfl⟩
            have HV : RowKit.Hid (Value.bool (y == k) = Value.bool (inTake K k (j + 1))) := Lib.hid (by rw [HMO.out, HQ.out, hy]; rfl)
            rw [hy] at hcj
            clear hy
            go_wp2_with fail
            go_round
            case rel => exact ⟨j + 1, hjl, HV.out, by go_num⟩
            case measure => simp [intOf, HWJ.out]; omega
        · obtain rfl : j = yn := by omega
          have HIN : RowKit.Hid (q = decide (k ∈ K)) := Lib.hid (by rw [← HQ.out]; unfold inTake; rw [List.take_of_length_le (by rw [HYN.out]; omega)])
          have CP : RowKit.Hid (∀ (u : World) (G : GM), MemAt u B (1 + i) (tbM K U) G → G.p = p → Calls Try.prog 29 #[.pointer (some ⟨p, 0, none⟩), .int .i64 1, .int .i64 k, .int .i64 (i : Int)] u fun e w' => e = .returned (.int .i64 0) ∧ ∃ G', MemAt w' B (1 + i + 1) (tbM (addK K k) (fun x => if x = k then (i : Int) else U x)) G' ∧ G'.p = p ∧ Below B u w' ∧ Sep u w' G.ρ G'.ρ) := Lib.hid fun u G h hp => by
            subst hp
            have hr := put_any h (by omega) 1 k (i : Int) (by omega) (by omega) (by omega)
            unfold PutPost at hr
            rw [tb_put (by have := HI.out.2; omega)] at hr
            exact hr
          have CL : RowKit.Hid (∀ (u : World) (G : GM), MemAt u B (1 + i + 1) (tbM (addK K k) (fun x => if x = k then (i : Int) else U x)) G → G.p = p → Calls Try.prog 30 #[.pointer (some ⟨p, 0, none⟩), .int .i64 1, .int .i64 k] u fun e w' => e = .returned (.tuple #[.int .i64 (i : Int), .int .i64 0]) ∧ Below u.heap.size u w') := Lib.hid fun u G h hp => by
            subst hp
            have hr := look_any h (by omega) 1 k (by omega) (by omega)
            rw [tb_look] at hr
            simpa using hr
          have HKL : RowKit.Hid ((addK K k).length ≤ i + 1) := Lib.hid (by have := addK_len K k; have := HI.out.2; omega)
          have HLZ : RowKit.Hid ((K.length + 1) * 8 ≤ 140737488355328) := Lib.hid (by have := HI.out.2; omega)
          have hBo : B ≤ wo.heap.size := by have := HI.out.1.mem.plt; omega
          have hii : ((i : Int) != (i : Int)) = false := by simp
          cases q with
          | true =>
            have HAK : RowKit.Hid (addK K k = K) := Lib.hid (if_pos (of_decide_eq_true HIN.out.symm))
            go_wp2_with (first
              | (go_at_call 29; (with_reducible refine (CP.out wo G HI.out.1.mem HI.out.1.p).mono ?_); rintro e u2 ⟨rfl, G2, hm, hp, hb, hs⟩; have HM2 := Lib.hid (HI.out.1.put hm hp hb hs); clear hm hp hb hs)
              | (go_at_call 30; (with_reducible refine (CL.out u2 G2 HM2.out.mem HM2.out.p).mono ?_); rintro e u3 ⟨rfl, hb⟩; have HM3 := Lib.hid (HM2.out.since hb); clear hb))
            go_roundw
            case rel => exact ⟨i + 1, K, _, ya, j, yc, G2, hlt1, hlt2, rfl, by go_num, Lib.hid ⟨by have h5 := HM3.out; rw [HAK.out] at h5; rw [show 1 + (i + 1) = 1 + i + 1 by omega]; exact h5, by have := HI.out.2; omega⟩⟩
            case measure => simp [intOf, HW.out]; omega
          | false =>
            have HAK : RowKit.Hid (addK K k = K ++ [k]) := Lib.hid (if_neg (of_decide_eq_false HIN.out.symm))
            go_wp2_with (first
              | ((with_reducible refine wpList_append_numA _ rfl _ _ 65 rfl 2 Try.underlying65 info64 B (.slice ya j yc) K ?_ ?_ ?_ _ 1 wo.heap.size k ?_ ?_ ?_ ?_ ?_); (next => rfl); (next => exact HI.out.1.own); (next => exact hBo); (next => rfl); (next => rfl); (next => rfl); (next => exact HLZ.out); intro za zn zc w1 ho1 hg1 hw1; have HA1 := Lib.hid (HI.out.1.app hg1 ho1 hw1); clear ho1 hg1 hw1)
              | (go_at_call 29; (with_reducible refine (CP.out w1 G HA1.out.mem HA1.out.p).mono ?_); rintro e u2 ⟨rfl, G2, hm, hp, hb, hs⟩; have HM2 := Lib.hid (HA1.out.put hm hp hb hs); clear hm hp hb hs)
              | (go_at_call 30; (with_reducible refine (CL.out u2 G2 HM2.out.mem HM2.out.p).mono ?_); rintro e u3 ⟨rfl, hb⟩; have HM3 := Lib.hid (HM2.out.since hb); clear hb))
            go_roundw
            case rel => exact ⟨i + 1, addK K k, _, za, zn, zc, G2, hlt1, hlt2, rfl, by go_num, Lib.hid ⟨by have h5 := HM3.out; rw [← HAK.out] at h5; rw [show 1 + (i + 1) = 1 + i + 1 by omega]; exact h5, HKL.out⟩⟩
            case measure => simp [intOf, HW.out]; omega
    · by_cases hlt1 : i < n
      · have hin : (i : Int) < (n : Int) := by omega
        have hnot : ¬ ((i : Int) < 100) := by omega
        clear hlt
        have CK : RowKit.Hid (∀ (u : World) (j : Nat), j < K.length → TbSt w B (1 + i) p K K U ya yn yc G u → Calls Try.prog 31 #[.pointer (some ⟨p, 0, none⟩), .int .i64 1, .int .i64 (j : Int)] u fun e w' => e = .returned (.tuple #[.int .i64 (nth K j), .int .i64 0]) ∧ Below u.heap.size u w') := Lib.hid fun u j hj h => by
          have hp := h.p
          subst hp
          have hr := key_any h.mem (by omega) 1 (j : Int) (by omega) (by have := HYN.out; omega)
          rw [tb_key hj] at hr
          exact hr
        have CE : RowKit.Hid (∀ (u : World), TbSt w B (1 + i) p K K U ya yn yc G u → Calls Try.prog 31 #[.pointer (some ⟨p, 0, none⟩), .int .i64 1, .int .i64 (yn : Int)] u fun e w' => e = .returned (.tuple #[.int .i64 0, .int .i64 2]) ∧ Below u.heap.size u w') := Lib.hid fun u h => by
          have hp := h.p
          subst hp
          have hr := key_any h.mem (by omega) 1 (yn : Int) (by omega) (by omega)
          rw [← HYN.out, tb_keyEnd] at hr
          rw [← HYN.out]
          exact hr
        have CS : RowKit.Hid (∀ (u : World), TbSt w B (1 + i) p K K U ya yn yc G u → Calls Try.prog 32 #[.pointer (some ⟨p, 0, none⟩), .int .i64 1] u fun e w' => e = .returned (.tuple #[.int .i64 (yn : Int), .int .i64 0]) ∧ Below u.heap.size u w') := Lib.hid fun u h => by
          have hp := h.p
          subst hp
          have hr := size_any h.mem (by omega) 1 (by omega)
          rw [tb_size, HYN.out] at hr
          exact hr
        have CU : RowKit.Hid (∀ (u : World), TbSt w B (1 + i) p K K U ya yn yc G u → Calls Try.prog 22 #[.pointer (some ⟨p, 0, none⟩)] u fun e w' => e = .returned (.int .i64 (8 + 16 * (yn : Int))) ∧ w' = u) := Lib.hid fun u h => by
          have hp := h.p
          subst hp
          have hr := used_any h.mem
          rw [show (tbM K U).used = 8 + 16 * (yn : Int) by rw [← HYN.out]; rfl] at hr
          exact hr
        have HT0 := Lib.hid HI.out.1
        clear HI
        go_wp2_with fail
        go_loopw [13] (fun v13 wr => ∃ j : Nat, j ≤ yn ∧ v13 = .int .i64 (j : Int) ∧ RowKit.Hid (TbSt w B (1 + i) p K K U ya yn yc G wr)) (fun v13 _ => yn - (intOf v13).toNat)
        case atStart => exact ⟨0, Nat.zero_le _, rfl, HT0⟩
        case round =>
          obtain ⟨j, hj, rfl, HJ⟩ := hrel
          clear HT0
          obtain ⟨wq, hwq⟩ : ∃ u, u = wr := ⟨_, rfl⟩
          rw [← hwq] at HJ ⊢
          clear hwq
          have HWJ : RowKit.Hid (wrap64 ((j : Int) + 1) = (j : Int) + 1) := Lib.hid (by unfold wrap64; omega)
          by_cases hjl : j < yn
          · have hjK : j < K.length := by rw [HYN.out]; exact hjl
            obtain ⟨gy, offy, hye, hgy, hcy⟩ := (OwnsI.read HJ.out.own).2 (by omega)
            have hcj : wq.cell? ⟨gy, offy + j, none⟩ = some (.int .i64 (nth K j)) := by rw [hcy j hjK, nth_is hjK]; rfl
            have CKJ := Lib.hid (CK.out wq j hjK HJ.out)
            subst hye
            have hj0 : (0 : Int) ≤ (j : Int) := by omega
            have hji : (j : Int) < (yn : Int) := by omega
            obtain ⟨y, hy⟩ : ∃ y, nth K j = y := ⟨_, rfl⟩
            rw [hy] at hcj CKJ
            have hyy : (y != y) = false := by simp
            clear hcy hjK hy
            go_wp2_with (go_at_call 31; refine CKJ.out.mono ?_; rintro e u3 ⟨rfl, hb⟩; have HJ3 := Lib.hid (HJ.out.since hb); have hdj := (hb.cell (p := ⟨gy, offy + j, none⟩) hgy).trans hcj; clear hb)
            go_roundw
            case rel => exact ⟨j + 1, hjl, by go_num, HJ3⟩
            case measure => simp [intOf, HWJ.out]; omega
          · obtain rfl : j = yn := by omega
            have hw16 : wrap64 (16 * (j : Int)) = 16 * (j : Int) := by unfold wrap64; omega
            have hw8 : wrap64 (8 + 16 * (j : Int)) = 8 + 16 * (j : Int) := by unfold wrap64; omega
            have hjj : ((j : Int) == (j : Int)) = true := by simp
            have huu : ((8 + 16 * (j : Int)) == (8 + 16 * (j : Int))) = true := by simp
            go_wp2_with (first
              | (go_at_call 32; (with_reducible refine (CS.out wq HJ.out).mono ?_); rintro e u4 ⟨rfl, hb⟩; have HJ4 := Lib.hid (HJ.out.since hb); clear hb)
              | (go_at_call 31; (with_reducible refine (CE.out u4 HJ4.out).mono ?_); rintro e u5 ⟨rfl, hb⟩; have HJ5 := Lib.hid (HJ4.out.since hb); clear hb)
              | (go_at_call 22; (with_reducible refine (CU.out u5 HJ5.out).mono ?_); rintro e u6 ⟨rfl, hu⟩; rw [hu]; clear hu u6)
              | (go_at_call 21; refine (lives10_any u5).mono ?_; rintro e u7 ⟨rfl, hb⟩; have HB7 : RowKit.Hid (Below B w u7) := Lib.hid (HJ5.out.bel.trans (hb.mono (by have := HJ5.out.mem.plt; omega))); clear hb))
            go_ret
            exact ⟨rfl, HB7.out⟩
      · obtain rfl : i = n := by omega
        clear hlt
        have CK : RowKit.Hid (∀ (u : World) (j : Nat), j < K.length → TbSt w B (1 + i) p K K U ya yn yc G u → Calls Try.prog 31 #[.pointer (some ⟨p, 0, none⟩), .int .i64 1, .int .i64 (j : Int)] u fun e w' => e = .returned (.tuple #[.int .i64 (nth K j), .int .i64 0]) ∧ Below u.heap.size u w') := Lib.hid fun u j hj h => by
          have hp := h.p
          subst hp
          have hr := key_any h.mem (by omega) 1 (j : Int) (by omega) (by have := HYN.out; omega)
          rw [tb_key hj] at hr
          exact hr
        have CE : RowKit.Hid (∀ (u : World), TbSt w B (1 + i) p K K U ya yn yc G u → Calls Try.prog 31 #[.pointer (some ⟨p, 0, none⟩), .int .i64 1, .int .i64 (yn : Int)] u fun e w' => e = .returned (.tuple #[.int .i64 0, .int .i64 2]) ∧ Below u.heap.size u w') := Lib.hid fun u h => by
          have hp := h.p
          subst hp
          have hr := key_any h.mem (by omega) 1 (yn : Int) (by omega) (by omega)
          rw [← HYN.out, tb_keyEnd] at hr
          rw [← HYN.out]
          exact hr
        have CS : RowKit.Hid (∀ (u : World), TbSt w B (1 + i) p K K U ya yn yc G u → Calls Try.prog 32 #[.pointer (some ⟨p, 0, none⟩), .int .i64 1] u fun e w' => e = .returned (.tuple #[.int .i64 (yn : Int), .int .i64 0]) ∧ Below u.heap.size u w') := Lib.hid fun u h => by
          have hp := h.p
          subst hp
          have hr := size_any h.mem (by omega) 1 (by omega)
          rw [tb_size, HYN.out] at hr
          exact hr
        have CU : RowKit.Hid (∀ (u : World), TbSt w B (1 + i) p K K U ya yn yc G u → Calls Try.prog 22 #[.pointer (some ⟨p, 0, none⟩)] u fun e w' => e = .returned (.int .i64 (8 + 16 * (yn : Int))) ∧ w' = u) := Lib.hid fun u h => by
          have hp := h.p
          subst hp
          have hr := used_any h.mem
          rw [show (tbM K U).used = 8 + 16 * (yn : Int) by rw [← HYN.out]; rfl] at hr
          exact hr
        have HT0 := Lib.hid HI.out.1
        clear HI
        go_wp2_with fail
        go_loopw [13] (fun v13 wr => ∃ j : Nat, j ≤ yn ∧ v13 = .int .i64 (j : Int) ∧ RowKit.Hid (TbSt w B (1 + i) p K K U ya yn yc G wr)) (fun v13 _ => yn - (intOf v13).toNat)
        case atStart => exact ⟨0, Nat.zero_le _, rfl, HT0⟩
        case round =>
          obtain ⟨j, hj, rfl, HJ⟩ := hrel
          clear HT0
          obtain ⟨wq, hwq⟩ : ∃ u, u = wr := ⟨_, rfl⟩
          rw [← hwq] at HJ ⊢
          clear hwq
          have HWJ : RowKit.Hid (wrap64 ((j : Int) + 1) = (j : Int) + 1) := Lib.hid (by unfold wrap64; omega)
          by_cases hjl : j < yn
          · have hjK : j < K.length := by rw [HYN.out]; exact hjl
            obtain ⟨gy, offy, hye, hgy, hcy⟩ := (OwnsI.read HJ.out.own).2 (by omega)
            have hcj : wq.cell? ⟨gy, offy + j, none⟩ = some (.int .i64 (nth K j)) := by rw [hcy j hjK, nth_is hjK]; rfl
            have CKJ := Lib.hid (CK.out wq j hjK HJ.out)
            subst hye
            have hj0 : (0 : Int) ≤ (j : Int) := by omega
            have hji : (j : Int) < (yn : Int) := by omega
            obtain ⟨y, hy⟩ : ∃ y, nth K j = y := ⟨_, rfl⟩
            rw [hy] at hcj CKJ
            have hyy : (y != y) = false := by simp
            clear hcy hjK hy
            go_wp2_with (go_at_call 31; refine CKJ.out.mono ?_; rintro e u3 ⟨rfl, hb⟩; have HJ3 := Lib.hid (HJ.out.since hb); have hdj := (hb.cell (p := ⟨gy, offy + j, none⟩) hgy).trans hcj; clear hb)
            go_roundw
            case rel => exact ⟨j + 1, hjl, by go_num, HJ3⟩
            case measure => simp [intOf, HWJ.out]; omega
          · obtain rfl : j = yn := by omega
            have hw16 : wrap64 (16 * (j : Int)) = 16 * (j : Int) := by unfold wrap64; omega
            have hw8 : wrap64 (8 + 16 * (j : Int)) = 8 + 16 * (j : Int) := by unfold wrap64; omega
            have hjj : ((j : Int) == (j : Int)) = true := by simp
            have huu : ((8 + 16 * (j : Int)) == (8 + 16 * (j : Int))) = true := by simp
            go_wp2_with (first
              | (go_at_call 32; (with_reducible refine (CS.out wq HJ.out).mono ?_); rintro e u4 ⟨rfl, hb⟩; have HJ4 := Lib.hid (HJ.out.since hb); clear hb)
              | (go_at_call 31; (with_reducible refine (CE.out u4 HJ4.out).mono ?_); rintro e u5 ⟨rfl, hb⟩; have HJ5 := Lib.hid (HJ4.out.since hb); clear hb)
              | (go_at_call 22; (with_reducible refine (CU.out u5 HJ5.out).mono ?_); rintro e u6 ⟨rfl, hu⟩; rw [hu]; clear hu u6)
              | (go_at_call 21; refine (lives10_any u5).mono ?_; rintro e u7 ⟨rfl, hb⟩; have HB7 : RowKit.Hid (Below B w u7) := Lib.hid (HJ5.out.bel.trans (hb.mono (by have := HJ5.out.mem.plt; omega))); clear hb))
            go_ret
            exact ⟨rfl, HB7.out⟩
end Go.Proofs.Ytnnccahpgailiaa
