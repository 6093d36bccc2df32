/- Layer 8: the blocks of a loop are gathered: those that are not passed yet (mk_dom.py U). -/
import Derived.Test.YtnnccahpgailiaaQDomP

namespace Go.Proofs.Ytnnccahpgailiaa
open Go.RowKit (wrap64 intOf Below)
set_option linter.unusedVariables false
set_option linter.unusedSimpArgs false

theorem addN_mem {Z : List Int} {z x : Int} : x ∈ addN Z z ↔ x ∈ Z ∨ x = z := by
  unfold addN inL
  by_cases h : z ∈ Z
  · rw [decide_eq_true h]
    simp only [if_true]
    exact ⟨.inl, fun hx => hx.elim id (fun e => e ▸ h)⟩
  · rw [decide_eq_false h]
    simp
theorem addN_nodup {Z : List Int} {z : Int} (h : Z.Nodup) : (addN Z z).Nodup := by
  unfold addN inL
  by_cases hz : z ∈ Z
  · rw [decide_eq_true hz]; exact h
  · rw [decide_eq_false hz]
    simp only [Bool.false_eq_true, if_false]
    rw [List.nodup_append]
    exact ⟨h, by simp, fun x hx y hy e => hz (by simp at hy; rw [← hy, ← e]; exact hx)⟩
theorem addN_pre {Z : List Int} {z : Int} : ∃ T, addN Z z = Z ++ T := by
  unfold addN
  split
  · exact ⟨[], (List.append_nil _).symm⟩
  · exact ⟨[z], rfl⟩
theorem addF_mem {x : Int} : ∀ {L Z : List Int}, x ∈ L.foldl addN Z ↔ x ∈ Z ∨ x ∈ L
  | [], Z => by simp
  | z :: L, Z => by rw [List.foldl_cons, addF_mem, addN_mem, List.mem_cons, or_assoc]
theorem addF_nodup : ∀ {L Z : List Int}, Z.Nodup → (L.foldl addN Z).Nodup
  | [], Z, h => h
  | z :: L, Z, h => addF_nodup (L := L) (addN_nodup h)
theorem addF_pre : ∀ {L Z : List Int}, ∃ T, L.foldl addN Z = Z ++ T
  | [], Z => ⟨[], (List.append_nil _).symm⟩
  | z :: L, Z => by
    obtain ⟨T1, h1⟩ := addN_pre (Z := Z) (z := z)
    obtain ⟨T2, h2⟩ := addF_pre (L := L) (Z := addN Z z)
    exact ⟨T1 ++ T2, by rw [List.foldl_cons, h2, h1, List.append_assoc]⟩
theorem addF_more {L Z : List Int} {i : Nat} (hi : i < L.length) : (L.take (i + 1)).foldl addN Z = addN ((L.take i).foldl addN Z) L[i] := by
  rw [List.take_succ_eq_append_getElem hi, List.foldl_append]
  rfl
/-- Where the gathering stands in memory. -/
structure ArSt (W : World) (f : FuncD) (Nt B p n : Nat) (g : Nat → Nat) (Z0 : Nat → List Int) (ov : Value) (gf : Nat) (vs : List Value) (rd : Int) (bt bb : Nat) (PS Zb : List Int) (va : Option Addr) (vn vc : Nat) : Prop where
  at_ : TreeAt W B p n g (fun k => if k = 4 then PS else Z0 k) ov (.slice (some ⟨gf, 0, none⟩) n n) (orderL f) vs (frL f n) rd
  lt : TreeLt Nt p g ov (.slice (some ⟨gf, 0, none⟩) n n) vs
  tb : TBox W bt p
  bx : Boxed W bb 29 (.slice va vn vc)
  own : OwnsI W Nt 3 (.slice va vn vc) Zb
  ge : Nt ≤ bt ∧ Nt ≤ bb ∧ Nt ≤ W.heap.size
  pass : ∀ v, v < n → (nth PS v = rd ↔ (v : Int) ∈ Zb)
  there : ∀ z ∈ Zb, ∃ v : Nat, z = (v : Int) ∧ v < n
  nodup : Zb.Nodup
  le : ∀ v, v < n → nth PS v ≤ rd
section
variable {W W' : World} {f : FuncD} {Nt B p n : Nat} {g : Nat → Nat} {Z0 : Nat → List Int} {ov : Value} {gf : Nat} {vs : List Value} {rd : Int} {bt bb : Nat} {PS Zb : List Int} {va : Option Addr} {vn vc : Nat}
theorem ArSt.since (h : ArSt W f Nt B p n g Z0 ov gf vs rd bt bb PS Zb va vn vc) (hb : Below W.heap.size W W') : ArSt W' f Nt B p n g Z0 ov gf vs rd bt bb PS Zb va vn vc :=
  ⟨h.at_.since hb, h.lt, (hb.block _ h.tb.lt).trans h.tb, (hb.block _ h.bx.lt).trans h.bx, h.own.below hb, ⟨h.ge.1, h.ge.2.1, Nat.le_trans h.ge.2.2 hb.size⟩, h.pass, h.there, h.nodup, h.le⟩
/-- What the gathering turns. -/
def ArX (g : Nat → Nat) (Nt : Nat) (i : Nat) : Prop := i = g 4 ∨ Nt ≤ i
/-- A block is passed. -/
theorem ArSt.mark (h : ArSt W f Nt B p n g Z0 ov gf vs rd bt bb PS Zb va vn vc) {b : Nat} (hb : b < n) :
    TreeAt (W.setCell ⟨g 4, b, none⟩ (.int .i64 rd)) B p n g (fun k => if k = 4 then PS.set b rd else Z0 k) ov (.slice (some ⟨gf, 0, none⟩) n n) (orderL f) vs (frL f n) rd ∧ TBox (W.setCell ⟨g 4, b, none⟩ (.int .i64 rd)) bt p ∧ Boxed (W.setCell ⟨g 4, b, none⟩ (.int .i64 rd)) bb 29 (.slice va vn vc) ∧ OwnsI (W.setCell ⟨g 4, b, none⟩ (.int .i64 rd)) Nt 3 (.slice va vn vc) Zb := by
  have hput := h.at_.put (i := 4) (by omega) b rd
  have e : (fun k => if k = 4 then List.set ((fun k => if k = 4 then PS else Z0 k) 4) b rd else (fun k => if k = 4 then PS else Z0 k) k) = (fun k => if k = 4 then PS.set b rd else Z0 k) := funext fun k => by
    by_cases hk : k = 4 <;> simp [hk]
  rw [e] at hput
  have hoff : Off (fun i => i = g 4) W (W.setCell ⟨g 4, b, none⟩ (.int .i64 rd)) := Off.setCell (X := fun i => i = g 4) (p := ⟨g 4, b, none⟩) (Off.refl _ W) (.inl rfl) _
  have hg4 : g 4 < Nt := h.lt.2.1 4 (by omega)
  refine ⟨hput, h.tb.kept hoff (h.tb.ne h.at_ (by omega)), (hoff.block _ h.bx.lt (fun e => ?_)).trans h.bx, own_at h.own fun k hk => hoff.block _ (h.own.lt k hk).2 (fun e => ?_)⟩
  · have := h.ge.2.1; have e' : bb = g 4 := e; omega
  · have := (h.own.lt k hk).1; have e' : k = g 4 := e; omega
/-- A block stands behind the others. -/
theorem ArSt.push {U w3 : World} {C : Array Value} {e : TypeId} {b : Nat} {ya : Option Addr} {yn yc : Nat} (h : ArSt W f Nt B p n g Z0 ov gf vs rd bt bb PS Zb va vn vc) (hb : b < n) (hnew : (b : Int) ∉ Zb)
    (hA : TreeAt U B p n g (fun k => if k = 4 then PS.set b rd else Z0 k) ov (.slice (some ⟨gf, 0, none⟩) n n) (orderL f) vs (frL f n) rd) (hT : TBox U bt p) (hX : Boxed U bb 29 (.slice va vn vc)) (hO : OwnsI U Nt 3 (.slice va vn vc) Zb) (hU : Nt ≤ U.heap.size)
    (hg : (U.alloc (.cells C e)).grownBy w3 (Value.slice va vn vc).ownBlock) (ho : OwnsI w3 Nt 3 (.slice ya yn yc) (Zb ++ [(b : Int)])) :
    Boxed w3 bb 29 (.slice va vn vc) ∧ ArSt (w3.setCell ⟨bb, 0, none⟩ (.slice ya yn yc)) f Nt B p n g Z0 ov gf vs rd bt bb (PS.set b rd) (Zb ++ [(b : Int)]) ya yn yc ∧ Off (fun i => Nt ≤ i) U (w3.setCell ⟨bb, 0, none⟩ (.slice ya yn yc)) := by
  have hbbO : (Value.slice va vn vc).ownBlock ≠ some bb := fun e => by
    obtain ⟨cur, hc, _⟩ := ownsI_blk hO e
    have h2 : U.heap[bb]? = _ := hX
    rw [hc] at h2; simp at h2
  have hbtO : (Value.slice va vn vc).ownBlock ≠ some bt := fun e => by
    obtain ⟨cur, hc, _⟩ := ownsI_blk hO e
    have h2 : U.heap[bt]? = _ := hT
    rw [hc] at h2; simp at h2
  have hbtb : bt ≠ bb := fun e => by
    have h2 : U.heap[bt]? = _ := hT
    have h3 : U.heap[bb]? = _ := hX
    rw [e, h3] at h2; simp at h2
  have hoff1 : Off (fun i => (Value.slice va vn vc).ownBlock = some i) U w3 := ((Off.refl _ U).alloc _).grown hg (fun k hk => .inl hk)
  have hX3 : Boxed w3 bb 29 (.slice va vn vc) := (hoff1.block _ hX.lt hbbO).trans hX
  have hT3 : TBox w3 bt p := (hoff1.block _ hT.lt hbtO).trans hT
  have hoffA : Off (fun i => Nt ≤ i) U w3 := hoff1.mono fun i _ hi => (hO.lt i hi).1
  have hoff2 : Off (fun i => Nt ≤ i) U (w3.setCell ⟨bb, 0, none⟩ (.slice ya yn yc)) := hoffA.setCell (.inl h.ge.2.1) _
  have hlen : PS.length = n := by have := h.at_.len (i := 4) (by omega); simpa using this
  have hybb : (Value.slice ya yn yc).ownBlock ≠ some bb := fun e => by
    obtain ⟨cur, hc, _⟩ := ownsI_blk ho e
    have h2 : w3.heap[bb]? = _ := hX3
    rw [hc] at h2; simp at h2
  have hset : Off (fun i => i = bb) w3 (w3.setCell ⟨bb, 0, none⟩ (.slice ya yn yc)) := Off.setCell (X := fun i => i = bb) (p := ⟨bb, 0, none⟩) (Off.refl _ w3) (.inl rfl) _
  refine ⟨hX3, ⟨hA.beyond h.lt hoff2 (fun i hi => hi), h.lt, hT3.kept hset hbtb, hX3.set _, own_at ho fun k hk => hset.block _ (ho.lt k hk).2 (fun e => hybb (by have e' : k = bb := e; rw [← e']; exact hk)), ⟨h.ge.1, h.ge.2.1, Nat.le_trans hU hoff2.size⟩, fun v hv => ?_, fun z hz => ?_, ?_, fun v hv => ?_⟩, hoff2⟩
  · rw [nth_set (by omega), List.mem_append, List.mem_singleton]
    by_cases e : v = b
    · subst e; simp
    · rw [if_neg e, h.pass v hv]
      exact ⟨.inl, fun hx => hx.resolve_right (fun h => e (by omega))⟩
  · rcases List.mem_append.1 hz with hz | hz
    · exact h.there z hz
    · simp at hz; exact ⟨b, hz, hb⟩
  · have := addN_nodup (z := (b : Int)) h.nodup
    unfold addN inL at this
    rw [decide_eq_false hnew] at this
    exact this
  · rw [nth_set (by omega)]
    split
    · exact Int.le_refl _
    · exact h.le v hv
/-- Those that go to a block, as they lie. -/
theorem ArSt.from_ (h : ArSt W f Nt B p n g Z0 ov gf vs rd bt bb PS Zb va vn vc) (hl : vs.length = n) {b : Nat} (hb : b < n) : ∃ xa xn xc, W.cell? ⟨gf, b, none⟩ = some (.slice xa xn xc) ∧ NumsAt W xa xn ((ahL f n b).filter (metZ f)) ∧ xn ≤ n ∧ ∀ g0 off, xa = some ⟨g0, off, none⟩ → 0 < xn → g0 ≠ g 4 ∧ g0 < Nt := by
  have hv : b < vs.length := by rw [hl]; exact hb
  have hF : b < (frL f n).length := by rw [frL_len]; exact hb
  have hown := h.at_.fr.own b hv hF
  rw [frL_at hF] at hown
  obtain ⟨xa, xn, xc, hxv, hxn⟩ := hown.nums
  refine ⟨xa, xn, xc, by rw [← hxv]; exact h.at_.fr.cell hv, hxn, by rw [← hxn.1]; exact Nat.le_trans (List.length_filter_le _ _) (ahL_len f n b), fun g0 off e _ => ?_⟩
  have hk : vs[b].ownBlock = some g0 := by rw [hxv, e]; rfl
  exact ⟨fun e2 => h.at_.frne 4 (by omega) b hv (by rw [hk, e2]), h.lt.2.2.2.2 b hv g0 hk⟩
end
set_option maxRecDepth 100000 in
set_option maxHeartbeats 4000000 in
theorem add_any {W : World} {f : FuncD} {Nt B p n : Nat} {g : Nat → Nat} {Z0 : Nat → List Int} {ov : Value} {gf : Nat} {vs : List Value} {rd : Int} {bt bb : Nat} {PS Zb : List Int} {va : Option Addr} {vn vc : Nat} (h : ArSt W f Nt B p n g Z0 ov gf vs rd bt bb PS Zb va vn vc)
    (xa : Option Addr) (xn xc : Nat) (L : List Int) (hx : NumsAt W xa xn L) (hxa : ∀ g0 off, xa = some ⟨g0, off, none⟩ → 0 < xn → g0 ≠ g 4 ∧ g0 < Nt) (hL : ∀ z ∈ L, ∃ v : Nat, z = (v : Int) ∧ v < n) (hn : n ≤ 100000) (hxn : xn ≤ n) :
    Calls Try.prog 70 #[.slice xa xn xc, .pointer (some ⟨bt, 0, none⟩), .pointer (some ⟨bb, 0, none⟩)] W fun e w' => e = .returned (.tuple #[]) ∧ ∃ PS' ya yn yc, ArSt w' f Nt B p n g Z0 ov gf vs rd bt bb PS' (L.foldl addN Zb) ya yn yc ∧ Off (ArX g Nt) W w' := by
  have H0 := Lib.hid h
  have HX := Lib.hid hx
  have HXA := Lib.hid hxa
  have HLL := Lib.hid hL
  clear h hx hxa hL
  go_enter Try.func70, Try.ntmps70
  go_wp2_with fail
  go_loopw [8] (fun v8 wr => ∃ (i : Nat) (PS' : List Int) (ya : Option Addr) (yn yc : Nat), i ≤ xn ∧ v8 = .int .i64 (i : Int) ∧ RowKit.Hid (ArSt wr f Nt B p n g Z0 ov gf vs rd bt bb PS' ((L.take i).foldl addN Zb) ya yn yc ∧ Off (ArX g Nt) W wr)) (fun v8 _ => xn - (intOf v8).toNat)
  case atStart => exact ⟨0, _, _, _, _, Nat.zero_le _, rfl, Lib.hid ⟨H0.out, Off.refl _ _⟩⟩
  case round =>
    obtain ⟨i, PS', ya, yn, yc, hi, rfl, HI⟩ := hrel
    obtain ⟨wo, hwo⟩ : ∃ u, u = wr := ⟨_, rfl⟩
    rw [← hwo] at HI ⊢
    clear hwo
    by_cases hlt : i < xn
    · have hil : i < L.length := by rw [HX.out.1]; exact hlt
      obtain ⟨b, hb, hbn⟩ := HLL.out L[i] (List.getElem_mem _)
      obtain ⟨g0, off, hae, hg0, hcs⟩ := HX.out.2 (by omega)
      have hcb : wo.cell? ⟨g0, off + i, none⟩ = some (.int .i64 (b : Int)) := by
        have h1 := hcs i hil
        rw [hb] at h1
        refine (HI.out.2.cell (p := ⟨g0, off + i, none⟩) hg0 (fun hx => ?_)).trans h1
        have h2 := HXA.out g0 off hae (by omega)
        rcases hx with hx | hx
        · exact h2.1 hx
        · have h3 : Nt ≤ g0 := hx; omega
      subst hae
      have HMO := Lib.hid (addF_more (Z := Zb) hil)
      rw [hb] at HMO
      clear hcs hg0 hb hil
      obtain ⟨Zi, hZi⟩ : ∃ Z, Z = (L.take i).foldl addN Zb := ⟨_, rfl⟩
      rw [← hZi] at HI HMO
      clear hZi
      have c1 := HI.out.1.tb.cell
      have c6 : wo.cell? ⟨p, 6, none⟩ = some (.slice (some ⟨g 4, 0, none⟩) n n) := by simp [World.cell?, HI.out.1.at_.blk]
      have c7 : wo.cell? ⟨p, 7, none⟩ = some (.int .i64 rd) := by simp [World.cell?, HI.out.1.at_.blk]
      have cs : wo.cell? ⟨g 4, b, none⟩ = some (.int .i64 (nth PS' b)) := by have := HI.out.1.at_.cell (i := 4) (by omega) hbn; simpa using this
      have cf : wo.frozen? ⟨g 4, b, none⟩ = false := HI.out.1.at_.free (by omega) b
      have hbi : (b : Int) < (n : Int) := by omega
      have hbi0 : (0 : Int) ≤ (b : Int) := by omega
      by_cases hin : (b : Int) ∈ Zi
      · have hp : nth PS' b = rd := (HI.out.1.pass b hbn).2 hin
        have hne : (nth PS' b != rd) = false := by rw [hp]; simp
        have HAD : RowKit.Hid (addN Zi (b : Int) = Zi) := Lib.hid (by unfold addN inL; rw [decide_eq_true hin]; rfl)
        rw [hp] at cs hne
        clear hin hp
        go_wp2_with fail
        go_quiet (fail)
        go_wp2_with fail
        go_roundw
        case rel => exact ⟨i + 1, PS', ya, yn, yc, hlt, by go_num, Lib.hid ⟨by rw [HMO.out, HAD.out]; exact HI.out.1.since (below_drewN _ (Below.refl _ _)), HI.out.2.drewN _⟩⟩
        case measure => simp [intOf]; omega
      · have hp : nth PS' b ≠ rd := fun e => hin ((HI.out.1.pass b hbn).1 e)
        have hne : (nth PS' b != rd) = true := by rw [bne_iff_ne]; exact hp
        have HAD : RowKit.Hid (addN Zi (b : Int) = Zi ++ [(b : Int)] ∧ (b : Int) ∉ Zi) := Lib.hid ⟨by unfold addN inL; rw [decide_eq_false hin]; rfl, hin⟩
        have HZL : RowKit.Hid ((Zi.length + 1) * 8 ≤ 140737488355328) := Lib.hid (by
          have h1 : Zi.length ≤ n := by
            have h2 := nodup_len n (Zi.map Int.toNat) (by
              rw [List.nodup_iff_pairwise_ne, List.pairwise_map]
              exact List.Pairwise.imp_of_mem (fun {x y} hx hy hne e => hne (by
                obtain ⟨u, hu, _⟩ := HI.out.1.there x hx
                obtain ⟨v, hv, _⟩ := HI.out.1.there y hy
                omega)) HI.out.1.nodup) (fun q hq => by
              obtain ⟨z, hz, rfl⟩ := List.mem_map.1 hq
              obtain ⟨u, hu, hun⟩ := HI.out.1.there z hz
              omega)
            simpa using h2
          omega)
        clear hin hp
        go_wp2_with fail
        go_quiet (fail)
        go_wp2_with fail
        generalize hwv : World.drewN wo _ = wv
        have HV : RowKit.Hid (ArSt wv f Nt B p n g Z0 ov gf vs rd bt bb PS' Zi ya yn yc ∧ Off (ArX g Nt) W wv) := Lib.hid (by rw [← hwv]; exact ⟨HI.out.1.since (below_drewN _ (Below.refl _ _)), HI.out.2.drewN _⟩)
        have k1 : wv.drew.cell? ⟨bt, 0, none⟩ = some (.pointer (some ⟨p, 0, none⟩)) := HV.out.1.tb.cell
        have k6 : wv.drew.cell? ⟨p, 6, none⟩ = some (.slice (some ⟨g 4, 0, none⟩) n n) := by rw [← hwv]; exact c6
        have k7 : wv.drew.cell? ⟨p, 7, none⟩ = some (.int .i64 rd) := by rw [← hwv]; exact c7
        have ks : wv.drew.cell? ⟨g 4, b, none⟩ = some (.int .i64 (nth PS' b)) := by rw [← hwv]; exact cs
        have kf : wv.drew.frozen? ⟨g 4, b, none⟩ = false := by rw [← hwv]; exact cf
        clear hwv c1 c6 c7 cs cf
        refine wp_region_Z (S := (fun u : World => u.cell? ⟨bt, 0, none⟩ = some (.pointer (some ⟨p, 0, none⟩)) ∧ u.cell? ⟨p, 6, none⟩ = some (.slice (some ⟨g 4, 0, none⟩) n n) ∧ u.cell? ⟨p, 7, none⟩ = some (.int .i64 rd))) 10 (by kernel_rfl) ⟨k1, k6, k7⟩ (fun hHeld => ?_)
        refine wpAnyZ_take (i := 0) (oi := ⟨some 24, _, _, _, _, _⟩) (v := ?_) rfl (by kernel_rfl) (by kernel_rfl) (by kernel_rfl) (by kernel_rfl) (fun _ _ _ h => h) (Or.inl ⟨by rfl, ?_⟩) (by assumption) ?_
        rotate_left
        · ((intro w hSw; (try dsimp only at hSw); go_simp); try with_reducible rfl)
        (try simp only [Act.put, List.setIfInBounds_toArray, List.set_cons_zero, List.set_cons_succ])
        refine wpAnyZ_take (i := 1) (oi := ⟨some 25, _, _, _, _, _⟩) (v := ?_) rfl (by kernel_rfl) (by kernel_rfl) (by kernel_rfl) (by kernel_rfl) (fun _ _ _ h => h) (Or.inl ⟨by rfl, ?_⟩) (by assumption) ?_
        rotate_left
        · ((intro w hSw; (try dsimp only at hSw); go_simp); try with_reducible rfl)
        (try simp only [Act.put, List.setIfInBounds_toArray, List.set_cons_zero, List.set_cons_succ])
        refine wpAnyZ_take (i := 2) (oi := ⟨some 26, _, _, _, _, _⟩) (v := ?_) rfl (by kernel_rfl) (by kernel_rfl) (by kernel_rfl) (by kernel_rfl) (fun _ _ _ h => h) (Or.inl ⟨by rfl, ?_⟩) (by assumption) ?_
        rotate_left
        · ((intro w hSw; (try dsimp only at hSw); go_simp); try with_reducible rfl)
        (try simp only [Act.put, List.setIfInBounds_toArray, List.set_cons_zero, List.set_cons_succ])
        refine wpAnyZ_take (i := 3) (oi := ⟨some 27, _, _, _, _, _⟩) (v := ?_) rfl (by kernel_rfl) (by kernel_rfl) (by kernel_rfl) (by kernel_rfl) (fun _ _ _ h => h) (Or.inl ⟨by rfl, ?_⟩) (by assumption) ?_
        rotate_left
        · ((intro w hSw; (try dsimp only at hSw); go_simp); try with_reducible rfl)
        (try simp only [Act.put, List.setIfInBounds_toArray, List.set_cons_zero, List.set_cons_succ])
        refine wpAnyZ_take (i := 4) (oi := ⟨some 28, _, _, _, _, _⟩) (v := ?_) rfl (by kernel_rfl) (by kernel_rfl) (by kernel_rfl) (by kernel_rfl) (fun _ _ _ h => h) (Or.inl ⟨by rfl, ?_⟩) (by assumption) ?_
        rotate_left
        · ((intro w hSw; (try dsimp only at hSw); go_simp); try with_reducible rfl)
        (try simp only [Act.put, List.setIfInBounds_toArray, List.set_cons_zero, List.set_cons_succ])
        refine wpAnyZ_take (i := 5) (oi := ⟨some 29, _, _, _, _, _⟩) (v := ?_) rfl (by kernel_rfl) (by kernel_rfl) (by kernel_rfl) (by kernel_rfl) (fun _ _ _ h => h) (Or.inl ⟨by rfl, ?_⟩) (by assumption) ?_
        rotate_left
        · ((intro w hSw; (try dsimp only at hSw); go_simp); try with_reducible rfl)
        (try simp only [Act.put, List.setIfInBounds_toArray, List.set_cons_zero, List.set_cons_succ])
        refine wpAnyZ_take (i := 6) (oi := ⟨some 30, _, _, _, _, _⟩) (v := ?_) rfl (by kernel_rfl) (by kernel_rfl) (by kernel_rfl) (by kernel_rfl) (fun _ _ _ h => h) (Or.inl ⟨by rfl, ?_⟩) (by assumption) ?_
        rotate_left
        · ((intro w hSw; (try dsimp only at hSw); go_simp); try with_reducible rfl)
        (try simp only [Act.put, List.setIfInBounds_toArray, List.set_cons_zero, List.set_cons_succ])
        refine wpAnyZ_take (i := 7) (oi := ⟨some 31, _, _, _, _, _⟩) (v := ?_) rfl (by kernel_rfl) (by kernel_rfl) (by kernel_rfl) (by kernel_rfl) (fun _ _ _ h => h) (Or.inl ⟨by rfl, ?_⟩) (by assumption) ?_
        rotate_left
        · ((intro w hSw; (try dsimp only at hSw); go_simp); try with_reducible rfl)
        (try simp only [Act.put, List.setIfInBounds_toArray, List.set_cons_zero, List.set_cons_succ])
        refine wpAnyZ_take (i := 8) (oi := ⟨some 32, _, _, _, _, _⟩) (v := ?_) rfl (by kernel_rfl) (by kernel_rfl) (by kernel_rfl) (by kernel_rfl) (fun _ _ _ h => h) (Or.inl ⟨by rfl, ?_⟩) (by assumption) ?_
        rotate_left
        · ((intro w hSw; (try dsimp only at hSw); go_simp); try with_reducible rfl)
        (try simp only [Act.put, List.setIfInBounds_toArray, List.set_cons_zero, List.set_cons_succ])
        refine wpAnyZ_take (i := 9) (oi := ⟨some 33, _, _, _, _, _⟩) (v := ?_) rfl (by kernel_rfl) (by kernel_rfl) (by kernel_rfl) (by kernel_rfl) (fun _ _ _ h => h) (Or.inl ⟨by rfl, ?_⟩) (by assumption) ?_
        rotate_left
        · ((intro w hSw; (try dsimp only at hSw); go_simp); try with_reducible rfl)
        (try simp only [Act.put, List.setIfInBounds_toArray, List.set_cons_zero, List.set_cons_succ])
        refine wpAnyZ_last (by kernel_rfl) rfl (by kernel_rfl) (fun K hK => ?_)
        rw [if_pos (by rfl)]
        go_simp
        refine hK.out _ _ ?_
        clear hK K
        (try simp only [Act.put, List.setIfInBounds_toArray, List.set_cons_zero, List.set_cons_succ])
        obtain ⟨U, hU⟩ : ∃ U, (wv.setCell ⟨g 4, b, none⟩ (.int .i64 rd)).drew = U := ⟨_, rfl⟩
        obtain ⟨m1, m2, m3, m4⟩ := HV.out.1.mark hbn
        have HM : RowKit.Hid (TreeAt U B p n g (fun k => if k = 4 then PS'.set b rd else Z0 k) ov (.slice (some ⟨gf, 0, none⟩) n n) (orderL f) vs (frL f n) rd ∧ TBox U bt p ∧ Boxed U bb 29 (.slice ya yn yc) ∧ OwnsI U Nt 3 (.slice ya yn yc) Zi ∧ Nt ≤ U.heap.size ∧ Off (ArX g Nt) W U) := Lib.hid (by
          rw [← hU]
          exact ⟨m1.since (Below.refl _ _).drew, m2, m3, m4.below (Below.refl _ _).drew, by have := HV.out.1.ge.2.2; simpa [World.setCell] using this, (HV.out.2.setCell (p := ⟨g 4, b, none⟩) (.inl (.inl rfl)) _).drew⟩)
        rw [hU]
        clear hU m1 m2 m3 m4 k1 k6 k7 ks kf hHeld
        have d1 : U.cell? ⟨bb, 0, none⟩ = some (.slice ya yn yc) := HM.out.2.2.1.cell
        go_wp2_with ((with_reducible refine wpList_append_numW _ rfl _ _ 29 rfl 3 Try.underlying29 info_int Nt (.slice ya yn yc) Zi ?_ ?_ ?_ _ 1 U.heap.size (b : Int) ?_ ?_ ?_ ?_ ?_); (next => rfl); (next => exact HM.out.2.2.2.1); (next => exact HM.out.2.2.2.2.1); (next => rfl); (next => rfl); (next => rfl); (next => exact HZL.out); intro qa qn qc w3 ho3 hg3 hwh3; have HPU := Lib.hid (HV.out.1.push hbn HAD.out.2 HM.out.1 HM.out.2.1 HM.out.2.2.1 HM.out.2.2.2.1 HM.out.2.2.2.2.1 hg3 ho3); have e1 := HPU.out.1.cell; have e2 := HPU.out.1.frozen; clear ho3 hg3 hwh3)
        go_roundw
        case rel => exact ⟨i + 1, _, _, _, _, hlt, by go_num, Lib.hid ⟨by rw [HMO.out, HAD.out.1]; exact HPU.out.2.1, HM.out.2.2.2.2.2.trans (HPU.out.2.2.mono (fun k _ hk => .inr hk))⟩⟩
        case measure => simp [intOf]; omega
    · obtain rfl : i = xn := by omega
      have HE : RowKit.Hid ((L.take i).foldl addN Zb = L.foldl addN Zb) := Lib.hid (by rw [List.take_of_length_le (by rw [HX.out.1]; exact Nat.le_refl _)])
      go_wp2_with fail
      go_end0
      exact ⟨rfl, PS', ya, yn, yc, by rw [← HE.out]; exact HI.out.1, HI.out.2⟩
end Go.Proofs.Ytnnccahpgailiaa
