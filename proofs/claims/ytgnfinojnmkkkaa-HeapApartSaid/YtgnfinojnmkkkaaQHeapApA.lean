/- Layer 10: all that a thing tells. -/
import Derived.Test.YtgnfinojnmkkkaaQT8

namespace Go.Proofs.Ytgnfinojnmkkkaa
open Go.RowKit (wrap64 intOf Below)
set_option linter.unusedVariables false
set_option linter.unusedSimpArgs false

def cellM (M : PM) (r : Int) (i : Nat) : VV := if (getM M r i).2 = 6 then ((keyM M r i).1, ⟨#[]⟩, (lookM M r (keyM M r i).1).1) else (getM M r i).1
def tellTo (M : PM) (r : Int) (i : Nat) : List VV := ((sizeM M r).1, ⟨#[]⟩, 0) :: (List.range i).map (cellM M r)
def tellN (M : PM) (r : Int) : Nat := min (sizeM M r).1.toNat 50
def tellM (M : PM) (r : Int) : List VV := tellTo M r (tellN M r)
theorem tellTo_len (M : PM) (r : Int) (i : Nat) : (tellTo M r i).length = i + 1 := by simp [tellTo]
theorem tellTo_more (M : PM) (r : Int) (i : Nat) : tellTo M r i ++ [cellM M r i] = tellTo M r (i + 1) := by simp [tellTo, List.range_succ]
def KeysOk (M : PM) : Prop := ∀ o ∈ M.objs, ∀ k ∈ o.keys, I64 k
theorem i64_zero : I64 0 := ⟨by decide, by decide⟩
theorem KeysOk.key {M : PM} (h : KeysOk M) (r j : Int) : I64 (keyM M r j).1 := by
  unfold keyM
  split
  · split
    · split
      · exact i64_zero
      · rename_i o ho hj
        have hm : o ∈ M.objs := by
          unfold PM.obj at ho
          split at ho
          · exact List.mem_of_getElem? ho
          · cases ho
        have hl : j.toNat < o.keys.length := by omega
        show I64 (nth o.keys j.toNat)
        rw [nth_is hl]
        exact h o hm _ (List.getElem_mem hl)
    · exact i64_zero
  · exact i64_zero
theorem keys_add {M : PM} (h : KeysOk M) {o : PO} (ho : o.keys = []) (st : Bool) : KeysOk (addM M o st).1 := by
  have key : ∀ (N : PM) (x : PO), N.objs = M.objs → x.keys = [] → KeysOk (pushM N x) := fun N x e hx y hy k hk => by
    have hy' : y ∈ N.objs ++ [x] := hy
    rcases List.mem_append.1 hy' with h1 | h1
    · rw [e] at h1; exact h y h1 k hk
    · rw [List.mem_singleton.1 h1, hx] at hk; cases hk
  unfold addM
  split
  · exact key _ _ rfl ho
  · split
    · exact key _ _ (takeM_objs M _).1 ho
    · exact h
theorem obj_mem {M : PM} {r : Int} {o : PO} (ho : M.obj r = some o) : o ∈ M.objs := by
  unfold PM.obj at ho
  split at ho
  · exact List.mem_of_getElem? ho
  · cases ho
theorem keys_set {M N : PM} (h : KeysOk M) (e : N.objs = M.objs) {i : Nat} {o : PO} (ho : ∀ k ∈ o.keys, I64 k) : KeysOk {N with objs := N.objs.set i o} := fun y hy k hk => by
  have hy' : y ∈ N.objs.set i o := hy
  rcases List.mem_or_eq_of_mem_set hy' with h1 | h1
  · rw [e] at h1; exact h y h1 k hk
  · rw [h1] at hk; exact ho k hk
theorem keysUp_ok {o : PO} {x : Int} (ho : ∀ k ∈ o.keys, I64 k) (hx : I64 x) : ∀ k ∈ keysUp o x, I64 k := fun k hk => by
  rcases (keysUp_mem o x k).1 hk with h1 | h1
  · rw [h1]; exact hx
  · exact ho k h1
theorem keys_does {M : PM} (h : KeysOk M) {a : PAct} (ok : a.Ok) : KeysOk (doesM M a) := by
  unfold doesM
  split
  · exact h
  · split
    · unfold leaveM; split <;> exact h
    · split
      · exact keys_add h rfl _
      · split
        · unfold sliceM
          split
          · exact h
          · exact keys_add h rfl _
        · split
          · exact keys_add h rfl _
          · split
            · unfold setM
              split
              · split
                · exact h
                · rename_i o ho
                  exact keys_set h rfl (h o (obj_mem ho))
              · exact h
            · split
              · unfold putM
                split
                · split
                  · rename_i o ho
                    have hu := keysUp_ok (h o (obj_mem ho)) ok.i
                    split
                    · exact keys_set (N := M) h rfl (o := tabUp o a.i a.n) hu
                    · split
                      · exact keys_set (N := takeM M 16) h (takeM_objs M 16).1 (o := tabUp o a.i a.n) hu
                      · exact h
                  · exact h
                · exact h
              · exact h
/-- Where neither the thing nor the frames have turned, it tells the same. -/
theorem tell_same {M M' : PM} {r : Int} (ho : M'.obj r = M.obj r) (hf : M'.frs = M.frs) : tellM M' r = tellM M r := by
  have hg : ∀ o, M'.gone o = M.gone o := fun o => by unfold PM.gone; rw [hf]
  have hs : sizeM M' r = sizeM M r := by unfold sizeM; rw [ho]; simp only [hg]
  have ha : ansT M' r = ansT M r := by unfold ansT; rw [ho]; simp only [hg]
  have hr : ∀ j, ansR M' r j = ansR M r j := fun j => by unfold ansR; rw [ho]; simp only [hg]
  have hgt : ∀ j, getM M' r j = getM M r j := fun j => by unfold getM; rw [hr, ho]
  have hk : ∀ j, keyM M' r j = keyM M r j := fun j => by unfold keyM; rw [ha, ho]
  have hl : ∀ j, lookM M' r j = lookM M r j := fun j => by unfold lookM; rw [ha, ho]
  have hc : cellM M' r = cellM M r := funext fun i => by unfold cellM; rw [hgt, hk, hl]
  unfold tellM tellTo tellN
  rw [hs, hc]
theorem obj_set {M N : PM} {r q : Int} {o o' : PO} (h : M.obj q = some o) (hn : r ≠ q) (e : N.objs = M.objs) : (PM.obj {N with objs := N.objs.set (q - 1).toNat o'} r) = M.obj r := by
  have h1 : 1 ≤ q := by
    unfold PM.obj at h
    split at h
    · assumption
    · cases h
  unfold PM.obj
  by_cases hr : 1 ≤ r
  · rw [if_pos hr, if_pos hr]
    show (N.objs.set (q - 1).toNat o')[(r - 1).toNat]? = _
    rw [List.getElem?_set_ne (by omega), e]
  · rw [if_neg hr, if_neg hr]
theorem tell_apart {M : PM} {a : PAct} (hk : a.kind = 6 ∨ a.kind = 8) {r : Int} (hr : r ≠ a.r) : tellM (doesM M a) r = tellM M r := by
  unfold doesM
  rcases hk with hk | hk
  · rw [if_neg (by omega), if_neg (by omega), if_neg (by omega), if_neg (by omega), if_neg (by omega), if_pos hk]
    unfold setM
    split
    · split
      · rfl
      · rename_i o ho
        exact tell_same (obj_set (N := M) ho hr rfl) rfl
    · rfl
  · rw [if_neg (by omega), if_neg (by omega), if_neg (by omega), if_neg (by omega), if_neg (by omega), if_neg (by omega), if_pos hk]
    unfold putM
    split
    · split
      · rename_i o ho
        split
        · exact tell_same (obj_set (N := M) ho hr rfl) rfl
        · split
          · exact tell_same (obj_set (N := takeM M 16) ho hr (takeM_objs M 16).1) (takeM_objs M 16).2
          · rfl
      · rfl
    · rfl
/-! ## The walk of tell -/
def TellPost (W : World) (M : PM) (r : Int) (e : Ending) (w' : World) : Prop := ∃ (g yn yc : Nat) (y : Int), e = .returned (.tuple #[.slice (some ⟨g, 0, none⟩) yn yc, .int .i64 y]) ∧ OwnsV w' W.heap.size (.slice (some ⟨g, 0, none⟩) yn yc) (tellM M r) ∧ Below W.heap.size W w'
structure TellSt (W u : World) (M : PM) (r : Int) (g yn yc : Nat) (i : Nat) : Prop where
  own : OwnsV u W.heap.size (.slice (some ⟨g, 0, none⟩) yn yc) (tellTo M r i)
  bel : Below W.heap.size W u
set_option maxRecDepth 100000 in
set_option maxHeartbeats 4000000 in
theorem tell_any {W : World} {B cap : Nat} {M : PM} {G : GM} (h : MemAt W B cap M G) (hcap : cap ≤ 1099511627776) (hK : KeysOk M) (r : Int) (hr : I64 r) :
    Calls Try.prog 8 #[.pointer (some ⟨G.p, 0, none⟩), .int .i64 r] W (TellPost W M r) := by
  obtain ⟨n, y, hs⟩ : ∃ n y, sizeM M r = (n, y) := ⟨_, _, rfl⟩
  have cs := size_any h hcap r hr
  rw [hs] at cs
  have CS := Lib.hid cs
  have HM := Lib.hid h
  have hTN : tellN M r = min n.toNat 50 := by unfold tellN; rw [hs]
  obtain ⟨N, hN⟩ : ∃ N, tellN M r = N := ⟨_, rfl⟩
  rw [hN] at hTN
  have HTM : RowKit.Hid (tellM M r = tellTo M r N) := Lib.hid (by unfold tellM; rw [hN])
  have HIN : RowKit.Hid (∀ i : Nat, i ≤ N → ((i < N ∧ (i : Int) < n ∧ (i : Int) < 50) ∨ (i = N ∧ (¬ ((i : Int) < n) ∨ ((i : Int) < n ∧ ¬ ((i : Int) < 50)))))) := Lib.hid fun i hi => by omega
  have HS0 : RowKit.Hid (∀ u, Below W.heap.size W u → TellSt W (u.alloc (.cells #[.int .i64 n, .string ⟨#[]⟩, .int .i64 0] 24)) M r u.heap.size 1 1 0) := Lib.hid fun u hu => by
    refine ⟨?_, hu.alloc hu.size _⟩
    have := World.ownsRow_lit (size := 3) (base := W.heap.size) (e := 24) u #[.int .i64 n, .string ⟨#[]⟩, .int .i64 0] 1 hu.size (by unfold maxLen; omega) rfl
    unfold tellTo
    rw [hs]
    exact this
  have HN50 : RowKit.Hid (N ≤ 50) := Lib.hid (by omega)
  have CG : RowKit.Hid (∀ u, Below W.heap.size W u → ∀ i : Nat, Calls Try.prog 24 #[.pointer (some ⟨G.p, 0, none⟩), .int .i64 r, .int .i64 (i : Int)] u fun e w' => e = .returned (.tuple #[vvV (getM M r i).1, .int .i64 (getM M r i).2]) ∧ Below u.heap.size u w') := Lib.hid fun u hu i => get_any (h.since hu) hcap r i hr
  have CK : RowKit.Hid (∀ u, Below W.heap.size W u → ∀ i : Nat, i ≤ 50 → Calls Try.prog 25 #[.pointer (some ⟨G.p, 0, none⟩), .int .i64 r, .int .i64 (i : Int)] u fun e w' => e = .returned (.tuple #[.int .i64 (keyM M r i).1, .int .i64 (keyM M r i).2]) ∧ Below u.heap.size u w') := Lib.hid fun u hu i hi => key_any (h.since hu) hcap r i hr (by omega)
  have CL : RowKit.Hid (∀ u, Below W.heap.size W u → ∀ i : Nat, Calls Try.prog 26 #[.pointer (some ⟨G.p, 0, none⟩), .int .i64 r, .int .i64 (keyM M r i).1] u fun e w' => e = .returned (.tuple #[.int .i64 (lookM M r (keyM M r i).1).1, .int .i64 (lookM M r (keyM M r i).1).2]) ∧ Below u.heap.size u w') := Lib.hid fun u hu i => look_any (h.since hu) hcap r _ hr (hK.key r i)
  have HCE : RowKit.Hid (∀ i : Nat, cellM M r i = if (getM M r i).2 = 6 then ((keyM M r i).1, ⟨#[]⟩, (lookM M r (keyM M r i).1).1) else (getM M r i).1) := Lib.hid fun i => rfl
  clear h cs hs hK hr hN hTN hcap
  go_enter Try.func8, Try.ntmps8
  go_upto_region 2 with (go_at_call 23; refine CS.out.mono ?_; rintro e u0 ⟨rfl, hb⟩; have HB0 := Lib.hid hb; clear hb)
  have HS1 := Lib.hid (HS0.out u0 HB0.out)
  clear HS0
  go_wp2_with fail
  go_loopw [8, 9] (fun v8 v9 wr => ∃ (i g yn yc : Nat), i ≤ N ∧ v8 = .slice (some ⟨g, 0, none⟩) yn yc ∧ v9 = .int .i64 (i : Int) ∧ RowKit.Hid (TellSt W wr M r g yn yc i)) (fun _ v9 _ => N - (intOf v9).toNat)
  case atStart => exact ⟨0, _, _, _, Nat.zero_le _, rfl, rfl, HS1⟩
  case round =>
    obtain ⟨i, g, yn, yc, hi, rfl, rfl, HI⟩ := hrel
    clear HS1
    obtain ⟨wo, hwo⟩ : ∃ u, u = wr := ⟨_, rfl⟩
    rw [← hwo] at HI ⊢
    clear hwo
    have HW : RowKit.Hid (wrap64 ((i : Int) + 1) = (i : Int) + 1) := Lib.hid (by have := HN50.out; unfold wrap64; omega)
    rcases HIN.out i hi with ⟨hlt, hin, hin2⟩ | ⟨rfl, hex⟩
    · obtain ⟨⟨x1, x2, x3⟩, ge, hge⟩ : ∃ x e, getM M r (i : Int) = (x, e) := ⟨_, _, rfl⟩
      have cg := CG.out wo HI.out.bel i
      rw [hge] at cg
      unfold vvV at cg
      have CG2 := Lib.hid cg
      have hce := HCE.out i
      rw [hge] at hce
      have HAP : RowKit.Hid (∀ u C (z : VV), Below W.heap.size W u → Below wo.heap.size wo u → C = #[.int .i64 z.1, .string z.2.1, .int .i64 z.2.2] → cellM M r i = z → OwnsV (u.alloc (.cells C 24)) W.heap.size (.slice (some ⟨g, 0, none⟩) yn yc) (tellTo M r i) ∧ W.heap.size ≤ (u.alloc (.cells C 24)).heap.size ∧ (∀ j y, ([z].flatMap vvL)[j]? = some y → (u.alloc (.cells C 24)).cell? ((⟨u.heap.size, 0, none⟩ : Addr).add j) = some y) ∧ ∀ za zn zc w1, OwnsV w1 W.heap.size (.slice za zn zc) (tellTo M r i ++ [z]) → (u.alloc (.cells C 24)).grownBy w1 (Value.slice (some ⟨g, 0, none⟩) yn yc).ownBlock → ∃ g', za = some ⟨g', 0, none⟩ ∧ TellSt W w1 M r g' zn zc (i + 1)) := Lib.hid fun u C z hu hwu hC hz => by
        have hou : OwnsV u W.heap.size (.slice (some ⟨g, 0, none⟩) yn yc) (tellTo M r i) := HI.out.own.below2 hwu
        refine ⟨World.ownsRow.alloc hou _, by have := hu.size; simp; omega, fun j y hy => ?_, fun za zn zc w1 ho hg => ?_⟩
        · subst hC
          rw [addr_plain, Nat.zero_add, World.cell?_alloc_mark]
          simpa [vvL] using hy
        · rw [← hz, tellTo_more] at ho
          obtain ⟨hn1, hc1⟩ := ho.cells
          obtain ⟨g', e, _⟩ := hc1 (by rw [hn1, tellTo_len]; omega)
          subst e
          exact ⟨g', rfl, ho, Below.grown (hu.alloc hu.size _) hg (by have := hu.size; simp; omega) (fun k hk => (hou.lt k hk).1)⟩
      have HL : RowKit.Hid (((tellTo M r i).length + 1) * 32 ≤ 140737488355328) := Lib.hid (by have := HN50.out; rw [tellTo_len]; omega)
      clear cg
      by_cases h6 : ge = 6
      · subst h6
        rw [if_pos rfl] at hce
        obtain ⟨kk, ke, hke⟩ : ∃ a b, keyM M r (i : Int) = (a, b) := ⟨_, _, rfl⟩
        obtain ⟨lx, le, hle⟩ : ∃ a b, lookM M r kk = (a, b) := ⟨_, _, rfl⟩
        have CK2 : RowKit.Hid (∀ u, Below W.heap.size W u → Calls Try.prog 25 #[.pointer (some ⟨G.p, 0, none⟩), .int .i64 r, .int .i64 (i : Int)] u fun e w' => e = .returned (.tuple #[.int .i64 kk, .int .i64 ke]) ∧ Below u.heap.size u w') := Lib.hid fun u hu => by have := CK.out u hu i (by have := HN50.out; omega); rw [hke] at this; exact this
        have CL2 : RowKit.Hid (∀ u, Below W.heap.size W u → Calls Try.prog 26 #[.pointer (some ⟨G.p, 0, none⟩), .int .i64 r, .int .i64 kk] u fun e w' => e = .returned (.tuple #[.int .i64 lx, .int .i64 le]) ∧ Below u.heap.size u w') := Lib.hid fun u hu => by have := CL.out u hu i; rw [hke] at this; simp only at this; rw [hle] at this; exact this
        rw [hke] at hce
        simp only at hce
        rw [hle] at hce
        have HZ := Lib.hid hce
        clear hce hke hle hge CG CK CL HIN HCE
        go_upto_region 8 with (go_at_call 24; refine CG2.out.mono ?_; rintro e u1 ⟨rfl, hb⟩; have HB1 := Lib.hid hb; clear hb)
        obtain ⟨U1, hU1⟩ : ∃ U1, u1.alloc (.cells #[.int .i64 x1, .string x2, .int .i64 x3] 24) = U1 := ⟨_, rfl⟩
        have hbU1 : Below wo.heap.size wo U1 := by rw [← hU1]; exact HB1.out.alloc HB1.out.size _
        have hbx : U1.heap[u1.heap.size]? = some (.cells #[.int .i64 x1, .string x2, .int .i64 x3] 24 (0, 0)) := by rw [← hU1]; exact World.alloc_heap_new _ _
        have HU1 := Lib.hid (And.intro hbU1 hbx)
        have HWU : RowKit.Hid (Below W.heap.size W U1) := Lib.hid (HI.out.bel.trans (hbU1.mono HI.out.bel.size))
        rw [hU1]
        clear hU1 hbU1 hbx
        go_upto_region 10 with (first
          | (go_at_call 25; (with_reducible refine (CK2.out U1 HWU.out).mono ?_); rintro e u2 ⟨rfl, hb⟩; have HB2 := Lib.hid hb; have HWU2 : RowKit.Hid (Below W.heap.size W u2) := Lib.hid (HWU.out.trans (hb.mono HWU.out.size)); clear hb)
          | (go_at_call 26; (with_reducible refine (CL2.out u2 HWU2.out).mono ?_); rintro e u3 ⟨rfl, hb⟩; have HB3 := Lib.hid hb; clear hb))
        have hzl : u1.heap.size < U1.heap.size := (Array.getElem?_eq_some_iff.1 HU1.out.2).1
        have hb3 : Below U1.heap.size U1 u3 := HB2.out.trans (HB3.out.mono HB2.out.size)
        have hx3 : u3.heap[u1.heap.size]? = some (.cells #[.int .i64 x1, .string x2, .int .i64 x3] 24 (0, 0)) := (hb3.block _ hzl).trans HU1.out.2
        have m0 : u3.cell? ⟨u1.heap.size, 0, none⟩ = some (.int .i64 x1) := by simp [World.cell?, hx3]
        have m1 : u3.cell? ⟨u1.heap.size, 1, none⟩ = some (.string x2) := by simp [World.cell?, hx3]
        have m2 : u3.cell? ⟨u1.heap.size, 2, none⟩ = some (.int .i64 x3) := by simp [World.cell?, hx3]
        have f0 : u3.frozen? ⟨u1.heap.size, 0, none⟩ = false := by simp [World.frozen?, hx3]
        have f1 : u3.frozen? ⟨u1.heap.size, 1, none⟩ = false := by simp [World.frozen?, hx3]
        have f2 : u3.frozen? ⟨u1.heap.size, 2, none⟩ = false := by simp [World.frozen?, hx3]
        have hbs := box_set hx3 (.int .i64 kk) (.string ⟨#[]⟩) (.int .i64 lx)
        have hbl : Below wo.heap.size wo (((u3.setCell ⟨u1.heap.size, 0, none⟩ (.int .i64 kk)).setCell ⟨u1.heap.size, 1, none⟩ (.string ⟨#[]⟩)).setCell ⟨u1.heap.size, 2, none⟩ (.int .i64 lx)) := by
          have hs1 := HB1.out.size
          have h1 : Below wo.heap.size wo u3 := HU1.out.1.trans (hb3.mono HU1.out.1.size)
          exact ((h1.setCell (p := ⟨u1.heap.size, 0, none⟩) hs1 _).setCell (p := ⟨u1.heap.size, 1, none⟩) hs1 _).setCell (p := ⟨u1.heap.size, 2, none⟩) hs1 _
        go_upto_region 11 with fail
        obtain ⟨U3, hU3⟩ : ∃ U3, ((u3.setCell ⟨u1.heap.size, 0, none⟩ (.int .i64 kk)).setCell ⟨u1.heap.size, 1, none⟩ (.string ⟨#[]⟩)).setCell ⟨u1.heap.size, 2, none⟩ (.int .i64 lx) = U3 := ⟨_, rfl⟩
        rw [hU3] at hbs hbl ⊢
        have n0 : U3.cell? ⟨u1.heap.size, 0, none⟩ = some (.int .i64 kk) := by simp [World.cell?, hbs]
        have n1 : U3.cell? ⟨u1.heap.size, 1, none⟩ = some (.string ⟨#[]⟩) := by simp [World.cell?, hbs]
        have n2 : U3.cell? ⟨u1.heap.size, 2, none⟩ = some (.int .i64 lx) := by simp [World.cell?, hbs]
        have HQ := Lib.hid (HAP.out U3 #[.int .i64 kk, .string ⟨#[]⟩, .int .i64 lx] (kk, ⟨#[]⟩, lx) (HI.out.bel.trans (hbl.mono HI.out.bel.size)) hbl rfl HZ.out)
        clear hU3 hbs hbl hb3 hx3 hzl m0 m1 m2 f0 f1 f2
        go_wp2_with ((with_reducible refine wpList_append_vals _ rfl rfl _ _ rfl W.heap.size (.slice (some ⟨g, 0, none⟩) yn yc) (tellTo M r i) ?_ ?_ ?_ ⟨U3.heap.size, 0, none⟩ 1 1 [(kk, ⟨#[]⟩, lx)] ?_ ?_ ?_ ?_ ?_); (next => rfl); (next => exact HQ.out.1); (next => exact HQ.out.2.1); (next => rfl); (next => rfl); (next => exact HQ.out.2.2.1); (next => exact HL.out); intro za zn zc w1 ho1 hg1 hw1; obtain ⟨g', hza, hA⟩ := HQ.out.2.2.2 _ _ _ _ ho1 hg1; have HA := Lib.hid hA; subst hza; clear ho1 hg1 hw1 hA)
        go_roundw
        case rel => exact ⟨i + 1, g', zn, zc, hlt, rfl, by go_num, HA⟩
        case measure => simp [intOf, HW.out]; omega
      · have h6b : (ge == 6) = false := by simpa using h6
        rw [if_neg h6] at hce
        have HZ := Lib.hid hce
        clear hce hge CG CK CL HIN HCE h6
        go_upto_region 11 with (go_at_call 24; refine CG2.out.mono ?_; rintro e u1 ⟨rfl, hb⟩; have HB1 := Lib.hid hb; clear hb)
        obtain ⟨U3, hU3⟩ : ∃ U1, u1.alloc (.cells #[.int .i64 x1, .string x2, .int .i64 x3] 24) = U1 := ⟨_, rfl⟩
        have hbl : Below wo.heap.size wo U3 := by rw [← hU3]; exact HB1.out.alloc HB1.out.size _
        have hbs : U3.heap[u1.heap.size]? = some (.cells #[.int .i64 x1, .string x2, .int .i64 x3] 24 (0, 0)) := by rw [← hU3]; exact World.alloc_heap_new _ _
        rw [hU3]
        have n0 : U3.cell? ⟨u1.heap.size, 0, none⟩ = some (.int .i64 x1) := by simp [World.cell?, hbs]
        have n1 : U3.cell? ⟨u1.heap.size, 1, none⟩ = some (.string x2) := by simp [World.cell?, hbs]
        have n2 : U3.cell? ⟨u1.heap.size, 2, none⟩ = some (.int .i64 x3) := by simp [World.cell?, hbs]
        have HQ := Lib.hid (HAP.out U3 #[.int .i64 x1, .string x2, .int .i64 x3] (x1, x2, x3) (HI.out.bel.trans (hbl.mono HI.out.bel.size)) hbl rfl HZ.out)
        clear hU3 hbs hbl
        go_wp2_with ((with_reducible refine wpList_append_vals _ rfl rfl _ _ rfl W.heap.size (.slice (some ⟨g, 0, none⟩) yn yc) (tellTo M r i) ?_ ?_ ?_ ⟨U3.heap.size, 0, none⟩ 1 1 [(x1, x2, x3)] ?_ ?_ ?_ ?_ ?_); (next => rfl); (next => exact HQ.out.1); (next => exact HQ.out.2.1); (next => rfl); (next => rfl); (next => exact HQ.out.2.2.1); (next => exact HL.out); intro za zn zc w1 ho1 hg1 hw1; obtain ⟨g', hza, hA⟩ := HQ.out.2.2.2 _ _ _ _ ho1 hg1; have HA := Lib.hid hA; subst hza; clear ho1 hg1 hw1 hA)
        go_roundw
        case rel => exact ⟨i + 1, g', zn, zc, hlt, rfl, by go_num, HA⟩
        case measure => simp [intOf, HW.out]; omega
    · clear CG CK CL HIN HCE
      rcases hex with hex | ⟨hex, hex2⟩
      · go_wp2_with fail
        go_ret2
        exact ⟨g, yn, yc, y, rfl, by rw [HTM.out]; exact HI.out.own, HI.out.bel⟩
      · go_wp2_with fail
        go_ret2
        exact ⟨g, yn, yc, y, rfl, by rw [HTM.out]; exact HI.out.own, HI.out.bel⟩
end Go.Proofs.Ytgnfinojnmkkkaa
