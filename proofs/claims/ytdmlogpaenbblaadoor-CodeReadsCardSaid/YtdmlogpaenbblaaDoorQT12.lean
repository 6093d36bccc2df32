/- Layer 5: code.through with a reader. -/
import Derived.Test.YtdmlogpaenbblaaDoorQCodeFi
import Derived.Test.YtdmlogpaenbblaaDoorQCodeRz
import Derived.Test.YtdmlogpaenbblaaDoorQCodeSs
import Derived.Test.YtdmlogpaenbblaaDoorQT10
import Derived.Test.YtdmlogpaenbblaaDoorQT11
import Derived.Test.YtdmlogpaenbblaaDoorQT9

namespace Go.Proofs.YtdmlogpaenbblaaDoor
open Go.RowKit (wrap64 intOf Below)
set_option linter.unusedVariables false
set_option linter.unusedSimpArgs false

/-- What comes of a reader's walk: the program, or the error. -/
def ThRd (r B g off : Nat) (p : PR ProgD) (w : World) (e : Ending) (w' : World) : Prop :=
  (∃ P rest cs, p = .ok P rest ∧ e = .returned (.int .i64 0) ∧ RdAt w' r B rest ∧ cs.length = 3 ∧ WinAt w' g off cs ∧ ProgO w' (From w.heap.size) cs P ∧ Off (fun i => i = r ∨ i = g) w w') ∨
  (∃ er, p = .no er ∧ e = .returned (.int .i64 er) ∧ Off (fun i => i = r ∨ i = g) w w')
set_option maxRecDepth 100000 in
set_option maxHeartbeats 2000000 in
theorem through_rd (r B g off : Nat) (L : List UInt8) (w : World) (h : RdAt w r B L) (hw : WinAt w g off [.slice none 0 0, .slice none 0 0, .slice none 0 0]) (hB : B ≤ g) (hg : g ≠ r) (hft : FT w) (hfb : 2 < B) :
    Calls Tryd.prog 37 #[.iface 81 (.pointer (some ⟨r, 0, none⟩)), .pointer (some ⟨g, off, none⟩)] w (ThRd r B g off (rdProg L) w) := by
  have hmf : ∀ (fn : Fn) (first cap : Array Value) (w : World), (Instr.makeFunc fn first cap).run Tryd.prog w = .ok (.func fn first cap) w := fun _ _ _ _ => rfl
  have hb1 : Below w.heap.size w (w.alloc (.cells #[.int .i64 0] 31)) := (Below.refl _ _).alloc (Nat.le_refl _) _
  have hrl := h.lt
  have hgl := hw.lt
  have HW := Lib.hid (h.since hb1)
  have HWN := Lib.hid (hw.stays (X := RX r) (Off.since hb1) hg)
  have HF := Lib.hid (hft.since hb1)
  have HNW := Lib.hid (heap_alloc_new w (.cells #[.int .i64 0] 31))
  have HO1 := Lib.hid (one_prog r B hfb)
  have HAL : RowKit.Hid (Off (fun i => i = r ∨ i = g) w (w.alloc (.cells #[.int .i64 0] 31))) := Lib.hid (Off.alloc (Off.refl _ _) _)
  clear h hw hft hb1
  go_enter_defers Tryd.func37, Tryd.ntmps37
  go_wp2_with fail
  refine (HO1.out _ L g off HW.out HWN.out hB hg HF.out).mono ?_
  rintro e u2 (⟨P, rest, cs, hp, rfl, hr2, hw2, hl2, hc2, hq2⟩ | ⟨er, hp, rfl, hO⟩)
  · have hblk : u2.heap[w.heap.size]? = some (.cells #[.int .i64 0] 31 (0, 0)) := (hw2.block w.heap.size (by simp) (by omega) (by omega)).trans HNW.out
    have hcell : u2.cell? ⟨w.heap.size, 0, none⟩ = some (.int .i64 0) := by simp [World.cell?, hblk]
    have hfree : u2.frozen? ⟨w.heap.size, 0, none⟩ = false := by simp [World.frozen?, hblk]
    have HC := Lib.hid hcell
    have HR : RowKit.Hid (ThRd r B g off (rdProg L) w (.returned (.int .i64 0)) u2) := Lib.hid (.inl ⟨P, rest, cs, hp, rfl, hr2, hl2, hc2, ProgO.holds.wider hq2 (fun b _ hb => Nat.le_trans (by simp) hb), HAL.out.trans hw2.offs⟩)
    clear hblk hp hr2 hw2 hl2 hc2 hq2
    go_wp2_with fail
    rw [setCell_same HC.out]
    refine leaves_cons (f := 79) (args := #[.pointer (some ⟨w.heap.size, 0, none⟩)]) (by simp) (by simp [go_sem]) ?_
    refine (catch_idle ⟨w.heap.size, 0, none⟩ _).mono ?_
    rintro e u' w'' ⟨rfl, rfl, rfl⟩
    simp [Leaves, settle, results, Tryd.results37, go_sem, hcell]
    exact HR.out
  · have hblk : u2.heap[w.heap.size]? = some (.cells #[.int .i64 0] 31 (0, 0)) := (hO.block w.heap.size (by simp) (fun e => by rcases e with e | e <;> omega)).trans HNW.out
    have hcell : u2.cell? ⟨w.heap.size, 0, none⟩ = some (.int .i64 0) := by simp [World.cell?, hblk]
    have hfree : u2.frozen? ⟨w.heap.size, 0, none⟩ = false := by simp [World.frozen?, hblk]
    have HR : RowKit.Hid (ThRd r B g off (rdProg L) w (.returned (.int .i64 er)) (u2.setCell ⟨w.heap.size, 0, none⟩ (.int .i64 er))) := Lib.hid (.inr ⟨er, hp, rfl, (HAL.out.trans hO).setCell (.inr (Nat.le_refl _)) _⟩)
    clear hblk hp hO
    go_wp2_with fail
    refine leaves_cons (f := 79) (args := #[.pointer (some ⟨w.heap.size, 0, none⟩)]) (by simp) (by simp [go_sem]) ?_
    refine (catch_panic ⟨w.heap.size, 0, none⟩ 0 er _ hcell hfree).mono ?_
    rintro e u' w'' ⟨rfl, rfl, rfl⟩
    simp [Leaves, settle, results, Tryd.results37, go_sem, hcell]
    exact HR.out
end Go.Proofs.YtdmlogpaenbblaaDoor

/- Layer 5: code.Decode: the program that bytes are, or why none. -/
namespace Go.Proofs.YtdmlogpaenbblaaDoor
open Go.RowKit (wrap64 intOf Below)
set_option linter.unusedVariables false
set_option linter.unusedSimpArgs false

/-- What Decode comes to: too many bytes are none, nor are bytes with some behind. -/
def inBytes (L : List UInt8) : PR ProgD := if 65536 < L.length then .no 2 else (rdProg L).bind fun P r => if r.length = 0 then .ok P [] else .no 4
def DecPost (p : PR ProgD) (w : World) (e : Ending) (w' : World) : Prop :=
  (∃ P g s c f, p = .ok P [] ∧ e = .returned (.tuple #[.pointer (some ⟨g, 0, none⟩), .int .i64 0]) ∧ w.heap.size ≤ g ∧ WinAt w' g 0 [s, c, f] ∧ ProgO w' (From w.heap.size) [s, c, f] P ∧ Below w.heap.size w w') ∨
  (∃ er, p = .no er ∧ er ≠ 0 ∧ e = .returned (.tuple #[.pointer none, .int .i64 er]) ∧ Below w.heap.size w w')
theorem three_cells {cs : List Value} (h : cs.length = 3) : ∃ s c f, cs = [s, c, f] := by
  match cs, h with
  | [s, c, f], _ => exact ⟨s, c, f, rfl⟩
/-- Which errors a reader has: none of them is 0. -/
def NoZero {α : Type} (p : List UInt8 → PR α) : Prop := ∀ L e, p L = .no e → e ≠ 0
theorem NoZero.bind {α β : Type} {p : List UInt8 → PR α} {f : α → List UInt8 → PR β} (h : NoZero p) (h' : ∀ x, NoZero (f x)) : NoZero (fun L => (p L).bind f) := by
  intro L e he
  simp only at he
  cases hp : p L with
  | no e' => rw [hp] at he; cases he; exact h L _ hp
  | ok x r => rw [hp] at he; exact h' x r e he
theorem nz_num : NoZero rdNum := by
  intro L e h
  rcases gives_or_fails L with ⟨m, k, hg⟩ | ⟨er, hf⟩
  · rw [rdNum_yes hg] at h; cases h
  · rw [rdNum_no hf] at h
    cases h
    have := hf.2
    omega
theorem nz_ok {α : Type} (g : List UInt8 → PR α) (h : ∀ r, (∃ x r', g r = .ok x r') ∨ ∃ e, g r = .no e ∧ e ≠ 0) : NoZero g := by
  intro L e he
  rcases h L with ⟨x, r', h⟩ | ⟨e', h, hne⟩
  · rw [h] at he; cases he
  · rw [h] at he; cases he; exact hne
theorem nz_pure {α : Type} (x : α) : NoZero (fun r => .ok x r) := nz_ok _ fun r => .inl ⟨_, _, rfl⟩
theorem nz_map {α β : Type} {p : List UInt8 → PR α} (g : α → β) (h : NoZero p) : NoZero (fun L => (p L).bind fun x r => .ok (g x) r) := h.bind fun x => nz_pure (g x)
theorem nz_below (b : Int) : NoZero (rdBelow b) := nz_num.bind fun n => nz_ok _ fun r => by
  by_cases h : 0 ≤ n ∧ n < b
  · exact .inl ⟨_, _, if_pos h⟩
  · exact .inr ⟨4, if_neg h, by decide⟩
theorem nz_count (most : Nat) : NoZero (rdCount most) := nz_num.bind fun n => nz_ok _ fun r => by
  by_cases h : n < 0
  · exact .inr ⟨4, if_pos h, by decide⟩
  · by_cases h2 : (most : Int) < n
    · exact .inr ⟨2, by rw [if_neg h, if_pos h2], by decide⟩
    · exact .inl ⟨_, _, by rw [if_neg h, if_neg h2]⟩
theorem nz_times {α : Type} {p : List UInt8 → PR α} (h : NoZero p) : ∀ n, NoZero (rdTimes p n)
  | 0 => nz_pure _
  | n + 1 => h.bind fun x => nz_map (fun xs => x :: xs) (nz_times h n)
theorem nz_list {α : Type} {p : List UInt8 → PR α} (most : Nat) (h : NoZero p) : NoZero (rdList most p) := (nz_count most).bind fun n => nz_times h n
theorem nz_nums (most : Nat) : NoZero (rdNums most) := nz_list most nz_num
theorem nz_text : NoZero rdText := (nz_count 64).bind fun m => nz_ok _ fun r => by
  by_cases h : m ≤ r.length
  · exact .inl ⟨_, _, if_pos h⟩
  · exact .inr ⟨3, if_neg h, by decide⟩
theorem nz_truth : NoZero rdTruth := nz_map (fun n => n == 1) (nz_below 2)
theorem nz_field (o : OpD) (f : UInt8) : NoZero (rdField o f) := by
  intro L e h
  unfold rdField at h
  repeat' split at h
  · exact nz_map (fun n => { o with N := n }) nz_num L e h
  · exact nz_map (fun n => { o with S := n }) nz_text L e h
  · exact nz_map (fun n => { o with A := n }) nz_num L e h
  · exact nz_map (fun n => { o with B := n }) nz_num L e h
  · exact nz_map (fun n => { o with C := n }) nz_num L e h
  · exact nz_map (fun n => { o with L := n }) (nz_nums 8) L e h
  · exact nz_map (fun n => { o with T := n }) nz_truth L e h
theorem nz_fields : ∀ (fs : List UInt8) (o : OpD), NoZero (rdFields o fs)
  | [], o => nz_pure o
  | f :: fs, o => (nz_field o f).bind fun o' => nz_fields fs o'
theorem nz_op : NoZero rdOp := (nz_below 26).bind fun k => nz_fields _ _
theorem nz_target : NoZero rdTarget := nz_num.bind fun t => nz_map (fun Z => (t, Z)) (nz_nums 8)
theorem nz_end : NoZero rdEnd := (nz_below 4).bind fun k => by
  intro L e h
  repeat' split at h
  · exact nz_map (fun p => (⟨k, 0, p.1, 0, p.2, []⟩ : EndD)) nz_target L e h
  · exact (nz_num.bind fun a => nz_target.bind fun p => nz_map (fun q => (⟨k, a, p.1, q.1, p.2, q.2⟩ : EndD)) nz_target) L e h
  · exact nz_map (fun a => (⟨k, a, 0, 0, [], []⟩ : EndD)) nz_num L e h
theorem nz_block : NoZero rdBlock := (nz_nums 8).bind fun ps => (nz_list 700 nz_op).bind fun os => nz_map (fun e => (⟨ps, os, e⟩ : BlockD)) nz_end
theorem nz_func : NoZero rdFunc := nz_num.bind fun t => nz_map (fun bs => (⟨t, bs⟩ : FuncD)) (nz_list 40 nz_block)
theorem nz_sig : NoZero rdSig := (nz_nums 8).bind fun ps => nz_map (fun t => (⟨ps, t⟩ : SigD)) nz_num
theorem nz_class : NoZero rdClass := (nz_nums 8).bind fun ps => nz_map (fun t => (⟨ps, t⟩ : ClassD)) (nz_nums 4)
theorem nz_prog : NoZero rdProg := (nz_list 4 nz_sig).bind fun ss => (nz_list 8 nz_class).bind fun cs => nz_map (fun fs => (⟨ss, cs, fs⟩ : ProgD)) (nz_list 16 nz_func)

set_option maxRecDepth 100000 in
set_option maxHeartbeats 4000000 in
theorem decode_any (a : Option Addr) (n c : Nat) (L : List UInt8) (w : World) (h : BytesAt w a n c L) (ha : ∀ ad, a = some ad → ad.block < w.heap.size) (hn : n ≤ 140737488355328) (hft : FT w) :
    Calls Tryd.prog 18 #[.slice a n c] w (DecPost (inBytes L) w) := by
  have hlen : L.length = n := h.1
  by_cases hlong : 65536 < n
  · have HR : RowKit.Hid (inBytes L = .no 2) := Lib.hid (by unfold inBytes; rw [if_pos (by omega)])
    clear h hft
    go_enter Tryd.func18, Tryd.ntmps18
    go_wp2_with fail
    go_ret2
    exact .inr ⟨2, HR.out, by decide, rfl, Below.refl _ _⟩
  · have HIN : RowKit.Hid (inBytes L = (rdProg L).bind fun P r => if r.length = 0 then .ok P [] else .no 4) := Lib.hid (by unfold inBytes; rw [if_neg (by omega)])
    have hb1 : Below w.heap.size w (w.alloc (.cells #[.slice a n c] 83)) := (Below.refl _ _).alloc (Nat.le_refl _) _
    have hz1 : (w.alloc (.cells #[.slice a n c] 83)).heap.size = w.heap.size + 1 := by simp
    have hb2 : Below w.heap.size w ((w.alloc (.cells #[.slice a n c] 83)).alloc (.cells #[.slice none 0 0, .slice none 0 0, .slice none 0 0] 26)) := hb1.alloc (by omega) _
    have hblk1 : ((w.alloc (.cells #[.slice a n c] 83)).alloc (.cells #[.slice none 0 0, .slice none 0 0, .slice none 0 0] 26)).heap[w.heap.size]? = some (.cells #[.slice a n c] 83 (0, 0)) :=
      (heap_alloc_old _ _ (by omega)).trans (heap_alloc_new w _)
    have hblk2 : ((w.alloc (.cells #[.slice a n c] 83)).alloc (.cells #[.slice none 0 0, .slice none 0 0, .slice none 0 0] 26)).heap[w.heap.size + 1]? = some (.cells #[.slice none 0 0, .slice none 0 0, .slice none 0 0] 26 (0, 0)) := by
      rw [← hz1]; exact heap_alloc_new _ _
    have hrd : RdAt ((w.alloc (.cells #[.slice a n c] 83)).alloc (.cells #[.slice none 0 0, .slice none 0 0, .slice none 0 0] 26)) w.heap.size w.heap.size L :=
      ⟨a, n, c, hblk1, h.since hb2, ha, Nat.le_refl _, hn⟩
    have hwin : WinAt ((w.alloc (.cells #[.slice a n c] 83)).alloc (.cells #[.slice none 0 0, .slice none 0 0, .slice none 0 0] 26)) (w.heap.size + 1) 0 [.slice none 0 0, .slice none 0 0, .slice none 0 0] :=
      ⟨_, _, hblk2, fun j hj => by match j, hj with | 0, _ => rfl | 1, _ => rfl | 2, _ => rfl⟩
    have HRD := Lib.hid hrd
    have HWI := Lib.hid hwin
    have HFT := Lib.hid (hft.since hb2)
    have HFL := Lib.hid hft.lt
    have HB := Lib.hid hb2
    clear h hb1 hb2 hblk1 hblk2 hrd hwin hft hz1
    go_enter Tryd.func18, Tryd.ntmps18
    go_wp2_with fail
    refine (through_rd w.heap.size w.heap.size (w.heap.size + 1) 0 L _ HRD.out HWI.out (Nat.le_succ _) (by omega) HFT.out HFL.out).mono ?_
    rintro e w1 (⟨P, rest, cs, hp, rfl, hr1, hl1, hw1, hq1, ho1⟩ | ⟨er, hp, rfl, ho1⟩)
    · obtain ⟨s, cc, f, rfl⟩ := three_cells hl1
      have hbel : Below w.heap.size w w1 := HB.out.trans (ho1.below (by simp <;> omega) (fun i hi => by rcases hi with rfl | rfl <;> omega))
      obtain ⟨a1, n1, c1, hblk, hat1, _, _, _⟩ := hr1
      have hn1 : rest.length = n1 := hat1.1
      have hcell : w1.cell? ⟨w.heap.size, 0, none⟩ = some (.slice a1 n1 c1) := by simp [World.cell?, hblk]
      have HBE := Lib.hid hbel
      have HW1 := Lib.hid hw1
      have HQ1 := Lib.hid (ProgO.holds.wider hq1 (S' := From w.heap.size) (fun b _ hb => Nat.le_trans (by simp <;> omega) hb))
      have HP : RowKit.Hid (inBytes L = if n1 = 0 then .ok P [] else .no 4) := Lib.hid (by rw [HIN.out, hp]; simp only [PR.bind, hn1])
      clear hbel hblk hat1 hw1 hq1 hp ho1 hl1 hn1
      by_cases h0 : n1 = 0
      · subst h0
        have HP2 : RowKit.Hid (inBytes L = .ok P []) := Lib.hid (by rw [HP.out, if_pos rfl])
        go_wp2_with fail
        go_ret2
        exact .inl ⟨P, _, s, cc, f, HP2.out, rfl, by omega, HW1.out, HQ1.out, HBE.out⟩
      · have HP2 : RowKit.Hid (inBytes L = .no 4) := Lib.hid (by rw [HP.out, if_neg h0])
        have h0' : 0 < n1 := by omega
        go_wp2_with fail
        go_ret2
        exact .inr ⟨4, HP2.out, by decide, rfl, HBE.out⟩
    · have hbel : Below w.heap.size w w1 := HB.out.trans (ho1.below (by simp <;> omega) (fun i hi => by rcases hi with rfl | rfl <;> omega))
      have HBE := Lib.hid hbel
      have her : er ≠ 0 := nz_prog L er hp
      have HP : RowKit.Hid (inBytes L = .no er) := Lib.hid (by rw [HIN.out, hp]; rfl)
      have hne : (er != 0) = true := by rw [bne_iff_ne]; exact her
      have HNE := Lib.hid her
      clear hp ho1 hbel her
      go_wp2_with fail
      go_ret2
      exact .inr ⟨er, HP.out, HNE.out, rfl, HBE.out⟩
end Go.Proofs.YtdmlogpaenbblaaDoor

/- Layer 5: the statements' own living call: a small program becomes bytes, and comes back. -/
namespace Go.Proofs.YtdmlogpaenbblaaDoor
open Go.RowKit (wrap64 intOf Below)
set_option linter.unusedVariables false
set_option linter.unusedSimpArgs false

/-- The small program. -/
def liveOp : OpD := ⟨0, 0, 0, 0, 7, ⟨#[]⟩, [], false⟩
def liveBlock : BlockD := ⟨[], [liveOp], ⟨2, 0, 0, 0, [], []⟩⟩
def liveFunc : FuncD := ⟨0, [liveBlock]⟩
def liveProg : ProgD := ⟨[], [], [liveFunc]⟩
/-- What the numbers that are read of a program are. -/
theorem ProgQ.rng {W : World} {cs : List Value} {P : ProgD} (h : ProgQ W cs P) : RngProg P := by
  have key : ∀ {α : Type} {Q : World → List Value → α → Prop} {k : Nat} {v : Value} {xs : List α} {R : α → Prop}, (∀ cs x, Q W cs x → R x) → RowV Q k W v xs → ∀ x ∈ xs, R x := by
    intro α Q k v xs R hR hrow x hx
    obtain ⟨a, n, c, _, hl, _, _, hpos⟩ := hrow
    obtain ⟨i, hi, rfl⟩ := List.getElem_of_mem hx
    obtain ⟨g, off, _, _, hcs⟩ := hpos (by omega)
    obtain ⟨cs, _, _, hq⟩ := hcs i hi
    exact hR _ _ hq
  have nums : ∀ {v : Value} {Z : List Int}, NumsV W v Z → ∀ z ∈ Z, InR z := fun ⟨_, _, _, _, _, _, _, h⟩ => h
  obtain ⟨s, c, f, rfl, hs, hc, hf⟩ := h
  refine ⟨key (fun cs x hx => ?_) hs, key (fun cs x hx => ?_) hc, key (fun cs x hx => ?_) hf⟩
  · obtain ⟨p, _, h1, h2⟩ := hx; exact ⟨nums h1, h2⟩
  · obtain ⟨p, q, _, h1, h2⟩ := hx; exact ⟨nums h1, nums h2⟩
  · obtain ⟨b, _, h1, h2⟩ := hx
    refine ⟨h1, key (fun cs x hx => ?_) h2⟩
    obtain ⟨p, o, es, _, h3, h4, l, m, _, r1, r2, r3, r4, h5, h6⟩ := hx
    refine ⟨nums h3, key (fun cs x hx => ?_) h4, r1, r2, r3, r4, nums h5, nums h6⟩
    obtain ⟨l, _, r1, r2, r3, r4, r5, _, h⟩ := hx
    exact ⟨r1, r2, r3, r4, r5, nums h⟩
theorem ProgQ.form {W : World} {s c f : Value} {P : ProgD} (h : ProgQ W [s, c, f] P) : ∃ sa sn sc ca cn cc fa fn fc, s = .slice sa sn sc ∧ c = .slice ca cn cc ∧ f = .slice fa fn fc := by
  obtain ⟨_, _, _, e, ⟨sa, sn, sc, rfl, _⟩, ⟨ca, cn, cc, rfl, _⟩, ⟨fa, fn, fc, rfl, _⟩⟩ := h
  simp only [List.cons.injEq, and_true] at e
  obtain ⟨rfl, rfl, rfl⟩ := e
  exact ⟨_, _, _, _, _, _, _, _, _, rfl, rfl, rfl⟩
/-- The bytes of a program are read as it, without what plays no part. -/
theorem in_out {P : ProgD} (hr : RngProg P) {l : List UInt8} (h : outBytes (encProg (plainProg P)) = .ok l) : inBytes l = .ok (plainProg P) [] ∧ l.length ≤ 65536 ∧ encProg (plainProg P) = .ok l := by
  have he : encProg (plainProg P) = .ok l ∧ l.length ≤ 65536 := by
    rcases out_or (encProg (plainProg P)) with ⟨m, hm⟩ | ⟨er, hm⟩
    · rw [hm] at h
      simp only [outBytes] at h
      split at h
      · cases h
      · cases h
        exact ⟨hm, by omega⟩
    · rw [hm] at h; cases h
  have ht := (takes_prog _ _ hr.plain he.1).1 []
  rw [List.append_nil, plainProg_twice] at ht
  refine ⟨?_, he.2, he.1⟩
  unfold inBytes
  rw [if_neg (by omega), ht]
  rfl
def liveBytes : List UInt8 := (match encProg liveProg with | .ok l => l | .no _ => [])
theorem live_out : outBytes (encProg (plainProg liveProg)) = .ok liveBytes := by kernel_rfl
theorem live_len : 6 < liveBytes.length := by decide +kernel
theorem live_vals : valuesOf liveFunc = 1 := by decide +kernel
theorem live_plain : plainProg liveProg = liveProg := by rfl
theorem live_sm : SmProg liveProg := by
  refine ⟨by decide, by decide, by decide, fun f hf => ?_⟩
  simp only [liveProg, List.mem_singleton] at hf
  subst hf
  refine ⟨by decide, fun b hb => ?_⟩
  simp only [liveFunc, List.mem_singleton] at hb
  subst hb
  show [liveOp].length ≤ 100000
  decide
/-- It lies in four blocks. -/
structure LiveAt (w W : World) : Prop where
  bel : Below w.heap.size w W
  size : W.heap.size = w.heap.size + 4
  prog : ProgQ W [.slice none 0 0, .slice none 0 0, .slice (some ⟨w.heap.size + 1 + 1, 0, none⟩) 1 1] liveProg
  func : FuncQ W [.int .i64 0, .slice (some ⟨w.heap.size + 1, 0, none⟩) 1 1] liveFunc
  b3 : W.heap[w.heap.size + 1 + 1 + 1]? = some (.cells #[.slice none 0 0, .slice none 0 0, .slice (some ⟨w.heap.size + 1 + 1, 0, none⟩) 1 1] 26 (0, 0))
  b2 : W.heap[w.heap.size + 1 + 1]? = some (.cells #[.int .i64 0, .slice (some ⟨w.heap.size + 1, 0, none⟩) 1 1] 44 (0, 0))
theorem live_laid (w : World) : LiveAt w ((((w.alloc (.cells #[.int .i64 0, .int .i64 0, .int .i64 0, .int .i64 0, .int .i64 7, .string ⟨#[]⟩, .slice none 0 0, .bool false] 56)).alloc (.cells #[.slice none 0 0, .slice (some ⟨w.heap.size, 0, none⟩) 1 1, .int .i64 2, .int .i64 0, .int .i64 0, .int .i64 0, .slice none 0 0, .slice none 0 0] 50)).alloc (.cells #[.int .i64 0, .slice (some ⟨w.heap.size + 1, 0, none⟩) 1 1] 44)).alloc (.cells #[.slice none 0 0, .slice none 0 0, .slice (some ⟨w.heap.size + 1 + 1, 0, none⟩) 1 1] 26)) := by
  have hbel : Below w.heap.size w ((((w.alloc (.cells #[.int .i64 0, .int .i64 0, .int .i64 0, .int .i64 0, .int .i64 7, .string ⟨#[]⟩, .slice none 0 0, .bool false] 56)).alloc (.cells #[.slice none 0 0, .slice (some ⟨w.heap.size, 0, none⟩) 1 1, .int .i64 2, .int .i64 0, .int .i64 0, .int .i64 0, .slice none 0 0, .slice none 0 0] 50)).alloc (.cells #[.int .i64 0, .slice (some ⟨w.heap.size + 1, 0, none⟩) 1 1] 44)).alloc (.cells #[.slice none 0 0, .slice none 0 0, .slice (some ⟨w.heap.size + 1 + 1, 0, none⟩) 1 1] 26)) := ((((Below.refl _ _).alloc (Nat.le_refl _) _).alloc (by simp) _).alloc (by simp <;> omega) _).alloc (by simp <;> omega) _
  have h3 : ((((w.alloc (.cells #[.int .i64 0, .int .i64 0, .int .i64 0, .int .i64 0, .int .i64 7, .string ⟨#[]⟩, .slice none 0 0, .bool false] 56)).alloc (.cells #[.slice none 0 0, .slice (some ⟨w.heap.size, 0, none⟩) 1 1, .int .i64 2, .int .i64 0, .int .i64 0, .int .i64 0, .slice none 0 0, .slice none 0 0] 50)).alloc (.cells #[.int .i64 0, .slice (some ⟨w.heap.size + 1, 0, none⟩) 1 1] 44)).alloc (.cells #[.slice none 0 0, .slice none 0 0, .slice (some ⟨w.heap.size + 1 + 1, 0, none⟩) 1 1] 26)).heap[w.heap.size + 1 + 1 + 1]? = some (.cells #[.slice none 0 0, .slice none 0 0, .slice (some ⟨w.heap.size + 1 + 1, 0, none⟩) 1 1] 26 (0, 0)) := by
    have := heap_alloc_new (((w.alloc (.cells #[.int .i64 0, .int .i64 0, .int .i64 0, .int .i64 0, .int .i64 7, .string ⟨#[]⟩, .slice none 0 0, .bool false] 56)).alloc (.cells #[.slice none 0 0, .slice (some ⟨w.heap.size, 0, none⟩) 1 1, .int .i64 2, .int .i64 0, .int .i64 0, .int .i64 0, .slice none 0 0, .slice none 0 0] 50)).alloc (.cells #[.int .i64 0, .slice (some ⟨w.heap.size + 1, 0, none⟩) 1 1] 44)) (.cells #[.slice none 0 0, .slice none 0 0, .slice (some ⟨w.heap.size + 1 + 1, 0, none⟩) 1 1] 26)
    simpa using this
  generalize hW : ((((w.alloc (.cells #[.int .i64 0, .int .i64 0, .int .i64 0, .int .i64 0, .int .i64 7, .string ⟨#[]⟩, .slice none 0 0, .bool false] 56)).alloc (.cells #[.slice none 0 0, .slice (some ⟨w.heap.size, 0, none⟩) 1 1, .int .i64 2, .int .i64 0, .int .i64 0, .int .i64 0, .slice none 0 0, .slice none 0 0] 50)).alloc (.cells #[.int .i64 0, .slice (some ⟨w.heap.size + 1, 0, none⟩) 1 1] 44)).alloc (.cells #[.slice none 0 0, .slice none 0 0, .slice (some ⟨w.heap.size + 1 + 1, 0, none⟩) 1 1] 26)) = W at hbel h3 ⊢
  have hs : W.heap.size = w.heap.size + 4 := by rw [← hW]; simp
  have h0 : W.heap[w.heap.size]? = some (.cells #[.int .i64 0, .int .i64 0, .int .i64 0, .int .i64 0, .int .i64 7, .string ⟨#[]⟩, .slice none 0 0, .bool false] 56 (0, 0)) := by
    rw [← hW]
    exact (heap_alloc_old _ _ (by simp <;> omega)).trans ((heap_alloc_old _ _ (by simp <;> omega)).trans ((heap_alloc_old _ _ (by simp)).trans (heap_alloc_new w _)))
  have h1 : W.heap[w.heap.size + 1]? = some (.cells #[.slice none 0 0, .slice (some ⟨w.heap.size, 0, none⟩) 1 1, .int .i64 2, .int .i64 0, .int .i64 0, .int .i64 0, .slice none 0 0, .slice none 0 0] 50 (0, 0)) := by
    rw [← hW]
    exact (heap_alloc_old _ _ (by simp <;> omega)).trans ((heap_alloc_old _ _ (by simp)).trans (by
      have := heap_alloc_new (w.alloc (.cells #[.int .i64 0, .int .i64 0, .int .i64 0, .int .i64 0, .int .i64 7, .string ⟨#[]⟩, .slice none 0 0, .bool false] 56)) (.cells #[.slice none 0 0, .slice (some ⟨w.heap.size, 0, none⟩) 1 1, .int .i64 2, .int .i64 0, .int .i64 0, .int .i64 0, .slice none 0 0, .slice none 0 0] 50)
      simpa using this))
  have h2 : W.heap[w.heap.size + 1 + 1]? = some (.cells #[.int .i64 0, .slice (some ⟨w.heap.size + 1, 0, none⟩) 1 1] 44 (0, 0)) := by
    rw [← hW]
    exact (heap_alloc_old _ _ (by simp)).trans (by
      have := heap_alloc_new ((w.alloc (.cells #[.int .i64 0, .int .i64 0, .int .i64 0, .int .i64 0, .int .i64 7, .string ⟨#[]⟩, .slice none 0 0, .bool false] 56)).alloc (.cells #[.slice none 0 0, .slice (some ⟨w.heap.size, 0, none⟩) 1 1, .int .i64 2, .int .i64 0, .int .i64 0, .int .i64 0, .slice none 0 0, .slice none 0 0] 50)) (.cells #[.int .i64 0, .slice (some ⟨w.heap.size + 1, 0, none⟩) 1 1] 44)
      simpa using this)
  clear hW
  have nil : ∀ (v : Value), v = .slice none 0 0 → NumsV W v [] := fun v hv => ⟨none, 0, 0, hv, NumsAt.nil _ _, fun _ => rfl, by decide, fun z hz => (by cases hz)⟩
  have one : ∀ {α : Type} {Q : World → List Value → α → Prop} {k b : Nat} {T : TypeId} {cur : Array Value} {x : α}, W.heap[b]? = some (.cells cur T (0, 0)) → cur.size = k → Q W cur.toList x → RowV Q k W (.slice (some ⟨b, 0, none⟩) 1 1) [x] := by
    intro α Q k b T cur x hb hk hq
    refine ⟨_, 1, 1, rfl, rfl, fun h => (by cases h), by decide, fun _ => ⟨b, 0, rfl, (Array.getElem?_eq_some_iff.1 hb).1, fun i hi => ?_⟩⟩
    have hi0 : i = 0 := by simpa using hi
    subst hi0
    refine ⟨cur.toList, by simpa using hk, fun j hj => ?_, hq⟩
    simp only [World.cell?, hb, Nat.zero_mul, Nat.zero_add]
    simp at hj ⊢
  have z0 : InR 0 := ⟨by decide, by decide⟩
  have hf : FuncQ W [.int .i64 0, .slice (some ⟨w.heap.size + 1, 0, none⟩) 1 1] liveFunc := by
    refine ⟨_, rfl, z0, one h1 rfl ?_⟩
    refine ⟨_, _, _, rfl, nil _ rfl, one h0 rfl ?_, _, _, rfl, ⟨by decide, by decide⟩, z0, z0, z0, nil _ rfl, nil _ rfl⟩
    exact ⟨_, rfl, z0, z0, z0, z0, ⟨by decide, by decide⟩, Nat.zero_le _, nil _ rfl⟩
  exact ⟨hbel, hs, ⟨_, _, _, rfl, ⟨none, 0, 0, rfl, rfl, fun _ => rfl, by decide, fun h => absurd h (by omega)⟩, ⟨none, 0, 0, rfl, rfl, fun _ => rfl, by decide, fun h => absurd h (by omega)⟩, one h2 rfl hf⟩, hf, h3, h2⟩
theorem DecPost.yes {p : PR ProgD} {P : ProgD} {w : World} {e : Ending} {w' : World} (h : DecPost p w e w') (hp : p = .ok P []) :
    ∃ g sa sn sc ca cn cc fa fn fc, e = .returned (.tuple #[.pointer (some ⟨g, 0, none⟩), .int .i64 0]) ∧ w.heap.size ≤ g ∧ WinAt w' g 0 [.slice sa sn sc, .slice ca cn cc, .slice fa fn fc] ∧ ProgQ w' [.slice sa sn sc, .slice ca cn cc, .slice fa fn fc] P ∧ Below w.heap.size w w' := by
  rcases h with ⟨P', g, s, c, f, h1, h2, h3, h4, h5, h6⟩ | ⟨er, h1, _⟩
  · rw [hp] at h1
    cases h1
    have hq := ProgO.reads _ _ _ _ h5
    obtain ⟨sa, sn, sc, ca, cn, cc, fa, fn, fc, rfl, rfl, rfl⟩ := hq.form
    exact ⟨g, sa, sn, sc, ca, cn, cc, fa, fn, fc, h2, h3, h4, hq, h6⟩
  · rw [hp] at h1; cases h1
theorem EncPost.yes {o : Out} {l : List UInt8} {w : World} {e : Ending} {w' : World} (h : EncPost o w e w') (ho : o = .ok l) :
    ∃ va vn vc, e = .returned (.tuple #[.slice va vn vc, .int .i64 0]) ∧ OwnsB w' w.heap.size 5 (.slice va vn vc) l ∧ Below w.heap.size w w' := by
  rcases h with ⟨l', va, vn, vc, h1, h2, h3, h4⟩ | ⟨er, h1, _⟩
  · rw [ho] at h1; cases h1; exact ⟨va, vn, vc, h2, h3, h4⟩
  · rw [ho] at h1; cases h1

set_option maxRecDepth 100000 in
set_option maxHeartbeats 4000000 in
theorem lives5 (w : World) (hft : FT w) : Calls Tryd.prog 14 #[] w fun e w' => e = .returned (.bool true) ∧ Below w.heap.size w w' := by
  have HA := Lib.hid (live_laid w)
  have HFT := Lib.hid hft
  clear hft
  go_enter Tryd.func14, Tryd.ntmps14
  go_wp2_with fail
  generalize hW : ((((w.alloc (.cells #[.int .i64 0, .int .i64 0, .int .i64 0, .int .i64 0, .int .i64 7, .string ⟨#[]⟩, .slice none 0 0, .bool false] 56)).alloc (.cells #[.slice none 0 0, .slice (some ⟨w.heap.size, 0, none⟩) 1 1, .int .i64 2, .int .i64 0, .int .i64 0, .int .i64 0, .slice none 0 0, .slice none 0 0] 50)).alloc (.cells #[.int .i64 0, .slice (some ⟨w.heap.size + 1, 0, none⟩) 1 1] 44)).alloc (.cells #[.slice none 0 0, .slice none 0 0, .slice (some ⟨w.heap.size + 1 + 1, 0, none⟩) 1 1] 26)) = W at HA ⊢
  clear hW
  have hsz := HA.out.size
  have hc : ∀ j, W.cell? ⟨w.heap.size + 1 + 1 + 1, j, none⟩ = (#[.slice none 0 0, .slice none 0 0, .slice (some ⟨w.heap.size + 1 + 1, 0, none⟩) 1 1] : Array Value)[j]? := fun j => by simp [World.cell?, HA.out.b3]
  have HF1 := Lib.hid (HFT.out.below HA.out.bel HFT.out.lt)
  refine (encode_any (w.heap.size + 1 + 1 + 1) 0 (.slice none 0 0) (.slice none 0 0) (.slice (some ⟨w.heap.size + 1 + 1, 0, none⟩) 1 1) liveProg W (by omega) (hc 0) (hc 1) (hc 2) HA.out.prog HF1.out live_sm).mono ?_
  intro e w1 he
  obtain ⟨va, vn, vc, rfl, hown, hb1⟩ := he.yes live_out
  obtain ⟨va', vn', vc', he2, hat⟩ := hown.at
  cases he2
  have hlen : liveBytes.length = vn := hat.1
  have hio := in_out HA.out.prog.rng live_out
  have HB1 := Lib.hid (keepB HA.out.bel hb1)
  have HBW := Lib.hid hb1
  have HAT := Lib.hid hat
  have hv6 : 6 < vn := by rw [← hlen]; exact live_len
  have hv7 : vn ≤ 65536 := by rw [← hlen]; exact hio.2.1
  have HIN := Lib.hid hio.1
  have HAD : RowKit.Hid (∀ ad, va = some ad → ad.block < w1.heap.size) := Lib.hid fun ad h => by
    obtain ⟨g, off, e, hg⟩ := hat.2.2.2.2.1 (by omega)
    rw [e] at h
    cases h
    exact hg
  have HF2 := Lib.hid (HF1.out.since hb1)
  clear hown hat hb1 hio hlen he
  go_wp2_with fail
  refine (decode_any va vn vc liveBytes w1 HAT.out HAD.out (by omega) HF2.out).mono ?_
  intro e w2 he
  obtain ⟨g, sa, sn, sc, ca, cn, cc, fa, fn, fc, rfl, hg, hwin, hprog, hb2⟩ := he.yes HIN.out
  have HB2 := Lib.hid (keepB HB1.out hb2)
  have HBX := Lib.hid (keepB HBW.out hb2)
  have HWIN := Lib.hid hwin
  have HPR := Lib.hid hprog
  clear he hwin hprog hb2
  go_wp2_with fail
  refine (encode_nil w2).mono ?_
  rintro e w3 ⟨rfl, rfl⟩
  have hlt3 : w.heap.size + 1 + 1 + 1 < W.heap.size := by omega
  have hlt2 : w.heap.size + 1 + 1 < W.heap.size := by omega
  have HC0 : RowKit.Hid (w2.cell? ⟨w.heap.size + 1 + 1 + 1, 0, none⟩ = some (.slice none 0 0)) := Lib.hid ((HBX.out.cell (p := ⟨w.heap.size + 1 + 1 + 1, 0, none⟩) hlt3).trans (hc 0))
  have HC1 : RowKit.Hid (w2.cell? ⟨w.heap.size + 1 + 1 + 1, 1, none⟩ = some (.slice none 0 0)) := Lib.hid ((HBX.out.cell (p := ⟨w.heap.size + 1 + 1 + 1, 1, none⟩) hlt3).trans (hc 1))
  have HC2 : RowKit.Hid (w2.cell? ⟨w.heap.size + 1 + 1 + 1, 2, none⟩ = some (.slice (some ⟨w.heap.size + 1 + 1, 0, none⟩) 1 1)) := Lib.hid ((HBX.out.cell (p := ⟨w.heap.size + 1 + 1 + 1, 2, none⟩) hlt3).trans (hc 2))
  have HG : RowKit.Hid (w.heap.size + 1 + 1 + 1 < w2.heap.size) := Lib.hid (Nat.lt_of_lt_of_le hlt3 HBX.out.size)
  have HPL := Lib.hid (ProgQ.lasts _ _ _ _ HBX.out HA.out.prog)
  have HD0 := Lib.hid (HWIN.out.cell (j := 0) (by simp))
  have HD1 := Lib.hid (HWIN.out.cell (j := 1) (by simp))
  have HD2 := Lib.hid (HWIN.out.cell (j := 2) (by simp))
  have HGL := Lib.hid HWIN.out.lt
  have HSM := Lib.hid (ref_same (w.heap.size + 1 + 1 + 1) 0 g 0 none none (some ⟨w.heap.size + 1 + 1, 0, none⟩) sa ca fa 0 0 0 0 1 1 sn sc cn cc fn fc liveProg (plainProg liveProg) w2 HG.out HGL.out HC0.out HC1.out HC2.out HD0.out HD1.out HD2.out HPL.out HPR.out)
  have HFQ : RowKit.Hid (∀ {u : World}, Below W.heap.size W u → u.cell? ⟨w.heap.size + 1 + 1, 0, none⟩ = some (.int .i64 0) ∧ u.cell? ⟨w.heap.size + 1 + 1, 1, none⟩ = some (.slice (some ⟨w.heap.size + 1, 0, none⟩) 1 1) ∧ u.cell? ⟨w.heap.size + 1 + 1 + 1, 2, none⟩ = some (.slice (some ⟨w.heap.size + 1 + 1, 0, none⟩) 1 1)) := Lib.hid fun hb => by
    refine ⟨(hb.cell (p := ⟨w.heap.size + 1 + 1, 0, none⟩) hlt2).trans ?_, (hb.cell (p := ⟨w.heap.size + 1 + 1, 1, none⟩) hlt2).trans ?_, (hb.cell (p := ⟨w.heap.size + 1 + 1 + 1, 2, none⟩) hlt3).trans (hc 2)⟩
    · simp [World.cell?, HA.out.b2]
    · simp [World.cell?, HA.out.b2]
  have HLV := Lib.hid live_vals
  clear hc hsz hlt3 hlt2 hg hv7
  go_wp2_with (first
    | (go_at_call 22; (with_reducible refine (copy_none _).mono ?_); rintro e u ⟨rfl, rfl⟩)
    | (go_at_call 20; (with_reducible refine HSM.out.mono ?_); rintro e w4 ⟨b, rfl, hbe, hb4⟩; obtain rfl : b = true := hbe.2 (plainProg_twice _).symm; have hbw := keepB HBX.out hb4; obtain ⟨hx0, hx1, hx2⟩ := HFQ.out hbw; have HB4 := Lib.hid (keepB HB2.out hb4); have HFN := Lib.hid (FuncQ.lasts _ _ _ _ hbw HA.out.func); clear hb4 hbw hbe)
    | (go_at_call 23; (with_reducible refine (code_values 0 (some ⟨w.heap.size + 1, 0, none⟩) 1 1 liveFunc _ HFN.out).mono ?_); rintro e w5 ⟨rfl, hb5⟩; rw [HLV.out]; have HB5 := Lib.hid (keepB HB4.out hb5); clear hb5))
  go_ret
  exact ⟨rfl, HB5.out⟩
end Go.Proofs.YtdmlogpaenbblaaDoor

/- Layer 5: the document's Small: a program that it calls small has no list that is too long for a copy. -/
namespace Go.Proofs.YtdmlogpaenbblaaDoor
open Go.RowKit (wrap64 intOf Below)
set_option linter.unusedVariables false
set_option linter.unusedSimpArgs false

def SmallPost (P : ProgD) (w : World) (e : Ending) (w' : World) : Prop := ∃ b : Bool, e = .returned (.bool b) ∧ (b = true → SmProg P) ∧ Below w.heap.size w w'
theorem all_take {α : Type} {R : α → Prop} {xs : List α} {i : Nat} (h : i < xs.length) (h1 : ∀ x ∈ xs.take i, R x) (h2 : R xs[i]) : ∀ x ∈ xs.take (i + 1), R x := by
  intro x hx
  rw [List.take_succ_eq_append_getElem h] at hx
  rcases List.mem_append.1 hx with h' | h'
  · exact h1 x h'
  · simp only [List.mem_singleton] at h'; subst h'; exact h2
set_option maxRecDepth 100000 in
set_option maxHeartbeats 8000000 in
theorem ref_small (g off : Nat) (sa : Option Addr) (sn sc : Nat) (ca : Option Addr) (cn cc : Nat) (fa : Option Addr) (fn fc : Nat) (P : ProgD) (w : World) (hg : g < w.heap.size)
    (hc0 : w.cell? ⟨g, off, none⟩ = some (.slice sa sn sc)) (hc1 : w.cell? ⟨g, off + 1, none⟩ = some (.slice ca cn cc)) (hc2 : w.cell? ⟨g, off + 2, none⟩ = some (.slice fa fn fc))
    (hP : ProgQ w [.slice sa sn sc, .slice ca cn cc, .slice fa fn fc] P) :
    Calls Tryd.prog 13 #[.pointer (some ⟨g, off, none⟩), .int .i64 4000] w (SmallPost P w) := by
  obtain ⟨_, _, _, he, hS, hC, hF⟩ := hP
  simp only [List.cons.injEq, and_true] at he
  obtain ⟨rfl, rfl, rfl⟩ := he
  obtain ⟨hsl, hsm⟩ := rowV_len' hS
  obtain ⟨hcl, hcm⟩ := rowV_len' hC
  obtain ⟨hfl, hfm⟩ := rowV_len' hF
  have HS := Lib.hid hS
  have HC := Lib.hid hC
  have HF := Lib.hid hF
  have HSL := Lib.hid hsl
  have HCL := Lib.hid hcl
  have HFL := Lib.hid hfl
  clear hS hC hF hsl hcl hfl
  go_enter Tryd.func13, Tryd.ntmps13
  go_wp2_with fail
  go_quiet (fail)
  go_wp2_with fail
  go_loopw [5, 6] (fun nv iv wr => ∃ n i : Nat, i ≤ sn ∧ sn + cn + fn ≤ n ∧ n ≤ 1000000000000000 ∧ nv = .int .i64 (n : Int) ∧ iv = .int .i64 (i : Int) ∧ ∃ q, wr = w.drewN q) (fun _ iv _ => sn - (intOf iv).toNat)
  case atStart => exact ⟨sn + cn + fn, 0, Nat.zero_le _, Nat.le_refl _, by omega, by go_num, rfl, _, rfl⟩
  case round =>
    obtain ⟨n, i, hi, hn0, hn1, rfl, rfl, q, rfl⟩ := hrel
    by_cases hlt : i < sn
    · by_cases hn4 : n ≤ 4000
      · have hn4' : (n : Int) ≤ 4000 := by omega
        obtain ⟨g1, o1, rfl, hg1, hcs1⟩ := rowV_at HS.out (by omega)
        have hi1 : i < P.sigs.length := by rw [HSL.out]; exact hlt
        obtain ⟨cs1, hc21, hcell1, hq1⟩ := hcs1 i hi1
        obtain ⟨v1, rfl, ⟨pa, pn, pc, rfl, hpat, _, hpm, _⟩, _⟩ := hq1
        have hd0 := hcell1 0 (by simp)
        simp only [Nat.add_zero, List.getElem_cons_zero] at hd0
        clear hcell1 hcs1 hpat
        go_wp2_with fail
        go_roundw
        case rel => exact ⟨n + pn, i + 1, by omega, by omega, by omega, by go_num, by go_num, _, rfl⟩
        case measure => simp [intOf]; omega
      · have hn4' : ¬ (n : Int) ≤ 4000 := by omega
        go_wp2_with fail
        go_loopw [5, 7] (fun nv iv wr => nv = .int .i64 (n : Int) ∧ iv = .int .i64 0 ∧ ∃ q, wr = w.drewN q) (fun _ _ _ => 0)
        case atStart => exact ⟨rfl, rfl, _, rfl⟩
        case round =>
          obtain ⟨rfl, rfl, q, rfl⟩ := hrel
          by_cases hlt2 : 0 < cn
          · go_wp2_with fail
            go_loopw [5, 8] (fun nv iv wr => nv = .int .i64 (n : Int) ∧ iv = .int .i64 0 ∧ ∃ q, wr = w.drewN q) (fun _ _ _ => 0)
            case atStart => exact ⟨rfl, rfl, _, rfl⟩
            case round =>
              obtain ⟨rfl, rfl, q, rfl⟩ := hrel
              by_cases hlt3 : 0 < fn
              · go_wp2_with fail
                go_ret
                exact ⟨_, rfl, fun h => absurd h (by first | (simp; done) | (simp; omega)), below_drewN _ (Below.refl _ _)⟩
              · obtain rfl : fn = 0 := by omega
                go_wp2_with fail
                go_ret
                exact ⟨_, rfl, fun h => absurd h (by first | (simp; done) | (simp; omega)), below_drewN _ (Below.refl _ _)⟩
          · obtain rfl : cn = 0 := by omega
            go_wp2_with fail
            go_loopw [5, 8] (fun nv iv wr => nv = .int .i64 (n : Int) ∧ iv = .int .i64 0 ∧ ∃ q, wr = w.drewN q) (fun _ _ _ => 0)
            case atStart => exact ⟨rfl, rfl, _, rfl⟩
            case round =>
              obtain ⟨rfl, rfl, q, rfl⟩ := hrel
              by_cases hlt3 : 0 < fn
              · go_wp2_with fail
                go_ret
                exact ⟨_, rfl, fun h => absurd h (by first | (simp; done) | (simp; omega)), below_drewN _ (Below.refl _ _)⟩
              · obtain rfl : fn = 0 := by omega
                go_wp2_with fail
                go_ret
                exact ⟨_, rfl, fun h => absurd h (by first | (simp; done) | (simp; omega)), below_drewN _ (Below.refl _ _)⟩
    · go_wp2_with fail
      go_loopw [5, 7] (fun nv iv wr => ∃ n i : Nat, i ≤ cn ∧ sn + cn + fn ≤ n ∧ n ≤ 1000000000000000 ∧ nv = .int .i64 (n : Int) ∧ iv = .int .i64 (i : Int) ∧ ∃ q, wr = w.drewN q) (fun _ iv _ => cn - (intOf iv).toNat)
      case atStart => exact ⟨n, 0, Nat.zero_le _, by omega, by omega, rfl, rfl, _, rfl⟩
      case round =>
        clear hi hn0 hn1
        obtain ⟨n, i, hi, hn0, hn1, rfl, rfl, q, rfl⟩ := hrel
        by_cases hlt : i < cn
        · by_cases hn4 : n ≤ 4000
          · have hn4' : (n : Int) ≤ 4000 := by omega
            obtain ⟨g1, o1, rfl, hg1, hcs1⟩ := rowV_at HC.out (by omega)
            have hi1 : i < P.classes.length := by rw [HCL.out]; exact hlt
            obtain ⟨cs1, hc21, hcell1, hq1⟩ := hcs1 i hi1
            obtain ⟨v1, v2, rfl, ⟨pa, pn, pc, rfl, hpat, _, hpm, _⟩, ⟨ma, mn, mc, rfl, hmat, _, hmm, _⟩⟩ := hq1
            have hd0 := hcell1 0 (by simp)
            have hd1 := hcell1 1 (by simp)
            simp only [Nat.add_zero, List.getElem_cons_zero, List.getElem_cons_succ] at hd0 hd1
            clear hcell1 hcs1 hpat hmat
            go_wp2_with fail
            go_quiet (fail)
            go_wp2_with fail
            go_roundw
            case rel => exact ⟨n + pn + mn, i + 1, by omega, by omega, by omega, by go_num, by go_num, _, rfl⟩
            case measure => simp [intOf]; omega
          · have hn4' : ¬ (n : Int) ≤ 4000 := by omega
            go_wp2_with fail
            go_loopw [5, 8] (fun nv iv wr => nv = .int .i64 (n : Int) ∧ iv = .int .i64 0 ∧ ∃ q, wr = w.drewN q) (fun _ _ _ => 0)
            case atStart => exact ⟨rfl, rfl, _, rfl⟩
            case round =>
              obtain ⟨rfl, rfl, q, rfl⟩ := hrel
              by_cases hlt3 : 0 < fn
              · go_wp2_with fail
                go_ret
                exact ⟨_, rfl, fun h => absurd h (by first | (simp; done) | (simp; omega)), below_drewN _ (Below.refl _ _)⟩
              · obtain rfl : fn = 0 := by omega
                go_wp2_with fail
                go_ret
                exact ⟨_, rfl, fun h => absurd h (by first | (simp; done) | (simp; omega)), below_drewN _ (Below.refl _ _)⟩
        · go_wp2_with fail
          go_loopw [5, 8] (fun nv iv wr => ∃ n i : Nat, i ≤ fn ∧ sn + cn + fn ≤ n ∧ n ≤ 1000000000000000 ∧ nv = .int .i64 (n : Int) ∧ iv = .int .i64 (i : Int) ∧ RowKit.Hid ((n ≤ 4000 → ∀ f ∈ P.funcs.take i, SmFunc f) ∧ Below w.heap.size w wr)) (fun _ iv _ => fn - (intOf iv).toNat)
          case atStart => exact ⟨n, 0, Nat.zero_le _, by omega, by omega, rfl, rfl, Lib.hid ⟨fun _ x hx => by simp at hx, below_drewN _ (Below.refl _ _)⟩⟩
          case round =>
            clear hi hn0 hn1
            obtain ⟨n, i, hi, hn0, hn1, rfl, rfl, HI⟩ := hrel
            have hb0 := (HI.out.2.cell (p := ⟨g, off, none⟩) hg).trans hc0
            have hb1 := (HI.out.2.cell (p := ⟨g, off + 1, none⟩) hg).trans hc1
            have hb2 := (HI.out.2.cell (p := ⟨g, off + 2, none⟩) hg).trans hc2
            by_cases hlt : i < fn
            · by_cases hn4 : n ≤ 4000
              · have hn4' : (n : Int) ≤ 4000 := by omega
                obtain ⟨g1, o1, rfl, hg1, hcs1⟩ := rowV_at (HF.out.since FuncQ.lasts HI.out.2) (by omega)
                have hi1 : i < P.funcs.length := by rw [HFL.out]; exact hlt
                obtain ⟨cs1, hc21, hcell1, hq1⟩ := hcs1 i hi1
                obtain ⟨X, hX⟩ : ∃ X, X = P.funcs[i] := ⟨_, rfl⟩
                rw [← hX] at hq1
                obtain ⟨v1, rfl, _, hrow⟩ := hq1
                obtain ⟨ba, bn, bc, rfl, hbl, _⟩ := id hrow
                have hbm := (rowV_len' hrow).2
                have hd1 := hcell1 1 (by simp)
                simp only [List.getElem_cons_zero, List.getElem_cons_succ] at hd1
                have HR := Lib.hid hrow
                have HX := Lib.hid hX
                have HBL := Lib.hid hbl
                clear hcell1 hcs1 hrow hX hbl hc21
                go_wp2_with fail
                obtain ⟨w3, rfl⟩ : ∃ u, u = wr := ⟨wr, rfl⟩
                go_loopw [5, 9] (fun nv kv wk => ∃ n2 k : Nat, k ≤ bn ∧ n + bn ≤ n2 ∧ n2 ≤ 1000000000000000 ∧ nv = .int .i64 (n2 : Int) ∧ kv = .int .i64 (k : Int) ∧ RowKit.Hid ((n2 ≤ 4000 → ∀ b ∈ X.blocks.take k, SmBlock b) ∧ Below w3.heap.size w3 wk)) (fun _ kv _ => bn - (intOf kv).toNat)
                case atStart => exact ⟨n + bn, 0, Nat.zero_le _, Nat.le_refl _, by omega, by go_num, rfl, Lib.hid ⟨fun _ x hx => by simp at hx, Below.refl _ _⟩⟩
                case round =>
                  obtain ⟨n2, k, hk, hk0, hk9, rfl, rfl, HK⟩ := hrel
                  have hw0 : g < w3.heap.size := Nat.lt_of_lt_of_le hg HI.out.2.size
                  have hf2 := (HK.out.2.cell (p := ⟨g, off + 2, none⟩) hw0).trans hb2
                  have hfd := (HK.out.2.cell (p := ⟨g1, o1 + i * 2 + 1, none⟩) hg1).trans hd1
                  by_cases hlk : k < bn
                  · by_cases hn5 : n2 ≤ 4000
                    · have hn5' : (n2 : Int) ≤ 4000 := by omega
                      obtain ⟨g2, o2, rfl, hg2, hcs2⟩ := rowV_at (HR.out.since BlockQ.lasts HK.out.2) (by omega)
                      have hk1 : k < X.blocks.length := by rw [HBL.out]; exact hlk
                      obtain ⟨cs2, hc82, hcell2, hbq2⟩ := hcs2 k hk1
                      obtain ⟨Y, hY⟩ : ∃ Y, Y = X.blocks[k] := ⟨_, rfl⟩
                      rw [← hY] at hbq2
                      obtain ⟨pa, pn, pc, oa, on, oc, la, ln, lc, ma, mn, mc, rfl, hon⟩ := hbq2.form
                      have hpm := hbq2.params.2
                      have hom := (rowV_len' hbq2.ops).2
                      have hlm : ln ≤ 140737488351232 := by obtain ⟨_, _, e, _, _, _, _, ⟨_, _, _, rfl, _, _, h, _⟩, _⟩ := hbq2.fin; simp only [List.cons.injEq, Value.slice.injEq] at e; omega
                      have hmm : mn ≤ 140737488351232 := by obtain ⟨_, _, e, _, _, _, _, _, ⟨_, _, _, rfl, _, _, h, _⟩⟩ := hbq2.fin; simp only [List.cons.injEq, Value.slice.injEq] at e; omega
                      have hd10 := hcell2 0 (by simp)
                      have hd11 := hcell2 1 (by simp)
                      have hd12 := hcell2 2 (by simp)
                      have hd13 := hcell2 3 (by simp)
                      have hd14 := hcell2 4 (by simp)
                      have hd15 := hcell2 5 (by simp)
                      have hd16 := hcell2 6 (by simp)
                      have hd17 := hcell2 7 (by simp)
                      simp only [Nat.add_zero, List.getElem_cons_zero, List.getElem_cons_succ] at hd10 hd11 hd12 hd13 hd14 hd15 hd16 hd17
                      have HOY := Lib.hid hbq2.ops
                      have HYL := Lib.hid hon
                      have HY := Lib.hid hY
                      clear hcell2 hcs2 hbq2 hY hon hc82
                      go_wp2_with fail
                      have hal : Below wr.heap.size wr (wr.alloc (.cells #[.slice pa pn pc, .slice oa on oc, .int .i64 Y.fin.K, .int .i64 Y.fin.A, .int .i64 Y.fin.To, .int .i64 Y.fin.Else, .slice la ln lc, .slice ma mn mc] 50)) := (Below.refl _ _).alloc (Nat.le_refl _) _
                      have hblk := heap_alloc_new wr (.cells #[.slice pa pn pc, .slice oa on oc, .int .i64 Y.fin.K, .int .i64 Y.fin.A, .int .i64 Y.fin.To, .int .i64 Y.fin.Else, .slice la ln lc, .slice ma mn mc] 50)
                      obtain ⟨w4, rfl⟩ : ∃ u, u = wr := ⟨wr, rfl⟩
                      generalize (w4.alloc (.cells #[.slice pa pn pc, .slice oa on oc, .int .i64 Y.fin.K, .int .i64 Y.fin.A, .int .i64 Y.fin.To, .int .i64 Y.fin.Else, .slice la ln lc, .slice ma mn mc] 50)) = wy at hal hblk ⊢
                      have hby1 : wy.cell? ⟨w4.heap.size, 1, none⟩ = some (.slice oa on oc) := by simp [World.cell?, hblk]
                      have hby : w4.heap.size < wy.heap.size := (Array.getElem?_eq_some_iff.1 hblk).1
                      have HBY := Lib.hid hal
                      clear hal hblk hd10 hd11 hd12 hd13 hd14 hd15 hd16 hd17
                      go_loopw [5, 11] (fun nv jv wj => ∃ n3 j : Nat, j ≤ on ∧ n2 + pn + on + ln + mn ≤ n3 ∧ n3 ≤ 1000000000000000 ∧ nv = .int .i64 (n3 : Int) ∧ jv = .int .i64 (j : Int) ∧ RowKit.Hid (Below wy.heap.size wy wj)) (fun _ jv _ => on - (intOf jv).toNat)
                      case atStart => exact ⟨n2 + pn + on + ln + mn, 0, Nat.zero_le _, Nat.le_refl _, by omega, by go_num, rfl, Lib.hid (Below.refl _ _)⟩
                      case round =>
                        obtain ⟨n3, j, hj, hj0, hj1, rfl, rfl, HJ⟩ := hrel
                        have hy1 := (HJ.out.cell (p := ⟨w4.heap.size, 1, none⟩) hby).trans hby1
                        by_cases hlj : j < on
                        · by_cases hn6 : n3 ≤ 4000
                          · have hn6' : (n3 : Int) ≤ 4000 := by omega
                            obtain ⟨g3, o3, rfl, hg3, hcs3⟩ := rowV_at ((HOY.out.since OpQ.lasts HBY.out).since OpQ.lasts HJ.out) (by omega)
                            have hj9 : j < Y.ops.length := by rw [HYL.out]; exact hlj
                            obtain ⟨cs3, hc83, hcell3, hoq3⟩ := hcs3 j hj9
                            obtain ⟨O, hO⟩ : ∃ O, O = Y.ops[j] := ⟨_, rfl⟩
                            rw [← hO] at hoq3
                            obtain ⟨l3, rfl, _, _, _, _, _, hos, ⟨la3, ln3, lc3, rfl, hlat, _, hlm, _⟩⟩ := hoq3
                            have hm5 := hcell3 5 (by simp)
                            have hm6 := hcell3 6 (by simp)
                            simp only [List.getElem_cons_zero, List.getElem_cons_succ] at hm5 hm6
                            have hq8 : ((O.S.size : Nat) : Int).tdiv 8 = ((O.S.size / 8 : Nat) : Int) := rfl
                            have hs8 : O.S.size / 8 ≤ 140737488351232 := by omega
                            clear hcell3 hcs3 hlat hO hc83
                            go_wp2_with fail
                            go_quiet (fail)
                            go_wp2_with fail
                            go_roundw
                            case rel => exact ⟨n3 + ln3 + O.S.size / 8, j + 1, by omega, by omega, by omega, by go_num, by go_num, Lib.hid (below_drewN _ HJ.out)⟩
                            case measure => simp [intOf]; omega
                          · have hn6' : ¬ (n3 : Int) ≤ 4000 := by omega
                            go_wp2_with fail
                            go_roundw
                            case rel => exact ⟨n3, k + 1, by omega, by omega, by omega, rfl, by go_num, Lib.hid ⟨fun h4 => all_take hk1 (HK.out.1 (by omega)) (by have h6 := HYL.out; have h5 : SmBlock Y := (by unfold SmBlock; omega); exact HY.out ▸ h5), keepB HK.out.2 (keepB HBY.out HJ.out)⟩⟩
                            case measure => simp [intOf]; omega
                        · obtain rfl : j = on := by omega
                          go_wp2_with fail
                          go_roundw
                          case rel => exact ⟨n3, k + 1, by omega, by omega, by omega, rfl, by go_num, Lib.hid ⟨fun h4 => all_take hk1 (HK.out.1 (by omega)) (by have h6 := HYL.out; have h5 : SmBlock Y := (by unfold SmBlock; omega); exact HY.out ▸ h5), keepB HK.out.2 (keepB HBY.out HJ.out)⟩⟩
                          case measure => simp [intOf]; omega
                    · have hn5' : ¬ (n2 : Int) ≤ 4000 := by omega
                      go_wp2_with fail
                      go_roundw
                      case rel => exact ⟨n2, i + 1, by omega, by omega, by omega, rfl, by go_num, Lib.hid ⟨fun h4 => all_take hi1 (HI.out.1 (by omega)) (by exact absurd h4 hn5), keepB HI.out.2 HK.out.2⟩⟩
                      case measure => simp [intOf]; omega
                  · obtain rfl : k = bn := by omega
                    go_wp2_with fail
                    go_roundw
                    case rel => exact ⟨n2, i + 1, by omega, by omega, by omega, rfl, by go_num, Lib.hid ⟨fun h4 => all_take hi1 (HI.out.1 (by omega)) (by have h5 : SmFunc X := ⟨by have := HBL.out; omega, fun b hb => HK.out.1 h4 b (by rw [List.take_of_length_le (by have := HBL.out; omega)]; exact hb)⟩; exact HX.out ▸ h5), keepB HI.out.2 HK.out.2⟩⟩
                    case measure => simp [intOf]; omega
              · have hn4' : ¬ (n : Int) ≤ 4000 := by omega
                go_wp2_with fail
                go_ret
                exact ⟨_, rfl, fun h => absurd h (by first | (simp; done) | (simp; omega)), HI.out.2⟩
            · obtain rfl : i = fn := by omega
              go_wp2_with fail
              go_ret
              refine ⟨_, rfl, fun h => ?_, HI.out.2⟩
              have h4 : n ≤ 4000 := by simp at h; omega
              exact ⟨by have := HSL.out; omega, by have := HCL.out; omega, by have := HFL.out; omega, fun f hf => HI.out.1 h4 f (by rw [List.take_of_length_le (by rw [HFL.out]; exact Nat.le_refl _)]; exact hf)⟩
end Go.Proofs.YtdmlogpaenbblaaDoor

/- Layer 5, plain: what a program's bytes are as an answer: no error is 0, there is a byte, of a beginning and with a byte more they are none (P5.5). -/
namespace Go.Proofs.YtdmlogpaenbblaaDoor
open Go.RowKit (wrap64 intOf Below)
set_option linter.unusedVariables false

/-- None of its errors is 0. -/
def OutNZ (o : Out) : Prop := ∀ e, o = .no e → e ≠ 0
theorem OutNZ.ok (l : List UInt8) : OutNZ (.ok l) := fun e h => by cases h
theorem OutNZ.and {a b : Out} (h : OutNZ a) (h' : OutNZ b) : OutNZ (a.and b) := by
  intro e he
  cases a with
  | no x => simp only [Out.no_and, Out.no.injEq] at he; subst he; exact h _ rfl
  | ok l => cases b with
    | no y => simp only [Out.and, Out.no.injEq] at he; subst he; exact h' _ rfl
    | ok m => simp only [Out.and] at he; cases he
theorem OutNZ.check (b : Bool) {e : Int} (h : e ≠ 0) : OutNZ (chk b e) := by
  intro x hx
  unfold chk at hx
  split at hx
  · cases hx
  · cases hx; exact h
theorem OutNZ.all {α : Type} {f : α → Out} (h : ∀ x, OutNZ (f x)) : ∀ xs, OutNZ (encAll f xs)
  | [] => OutNZ.ok _
  | x :: xs => (h x).and (OutNZ.all h xs)
theorem OutNZ.list {α : Type} {f : α → Out} (most : Nat) (h : ∀ x, OutNZ (f x)) (xs : List α) : OutNZ (encList most f xs) := ((OutNZ.ok _).and (OutNZ.check _ (by decide))).and (OutNZ.all h xs)
theorem OutNZ.num (z : Int) : OutNZ (encN z) := OutNZ.ok _
theorem OutNZ.nums (most : Nat) (Z : List Int) : OutNZ (encNums most Z) := OutNZ.list most OutNZ.num Z
theorem OutNZ.below (n b : Int) : OutNZ (outBelow n b) := (OutNZ.num n).and (OutNZ.check _ (by decide))
theorem OutNZ.op (o : OpD) : OutNZ (encOp o) := (OutNZ.below _ _).and (OutNZ.all (fun f => by
  unfold encField
  repeat' split
  all_goals first | exact OutNZ.num _ | exact OutNZ.nums _ _ | exact (OutNZ.check _ (by decide)).and (OutNZ.ok _)) _)
theorem OutNZ.fin (e : EndD) : OutNZ (encEnd e) := (OutNZ.below _ _).and (by
  unfold encRest
  repeat' split
  · exact (OutNZ.num _).and (OutNZ.nums _ _)
  · exact (OutNZ.num _).and ((OutNZ.num _).and ((OutNZ.nums _ _).and ((OutNZ.num _).and (OutNZ.nums _ _))))
  · exact OutNZ.num _)
theorem OutNZ.block (b : BlockD) : OutNZ (encBlock b) := (OutNZ.nums _ _).and ((OutNZ.list _ OutNZ.op _).and (OutNZ.fin _))
theorem OutNZ.func (f : FuncD) : OutNZ (encFunc f) := (OutNZ.num _).and (OutNZ.list _ OutNZ.block _)
theorem OutNZ.sig (s : SigD) : OutNZ (encSig s) := (OutNZ.nums _ _).and (OutNZ.num _)
theorem OutNZ.cls (s : ClassD) : OutNZ (encClass s) := (OutNZ.nums _ _).and (OutNZ.nums _ _)
theorem OutNZ.prog (p : ProgD) : OutNZ (encProg p) := (OutNZ.list _ OutNZ.sig _).and ((OutNZ.list _ OutNZ.cls _).and (OutNZ.list _ OutNZ.func _))
theorem out_nz (P : ProgD) : OutNZ (outBytes (encProg P)) := by
  intro e h
  unfold outBytes at h
  split at h
  · rename_i x hx
    cases h
    exact OutNZ.prog P _ hx
  · split at h
    · cases h; decide
    · cases h

/-- The bytes of a program: what is read of them, of a beginning, with a byte more. -/
theorem out_takes {P : ProgD} (hr : RngProg P) {l : List UInt8} (h : outBytes (encProg (plainProg P)) = .ok l) : Takes rdProg l (plainProg P) ∧ l.length ≤ 65536 := by
  obtain ⟨_, h2, h3⟩ := in_out hr h
  have ht := takes_prog _ _ hr.plain h3
  rw [plainProg_twice] at ht
  exact ⟨ht, h2⟩
theorem out_some {P : ProgD} (hr : RngProg P) {l : List UInt8} (h : outBytes (encProg (plainProg P)) = .ok l) : 0 < l.length := by
  have ht := (out_takes hr h).1.1 []
  match l, ht with
  | [], ht => simp [rdProg, rdList, rdCount, rdNum, takeL, PR.bind] at ht
  | c :: r, _ => simp
theorem in_cut {P : ProgD} (hr : RngProg P) {l : List UInt8} (h : outBytes (encProg (plainProg P)) = .ok l) (j : Nat) (hj : j < l.length) : inBytes (l.take j) = .no 3 := by
  obtain ⟨ht, hl⟩ := out_takes hr h
  unfold inBytes
  rw [if_neg (by rw [List.length_take]; omega), ht.2 j hj]
  rfl
theorem in_more {P : ProgD} (hr : RngProg P) {l : List UInt8} (h : outBytes (encProg (plainProg P)) = .ok l) : inBytes (l ++ [0]) = .no (if l.length = 65536 then 2 else 4) := by
  obtain ⟨ht, hl⟩ := out_takes hr h
  unfold inBytes
  by_cases h6 : l.length = 65536
  · rw [if_pos (by simp; omega), if_pos h6]
  · rw [if_neg (by simp; omega), if_neg h6, ht.1 [0]]
    rfl
theorem DecPost.no {p : PR ProgD} {er : Int} {w : World} {e : Ending} {w' : World} (h : DecPost p w e w') (hp : p = .no er) : e = .returned (.tuple #[.pointer none, .int .i64 er]) ∧ Below w.heap.size w w' := by
  rcases h with ⟨P', g, s, c, f, h1, _⟩ | ⟨er', h1, _, h3, h4⟩
  · rw [hp] at h1; cases h1
  · rw [hp] at h1; cases h1; exact ⟨h3, h4⟩
theorem EncPost.no {o : Out} {er : Int} {w : World} {e : Ending} {w' : World} (h : EncPost o w e w') (ho : o = .no er) : e = .returned (.tuple #[.slice none 0 0, .int .i64 er]) ∧ Below w.heap.size w w' := by
  rcases h with ⟨l', va, vn, vc, h1, _⟩ | ⟨er', h1, h2, h3⟩
  · rw [ho] at h1; cases h1
  · rw [ho] at h1; cases h1; exact ⟨h2, h3⟩
theorem OwnsB.before {w : World} {B : Nat} {e : TypeId} {a : Option Addr} {n c : Nat} {l : List UInt8} (h : OwnsB w B e (.slice a n c) l) : ∀ ad, a = some ad → ad.block < w.heap.size := by
  intro ad ha
  subst ha
  rcases h.2 with ⟨h1, _⟩ | ⟨g, cap, cur, h1, _, hg, _⟩
  · cases h1
  · cases h1
    exact (Array.getElem?_eq_some_iff.1 hg).1
end Go.Proofs.YtdmlogpaenbblaaDoor

/- Layer 5, P5.4: the statement CodeBack, walked. -/
namespace Go.Proofs.YtdmlogpaenbblaaDoor
open Go.RowKit (wrap64 intOf Below)
set_option linter.unusedVariables false
set_option linter.unusedSimpArgs false

set_option maxRecDepth 100000 in
set_option maxHeartbeats 4000000 in
theorem codeback_walk (sa : Option Addr) (sn sc : Nat) (ca : Option Addr) (cn cc : Nat) (fa : Option Addr) (fn fc : Nat) (P : ProgD) (w : World) (hft : FT w)
    (hP : ProgQ w [.slice sa sn sc, .slice ca cn cc, .slice fa fn fc] P) :
    Calls Tryd.prog 5 #[.agg #[.slice sa sn sc, .slice ca cn cc, .slice fa fn fc]] w fun e w' => e = .returned (.bool true) ∧ Below w.heap.size w w' := by
  have hb0 : Below w.heap.size w (w.alloc (.cells #[.slice sa sn sc, .slice ca cn cc, .slice fa fn fc] 26)) := (Below.refl _ _).alloc (Nat.le_refl _) _
  have hblk := heap_alloc_new w (.cells #[.slice sa sn sc, .slice ca cn cc, .slice fa fn fc] 26)
  have HP := Lib.hid (ProgQ.lasts _ _ _ _ hb0 hP)
  have HFT := Lib.hid (hft.since hb0)
  have HB0 := Lib.hid hb0
  clear hP hft hb0
  go_enter Tryd.func5, Tryd.ntmps5
  go_wp2_with fail
  generalize hW : (w.alloc (.cells #[.slice sa sn sc, .slice ca cn cc, .slice fa fn fc] 26)) = W at hblk HP HB0 HFT ⊢
  clear hW
  have hc0 : W.cell? ⟨w.heap.size, 0, none⟩ = some (.slice sa sn sc) := by simp [World.cell?, hblk]
  have hc1 : W.cell? ⟨w.heap.size, 0 + 1, none⟩ = some (.slice ca cn cc) := by simp [World.cell?, hblk]
  have hc2 : W.cell? ⟨w.heap.size, 0 + 2, none⟩ = some (.slice fa fn fc) := by simp [World.cell?, hblk]
  have hlt : w.heap.size < W.heap.size := (Array.getElem?_eq_some_iff.1 hblk).1
  clear hblk
  refine (ref_small w.heap.size 0 sa sn sc ca cn cc fa fn fc P W hlt hc0 hc1 hc2 HP.out).mono ?_
  rintro e w1 ⟨b, rfl, hsm, hb1⟩
  have HF1 := Lib.hid (HFT.out.since hb1)
  have HB1 := Lib.hid (keepB HB0.out hb1)
  cases b
  · clear hsm
    clear hb1
    go_wp2_with fail
    refine (lives5 w1 HF1.out).mono ?_
    rintro e w2 ⟨rfl, hb⟩
    have HB2 := Lib.hid (keepB HB1.out hb)
    clear hb
    go_wp2_with fail
    go_ret
    exact ⟨rfl, HB2.out⟩
  · have hsm := hsm rfl
    have hd0 := (hb1.cell (p := ⟨w.heap.size, 0, none⟩) hlt).trans hc0
    have hd1 := (hb1.cell (p := ⟨w.heap.size, 0 + 1, none⟩) hlt).trans hc1
    have hd2 := (hb1.cell (p := ⟨w.heap.size, 0 + 2, none⟩) hlt).trans hc2
    have hlt1 : w.heap.size < w1.heap.size := Nat.lt_of_lt_of_le hlt hb1.size
    have HP1 := Lib.hid (ProgQ.lasts _ _ _ _ hb1 HP.out)
    have HRNG := Lib.hid HP1.out.rng
    have HSM := Lib.hid hsm
    clear hb1 hc0 hc1 hc2 hsm HP
    rcases out_or (outBytes (encProg (plainProg P))) with ⟨l, hl⟩ | ⟨er, hl⟩
    · have HL := Lib.hid hl
      have hio := in_out HRNG.out hl
      have hmax := hio.2.1
      have HIN := Lib.hid hio.1
      clear hl hio
      go_wp2_with fail
      refine (encode_any w.heap.size 0 (.slice sa sn sc) (.slice ca cn cc) (.slice fa fn fc) P w1 hlt1 hd0 hd1 hd2 HP1.out HF1.out HSM.out).mono ?_
      intro e w2 he
      obtain ⟨va, vn, vc, rfl, hown, hb2⟩ := he.yes HL.out
      have hlen : l.length = vn := hown.len
      have HB2 := Lib.hid (keepB HB1.out hb2)
      have HF2 := Lib.hid (HF1.out.since hb2)
      rw [hlen] at hmax
      have HAT := Lib.hid hown.read
      have HAD := Lib.hid hown.before
      have HCL : RowKit.Hid (∀ {u : World}, Below w1.heap.size w1 u → u.cell? ⟨w.heap.size, 0, none⟩ = some (.slice sa sn sc) ∧ u.cell? ⟨w.heap.size, 0 + 1, none⟩ = some (.slice ca cn cc) ∧ u.cell? ⟨w.heap.size, 0 + 2, none⟩ = some (.slice fa fn fc)) := Lib.hid fun hb => ⟨(hb.cell (p := ⟨w.heap.size, 0, none⟩) hlt1).trans hd0, (hb.cell (p := ⟨w.heap.size, 0 + 1, none⟩) hlt1).trans hd1, (hb.cell (p := ⟨w.heap.size, 0 + 2, none⟩) hlt1).trans hd2⟩
      have HBX := Lib.hid hb2
      have HLT1 := Lib.hid hlt1
      clear hd0 hd1 hd2 hb2 hown he hlen hlt1
      go_wp2_with fail
      refine (decode_any va vn vc l w2 HAT.out HAD.out (by omega) HF2.out).mono ?_
      intro e w3 he
      obtain ⟨g, sa2, sn2, sc2, ca2, cn2, cc2, fa2, fn2, fc2, rfl, hg, hwin, hprog, hb3⟩ := he.yes HIN.out
      have HB3 := Lib.hid (keepB HB2.out hb3)
      have HBY := Lib.hid (keepB HBX.out hb3)
      have HF3 := Lib.hid (HF2.out.since hb3)
      have HWIN := Lib.hid hwin
      have HPR := Lib.hid hprog
      clear he hwin hprog hb3 hg
      obtain ⟨he0, he1, he2⟩ := HCL.out HBY.out
      have HPP := Lib.hid (ProgQ.lasts _ _ _ _ HBY.out HP1.out)
      have HG : RowKit.Hid (w.heap.size < w3.heap.size) := Lib.hid (Nat.lt_of_lt_of_le HLT1.out HBY.out.size)
      have HGL := Lib.hid HWIN.out.lt
      have hw0 := HWIN.out.cell (j := 0) (by simp)
      have hw1 := HWIN.out.cell (j := 1) (by simp)
      have hw2 := HWIN.out.cell (j := 2) (by simp)
      have HS1 := Lib.hid (ref_same w.heap.size 0 g 0 sa ca fa sa2 ca2 fa2 sn sc cn cc fn fc sn2 sc2 cn2 cc2 fn2 fc2 P (plainProg P) w3 HG.out HGL.out he0 he1 he2 hw0 hw1 hw2 HPP.out HPR.out)
      have HS2 : RowKit.Hid (∀ u, Below w3.heap.size w3 u → Calls Tryd.prog 21 #[.pointer (some ⟨w.heap.size, 0, none⟩), .pointer (some ⟨g, 0, none⟩)] u (TruthPost (plainProg P = plainProg (plainProg P)) u)) := Lib.hid fun u hb =>
        code_same w.heap.size 0 g 0 sa ca fa sa2 ca2 fa2 sn sc cn cc fn fc sn2 sc2 cn2 cc2 fn2 fc2 P (plainProg P) u (Nat.lt_of_lt_of_le HG.out hb.size) (Nat.lt_of_lt_of_le HGL.out hb.size) ((hb.cell (p := ⟨w.heap.size, 0, none⟩) HG.out).trans he0) ((hb.cell (p := ⟨w.heap.size, 0 + 1, none⟩) HG.out).trans he1) ((hb.cell (p := ⟨w.heap.size, 0 + 2, none⟩) HG.out).trans he2) ((hb.cell (p := ⟨g, 0, none⟩) HGL.out).trans hw0) ((hb.cell (p := ⟨g, 0 + 1, none⟩) HGL.out).trans hw1) ((hb.cell (p := ⟨g, 0 + 2, none⟩) HGL.out).trans hw2) (ProgQ.lasts _ _ _ _ hb HPP.out) (ProgQ.lasts _ _ _ _ hb HPR.out) (HF3.out.since hb)
      clear he0 he1 he2 hw0 hw1 hw2 hmax
      go_wp2_with (first
        | (go_at_call 20; (with_reducible refine HS1.out.mono ?_); rintro e w4 ⟨b, rfl, hbe, hb4⟩; obtain rfl : b = true := hbe.2 (plainProg_twice _).symm; have HB4 := Lib.hid hb4; clear hb4 hbe)
        | (go_at_call 21; (with_reducible refine (HS2.out _ HB4.out).mono ?_); rintro e w5 ⟨b, rfl, hbe, hb5⟩; obtain rfl : b = true := hbe.2 (plainProg_twice _).symm; have HB5 := Lib.hid (keepB HB4.out hb5); clear hb5 hbe)
        | (go_at_call 14; (with_reducible refine (lives5 _ (HF3.out.since HB5.out)).mono ?_); rintro e w6 ⟨rfl, hb6⟩; have HB6 := Lib.hid (keepB (keepB HB3.out HB5.out) hb6); clear hb6))
      go_ret
      exact ⟨rfl, HB6.out⟩
    · have HL := Lib.hid hl
      have hne : er ≠ 0 := out_nz _ _ hl
      have hne' : (er != 0) = true := by rw [bne_iff_ne]; exact hne
      clear hl hne
      go_wp2_with fail
      refine (encode_any w.heap.size 0 (.slice sa sn sc) (.slice ca cn cc) (.slice fa fn fc) P w1 hlt1 hd0 hd1 hd2 HP1.out HF1.out HSM.out).mono ?_
      intro e w2 he
      obtain ⟨rfl, hb2⟩ := he.no HL.out
      have HB2 := Lib.hid (keepB HB1.out hb2)
      have HF2 := Lib.hid (HF1.out.since hb2)
      clear he hb2 hd0 hd1 hd2
      go_wp2_with fail
      refine (lives5 w2 HF2.out).mono ?_
      rintro e w3 ⟨rfl, hb⟩
      have HB3 := Lib.hid (keepB HB2.out hb)
      clear hb
      go_wp2_with fail
      go_ret
      exact ⟨rfl, HB3.out⟩
end Go.Proofs.YtdmlogpaenbblaaDoor

/- Layer 5, P5.5: the statement CodeCuts, walked. -/
namespace Go.Proofs.YtdmlogpaenbblaaDoor
open Go.RowKit (wrap64 intOf Below)
set_option linter.unusedVariables false
set_option linter.unusedSimpArgs false

set_option maxRecDepth 100000 in
set_option maxHeartbeats 4000000 in
theorem codecuts_walk (sa : Option Addr) (sn sc : Nat) (ca : Option Addr) (cn cc : Nat) (fa : Option Addr) (fn fc : Nat) (P : ProgD) (A : Nat) (w : World) (hft : FT w)
    (hP : ProgQ w [.slice sa sn sc, .slice ca cn cc, .slice fa fn fc] P) (hA : A ≤ 65535) :
    Calls Tryd.prog 6 #[.agg #[.slice sa sn sc, .slice ca cn cc, .slice fa fn fc], .int .u16 (A : Int)] w fun e w' => e = .returned (.bool true) ∧ Below w.heap.size w w' := by
  have hb0 : Below w.heap.size w (w.alloc (.cells #[.slice sa sn sc, .slice ca cn cc, .slice fa fn fc] 26)) := (Below.refl _ _).alloc (Nat.le_refl _) _
  have hblk := heap_alloc_new w (.cells #[.slice sa sn sc, .slice ca cn cc, .slice fa fn fc] 26)
  have HP := Lib.hid (ProgQ.lasts _ _ _ _ hb0 hP)
  have HFT := Lib.hid (hft.since hb0)
  have HB0 := Lib.hid hb0
  clear hP hft hb0
  go_enter Tryd.func6, Tryd.ntmps6
  go_wp2_with fail
  generalize hW : (w.alloc (.cells #[.slice sa sn sc, .slice ca cn cc, .slice fa fn fc] 26)) = W at hblk HP HB0 HFT ⊢
  clear hW
  have hc0 : W.cell? ⟨w.heap.size, 0, none⟩ = some (.slice sa sn sc) := by simp [World.cell?, hblk]
  have hc1 : W.cell? ⟨w.heap.size, 0 + 1, none⟩ = some (.slice ca cn cc) := by simp [World.cell?, hblk]
  have hc2 : W.cell? ⟨w.heap.size, 0 + 2, none⟩ = some (.slice fa fn fc) := by simp [World.cell?, hblk]
  have hlt : w.heap.size < W.heap.size := (Array.getElem?_eq_some_iff.1 hblk).1
  clear hblk
  refine (ref_small w.heap.size 0 sa sn sc ca cn cc fa fn fc P W hlt hc0 hc1 hc2 HP.out).mono ?_
  rintro e w1 ⟨b, rfl, hsm, hb1⟩
  have HF1 := Lib.hid (HFT.out.since hb1)
  have HB1 := Lib.hid (keepB HB0.out hb1)
  cases b
  · clear hsm
    clear hb1
    go_wp2_with fail
    refine (lives5 w1 HF1.out).mono ?_
    rintro e w2 ⟨rfl, hb⟩
    have HB2 := Lib.hid (keepB HB1.out hb)
    clear hb
    go_wp2_with fail
    go_ret
    exact ⟨rfl, HB2.out⟩
  · have hsm := hsm rfl
    have hd0 := (hb1.cell (p := ⟨w.heap.size, 0, none⟩) hlt).trans hc0
    have hd1 := (hb1.cell (p := ⟨w.heap.size, 0 + 1, none⟩) hlt).trans hc1
    have hd2 := (hb1.cell (p := ⟨w.heap.size, 0 + 2, none⟩) hlt).trans hc2
    have hlt1 : w.heap.size < w1.heap.size := Nat.lt_of_lt_of_le hlt hb1.size
    have HP1 := Lib.hid (ProgQ.lasts _ _ _ _ hb1 HP.out)
    have HRNG := Lib.hid HP1.out.rng
    have HSM := Lib.hid hsm
    clear hb1 hc0 hc1 hc2 hsm HP
    rcases out_or (outBytes (encProg (plainProg P))) with ⟨l, hl⟩ | ⟨er, hl⟩
    · have HL := Lib.hid hl
      have hpos := out_some HRNG.out hl
      have hmax := (out_takes HRNG.out hl).2
      have HC := Lib.hid (in_cut HRNG.out hl)
      have HM := Lib.hid (in_more HRNG.out hl)
      clear hl
      go_wp2_with fail
      refine (encode_any w.heap.size 0 (.slice sa sn sc) (.slice ca cn cc) (.slice fa fn fc) P w1 hlt1 hd0 hd1 hd2 HP1.out HF1.out HSM.out).mono ?_
      intro e w2 he
      obtain ⟨va, vn, vc, rfl, hown, hb2⟩ := he.yes HL.out
      have hlen : l.length = vn := hown.len
      have HO := Lib.hid hown
      have HB2 := Lib.hid (keepB HB1.out hb2)
      have HF2 := Lib.hid (HF1.out.since hb2)
      have hvc : vn ≤ vc := hown.read.2.1
      rw [hlen] at hpos hmax
      have hlt' : A % vn < vn := Nat.mod_lt _ hpos
      have hs : ∀ u, (Instr.slice 30 (.slice va vn vc) none (some (.int .i64 ((A : Int) % (vn : Int)))) none).run Tryd.prog u = .ok (.slice va (A % vn) vc) u := fun u => slice_to va vn vc (A % vn) (by omega) u
      have HCUT := Lib.hid (HC.out (A % vn) (by rw [hlen]; exact hlt'))
      have HT : RowKit.Hid (BytesAt (w2.alloc (.cells #[] 5)) va (A % vn) vc (l.take (A % vn))) := Lib.hid ((hown.read.take (A % vn) (Nat.le_of_lt hlt')).since ((Below.refl _ _).alloc (Nat.le_refl _) _))
      have hcut : A % vn ≤ 65536 := by omega
      have HLN := Lib.hid hlen
      clear hd0 hd1 hd2 hb2 hown he hlen hlt' HC
      go_wp2_with (at_builtin; refine wpList_append_read _ rfl _ _ 30 rfl 5 Tryd.underlying30 info_u8 w2.heap.size _ [] rfl (OwnsB.empty w2 5) (by simp) va (A % vn) vc (l.take (A % vn)) rfl HT.out (by simp; omega) ?_; intro va2 vn2 vc2 w3 hown2 hat2 hb3)
      have hlen2 := hown2.len
      simp only [List.nil_append, List.length_take] at hlen2
      have HT2 := Lib.hid hat2
      have HA2 := Lib.hid hown2.before
      have hba : Below w2.heap.size w2 (w2.alloc (.cells #[] 5)) := (Below.refl _ _).alloc (Nat.le_refl _) _
      replace hb3 := hba.trans hb3
      have HB3 := Lib.hid (keepB HB2.out hb3)
      have HO3 := Lib.hid (hb3)
      have HF3 := Lib.hid (HF2.out.since hb3)
      have hv2 : vn2 ≤ 65536 := by omega
      clear hown2 hat2 hb3 hba hlen2
      refine (decode_any va2 vn2 vc2 _ w3 HT2.out HA2.out (by omega) HF3.out).mono ?_
      intro e w4 he
      obtain ⟨rfl, hb4⟩ := he.no HCUT.out
      have HB4 := Lib.hid (keepB HB3.out hb4)
      have HF4 := Lib.hid (HF3.out.since hb4)
      have HW4 := Lib.hid (keepB HO3.out hb4)
      clear he hb4
      have HL4 : RowKit.Hid (BytesAt (w4.alloc (.cells #[] 5)) va vn vc l) := Lib.hid ((HO.out.read.since HW4.out).since ((Below.refl _ _).alloc (Nat.le_refl _) _))
      have hlb : l.length + vn ≤ 140737488355328 := by have := HLN.out; omega
      clear hs
      have HLE : RowKit.Hid (([] ++ l ++ [0]).length ≤ 140737488355328) := Lib.hid (by simp; have := HLN.out; omega)
      by_cases h6 : vn = 65536
      · have HM2 : RowKit.Hid (inBytes ([] ++ l ++ [0]) = .no 2) := Lib.hid (by have h := HM.out; rw [if_pos (by have := HLN.out; omega)] at h; simpa using h)
        have hq : ((vn : Int) == 65536) = true := by subst h6; rfl
        clear h6
        go_wp2_with (first
          | (at_builtin; refine wpList_append_bytes w5 rfl _ _ 30 rfl 5 Tryd.underlying30 info_u8 w4.heap.size (.slice va5 vn5 vc5) ([] ++ l) rfl HO5.out HW5.out.size _ 1 1 _ [0] rfl rfl rfl rfl (by rw [List.nil_append]; have := HLN.out; omega) ?_; intro v6 w6 hown6 hb6 hz6; obtain ⟨va6, vn6, vc6, rfl, hat6⟩ := hown6.at; have HO6 := Lib.hid hown6; have HV6 : RowKit.Hid (vn6 ≤ 140737488355328) := Lib.hid (by rw [← hat6.1]; exact HLE.out); clear hat6; have HB6 := Lib.hid (keepB HB4.out (HW5.out.trans hb6)); have HF6 := Lib.hid (HF4.out.since (HW5.out.trans hb6)); clear hown6 hb6 hz6)
          | (at_builtin; refine wpList_append_read (w4.alloc (.cells #[] 5)) rfl _ _ 30 rfl 5 Tryd.underlying30 info_u8 w4.heap.size _ [] rfl (OwnsB.empty w4 5) (by simp) va vn vc l rfl HL4.out (by simp; omega) ?_; intro va5 vn5 vc5 w5 hown5 hat5 hb5; replace hb5 := ((Below.refl _ _).alloc (Nat.le_refl _) _).trans hb5; have HO5 := Lib.hid hown5; have HB5 := Lib.hid (keepB HB4.out hb5); have HW5 := Lib.hid hb5; have HF5 := Lib.hid (HF4.out.since hb5); clear hown5 hat5 hb5)
          | (go_at_call 18; refine (decode_any va6 vn6 vc6 ([] ++ l ++ [0]) w6 HO6.out.read HO6.out.before HV6.out HF6.out).mono ?_; intro e w7 he; obtain ⟨rfl, hb7⟩ := he.no HM2.out; have HB7 := Lib.hid (keepB HB6.out hb7); have HF7 := Lib.hid (HF6.out.since hb7); clear he hb7)
          | (go_at_call 14; (with_reducible refine (lives5 _ HF7.out).mono ?_); rintro e w8 ⟨rfl, hb8⟩; have HB8 := Lib.hid (keepB HB7.out hb8); clear hb8))
        go_ret
        exact ⟨rfl, HB8.out⟩
      · have HM2 : RowKit.Hid (inBytes ([] ++ l ++ [0]) = .no 4) := Lib.hid (by have h := HM.out; rw [if_neg (by have := HLN.out; omega)] at h; simpa using h)
        have hq : ((vn : Int) == 65536) = false := by rw [beq_eq_false_iff_ne]; omega
        clear h6
        go_wp2_with (first
          | (at_builtin; refine wpList_append_bytes w5 rfl _ _ 30 rfl 5 Tryd.underlying30 info_u8 w4.heap.size (.slice va5 vn5 vc5) ([] ++ l) rfl HO5.out HW5.out.size _ 1 1 _ [0] rfl rfl rfl rfl (by rw [List.nil_append]; have := HLN.out; omega) ?_; intro v6 w6 hown6 hb6 hz6; obtain ⟨va6, vn6, vc6, rfl, hat6⟩ := hown6.at; have HO6 := Lib.hid hown6; have HV6 : RowKit.Hid (vn6 ≤ 140737488355328) := Lib.hid (by rw [← hat6.1]; exact HLE.out); clear hat6; have HB6 := Lib.hid (keepB HB4.out (HW5.out.trans hb6)); have HF6 := Lib.hid (HF4.out.since (HW5.out.trans hb6)); clear hown6 hb6 hz6)
          | (at_builtin; refine wpList_append_read (w4.alloc (.cells #[] 5)) rfl _ _ 30 rfl 5 Tryd.underlying30 info_u8 w4.heap.size _ [] rfl (OwnsB.empty w4 5) (by simp) va vn vc l rfl HL4.out (by simp; omega) ?_; intro va5 vn5 vc5 w5 hown5 hat5 hb5; replace hb5 := ((Below.refl _ _).alloc (Nat.le_refl _) _).trans hb5; have HO5 := Lib.hid hown5; have HB5 := Lib.hid (keepB HB4.out hb5); have HW5 := Lib.hid hb5; have HF5 := Lib.hid (HF4.out.since hb5); clear hown5 hat5 hb5)
          | (go_at_call 18; refine (decode_any va6 vn6 vc6 ([] ++ l ++ [0]) w6 HO6.out.read HO6.out.before HV6.out HF6.out).mono ?_; intro e w7 he; obtain ⟨rfl, hb7⟩ := he.no HM2.out; have HB7 := Lib.hid (keepB HB6.out hb7); have HF7 := Lib.hid (HF6.out.since hb7); clear he hb7)
          | (go_at_call 14; (with_reducible refine (lives5 _ HF7.out).mono ?_); rintro e w8 ⟨rfl, hb8⟩; have HB8 := Lib.hid (keepB HB7.out hb8); clear hb8))
        go_ret
        exact ⟨rfl, HB8.out⟩
    · have HL := Lib.hid hl
      have hne : er ≠ 0 := out_nz _ _ hl
      have hne' : (er != 0) = true := by rw [bne_iff_ne]; exact hne
      clear hl hne
      go_wp2_with fail
      refine (encode_any w.heap.size 0 (.slice sa sn sc) (.slice ca cn cc) (.slice fa fn fc) P w1 hlt1 hd0 hd1 hd2 HP1.out HF1.out HSM.out).mono ?_
      intro e w2 he
      obtain ⟨rfl, hb2⟩ := he.no HL.out
      have HB2 := Lib.hid (keepB HB1.out hb2)
      have HF2 := Lib.hid (HF1.out.since hb2)
      clear he hb2 hd0 hd1 hd2
      go_wp2_with fail
      refine (lives5 w2 HF2.out).mono ?_
      rintro e w3 ⟨rfl, hb⟩
      have HB3 := Lib.hid (keepB HB2.out hb)
      clear hb
      go_wp2_with fail
      go_ret
      exact ⟨rfl, HB3.out⟩
theorem codecuts_int (sa : Option Addr) (sn sc : Nat) (ca : Option Addr) (cn cc : Nat) (fa : Option Addr) (fn fc : Nat) (P : ProgD) (a : Int) (w : World) (hft : FT w)
    (hP : ProgQ w [.slice sa sn sc, .slice ca cn cc, .slice fa fn fc] P) (ha : 0 ≤ a ∧ a ≤ 65535) :
    Calls Tryd.prog 6 #[.agg #[.slice sa sn sc, .slice ca cn cc, .slice fa fn fc], .int .u16 a] w fun e w' => e = .returned (.bool true) ∧ Below w.heap.size w w' := by
  obtain ⟨A, rfl⟩ := Int.eq_ofNat_of_zero_le ha.1
  exact codecuts_walk sa sn sc ca cn cc fa fn fc P A w hft hP (by omega)
end Go.Proofs.YtdmlogpaenbblaaDoor
